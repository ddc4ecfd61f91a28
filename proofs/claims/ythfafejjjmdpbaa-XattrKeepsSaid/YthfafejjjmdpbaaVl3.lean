/- The law XattrKeeps, walked. -/
import Derived.Test.YthfafejjjmdpbaaVa
set_option linter.unusedSimpArgs false
set_option linter.unusedVariables false
namespace Go.Proofs.Ythfafejjjmdpbaa
open Go.RowKit Go.Lib
/-- What stands behind a Set that did. -/
structure Kept (L X Y : List Xt) (key val : ByteArray) : Prop where
  n : getN X key = 0
  r : getR X key = val
  xl : X.length ≤ 1000
  yl : Y.length ≤ 1000
  y : remR X key = Y
  on : ∀ o, o ≠ key → getN X o = getN L o ∧ getR X o = getR L o ∧ getN Y o = getN L o ∧ getR Y o = getR L o
  hd : hasB L key = true → getN L key = 0
  no : hasB L key = false → getN L key = 661 ∧ Y = L
theorem kept {L : List Xt} {key val : ByteArray} (h : setN L key val 0 = 0) : Kept L (setL L key val) (remL (setL L key val) key) key val := by
  have hX := set_may (by decide) h
  obtain ⟨g1, g2⟩ := get_set (by decide) h
  obtain ⟨k1, _, k3, _, _⟩ := setN_zero.1 h
  have hY := xsB_rem (k := key) hX
  have up := (xsB_up_iff.1 k1).2.1
  refine ⟨g1, g2, by have := (xsB_up_iff.1 hX).2.2; omega, by have := (xsB_up_iff.1 hY).2.2; omega, by unfold remR; rw [if_pos g1], fun o ho => ?_, fun hb => getN_zero.2 ⟨k1, k3, hb⟩, fun hb => ⟨?_, rem_set up hb⟩⟩
  · have e1 : smL (setL L key val) o = smL L o := sm_set_ne (fun e => ho e.symm)
    have e2 : smL (remL (setL L key val) key) o = smL L o := by rw [sm_rem_ne (fun e => ho e.symm), e1]
    obtain ⟨a1, a2⟩ := get_other k1 hX e1
    obtain ⟨b1, b2⟩ := get_other k1 hY e2
    exact ⟨a1, a2, b1, b2⟩
  · unfold getN
    rw [if_neg (by rw [k1]; decide), if_neg (by rw [k3]; decide), if_pos hb]
set_option maxRecDepth 100000 in
set_option maxHeartbeats 4000000 in
theorem keeps_law (A : Option Addr) (L : List Xt) (c : Nat) (key other val : ByteArray) (w : World) (hc : Cel w A (xv L)) (hl : L.length ≤ 9223372036854775807) :
    Calls Try.prog 5 #[.slice A L.length c, .string key, .string other, .string val] w fun e w' => e = .returned (.bool true) ∧ Below w.heap.size w w' := by
  have cL := long_calls A L c w hc hl
  have HC := Lib.hid hc
  have CL := Lib.hid cL
  have cA := fun W => alive_calls W
  clear hc cL
  go_enter Try.func5, Try.ntmps5
  go_wp2_with (fail)
  refine CL.out.mono ?_
  rintro e w1 ⟨b, rfl, hS, q, rfl⟩
  cases b
  case true =>
    go_wp2_with (fail)
    refine (cA _).mono ?_
    rintro e w2 ⟨rfl, hb⟩
    go_wp2_with (fail)
    go_ret
    exact ⟨rfl, (below_drewN (Below.refl _ _) _).trans hb⟩
  case false =>
  by_cases hk : 200 < key.size
  case pos =>
    have d1 : decide ((200 : Int) < (key.size : Int)) = true := by rw [decide_eq_true_eq]; omega
    clear hk
    go_wp2_with (fail)
    refine (cA _).mono ?_
    rintro e w2 ⟨rfl, hb⟩
    go_wp2_with (fail)
    go_ret
    exact ⟨rfl, (below_drewN (Below.refl _ _) _).trans hb⟩
  case neg =>
  have d1 : decide ((200 : Int) < (key.size : Int)) = false := by rw [decide_eq_false_iff_not]; omega
  by_cases ho : 200 < other.size
  case pos =>
    have d2 : decide ((200 : Int) < (other.size : Int)) = true := by rw [decide_eq_true_eq]; omega
    clear hk ho
    go_wp2_with (fail)
    refine (cA _).mono ?_
    rintro e w2 ⟨rfl, hb⟩
    go_wp2_with (fail)
    go_ret
    exact ⟨rfl, (below_drewN (Below.refl _ _) _).trans hb⟩
  case neg =>
  have d2 : decide ((200 : Int) < (other.size : Int)) = false := by rw [decide_eq_false_iff_not]; omega
  by_cases hv : 200 < val.size
  case pos =>
    have d3 : decide ((200 : Int) < (val.size : Int)) = true := by rw [decide_eq_true_eq]; omega
    clear hk ho hv
    go_wp2_with (fail)
    refine (cA _).mono ?_
    rintro e w2 ⟨rfl, hb⟩
    go_wp2_with (fail)
    go_ret
    exact ⟨rfl, (below_drewN (Below.refl _ _) _).trans hb⟩
  case neg =>
  have d3 : decide ((200 : Int) < (val.size : Int)) = false := by rw [decide_eq_false_iff_not]; omega
  have hS' := hS.out rfl
  have h40 : L.length ≤ 40 := hS'.len
  clear hS hS' CL hk ho hv
  go_wp2_with (at_builtin; refine wpList_xcl rfl (.const (.slice none 0 0)) (.tmp 42) rfl A L c rfl rfl (HC.out.drewN q) (by omega) ?_; intro B0 c0 w2 hM2 hb2)
  have HB2 : Hid (Below w.heap.size w w2) := Lib.hid ((below_drewN (Below.refl _ _) q).trans hb2)
  have HM2 : Hid (MineX w w2 B0 L.length c0 L) := Lib.hid hM2
  clear hM2 hb2 d1 d2 d3
  obtain ⟨bv, hbv⟩ : ∃ bv, getR L other = bv := ⟨_, rfl⟩
  obtain ⟨be, hbe⟩ : ∃ be, getN L other = be := ⟨_, rfl⟩
  obtain ⟨hv0, hhv⟩ : ∃ hv0, getR L key = hv0 := ⟨_, rfl⟩
  obtain ⟨had, hhad⟩ : ∃ had, getN L key = had := ⟨_, rfl⟩
  obtain ⟨sn, hsn⟩ : ∃ sn, setN L key val 0 = sn := ⟨_, rfl⟩
  have HE := Lib.hid (And.intro hbv (And.intro hbe (And.intro hhad hsn)))
  have cG := get_calls B0 L c0 other w2 HM2.out.cel (by omega) HM2.out.1.2.1
  rw [hbv, hbe] at cG
  refine cG.mono ?_
  rintro e w3 ⟨rfl, hb3⟩
  have HB3 := Lib.hid (HB2.out.trans (hb3.mono HB2.out.size))
  have HM3 := Lib.hid (HM2.out.on hb3)
  clear hb3 HM2 HB2 cG
  have cG := get_calls B0 L c0 key w3 HM3.out.cel (by omega) HM3.out.1.2.1
  rw [hhv, hhad] at cG
  have CG := Lib.hid cG
  clear cG hbv hbe hhv hhad
  go_wp2_with (fail)
  refine CG.out.mono ?_
  rintro e w4 ⟨rfl, hb4⟩
  have HB4 := Lib.hid (HB3.out.trans (hb4.mono HB3.out.size))
  have HM4 := Lib.hid (HM3.out.on hb4)
  clear hb4 HM3 HB3 CG
  have cS := set_calls B0 L c0 key val 0 w4 HM4.out.cel (by omega) HM4.out.1.2.1 (by decide) (by decide)
  unfold SetPost at cS
  rw [hsn] at cS
  by_cases hz : sn = 0
  case neg =>
    rw [setR_no (by rw [hsn]; exact hz)] at cS
    have hne : (sn == 0) = false := by rw [beq_eq_false_iff_ne]; exact hz
    have CS := Lib.hid cS
    clear cS hsn hz HE
    go_wp2_with (fail)
    refine CS.out.mono ?_
    rintro e w5 ⟨B5, d5, rfl, _, hb5⟩
    have HB5 := Lib.hid (HB4.out.trans (hb5.mono HB4.out.size))
    clear hb5
    go_wp2_with (fail)
    refine (cA _).mono ?_
    rintro e w6 ⟨rfl, hb⟩
    go_wp2_with (fail)
    go_ret
    exact ⟨rfl, HB5.out.trans (hb.mono HB5.out.size)⟩
  case pos =>
  subst hz
  have hkept := kept hsn
  have hsr : setR L key val 0 = setL L key val := by unfold setR; rw [if_pos hsn]
  rw [hsr] at cS
  generalize setL L key val = X at *
  generalize remL X key = Y at *
  have HK := Lib.hid hkept
  have CS := Lib.hid cS
  clear cS hsn hsr hkept
  go_wp2_with (fail)
  refine CS.out.mono ?_
  rintro e w5 ⟨B5, d5, rfl, hM5, hb5⟩
  have HB5 := Lib.hid (HB4.out.trans (hb5.mono HB4.out.size))
  have HM5 := Lib.hid (HM4.out.on hb5)
  have HX5 := Lib.hid (hM5.from HB4.out.size)
  have hxl := HK.out.xl
  clear hb5 hM5 HM4 HB4 CS
  have cG := get_calls B5 X d5 key w5 HX5.out.cel (by omega) HX5.out.1.2.1
  rw [HK.out.n, HK.out.r] at cG
  have CG := Lib.hid cG
  clear cG
  go_wp2_with (fail)
  refine CG.out.mono ?_
  rintro e w6 ⟨rfl, hb6⟩
  have HB6 := Lib.hid (HB5.out.trans (hb6.mono HB5.out.size))
  have HM6 := Lib.hid (HM5.out.on hb6)
  have HX6 := Lib.hid (HX5.out.on hb6)
  clear hb6 HM5 HB5 HX5 CG
  obtain ⟨av, hav⟩ : ∃ av, getR X other = av := ⟨_, rfl⟩
  obtain ⟨an, han⟩ : ∃ an, getN X other = an := ⟨_, rfl⟩
  have cG := get_calls B5 X d5 other w6 HX6.out.cel (by omega) HX6.out.1.2.1
  rw [hav, han] at cG
  have CG := Lib.hid cG
  clear cG
  go_wp2_with (fail)
  refine CG.out.mono ?_
  rintro e w7 ⟨rfl, hb7⟩
  have HB7 := Lib.hid (HB6.out.trans (hb7.mono HB6.out.size))
  have HM7 := Lib.hid (HM6.out.on hb7)
  have HX7 := Lib.hid (HX6.out.on hb7)
  clear hb7 HM6 HB6 HX6 CG
  go_wp2_with (at_builtin; refine wpList_xcl rfl (.const (.slice none 0 0)) (.tmp 84) rfl B5 X d5 rfl rfl HX7.out.cel (by omega) ?_; intro B8 c8 w8 hM8 hb8)
  have HB8 := Lib.hid (HB7.out.trans (hb8.mono HB7.out.size))
  clear hb8 HM7 HX7
  have cR := remove_calls B8 X c8 key w8 hM8.cel (by omega) hM8.1.2.1
  rw [HK.out.n, HK.out.y] at cR
  refine cR.mono ?_
  rintro e w9 ⟨B9, d9, rfl, hM9, hb9⟩
  have HB9 := Lib.hid (HB8.out.trans (hb9.mono HB8.out.size))
  have HY9 := Lib.hid (hM9.from HB8.out.size)
  have hyl := HK.out.yl
  clear hb9 hM9 hM8 HB8 HB7 cR
  obtain ⟨lv, hlv⟩ : ∃ lv, getR Y other = lv := ⟨_, rfl⟩
  obtain ⟨ln, hln⟩ : ∃ ln, getN Y other = ln := ⟨_, rfl⟩
  have cG := get_calls B9 Y d9 other w9 HY9.out.cel (by omega) HY9.out.1.2.1
  rw [hlv, hln] at cG
  have CG := Lib.hid cG
  clear cG
  go_wp2_with (fail)
  refine CG.out.mono ?_
  rintro e w10 ⟨rfl, hb10⟩
  have HB10 := Lib.hid (HB9.out.trans (hb10.mono HB9.out.size))
  have HY10 := Lib.hid (HY9.out.on hb10)
  clear hb10 HY9 HB9 CG
  have cX := fun (e : Y = L) => samex_calls B9 A Y L d9 c w10 HY10.out.cel (HC.out.below HB10.out) (by omega) (by omega)
  have CX := Lib.hid cX
  clear cX
  have HQ := fun k => below_drewN HB10.out k
  have HQ' := Lib.hid HQ
  clear HQ
  have HEQ : Hid (other = key ∨ (other.toList == key.toList) = false ∧ av = bv ∧ an = be ∧ lv = bv ∧ ln = be) := Lib.hid (by
    by_cases e : other = key
    · exact .inl e
    · obtain ⟨a1, a2, a3, a4⟩ := HK.out.on other e
      obtain ⟨e1, e2, _⟩ := HE.out
      exact .inr ⟨key_no e, by rw [← hav, a2, e1], by rw [← han, a1, e2], by rw [← hlv, a4, e1], by rw [← hln, a3, e2]⟩)
  clear hav han hlv hln
  cases hb : hasB L key
  case true =>
    have hh : had = 0 := by rw [← HE.out.2.2.1]; exact HK.out.hd hb
    subst hh
    clear hb CX
    rcases HEQ.out with rfl | ⟨hne, rfl, rfl, rfl, rfl⟩
    all_goals
      clear HEQ
      go_wp2_with (fail)
      refine (cA _).mono ?_
      rintro e w12 ⟨rfl, hb⟩
      go_wp2_with (fail)
      go_ret
      exact ⟨rfl, HB10.out.trans (hb.mono HB10.out.size)⟩
  case false =>
    obtain ⟨h1, h2⟩ := HK.out.no hb
    have hh : had = 661 := by rw [← HE.out.2.2.1]; exact h1
    have c5 := CX.out h2
    have e5 : xrowsB Y L = true := by rw [h2]; exact xrowsB_self L
    rw [e5] at c5
    have C5 := Lib.hid c5
    subst hh
    clear hb CX c5 e5 h1 h2
    rcases HEQ.out with rfl | ⟨hne, rfl, rfl, rfl, rfl⟩
    all_goals
      clear HEQ
      go_wp2_with (fail)
      refine C5.out.mono ?_
      rintro e w11 ⟨rfl, q11, rfl⟩
      go_wp2_with (fail)
      refine (cA _).mono ?_
      rintro e w12 ⟨rfl, hb⟩
      go_wp2_with (fail)
      go_ret
      exact ⟨rfl, (HQ'.out _).trans (hb.mono (HQ'.out _).size)⟩
end Go.Proofs.Ythfafejjjmdpbaa
