/- The law XattrOrder, walked. -/
import Derived.Test.YthfafejjjmdpbaaVa
set_option linter.unusedSimpArgs false
set_option linter.unusedVariables false
namespace Go.Proofs.Ythfafejjjmdpbaa
open Go.RowKit Go.Lib
set_option maxRecDepth 100000 in
set_option maxHeartbeats 4000000 in
theorem order_law (A : Option Addr) (L : List Xt) (c : Nat) (a b v u : ByteArray) (w : World) (hc : Cel w A (xv L)) (hl : L.length ≤ 9223372036854775807) :
    Calls Try.prog 6 #[.slice A L.length c, .string a, .string b, .string v, .string u] w fun e w' => e = .returned (.bool true) ∧ Below w.heap.size w w' := by
  have cL := long_calls A L c w hc hl
  have HC := Lib.hid hc
  have CL := Lib.hid cL
  have cA := fun W => alive_calls W
  clear hc cL
  go_enter Try.func6, Try.ntmps6
  go_wp2_with (fail)
  refine CL.out.mono ?_
  rintro e w1 ⟨t, rfl, hS, q, rfl⟩
  cases t
  case true =>
    go_wp2_with (fail)
    refine (cA _).mono ?_
    rintro e w2 ⟨rfl, hb⟩
    go_wp2_with (fail)
    go_ret
    exact ⟨rfl, (below_drewN (Below.refl _ _) _).trans hb⟩
  case false =>
  cases t1 : decide ((200 : Int) < wrap64 ((a.size : Int) + (b.size : Int)))
  case true =>
    go_wp2_with (fail)
    refine (cA _).mono ?_
    rintro e w2 ⟨rfl, hb⟩
    go_wp2_with (fail)
    go_ret
    exact ⟨rfl, (below_drewN (Below.refl _ _) _).trans hb⟩
  case false =>
  cases t2 : decide ((200 : Int) < wrap64 ((v.size : Int) + (u.size : Int)))
  case true =>
    go_wp2_with (fail)
    refine (cA _).mono ?_
    rintro e w2 ⟨rfl, hb⟩
    go_wp2_with (fail)
    go_ret
    exact ⟨rfl, (below_drewN (Below.refl _ _) _).trans hb⟩
  case false =>
  by_cases hab : a = b
  case pos =>
    subst hab
    go_wp2_with (fail)
    refine (cA _).mono ?_
    rintro e w2 ⟨rfl, hb⟩
    go_wp2_with (fail)
    go_ret
    exact ⟨rfl, (below_drewN (Below.refl _ _) _).trans hb⟩
  case neg =>
  have hne := key_no hab
  have HAB := Lib.hid hab
  have hS' := hS.out rfl
  have h40 : L.length ≤ 40 := hS'.len
  clear hS hS' CL hab
  go_wp2_with (at_builtin; refine wpList_xcl rfl (.const (.slice none 0 0)) (.tmp 40) rfl A L c rfl rfl (HC.out.drewN q) (by omega) ?_; intro B0 c0 w2 hM2 hb2)
  have HB2 : Hid (Below w.heap.size w w2) := Lib.hid ((below_drewN (Below.refl _ _) q).trans hb2)
  have cS := set_calls B0 L c0 a v 0 w2 hM2.cel (by omega) hM2.1.2.1 (by decide) (by decide)
  have cT := fun W B (d : Nat) (h : Cel W B (xv L)) (h2 : L.length ≤ d) => set_calls B L d b u 0 W h (by omega) h2 (by decide) (by decide)
  have HO := Lib.hid (fun h1 h2 => And.intro (order_err (L := L) (v := v) (w := u) HAB.out h1 h2) (order_rows (L := L) (v := v) (w := u) HAB.out h1 h2))
  have HX1 : Hid (setN L a v 0 = 0 → xsB (setR L a v 0) = true ∧ setR L a v 0 = setL L a v) := Lib.hid (fun h => by
    have e : setR L a v 0 = setL L a v := by unfold setR; rw [if_pos h]
    rw [e]
    exact ⟨set_may (by decide) h, rfl⟩)
  have HX2 : Hid (setN L b u 0 = 0 → xsB (setR L b u 0) = true ∧ setR L b u 0 = setL L b u) := Lib.hid (fun h => by
    have e : setR L b u 0 = setL L b u := by unfold setR; rw [if_pos h]
    rw [e]
    exact ⟨set_may (by decide) h, rfl⟩)
  unfold SetPost at cS cT
  generalize setR L a v 0 = X at *
  generalize setR L b u 0 = Y at *
  generalize setN L a v 0 = nx at *
  generalize setN L b u 0 = ny at *
  have CS := Lib.hid cS
  have CT := Lib.hid cT
  clear cS cT hM2 hb2 t1 t2
  refine CS.out.mono ?_
  rintro e w3 ⟨B3, d3, rfl, hM3, hb3⟩
  have HB3 := Lib.hid (HB2.out.trans (hb3.mono HB2.out.size))
  have HX3 := Lib.hid (hM3.from HB2.out.size)
  clear hM3 hb3 CS HB2
  have HC3 := Lib.hid (HC.out.below HB3.out)
  go_wp2_with (at_builtin; refine wpList_xcl rfl (.const (.slice none 0 0)) (.tmp 48) rfl A L c rfl rfl HC3.out (by omega) ?_; intro B4 c4 w4 hM4 hb4)
  have HB4 := Lib.hid (HB3.out.trans (hb4.mono HB3.out.size))
  have HX4 := Lib.hid (HX3.out.on hb4)
  clear hb4 HB3 HX3 HC3
  refine (CT.out w4 B4 c4 hM4.cel hM4.1.2.1).mono ?_
  rintro e w5 ⟨B5, d5, rfl, hM5, hb5⟩
  have HB5 := Lib.hid (HB4.out.trans (hb5.mono HB4.out.size))
  have HX5 := Lib.hid (HX4.out.on hb5)
  have HY5 := Lib.hid (hM5.from HB4.out.size)
  clear hb5 hM5 hM4 HX4 HB4 CT
  by_cases hnx : nx = 0
  case neg =>
    have hne2 : (nx == 0) = false := by rw [beq_eq_false_iff_ne]; exact hnx
    clear hnx
    go_wp2_with (fail)
    refine (cA _).mono ?_
    rintro e w6 ⟨rfl, hb⟩
    go_wp2_with (fail)
    go_ret
    exact ⟨rfl, HB5.out.trans (hb.mono HB5.out.size)⟩
  case pos =>
  subst hnx
  by_cases hny : ny = 0
  case neg =>
    have hne2 : (ny == 0) = false := by rw [beq_eq_false_iff_ne]; exact hny
    clear hny
    go_wp2_with (fail)
    refine (cA _).mono ?_
    rintro e w6 ⟨rfl, hb⟩
    go_wp2_with (fail)
    go_ret
    exact ⟨rfl, HB5.out.trans (hb.mono HB5.out.size)⟩
  case pos =>
  subst hny
  obtain ⟨x1, x2⟩ := HX1.out rfl
  obtain ⟨y1, y2⟩ := HX2.out rfl
  obtain ⟨o1, o2⟩ := HO.out rfl rfl
  rw [← x2, ← y2] at o1 o2
  have xl := (xsB_up_iff.1 x1).2.2
  have yl := (xsB_up_iff.1 y1).2.2
  have cS := set_calls B3 X d3 b u 0 w5 HX5.out.cel (by omega) HX5.out.1.2.1 (by decide) (by decide)
  have cT := fun W B (d : Nat) (h : Cel W B (xv Y)) (h2 : Y.length ≤ d) => set_calls B Y d a v 0 W h (by omega) h2 (by decide) (by decide)
  have hRl : (setR Y a v 0).length ≤ 1000 := by
    unfold setR
    split
    · rename_i h
      have := (xsB_up_iff.1 (set_may (by decide) h)).2.2
      omega
    · exact Nat.zero_le _
  unfold SetPost at cS cT
  rw [o1, o2] at cS
  generalize setR Y a v 0 = R at *
  generalize setN Y a v 0 = m at *
  have CS := Lib.hid cS
  have CT := Lib.hid cT
  clear cS cT x1 x2 y1 y2 o1 o2 HX1 HX2 HO
  go_wp2_with (fail)
  refine CS.out.mono ?_
  rintro e w6 ⟨B6, d6, rfl, hM6, hb6⟩
  have HB6 := Lib.hid (HB5.out.trans (hb6.mono HB5.out.size))
  have HY6 := Lib.hid (HY5.out.on hb6)
  have HR6 := Lib.hid (hM6.from HB5.out.size)
  clear hM6 hb6 HB5 HY5 HX5 CS
  go_wp2_with (fail)
  refine (CT.out w6 B5 d5 HY6.out.cel HY6.out.1.2.1).mono ?_
  rintro e w7 ⟨B7, d7, rfl, hM7, hb7⟩
  have HB7 := Lib.hid (HB6.out.trans (hb7.mono HB6.out.size))
  have HR7 := Lib.hid (HR6.out.on hb7)
  have HS7 := Lib.hid (hM7.from HB6.out.size)
  clear hM7 hb7 HB6 HY6 HR6 CT
  have cX := samex_calls B6 B7 R R d6 d7 w7 HR7.out.cel HS7.out.cel (by omega) (by omega)
  rw [xrowsB_self] at cX
  have CX := Lib.hid cX
  clear cX
  go_wp2_with (fail)
  refine CX.out.mono ?_
  rintro e w8 ⟨rfl, q8, rfl⟩
  go_wp2_with (fail)
  refine (cA _).mono ?_
  rintro e w9 ⟨rfl, hb⟩
  go_wp2_with (fail)
  go_ret
  exact ⟨rfl, (below_drewN HB7.out _).trans (hb.mono (below_drewN HB7.out _).size)⟩
end Go.Proofs.Ythfafejjjmdpbaa
