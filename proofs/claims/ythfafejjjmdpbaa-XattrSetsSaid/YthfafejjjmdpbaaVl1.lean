/- The law XattrSets, walked. -/
import Derived.Test.YthfafejjjmdpbaaVa
set_option linter.unusedSimpArgs false
set_option linter.unusedVariables false
namespace Go.Proofs.Ythfafejjjmdpbaa
open Go.RowKit Go.Lib
set_option maxRecDepth 100000 in
set_option maxHeartbeats 4000000 in
theorem sets_law (A : Option Addr) (L : List Xt) (c : Nat) (key val : ByteArray) (how : Int) (w : World) (hc : Cel w A (xv L)) (hl : L.length ≤ 9223372036854775807) (h0 : 0 ≤ how) (h1 : how < 256) :
    Calls Try.prog 3 #[.slice A L.length c, .string key, .string val, .int .u8 how] w fun e w' => e = .returned (.bool true) ∧ Below w.heap.size w w' := by
  have cL := long_calls A L c w hc hl
  have HC := Lib.hid hc
  have CL := Lib.hid cL
  have cA := fun W => alive_calls W
  clear hc cL
  go_enter Try.func3, Try.ntmps3
  go_wp2_with (fail)
  refine CL.out.mono ?_
  rintro e w1 ⟨b, rfl, hS, q, rfl⟩
  cases b
  case true =>
    go_wp2_with (fail)
    refine (cA _).mono ?_
    rintro e w2 ⟨rfl, hb⟩
    go_wp2_with (fail)
    go_ret
    exact ⟨rfl, (below_drewN (Below.refl _ _) _).trans hb⟩
  case false =>
  by_cases hk : 200 < key.size
  case pos =>
    have d1 : decide ((200 : Int) < (key.size : Int)) = true := by rw [decide_eq_true_eq]; omega
    clear hk
    go_wp2_with (fail)
    refine (cA _).mono ?_
    rintro e w2 ⟨rfl, hb⟩
    go_wp2_with (fail)
    go_ret
    exact ⟨rfl, (below_drewN (Below.refl _ _) _).trans hb⟩
  case neg =>
  have d1 : decide ((200 : Int) < (key.size : Int)) = false := by rw [decide_eq_false_iff_not]; omega
  by_cases hv : 200 < val.size
  case pos =>
    have d2 : decide ((200 : Int) < (val.size : Int)) = true := by rw [decide_eq_true_eq]; omega
    clear hk hv
    go_wp2_with (fail)
    refine (cA _).mono ?_
    rintro e w2 ⟨rfl, hb⟩
    go_wp2_with (fail)
    go_ret
    exact ⟨rfl, (below_drewN (Below.refl _ _) _).trans hb⟩
  case neg =>
  have d2 : decide ((200 : Int) < (val.size : Int)) = false := by rw [decide_eq_false_iff_not]; omega
  have hS' := hS.out rfl
  have HSH := Lib.hid hS'
  have h40 : L.length ≤ 40 := hS'.len
  clear hS hS' CL
  go_wp2_with (at_builtin; refine wpList_xcl rfl (.const (.slice none 0 0)) (.tmp 27) rfl A L c rfl rfl (HC.out.drewN q) (by omega) ?_; intro B0 c0 w2 hM2 hb2)
  have HB2 : Hid (Below w.heap.size w w2) := Lib.hid ((below_drewN (Below.refl _ _) q).trans hb2)
  have HM2 : Hid (MineX w w2 B0 L.length c0 L) := Lib.hid hM2
  clear hM2 hb2
  have c1 := set_calls B0 L c0 key val how w2 HM2.out.cel (by omega) HM2.out.1.2.1 h0 h1
  refine c1.mono ?_
  rintro e w3 ⟨B1, d1', rfl, hM3, hb3⟩
  have HB3 := Lib.hid (HB2.out.trans (hb3.mono HB2.out.size))
  have HM3 := Lib.hid (HM2.out.on hb3)
  have HR3 := Lib.hid (hM3.from HB2.out.size)
  clear c1 hM3 hb3 HM2 HB2
  generalize hR : setR L key val how = R at *
  generalize hN : setN L key val how = m at *
  have hRN : Hid (setR L key val how = R ∧ setN L key val how = m) := Lib.hid ⟨hR, hN⟩
  have hRl : R.length ≤ 1000 := by
    rw [← hR]
    unfold setR
    split
    · rename_i h
      have := (xsB_up_iff.1 (set_may h0 h)).2.2
      omega
    · exact Nat.zero_le _
  clear hR hN
  go_wp2_with (fail)
  have c2 := rset_calls A L c key val how w3 (HC.out.below HB3.out) (by omega) HSH.out.keys (by omega) h0 h1
  unfold SetPost at c2
  rw [hRN.out.1, hRN.out.2] at c2
  refine c2.mono ?_
  rintro e w4 ⟨B2, d2', rfl, hM4, hb4⟩
  have HB4 := Lib.hid (HB3.out.trans (hb4.mono HB3.out.size))
  have HM4 := Lib.hid (HM3.out.on hb4)
  have HR4 := Lib.hid (HR3.out.on hb4)
  have HS4 := Lib.hid (hM4.from HB3.out.size)
  clear c2 hM4 hb4 HM3 HR3 HB3
  go_wp2_with (fail)
  have c3 := samex_calls B1 B2 R R d1' d2' w4 HR4.out.cel HS4.out.cel (by omega) (by omega)
  rw [xrowsB_self] at c3
  refine c3.mono ?_
  rintro e w5 ⟨rfl, q5, rfl⟩
  clear c3
  have cK := fun W => key_calls key W
  have cJ := fun W => rkeyN_calls key W (by omega)
  generalize keyN key = kn at *
  have CK := Lib.hid cK
  have CJ := Lib.hid cJ
  clear cK cJ
  go_wp2_with (fail)
  refine (CK.out _).mono ?_
  rintro e w6 ⟨rfl, rfl⟩
  go_wp2_with (fail)
  refine (CJ.out _).mono ?_
  rintro e w7 ⟨rfl, q7, rfl⟩
  go_wp2_with (fail)
  have c4 := fun k => samex_calls B0 A L L c0 c (w4.drewN k) (HM4.out.cel.drewN k) ((HC.out.below HB4.out).drewN k) (by omega) (by omega)
  rw [xrowsB_self] at c4
  refine (c4 _).mono ?_
  rintro e w8 ⟨rfl, q8, rfl⟩
  clear c4
  go_wp2_with (fail)
  refine (cA _).mono ?_
  rintro e w9 ⟨rfl, hb9⟩
  go_wp2_with (fail)
  go_ret
  exact ⟨rfl, (below_drewN HB4.out _).trans (hb9.mono (below_drewN HB4.out _).size)⟩
end Go.Proofs.Ythfafejjjmdpbaa
