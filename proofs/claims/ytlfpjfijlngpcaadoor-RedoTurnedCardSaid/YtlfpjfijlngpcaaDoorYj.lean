/- RedoApplies: for all words and every list the law returns true; nothing that was there has turned. -/
import Derived.Test.YtlfpjfijlngpcaaDoorYi
set_option linter.unusedSimpArgs false
set_option linter.unusedVariables false
namespace Go.Proofs.YtlfpjfijlngpcaaDoor
open Go.RowKit WordMath
open SumMath
theorem appR_len (l : List Nat) (L : List Re) : (appR l L).length ≤ l.length := by
  unfold appR
  split
  · rw [app_len]; exact Nat.le_refl _
  · simp
set_option maxRecDepth 100000 in
set_option maxHeartbeats 1000000 in
theorem applies_law (W : Option Addr) (l : List Nat) (d : Nat) (A : Option Addr) (L : List Re) (c : Nat) (n : Sn) (w : World) (hr : Row w W l) (hl : l.length ≤ 9223372036854775807) (ha : Cel w A (ev L)) (hll : L.length ≤ 9223372036854775807) (hT : TabAt w) (hE : ErrAt w) (hN : SnAt w n) :
    Calls Tryd.prog 5 #[.slice W l.length d, .slice A L.length c] w fun e w' => e = .returned (.bool true) ∧ Below w.heap.size w w' := by
  have HT := Lib.hid hT
  have HE := Lib.hid hE
  have HSN := Lib.hid hN
  by_cases h0 : 300 < l.length
  · have d0 : decide ((300 : Int) < (l.length : Int)) = true := by rw [decide_eq_true_eq]; omega
    go_enter Tryd.func5, Tryd.ntmps5
    go_wp2_with (fail)
    have c1 := alive_calls n w HT.out HE.out HSN.out
    refine c1.mono ?_
    clear c1
    rintro e w' ⟨rfl, hb⟩
    go_wp2_with (fail)
    go_ret
    exact ⟨rfl, hb⟩
  have d0 : decide ((300 : Int) < (l.length : Int)) = false := by rw [decide_eq_false_iff_not]; omega
  by_cases h1 : 300 < L.length
  · have d1 : decide (300 < L.length) = true := decide_eq_true h1
    go_enter Tryd.func5, Tryd.ntmps5
    go_wp2_with (fail)
    have c1 := large_calls A L c w hll
    rw [d1] at c1
    refine c1.mono ?_
    clear c1
    rintro e w' ⟨rfl, rfl⟩
    go_wp2_with (fail)
    have c1 := alive_calls n w HT.out HE.out HSN.out
    refine c1.mono ?_
    clear c1
    rintro e w' ⟨rfl, hb⟩
    go_wp2_with (fail)
    go_ret
    exact ⟨rfl, hb⟩
  have d1 : decide (300 < L.length) = false := decide_eq_false h1
  have HL0 := Lib.hid h0
  have HL1 := Lib.hid h1
  obtain ⟨AR, hAR⟩ : ∃ Z, appR l L = Z := ⟨_, rfl⟩
  obtain ⟨AE, hAE⟩ : ∃ Z, appE l L = Z := ⟨_, rfl⟩
  have HAR := Lib.hid hAR
  have HAE := Lib.hid hAE
  have hal := appR_len l L
  rw [hAR] at hal
  have HAL := Lib.hid hal
  obtain ⟨j0, hj0, hy0, ht0, hu0⟩ := info_parts u64_info
  have HJ := Lib.hid hj0
  have HY := Lib.hid hy0
  have HTT := Lib.hid ht0
  have HU := Lib.hid hu0
  clear h0 h1 hT hE hN hAR hAE hal hj0 hy0 ht0 hu0
  go_enter Tryd.func5, Tryd.ntmps5
  go_wp2_with (fail)
  have c1 := large_calls A L c w hll
  rw [d1] at c1
  refine c1.mono ?_
  clear c1
  rintro e w' ⟨rfl, rfl⟩
  clear d0 d1 hll hl
  have B0 := Lib.hid (Below.refl w.heap.size w)
  have RA := Lib.hid (ha)
  have RW := Lib.hid (hr)
  clear ha hr
  go_wp2_with (first | (at_builtin; refine wpList_cloneC rfl (.const (.slice none 0 0)) (.tmp 19) 25 rfl 26 j0 Tryd.underlying25 HJ.out HY.out HTT.out HU.out W l d rfl rfl RW.out (by have := HL0.out; omega) ?_; intro W1 d1 w1 hr1 hf1 hb1 hk1 hcap1; have RA1 := Lib.hid (RA.out.below hb1)) | (at_builtin; refine wpList_rcl rfl (.const (.slice none 0 0)) (.tmp 21) rfl A L L.length c rfl rfl rfl RA1.out (by have := HL1.out; omega) ?_; intro A1 c1 w2 hr2 hb2))
  have hbb := hb1
  have B1 := Lib.hid (B0.out.trans (hbb.mono B0.out.size))
  replace RA := Lib.hid (RA.out.below hbb)
  replace RW := Lib.hid (RW.out.below hbb)
  clear B0 hbb
  have RWO := Lib.hid (hr1)
  clear hr1 hf1 hb1 hk1 hcap1 RA1
  have hbb := hb2
  have B2 := Lib.hid (B1.out.trans (hbb.mono B1.out.size))
  replace RA := Lib.hid (RA.out.below hbb)
  replace RW := Lib.hid (RW.out.below hbb)
  replace RWO := Lib.hid (RWO.out.below hbb)
  clear B1 hbb
  have RAO := Lib.hid (hr2.cel)
  clear hr2 hb2
  have c2 := apply_calls W1 l d1 A1 L c1 w2 RWO.out (by have := HL0.out; omega) RAO.out (by have := HL1.out; omega)
  unfold ApplyP at c2
  rw [HAR.out, HAE.out] at c2
  refine c2.mono ?_
  clear c2
  rintro e w3 ⟨R3, cr3, rfl, hm, hb⟩
  have hbb := hb
  have B3 := Lib.hid (B2.out.trans (hbb.mono B2.out.size))
  replace RA := Lib.hid (RA.out.below hbb)
  replace RW := Lib.hid (RW.out.below hbb)
  replace RWO := Lib.hid (RWO.out.below hbb)
  replace RAO := Lib.hid (RAO.out.below hbb)
  clear B2 hbb
  have X3 := Lib.hid (hm)
  clear hm hb
  go_wp2_with (fail)
  have c2 := rapply_calls W l d A L c w3 RW.out (by have := HL0.out; omega) RA.out (by have := HL1.out; omega)
  unfold ApplyP at c2
  rw [HAR.out, HAE.out] at c2
  refine c2.mono ?_
  clear c2
  rintro e w4 ⟨R4, cr4, rfl, hm, hb⟩
  have hbb := hb
  have B4 := Lib.hid (B3.out.trans (hbb.mono B3.out.size))
  replace RA := Lib.hid (RA.out.below hbb)
  replace RW := Lib.hid (RW.out.below hbb)
  replace RWO := Lib.hid (RWO.out.below hbb)
  replace RAO := Lib.hid (RAO.out.below hbb)
  replace X3 := Lib.hid (X3.out.below hbb)
  clear B3 hbb
  have X4 := Lib.hid (hm)
  clear hm hb
  go_wp2_with (fail)
  have c2 := same_calls R3 R4 AR AR cr3 cr4 w4 X3.out X4.out (by have := HL0.out; have := HAL.out; omega) (by have := HL0.out; have := HAL.out; omega)
  rw [sameV_self] at c2
  refine c2.mono ?_
  clear c2
  rintro e w' ⟨rfl, q1, rfl⟩
  have hbb := below_drewN (Below.refl w4.heap.size w4) q1
  have B5 := Lib.hid (B4.out.trans (hbb.mono B4.out.size))
  replace RA := Lib.hid (RA.out.below hbb)
  replace RW := Lib.hid (RW.out.below hbb)
  replace RWO := Lib.hid (RWO.out.below hbb)
  replace RAO := Lib.hid (RAO.out.below hbb)
  replace X3 := Lib.hid (X3.out.below hbb)
  replace X4 := Lib.hid (X4.out.below hbb)
  clear B4 hbb
  generalize w4.drewN q1 = w5 at *
  go_wp2_with (fail)
  have c2 := same_calls W1 W l l d1 d w5 RWO.out RW.out (by have := HL0.out; omega) (by have := HL0.out; omega)
  rw [sameV_self] at c2
  refine c2.mono ?_
  clear c2
  rintro e w' ⟨rfl, q2, rfl⟩
  have hbb := below_drewN (Below.refl w5.heap.size w5) q2
  have B6 := Lib.hid (B5.out.trans (hbb.mono B5.out.size))
  replace RA := Lib.hid (RA.out.below hbb)
  replace RW := Lib.hid (RW.out.below hbb)
  replace RWO := Lib.hid (RWO.out.below hbb)
  replace RAO := Lib.hid (RAO.out.below hbb)
  replace X3 := Lib.hid (X3.out.below hbb)
  replace X4 := Lib.hid (X4.out.below hbb)
  clear B5 hbb
  generalize w5.drewN q2 = w6 at *
  go_wp2_with (fail)
  have c2 := rsame_calls A1 A L L c1 c w6 RAO.out RA.out (by have := HL1.out; omega) (by have := HL1.out; omega)
  rw [rowsB_self] at c2
  refine c2.mono ?_
  clear c2
  rintro e w' ⟨rfl, q3, rfl⟩
  have hbb := below_drewN (Below.refl w6.heap.size w6) q3
  have B7 := Lib.hid (B6.out.trans (hbb.mono B6.out.size))
  replace RA := Lib.hid (RA.out.below hbb)
  replace RW := Lib.hid (RW.out.below hbb)
  replace RWO := Lib.hid (RWO.out.below hbb)
  replace RAO := Lib.hid (RAO.out.below hbb)
  replace X3 := Lib.hid (X3.out.below hbb)
  replace X4 := Lib.hid (X4.out.below hbb)
  clear B6 hbb
  generalize w6.drewN q3 = w7 at *
  go_wp2_with (fail)
  have c2 := alive_calls n w7 (HT.out.below B7.out) (HE.out.below B7.out) (HSN.out.below B7.out)
  refine c2.mono ?_
  clear c2
  rintro e w8 ⟨rfl, hb⟩
  go_wp2_with (fail)
  go_ret
  exact ⟨rfl, B7.out.trans (hb.mono B7.out.size)⟩
end Go.Proofs.YtlfpjfijlngpcaaDoor
