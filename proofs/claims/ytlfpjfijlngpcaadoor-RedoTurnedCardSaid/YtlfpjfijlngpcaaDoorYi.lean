/- RedoLays: for every list the law returns true; nothing that was there has turned. -/
import Derived.Test.YtlfpjfijlngpcaaDoorYh
set_option linter.unusedSimpArgs false
set_option linter.unusedVariables false
namespace Go.Proofs.YtlfpjfijlngpcaaDoor
open Go.RowKit WordMath
open SumMath
theorem rmay_or (L : List Re) : rmayE L = 0 ∨ rmayE L = 2 ∨ rmayE L = 5 := by
  unfold rmayE
  split
  · exact .inr (.inr rfl)
  · split
    · exact .inl rfl
    · exact .inr (.inl rfl)
set_option maxRecDepth 100000 in
set_option maxHeartbeats 1000000 in
theorem lays_law (A : Option Addr) (L : List Re) (c : Nat) (n : Sn) (w : World) (ha : Cel w A (ev L)) (hll : L.length ≤ 9223372036854775807) (hn : RN L) (hT : TabAt w) (hE : ErrAt w) (hN : SnAt w n) :
    Calls Tryd.prog 3 #[.slice A L.length c] w fun e w' => e = .returned (.bool true) ∧ Below w.heap.size w w' := by
  have HT := Lib.hid hT
  have HE := Lib.hid hE
  have HSN := Lib.hid hN
  have HRN := Lib.hid hn
  by_cases h1 : 300 < L.length
  · have d1 : decide (300 < L.length) = true := decide_eq_true h1
    go_enter Tryd.func3, Tryd.ntmps3
    go_wp2_with (fail)
    have c1 := large_calls A L c w hll
    rw [d1] at c1
    refine c1.mono ?_
    clear c1
    rintro e w' ⟨rfl, rfl⟩
    go_wp2_with (fail)
    have c1 := alive_calls n w HT.out HE.out HSN.out
    refine c1.mono ?_
    clear c1
    rintro e w' ⟨rfl, hb⟩
    go_wp2_with (fail)
    go_ret
    exact ⟨rfl, hb⟩
  have d1 : decide (300 < L.length) = false := decide_eq_false h1
  have HLEN := Lib.hid h1
  have hLY : rmayE L ≠ 0 → layL L = [] ∧ layC L = 0 := fun h => ⟨layL_no h, layC_no h⟩
  have hLG : rmayE L = 0 → layL L = bodyL L ∧ layC L = commitN L ∧ GoodR L ∧ L.length ≤ 64 := fun h => ⟨layL_yes h, layC_yes h, good_may hn h, (rmay_0 h).1⟩
  have HLY := Lib.hid hLY
  have HLG := Lib.hid hLG
  have HOR := Lib.hid (rmay_or L)
  have HLL := Lib.hid hll
  clear h1 hT hE hN hn hLY hLG
  go_enter Tryd.func3, Tryd.ntmps3
  go_wp2_with (fail)
  have c1 := large_calls A L c w hll
  rw [d1] at c1
  refine c1.mono ?_
  clear c1
  rintro e w' ⟨rfl, rfl⟩
  clear d1 hll
  have B0 := Lib.hid (Below.refl w.heap.size w)
  have RA := Lib.hid (ha)
  clear ha
  go_wp2_with (at_builtin; refine wpList_rcl rfl (.const (.slice none 0 0)) (.tmp 11) rfl A L L.length c rfl rfl rfl RA.out (by have := HLEN.out; omega) ?_; intro A1 c1 w1 hr1 hb1)
  have hbb := hb1
  have B1 := Lib.hid (B0.out.trans (hbb.mono B0.out.size))
  replace RA := Lib.hid (RA.out.below hbb)
  clear B0 hbb
  have RO := Lib.hid (hr1.cel)
  clear hr1 hb1
  have c2 := lay_calls A1 L c1 w1 RO.out HRN.out HLL.out (HT.out.below B1.out)
  refine c2.mono ?_
  clear c2
  rintro e w2 ⟨R2, cr2, rfl, hm, hb⟩
  have hbb := hb
  have B2 := Lib.hid (B1.out.trans (hbb.mono B1.out.size))
  replace RA := Lib.hid (RA.out.below hbb)
  replace RO := Lib.hid (RO.out.below hbb)
  clear B1 hbb
  have RB := Lib.hid (hm.row)
  clear hm hb
  go_wp2_with (fail)
  have c2 := rmay_calls A L c w2 RA.out HLL.out
  refine c2.mono ?_
  clear c2
  rintro e w' ⟨rfl, rfl⟩
  rcases HOR.out with h0 | h0 | h0
  · obtain ⟨e1, e2, e3, e4⟩ := HLG.out h0
    rw [e1] at RB
    rw [e1, e2, h0]
    have HGD := Lib.hid e3
    have H64 := Lib.hid e4
    clear e1 e2 e3 e4 h0
    go_wp2_with (fail)
    have c2 := rbody_calls A L c w2 RA.out HGD.out (by have := H64.out; omega)
    refine c2.mono ?_
    clear c2
    rintro e w3 ⟨R3, cr3, rfl, hm, hb⟩
    have hbb := hb
    have B3 := Lib.hid (B2.out.trans (hbb.mono B2.out.size))
    replace RA := Lib.hid (RA.out.below hbb)
    replace RO := Lib.hid (RO.out.below hbb)
    replace RB := Lib.hid (RB.out.below hbb)
    clear B2 hbb
    have RC := Lib.hid (hm.row)
    clear hm hb
    go_wp2_with (fail)
    have c2 := same_calls R2 R3 (bodyL L) (bodyL L) cr2 cr3 w3 RB.out RC.out (by rw [body_len]; have := H64.out; omega) (by rw [body_len]; have := H64.out; omega)
    rw [sameV_self] at c2
    refine c2.mono ?_
    clear c2
    rintro e w' ⟨rfl, q, rfl⟩
    have hbb := below_drewN (Below.refl w3.heap.size w3) q
    have B4 := Lib.hid (B3.out.trans (hbb.mono B3.out.size))
    replace RA := Lib.hid (RA.out.below hbb)
    replace RO := Lib.hid (RO.out.below hbb)
    replace RB := Lib.hid (RB.out.below hbb)
    replace RC := Lib.hid (RC.out.below hbb)
    clear B3 hbb
    generalize w3.drewN q = w4 at *
    go_wp2_with (fail)
    have c2 := rcommit_calls A L c w4 RA.out HGD.out H64.out
    refine c2.mono ?_
    clear c2
    rintro e w5 ⟨rfl, hb⟩
    have hbb := hb
    have B5 := Lib.hid (B4.out.trans (hbb.mono B4.out.size))
    replace RA := Lib.hid (RA.out.below hbb)
    replace RO := Lib.hid (RO.out.below hbb)
    replace RB := Lib.hid (RB.out.below hbb)
    replace RC := Lib.hid (RC.out.below hbb)
    clear B4 hbb
    clear hb
    go_wp2_with (fail)
    have c2 := rsame_calls A1 A L L c1 c w5 RO.out RA.out (by have := H64.out; omega) (by have := H64.out; omega)
    rw [rowsB_self] at c2
    refine c2.mono ?_
    clear c2
    rintro e w' ⟨rfl, q2, rfl⟩
    have hbb := below_drewN (Below.refl w5.heap.size w5) q2
    have B6 := Lib.hid (B5.out.trans (hbb.mono B5.out.size))
    replace RA := Lib.hid (RA.out.below hbb)
    replace RO := Lib.hid (RO.out.below hbb)
    replace RB := Lib.hid (RB.out.below hbb)
    replace RC := Lib.hid (RC.out.below hbb)
    clear B5 hbb
    generalize w5.drewN q2 = w6 at *
    go_wp2_with (fail)
    have c2 := alive_calls n w6 (HT.out.below B6.out) (HE.out.below B6.out) (HSN.out.below B6.out)
    refine c2.mono ?_
    clear c2
    rintro e w7 ⟨rfl, hb⟩
    go_wp2_with (fail)
    go_ret
    exact ⟨rfl, B6.out.trans (hb.mono B6.out.size)⟩
  · obtain ⟨e1, e2⟩ := HLY.out (by rw [h0]; decide)
    rw [e1] at RB
    rw [e1, e2, h0]
    clear e1 e2 h0
    go_wp2_with (fail)
    have c2 := alive_calls n w2 (HT.out.below B2.out) (HE.out.below B2.out) (HSN.out.below B2.out)
    refine c2.mono ?_
    clear c2
    rintro e w7 ⟨rfl, hb⟩
    go_wp2_with (fail)
    go_ret
    exact ⟨rfl, B2.out.trans (hb.mono B2.out.size)⟩
  · obtain ⟨e1, e2⟩ := HLY.out (by rw [h0]; decide)
    rw [e1] at RB
    rw [e1, e2, h0]
    clear e1 e2 h0
    go_wp2_with (fail)
    have c2 := alive_calls n w2 (HT.out.below B2.out) (HE.out.below B2.out) (HSN.out.below B2.out)
    refine c2.mono ?_
    clear c2
    rintro e w7 ⟨rfl, hb⟩
    go_wp2_with (fail)
    go_ret
    exact ⟨rfl, B2.out.trans (hb.mono B2.out.size)⟩
end Go.Proofs.YtlfpjfijlngpcaaDoor
