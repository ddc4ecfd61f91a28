/- SuperWrites: whatever it is called with, it hands back true; nothing that was there has turned. -/
import Derived.Test.YtgedahjifbopcaaDoorSupAlive
namespace Go.Proofs.YtgedahjifbopcaaDoor
open Go.RowKit SumMath WordMath
theorem gok_nat {P I B : Int} (h : GOK P I B) : ∃ p i b : Nat, P = p ∧ I = i ∧ B = b := ⟨P.toNat, I.toNat, B.toNat, by have := h.1.1; omega, by have := h.2.1.1; omega, by have := h.2.2.1; omega⟩
set_option maxRecDepth 100000 in
set_option maxHeartbeats 1000000 in
theorem writes_good (P I B : Nat) (hi : Bool) (w : World) (hg : GOK P I B) (hT : TabAt w) (hE : ErrAt w) :
    Calls Tryd.prog 3 #[gv P I B, .bool hi] w fun e w' => e = .returned (.bool true) ∧ Below w.heap.size w w' := by
  have HT := Lib.hid hT
  have HE := Lib.hid hE
  have HG := Lib.hid hg
  have hlen : (superL P I B (hN hi)).length = 8 := rfl
  have hE1 := fun W hW => encode_ok P I B hi W HG.out hW
  have hR1 := fun W => rencode_calls P I B hi W (gok_fits HG.out)
  generalize superL P I B (hN hi) = l at *
  have kss := Lib.hid (sameV_self l)
  have HE1 := Lib.hid hE1
  have HR1 := Lib.hid hR1
  have HL := Lib.hid hlen
  clear hT hE hg hE1 hR1 hlen
  go_enter Tryd.func3, Tryd.ntmps3
  go_wp2_with (fail)
  have hon : Below w.heap.size w (w.alloc (.cells #[.int .i64 (P : Nat), .int .i64 (I : Nat), .int .i64 (B : Nat)] 23)) := (Below.refl _ _).alloc (Nat.le_refl _) _
  refine (HE1.out _ (HT.out.below hon)).mono ?_
  rintro e w1 ⟨A1, c1, rfl, hr1, hf1, hb1, hc1⟩
  have bw1 := hon.trans (hb1.mono hon.size)
  have G1 := alloc_later hb1
  obtain ⟨g0, g1, g2⟩ := three_cells G1
  have hg := lt_of_cells G1
  clear hb1 hon
  go_wp2_with (fail)
  refine (may_yes P I B _ HG.out).mono ?_
  rintro e w2 ⟨rfl, hb2⟩
  have bw2 := bw1.trans (hb2.mono bw1.size)
  have hr2 := hr1.below hb2
  have G2 := (hb2.block _ (lt_of_cells G1)).trans G1
  clear g0 g1 g2 hg
  obtain ⟨g0, g1, g2⟩ := three_cells G2
  have hg := lt_of_cells G2
  clear hb2 hr1 G1 G2
  go_wp2_with (fail)
  refine (HR1.out w2).mono ?_
  rintro e w3 ⟨A3, c3, rfl, hr3, hf3, hb3, hc3⟩
  have bw3 := bw2.trans (hb3.mono bw2.size)
  have hr23 := hr2.below hb3
  clear hb3 hr2 g0 g1 g2 hg
  go_wp2_with (fail)
  refine (same_calls A1 A3 l l c1 c3 w3 hr23 hr3 (by rw [HL.out]; decide) (by rw [HL.out]; decide)).mono ?_
  rintro e w4 ⟨rfl, m, rfl⟩
  rw [kss.out]
  have bw4 := below_drewN bw3 m
  go_wp2_with (fail)
  refine (alive_calls _ (HT.out.below bw4) (HE.out.below bw4)).mono ?_
  rintro e w5 ⟨rfl, hb5⟩
  go_wp2_with (fail)
  go_ret
  exact ⟨rfl, bw4.trans (hb5.mono bw4.size)⟩
set_option maxRecDepth 100000 in
theorem writes_bad (P I B : Int) (hi : Bool) (w : World) (hg : ¬ GOK P I B) (hT : TabAt w) (hE : ErrAt w) :
    Calls Tryd.prog 3 #[gv P I B, .bool hi] w fun e w' => e = .returned (.bool true) ∧ Below w.heap.size w w' := by
  have HT := Lib.hid hT
  have HE := Lib.hid hE
  have HG := Lib.hid hg
  clear hT hE hg
  go_enter Tryd.func3, Tryd.ntmps3
  go_wp2_with (fail)
  refine (encode_bad P I B hi _ HG.out).mono ?_
  rintro e w1 ⟨rfl, hb1⟩
  have bw1 := below_alloc hb1
  have G1 := alloc_later hb1
  obtain ⟨g0, g1, g2⟩ := three_cells G1
  have hg := lt_of_cells G1
  clear hb1
  go_wp2_with (fail)
  refine (may_no P I B _ HG.out).mono ?_
  rintro e w2 ⟨rfl, hb2⟩
  have bw2 := bw1.trans (hb2.mono bw1.size)
  clear hb2 G1 g0 g1 g2 hg
  go_wp2_with (fail)
  refine (alive_calls _ (HT.out.below bw2) (HE.out.below bw2)).mono ?_
  rintro e w5 ⟨rfl, hb5⟩
  go_wp2_with (fail)
  go_ret
  exact ⟨rfl, bw2.trans (hb5.mono bw2.size)⟩
theorem supwrites_calls (P I B : Int) (hi : Bool) (w : World) (hT : TabAt w) (hE : ErrAt w) :
    Calls Tryd.prog 3 #[gv P I B, .bool hi] w fun e w' => e = .returned (.bool true) ∧ Below w.heap.size w w' := by
  by_cases h : GOK P I B
  · obtain ⟨p, i, b, rfl, rfl, rfl⟩ := gok_nat h
    exact writes_good p i b hi w h hT hE
  · exact writes_bad P I B hi w h hT hE
end Go.Proofs.YtgedahjifbopcaaDoor
