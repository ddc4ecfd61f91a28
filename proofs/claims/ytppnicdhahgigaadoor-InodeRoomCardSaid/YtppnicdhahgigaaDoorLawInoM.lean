/- InodeRoom: whatever it is called with, it hands back true; nothing that was there has turned. -/
import Derived.Test.YtppnicdhahgigaaDoorLawIno0
namespace Go.Proofs.YtppnicdhahgigaaDoor
open Go.RowKit SumMath WordMath
set_option maxRecDepth 100000 in
set_option maxHeartbeats 2000000 in
theorem iroom_good (x : Ino) (P I B : Int) (n m : Nat) (w : World) (hG : 0 ≤ x.G ∧ x.G < 4294967296) (hm : mayB x P I B = true) (hn : n < 256) (hm2 : m < 256) (hT : TabAt w) (hE : ErrAt w) :
    Calls Tryd.prog 6 #[x.v, gv P I B, .int .u8 (n : Nat), .int .u8 (m : Nat)] w fun e w' => e = .returned (.bool true) ∧ On w w' := by
  have HT := Lib.hid hT
  have HE := Lib.hid hE
  have hroom := may_room hG hm
  obtain ⟨hgk, _⟩ := mayB_iff.1 hm
  obtain ⟨_, ⟨i0, i1⟩, ⟨q0, q1⟩⟩ := hgk
  have hm3 : mayB x P (min (max I 0 + (n : Int)) 64) (min (max B 0 + (m : Int)) 255) = true := may_mono hm (by omega) (by omega) (by omega) (by omega)
  have hM := fun W => imay_calls x P I B W
  rw [hm] at hM
  have hE1 := fun W hW => encode_own x P I B W hroom.small hm hW
  have hE2 := fun W hW => encode_own x P (min (max I 0 + (n : Int)) 64) (min (max B 0 + (m : Int)) 255) W hroom.small hm3 hW
  have hlen := sealed_wL_length x
  generalize sealed (wL x) = l at *
  have kss := Lib.hid (sameV_self l)
  have HM := Lib.hid hM
  have HE1 := Lib.hid hE1
  have HE2 := Lib.hid hE2
  have HL := Lib.hid hlen
  clear hT hE hG hm hm3 hroom hM hE1 hE2 hlen
  have b0 := on_two w (.cells x.c 25) (.cells #[.int .i64 P, .int .i64 I, .int .i64 B] 27)
  have t0 := Two.new w x P I B
  have B0 := Lib.hid b0
  have T0 := Lib.hid t0
  clear b0 t0
  go_enter Tryd.func6, Tryd.ntmps6
  go_wp2_with (fail)
  refine (HM.out _).mono ?_
  rintro e w1 ⟨rfl, hb1⟩
  have bw1 := B0.out.trans hb1
  have t1 := T0.out.on hb1
  obtain ⟨x0, x1, x2, x3, x4, x5, x6, x7, x8, x9, x10, x11, x12⟩ := t1.ino.cells
  obtain ⟨g0, g1, g2⟩ := three_cells t1.geo
  have hlx := t1.ino.lt
  have hlg := lt_of_cells t1.geo
  have hc1 : decide (I < 0) = false := by rw [decide_eq_false_iff_not]; omega
  have hc2 : decide (B < 0) = false := by rw [decide_eq_false_iff_not]; omega
  clear hb1 B0 T0
  have b2 := on_alloc w1 (.cells #[.int .i64 P, .int .i64 (min (max I 0 + (n : Int)) 64), .int .i64 (min (max B 0 + (m : Int)) 255)] 27)
  have bw2 := bw1.trans b2
  have t2 := t1.on b2
  go_wp2_with (fail)
  clear x0 x1 x2 x3 x4 x5 x6 x7 x8 x9 x10 x11 x12 g0 g1 g2 hlx hlg
  refine (HE1.out _ (HT.out.below bw2)).mono ?_
  rintro e w3 ⟨A3, c3, rfl, hr3, hf3, hb3, hc3, _⟩
  have bw3 := bw2.trans hb3
  have t3 := t2.on hb3
  have h3 := alloc_later hb3
  obtain ⟨h0, h1, h2⟩ := three_cells h3
  have hlh := lt_of_cells h3
  obtain ⟨x0, x1, x2, x3, x4, x5, x6, x7, x8, x9, x10, x11, x12⟩ := t3.ino.cells
  obtain ⟨g0, g1, g2⟩ := three_cells t3.geo
  have hlx := t3.ino.lt
  have hlg := lt_of_cells t3.geo
  rw [HL.out]
  clear hb3 b2 bw1 bw2 t1 t2 hf3 hc3 hc1 hc2 i0 i1 q0 q1 h3
  go_wp2_with (fail)
  clear x0 x1 x2 x3 x4 x5 x6 x7 x8 x9 x10 x11 x12 g0 g1 g2 hlx hlg
  clear h0 h1 h2 hlh
  refine (HE2.out _ (HT.out.below bw3)).mono ?_
  rintro e w4 ⟨A4, c4, rfl, hr4, hf4, hb4, hc4, _⟩
  have bw4 := bw3.trans hb4
  have hr34 := hr3.below hb4
  have hS := same_calls A3 A4 l l c3 c4 w4 hr34 hr4 (by rw [HL.out]; decide) (by rw [HL.out]; decide)
  rw [HL.out, kss.out] at hS
  have HS := Lib.hid hS
  rw [HL.out]
  clear hS hb4 bw3 t3 hf4 hc4 hr34 hr4 hr3
  go_wp2_with (fail)
  refine HS.out.mono ?_
  rintro e w5 ⟨rfl, k, rfl⟩
  have bw5 := bw4.trans (on_drewN w4 k)
  clear bw4 HS
  go_wp2_with (fail)
  refine (alive_calls _ (HT.out.below bw5) (HE.out.below bw5)).mono ?_
  rintro e w6 ⟨rfl, hb6⟩
  go_wp2_with (fail)
  go_ret
  exact ⟨rfl, bw5.trans hb6⟩
set_option maxRecDepth 100000 in
theorem iroom_bad (x : Ino) (P I B : Int) (n m : Int) (w : World) (hm : mayB x P I B = false) (hT : TabAt w) (hE : ErrAt w) :
    Calls Tryd.prog 6 #[x.v, gv P I B, .int .u8 n, .int .u8 m] w fun e w' => e = .returned (.bool true) ∧ On w w' := by
  have HT := Lib.hid hT
  have HE := Lib.hid hE
  have hM := fun W => imay_calls x P I B W
  rw [hm] at hM
  have HM := Lib.hid hM
  clear hT hE hm hM
  have B0 := Lib.hid (on_two w (.cells x.c 25) (.cells #[.int .i64 P, .int .i64 I, .int .i64 B] 27))
  go_enter Tryd.func6, Tryd.ntmps6
  go_wp2_with (fail)
  refine (HM.out _).mono ?_
  rintro e w1 ⟨rfl, hb1⟩
  have bw1 := B0.out.trans hb1
  clear hb1 B0
  go_wp2_with (fail)
  refine (alive_calls _ (HT.out.below bw1) (HE.out.below bw1)).mono ?_
  rintro e w6 ⟨rfl, hb6⟩
  go_wp2_with (fail)
  go_ret
  exact ⟨rfl, bw1.trans hb6⟩
theorem iroom_calls (x : Ino) (P I B : Int) (n m : Int) (w : World) (hx : Typ x) (n0 : 0 ≤ n) (n1 : n < 256) (m0 : 0 ≤ m) (m1 : m < 256) (hT : TabAt w) (hE : ErrAt w) :
    Calls Tryd.prog 6 #[x.v, gv P I B, .int .u8 n, .int .u8 m] w fun e w' => e = .returned (.bool true) ∧ Below w.heap.size w w' := by
  obtain ⟨n, rfl⟩ := Int.eq_ofNat_of_zero_le n0
  obtain ⟨m, rfl⟩ := Int.eq_ofNat_of_zero_le m0
  cases hm : mayB x P I B with
  | true => exact iroom_good x P I B n m w hx.G hm (by omega) (by omega) hT hE
  | false => exact iroom_bad x P I B n m w hm hT hE
end Go.Proofs.YtppnicdhahgigaaDoor
