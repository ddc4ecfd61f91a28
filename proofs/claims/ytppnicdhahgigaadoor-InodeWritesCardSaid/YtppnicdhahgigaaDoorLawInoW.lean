/- InodeWrites: whatever it is called with, it hands back true; nothing that was there has turned. -/
import Derived.Test.YtppnicdhahgigaaDoorLawIno0
namespace Go.Proofs.YtppnicdhahgigaaDoor
open Go.RowKit SumMath WordMath
set_option maxRecDepth 100000 in
set_option maxHeartbeats 2000000 in
theorem iwrites_good (x : Ino) (P I B : Int) (w : World) (hx : Typ x) (hm : mayB x P I B = true) (hT : TabAt w) (hE : ErrAt w) :
    Calls Tryd.prog 3 #[x.v, gv P I B] w fun e w' => e = .returned (.bool true) ∧ On w w' := by
  have HT := Lib.hid hT
  have HE := Lib.hid hE
  have hroom := may_room hx.G hm
  have hR := fun W => rmay_calls x P I B W hx
  have hI := fun W => imay_calls x P I B W
  rw [hm] at hR hI
  have hE1 := fun W hW => encode_own x P I B W hroom.small hm hW
  have hE2 := fun W => rencode_calls x W hroom.small hroom.other
  have hlen := sealed_wL_length x
  generalize sealed (wL x) = l at *
  have kss := Lib.hid (sameV_self l)
  have HR := Lib.hid hR
  have HI := Lib.hid hI
  have HE1 := Lib.hid hE1
  have HE2 := Lib.hid hE2
  have HL := Lib.hid hlen
  clear hT hE hx hm hroom hR hI hE1 hE2 hlen
  have b0 := on_two w (.cells x.c 25) (.cells #[.int .i64 P, .int .i64 I, .int .i64 B] 27)
  have t0 := Two.new w x P I B
  have B0 := Lib.hid b0
  have T0 := Lib.hid t0
  clear b0 t0
  go_enter Tryd.func3, Tryd.ntmps3
  go_wp2_with (fail)
  refine (HE1.out _ (HT.out.below B0.out)).mono ?_
  rintro e w1 ⟨A1, c1, rfl, hr1, hf1, hb1, hc1, _⟩
  have bw1 := B0.out.trans hb1
  have t1 := T0.out.on hb1
  obtain ⟨x0, x1, x2, x3, x4, x5, x6, x7, x8, x9, x10, x11, x12⟩ := t1.ino.cells
  obtain ⟨g0, g1, g2⟩ := three_cells t1.geo
  have hlx := t1.ino.lt
  have hlg := lt_of_cells t1.geo
  rw [HL.out]
  clear hb1 hc1 hf1 B0 T0
  go_wp2_with (fail)
  clear x0 x1 x2 x3 x4 x5 x6 x7 x8 x9 x10 x11 x12 g0 g1 g2 hlx hlg
  refine (HR.out _).mono ?_
  rintro e w2 ⟨rfl, hb2⟩
  have bw2 := bw1.trans hb2
  have t2 := t1.on hb2
  have hr2 := hr1.below hb2
  obtain ⟨x0, x1, x2, x3, x4, x5, x6, x7, x8, x9, x10, x11, x12⟩ := t2.ino.cells
  obtain ⟨g0, g1, g2⟩ := three_cells t2.geo
  have hlx := t2.ino.lt
  have hlg := lt_of_cells t2.geo
  clear hb2 t1 bw1 hr1
  go_wp2_with (fail)
  clear x0 x1 x2 x3 x4 x5 x6 x7 x8 x9 x10 x11 x12 g0 g1 g2 hlx hlg
  refine (HI.out _).mono ?_
  rintro e w3 ⟨rfl, hb3⟩
  have bw3 := bw2.trans hb3
  have t3 := t2.on hb3
  have hr3 := hr2.below hb3
  obtain ⟨x0, x1, x2, x3, x4, x5, x6, x7, x8, x9, x10, x11, x12⟩ := t3.ino.cells
  obtain ⟨g0, g1, g2⟩ := three_cells t3.geo
  have hlx := t3.ino.lt
  have hlg := lt_of_cells t3.geo
  clear hb3 t2 bw2 hr2
  go_wp2_with (fail)
  clear x0 x1 x2 x3 x4 x5 x6 x7 x8 x9 x10 x11 x12 g0 g1 g2 hlx hlg
  refine (HE2.out _).mono ?_
  rintro e w4 ⟨A4, c4, rfl, hr4, hf4, hb4, hc4⟩
  have bw4 := bw3.trans hb4
  have hr14 := hr3.below hb4
  clear hb4 t3 bw3 hr3 hf4 hc4
  have hS := same_calls A1 A4 l l c1 c4 w4 hr14 hr4 (by rw [HL.out]; decide) (by rw [HL.out]; decide)
  rw [HL.out, kss.out] at hS
  have HS := Lib.hid hS
  clear hS hr14 hr4
  go_wp2_with (fail)
  refine HS.out.mono ?_
  rintro e w5 ⟨rfl, m, rfl⟩
  have bw5 := bw4.trans (on_drewN w4 m)
  clear bw4 HS
  go_wp2_with (fail)
  refine (alive_calls _ (HT.out.below bw5) (HE.out.below bw5)).mono ?_
  rintro e w6 ⟨rfl, hb6⟩
  go_wp2_with (fail)
  go_ret
  exact ⟨rfl, bw5.trans hb6⟩
set_option maxRecDepth 100000 in
set_option maxHeartbeats 2000000 in
theorem iwrites_bad (x : Ino) (P I B : Int) (w : World) (hx : Typ x) (hm : mayB x P I B = false) (hT : TabAt w) (hE : ErrAt w) :
    Calls Tryd.prog 3 #[x.v, gv P I B] w fun e w' => e = .returned (.bool true) ∧ On w w' := by
  have HT := Lib.hid hT
  have HE := Lib.hid hE
  have hR := fun W => rmay_calls x P I B W hx
  have hI := fun W => imay_calls x P I B W
  rw [hm] at hR hI
  have hE1 := fun W => encode_bad x P I B W hm
  have HR := Lib.hid hR
  have HI := Lib.hid hI
  have HE1 := Lib.hid hE1
  clear hT hE hx hm hR hI hE1
  have b0 := on_two w (.cells x.c 25) (.cells #[.int .i64 P, .int .i64 I, .int .i64 B] 27)
  have t0 := Two.new w x P I B
  have B0 := Lib.hid b0
  have T0 := Lib.hid t0
  clear b0 t0
  go_enter Tryd.func3, Tryd.ntmps3
  go_wp2_with (fail)
  refine (HE1.out _).mono ?_
  rintro e w1 ⟨rfl, hb1⟩
  have bw1 := B0.out.trans hb1
  have t1 := T0.out.on hb1
  obtain ⟨x0, x1, x2, x3, x4, x5, x6, x7, x8, x9, x10, x11, x12⟩ := t1.ino.cells
  obtain ⟨g0, g1, g2⟩ := three_cells t1.geo
  have hlx := t1.ino.lt
  have hlg := lt_of_cells t1.geo
  clear hb1 B0 T0
  go_wp2_with (fail)
  clear x0 x1 x2 x3 x4 x5 x6 x7 x8 x9 x10 x11 x12 g0 g1 g2 hlx hlg
  refine (HR.out _).mono ?_
  rintro e w2 ⟨rfl, hb2⟩
  have bw2 := bw1.trans hb2
  have t2 := t1.on hb2
  obtain ⟨x0, x1, x2, x3, x4, x5, x6, x7, x8, x9, x10, x11, x12⟩ := t2.ino.cells
  obtain ⟨g0, g1, g2⟩ := three_cells t2.geo
  have hlx := t2.ino.lt
  have hlg := lt_of_cells t2.geo
  clear hb2 t1 bw1
  go_wp2_with (fail)
  clear x0 x1 x2 x3 x4 x5 x6 x7 x8 x9 x10 x11 x12 g0 g1 g2 hlx hlg
  refine (HI.out _).mono ?_
  rintro e w3 ⟨rfl, hb3⟩
  have bw3 := bw2.trans hb3
  clear hb3 t2 bw2
  go_wp2_with (fail)
  refine (alive_calls _ (HT.out.below bw3) (HE.out.below bw3)).mono ?_
  rintro e w6 ⟨rfl, hb6⟩
  go_wp2_with (fail)
  go_ret
  exact ⟨rfl, bw3.trans hb6⟩
theorem iwrites_calls (x : Ino) (P I B : Int) (w : World) (hx : Typ x) (hT : TabAt w) (hE : ErrAt w) :
    Calls Tryd.prog 3 #[x.v, gv P I B] w fun e w' => e = .returned (.bool true) ∧ Below w.heap.size w w' := by
  cases hm : mayB x P I B with
  | true => exact iwrites_good x P I B w hx hm hT hE
  | false => exact iwrites_bad x P I B w hx hm hT hE
end Go.Proofs.YtppnicdhahgigaaDoor
