/- 'alive' hands back true: a superblock there and back. -/
import Derived.Test.YtgedahjifbopcaaDoorTold
namespace Go.Proofs.YtgedahjifbopcaaDoor
open Go.RowKit SumMath WordMath
theorem gok_ex : GOK (3 : Nat) (5 : Nat) (9 : Nat) := by unfold GOK; omega
/-- The words of the example. -/
structure Ex (l : List Nat) : Prop where
  len : l.length = 8
  w0 : l.getD 0 0 = 7310309131468038512
  w1 : l.getD 1 0 = 281513631744003
  wd : Wd l
  good : badAt l = none
theorem ex_it : Ex (superL 3 5 9 1) := ⟨rfl, rfl, rfl, super_wd (gok_fits (hi := true) gok_ex), (super_good (gok_fits (hi := true) gok_ex) gok_ex).1⟩
theorem enc_ex (w : World) (hT : TabAt w) : Calls Tryd.prog 7 #[gv 3 5 9, .bool true] w fun e w' => ∃ l, Ex l ∧ GivesOk l w e w' :=
  (encode_ok 3 5 9 true w gok_ex hT).mono fun _e _w' h => ⟨_, ex_it, h⟩
theorem dec_ex (A : Option Addr) (l : List Nat) (c : Nat) (w : World) (h : Ex l) (hr : Row w A l) (hcap : l.length ≤ c) (hT : TabAt w) :
    Calls Tryd.prog 14 #[.slice A 8 c] w fun e w' => e = .returned (.tuple #[gv 3 5 9, .bool true, .nilIface]) ∧ Below w.heap.size w w' := by
  have hd := decode_good A l c w h.good hr h.wd hcap hT
  rw [h.w1, h.len] at hd
  exact hd
theorem dec_zero (A : Option Addr) (c : Nat) (w : World) (hr : Row w A [0, 0, 0, 0, 0, 0, 0, 0]) (hcap : 8 ≤ c) (hT : TabAt w) (hE : ErrAt w) :
    Calls Tryd.prog 14 #[.slice A 8 c] w fun e w' => e = .returned (.tuple #[gv 0 0 0, .bool false, errV (some 0)]) ∧ Below w.heap.size w w' :=
  decode_bad A [0, 0, 0, 0, 0, 0, 0, 0] c w 0 (bad_title (by decide)) hr (Wd.of_mem fun x hx => by simp at hx; omega) hcap hT hE
set_option maxRecDepth 100000 in
set_option maxHeartbeats 1000000 in
theorem alive_calls (w : World) (hT : TabAt w) (hE : ErrAt w) : Calls Tryd.prog 9 #[] w fun e w' => e = .returned (.bool true) ∧ Below w.heap.size w w' := by
  have HT := Lib.hid hT
  have HE := Lib.hid hE
  clear hT hE
  have hmk : ∀ w : World, (Instr.makeSlice 24 (.int .i64 8) (.int .i64 8)).run Tryd.prog w = .ok (.slice (some ⟨w.heap.size, 0, none⟩) 8 8) (w.alloc (.cells (madeCells #[.int .u64 0] 8) 42)) := run_make_row' (P := Tryd.prog) 24 42 (.int .u64 0) 8 Tryd.underlying24 u64_info rfl .i64 .i64 8 (by decide) (by decide)
  go_enter Tryd.func9, Tryd.ntmps9
  go_wp2_with (fail)
  have hon1 : Below w.heap.size w (w.alloc (.cells #[.int .i64 3, .int .i64 5, .int .i64 9] 23)) := (Below.refl _ _).alloc (Nat.le_refl _) _
  refine (enc_ex _ (HT.out.below hon1)).mono ?_
  rintro e w1 ⟨l, hx, A1, c1, rfl, hr1, hf1, hb1, hc1⟩
  have bw1 := hon1.trans (hb1.mono hon1.size)
  have G1 := Lib.hid (alloc_later hb1)
  have hlen := Lib.hid hx.len
  have HX := Lib.hid hx
  have hc1 := Lib.hid hc1
  rw [hlen.out]
  clear hb1 hon1 hx
  go_wp2_with (fail)
  refine (dec_ex A1 l c1 w1 HX.out hr1 hc1.out (HT.out.below bw1)).mono ?_
  rintro e w2 ⟨rfl, hb2⟩
  have bw2 := bw1.trans (hb2.mono bw1.size)
  have hr2 := hr1.below hb2
  have G2 := Lib.hid ((hb2.block _ (lt_of_cells G1.out)).trans G1.out)
  clear hr1 hb2 bw1 G1
  go_wp2_with (fail)
  have hon3 : Below w2.heap.size w2 (((w2.alloc (.cells #[.int .i64 3, .int .i64 5, .int .i64 9] 23)).alloc (.cells (madeCells #[.int .u64 0] 8) 42))) := ((Below.refl _ _).alloc (Nat.le_refl _) _).alloc (by simp) _
  have bw3 := bw2.trans (hon3.mono bw2.size)
  have hB3 := Blk.new (w2.alloc (.cells #[.int .i64 3, .int .i64 5, .int .i64 9] 23)) 42 8
  rw [World.size_alloc] at hB3
  have hr3 := hr2.below hon3
  have G3 := Lib.hid ((hon3.block _ (lt_of_cells G2.out)).trans G2.out)
  have X3 : ((w2.alloc (.cells #[.int .i64 3, .int .i64 5, .int .i64 9] 23)).alloc (.cells (madeCells #[.int .u64 0] 8) 42)).heap[w2.heap.size]? = some (.cells #[.int .i64 3, .int .i64 5, .int .i64 9] 23) :=
    (Below.heap_alloc _ _ _ (by simp)).trans (heap_alloc_new w2 _)
  have X3 := Lib.hid X3
  refine (dec_zero (some ⟨w2.heap.size + 1, 0, none⟩) 8 _ hB3.row (Nat.le_refl _) (HT.out.below bw3) (HE.out.below bw3)).mono ?_
  rintro e w4 ⟨rfl, hb4⟩
  have bw4 := bw3.trans (hb4.mono bw3.size)
  have hr4 := hr3.below hb4
  have G4 := (hb4.block _ (lt_of_cells G3.out)).trans G3.out
  have X4 := (hb4.block _ (lt_of_cells X3.out)).trans X3.out
  clear hr2 hr3 hb4 hon3 bw2 bw3 hB3 G2 G3 X3 hmk
  obtain ⟨a0, a1, a2⟩ := three_cells G4
  obtain ⟨x0, x1, x2⟩ := three_cells X4
  have la := lt_of_cells G4
  have lx := lt_of_cells X4
  obtain ⟨ad, rfl, hlr, hcs⟩ := hr4 (by rw [hlen.out]; decide)
  obtain ⟨g1, rfl, _⟩ := hf1 _ rfl
  have d0 : w4.cell? ⟨g1, 0, none⟩ = some (.int .u64 (l.getD 0 0 : Nat)) := hcs 0 (by rw [hlen.out]; decide)
  have d1 : w4.cell? ⟨g1, 1, none⟩ = some (.int .u64 (l.getD 1 0 : Nat)) := hcs 1 (by rw [hlen.out]; decide)
  rw [HX.out.w0] at d0
  rw [HX.out.w1] at d1
  clear hcs hr4 hf1 G4 X4
  have hon5 : Below w4.heap.size w4 (w4.alloc (.cells #[.int .i64 0, .int .i64 0, .int .i64 0] 23)) := (Below.refl _ _).alloc (Nat.le_refl _) _
  have bw5 := bw4.trans (hon5.mono bw4.size)
  have HE5 := Lib.hid (HE.out.below bw5)
  have bw5 := Lib.hid bw5
  clear hon5 bw4
  have hTold := Lib.hid (told_calls (some 0))
  unfold errV fV at hTold
  unfold errV
  go_wp2_with (fail)
  refine (hTold.out _ HE5.out).mono ?_
  rintro e w6 ⟨rfl, hb6⟩
  go_wp2_with (fail)
  go_ret
  exact ⟨rfl, bw5.out.trans (hb6.mono bw5.out.size)⟩
end Go.Proofs.YtgedahjifbopcaaDoor
