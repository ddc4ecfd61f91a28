/- The document's own superblock: what Encode hands back. -/
import Derived.Test.YtgedahjifbopcaaDoorSup5
import Derived.Test.YtgedahjifbopcaaDoorRefPackS
import Derived.Test.YtgedahjifbopcaaDoorGeoMay
namespace Go.Proofs.YtgedahjifbopcaaDoor
open Go.RowKit SumMath WordMath
theorem rpack_title_calls (w : World) : Calls Tryd.prog 18 #[.string titleS] w (GivesRow [titleW] w) := by
  have h := rpack_calls titleS w (by decide)
  rw [pack_title] at h
  exact h
theorem form_calls (k : Int) (w : World) : Calls Tryd.prog 31 #[.int .i64 k] w fun e w' => e = .returned (.agg #[.int .i64 k, .int .i64 7]) ∧ Below w.heap.size w w' := by
  go_enter Tryd.func31, Tryd.ntmps31
  go_wp2
  exact bodyPost_ret (v := .agg #[.int .i64 k, .int .i64 7]) (by simp [results, Tryd.results31, go_sem]) rfl ⟨rfl, (Below.refl _ _).alloc (Nat.le_refl _) _⟩
set_option maxRecDepth 100000 in
set_option maxHeartbeats 1000000 in
theorem rencode_calls (P I B : Nat) (hi : Bool) (w : World) (hf : Fits P I B (hN hi)) :
    Calls Tryd.prog 11 #[gv P I B, .bool hi] w (Gives (superL P I B (hN hi)) w) := by
  have hmk : ∀ w : World, (Instr.makeSlice 24 (.int .i64 7) (.int .i64 7)).run Tryd.prog w = .ok (.slice (some ⟨w.heap.size, 0, none⟩) 7 7) (w.alloc (.cells (madeCells #[.int .u64 0] 7) 42)) := run_make_row' (P := Tryd.prog) 24 42 (.int .u64 0) 8 Tryd.underlying24 u64_info rfl .i64 .i64 7 (by decide) (by decide)
  have hB1 := Blk.new (w.alloc (.cells #[.int .i64 (P : Nat), .int .i64 (I : Nat), .int .i64 (B : Nat)] 23)) 42 7
  rw [World.size_alloc] at hB1
  have hG1 : ((w.alloc (.cells #[.int .i64 (P : Nat), .int .i64 (I : Nat), .int .i64 (B : Nat)] 23)).alloc (.cells (madeCells #[.int .u64 0] 7) 42)).heap[w.heap.size]? = some (.cells #[.int .i64 (P : Nat), .int .i64 (I : Nat), .int .i64 (B : Nat)] 23) :=
    (Below.heap_alloc _ _ _ (by simp)).trans (heap_alloc_new w _)
  have hb1 : Below w.heap.size w ((w.alloc (.cells #[.int .i64 (P : Nat), .int .i64 (I : Nat), .int .i64 (B : Nat)] 23)).alloc (.cells (madeCells #[.int .u64 0] 7) 42)) := ((Below.refl _ _).alloc (Nat.le_refl _) _).alloc (by simp) _
  have H1 := Lib.hid hB1
  have H2 := Lib.hid hG1
  have H3 := Lib.hid hb1
  have hf := Lib.hid hf
  obtain ⟨p1, p2, p3, p4⟩ := hf.out
  clear hB1 hG1 hb1
  go_enter Tryd.func11, Tryd.ntmps11
  go_wp2_with (fail)
  refine (rpack_title_calls _).mono ?_
  rintro e w2 ⟨A2, c2, rfl, hr2, hf2, hb2⟩
  have hB2 := H1.out.below hb2 (by simp)
  have hG2 := (hb2.block w.heap.size (by simp; omega)).trans H2.out
  have hb12 := H3.out.trans (hb2.mono H3.out.size)
  obtain ⟨ad, rfl, hl2, hc2⟩ := hr2 (by decide)
  obtain ⟨g2, rfl, hg2⟩ := hf2 _ rfl
  have d0 : w2.cell? ⟨g2, 0, none⟩ = some (.int .u64 (titleW : Nat)) := hc2 0 (by decide)
  have b0 := hB2.cell 0 (by decide)
  have b1 := hB2.cell 1 (by decide)
  have f0 := hB2.frozen 0
  have f1 := hB2.frozen 1
  have hS := Lib.hid (hB2.set 0 titleW)
  obtain ⟨g0, g1, g3⟩ := three_cells hG2
  have hlt := lt_of_cells hG2
  have hlt1 := hB2.lt
  have hG2 := Lib.hid hG2
  clear hmk hc2 hb2 hr2 hf2
  simp at hg2
  have e1 : Hid (((P : Int) + (I : Int) * 65536 + (B : Int) * 4294967296) = ((P + 65536 * I + 4294967296 * B : Nat) : Int)) := Lib.hid (by omega)
  have e2 : Hid (((P + 65536 * I + 4294967296 * B : Nat) : Int) + 281474976710656 = ((P + 65536 * I + 4294967296 * B + 281474976710656 : Nat) : Int)) := Lib.hid (by omega)
  cases hi
  · have hS2 := Lib.hid (hS.out.set 1 (P + 65536 * I + 4294967296 * B))
    have hbw := Lib.hid ((hb12.setCell (p := ⟨w.heap.size + 1, 0, none⟩) (by simp) (.int .u64 (titleW : Nat))).setCell (p := ⟨w.heap.size + 1, 1, none⟩) (by simp) (.int .u64 ((P + 65536 * I + 4294967296 * B : Nat) : Int)))
    have hls : Hid ((supL P I B 0).length = 7) := Lib.hid rfl
    go_wp2_with (fail)
    rw [e1.out]
    have hrow : Row _ (some ⟨w.heap.size + 1, 0, none⟩) (supL P I B 0) := hS2.out.row
    refine (rseal_calls (some ⟨w.heap.size + 1, 0, none⟩) (supL P I B 0) 7 _ hrow (sup_wd hf.out) (by rw [hls.out]; decide)).mono ?_
    rintro e w9 ⟨A9, c9, rfl, hr9, hf9, hb9, hc9⟩
    go_wp2_with (fail)
    go_ret
    have hz := hbw.out.size
    exact ⟨A9, c9, rfl, hr9, hf9.mono hz, hbw.out.trans (hb9.mono hz), hc9⟩
  · have hS2 := hS.out.set 1 (P + 65536 * I + 4294967296 * B)
    have c1 := hS2.cell 1 (by simp)
    have l1 := hS2.lt
    have q1 := hS2.frozen 1
    have hS3 := Lib.hid (hS2.set 1 (P + 65536 * I + 4294967296 * B + 281474976710656))
    have hS2 := Lib.hid hS2
    have hbw := Lib.hid (((hb12.setCell (p := ⟨w.heap.size + 1, 0, none⟩) (by simp) (.int .u64 (titleW : Nat))).setCell (p := ⟨w.heap.size + 1, 1, none⟩) (by simp) (.int .u64 ((P + 65536 * I + 4294967296 * B : Nat) : Int))).setCell (p := ⟨w.heap.size + 1, 1, none⟩) (by simp) (.int .u64 ((P + 65536 * I + 4294967296 * B + 281474976710656 : Nat) : Int)))
    have hls : Hid ((supL P I B 1).length = 7) := Lib.hid rfl
    go_wp2_with (fail)
    rw [e1.out, e2.out]
    have hrow : Row _ (some ⟨w.heap.size + 1, 0, none⟩) (supL P I B 1) := hS3.out.row
    refine (rseal_calls (some ⟨w.heap.size + 1, 0, none⟩) (supL P I B 1) 7 _ hrow (sup_wd hf.out) (by rw [hls.out]; decide)).mono ?_
    rintro e w9 ⟨A9, c9, rfl, hr9, hf9, hb9, hc9⟩
    go_wp2_with (fail)
    go_ret
    have hz := hbw.out.size
    exact ⟨A9, c9, rfl, hr9, hf9.mono hz, hbw.out.trans (hb9.mono hz), hc9⟩
end Go.Proofs.YtgedahjifbopcaaDoor
