/- The document's own words of a record. -/
import Derived.Test.YtppnicdhahgigaaDoorIno7
import Derived.Test.YtppnicdhahgigaaDoorGeoMay
namespace Go.Proofs.YtppnicdhahgigaaDoor
open Go.RowKit WordMath SumMath
set_option maxRecDepth 100000 in
set_option maxHeartbeats 2000000 in
theorem words_go (x : Ino) (w : World) (xk xl xg s a m p t c h0 h1 h2 h3 : Nat) (eK : IntKind.u64.wrap x.K = xk) (eL : IntKind.u64.wrap x.L = xl) (eG : IntKind.u64.wrap x.G = xg)
    (eS : IntKind.u64.wrap x.S = s) (eA : IntKind.u64.wrap x.A = a) (eM : IntKind.u64.wrap x.M = m) (eP : IntKind.u64.wrap x.P = p) (eT : IntKind.u64.wrap x.T = t) (eC : IntKind.u64.wrap x.C = c)
    (eH0 : IntKind.u64.wrap x.H0 = h0) (eH1 : IntKind.u64.wrap x.H1 = h1) (eH2 : IntKind.u64.wrap x.H2 = h2) (eH3 : IntKind.u64.wrap x.H3 = h3)
    (lK : xk < 256) (lL : xl < 256) (lG : xg < 4294967296) (lH0 : h0 < 256) (lH1 : h1 < 256) (lH2 : h2 < 256) (lH3 : h3 < 256) (hs0 : m + h0 < 18446744073709551616) (hs1 : m + h0 + 256 * h1 < 18446744073709551616) (hs2 : m + h0 + 256 * h1 + 65536 * h2 < 18446744073709551616) (hs3 : m + h0 + 256 * h1 + 65536 * h2 + 16777216 * h3 < 18446744073709551616) :
    Calls Tryd.prog 23 #[x.v] w fun e w' => ∃ g, e = .returned (.slice (some ⟨g, 0, none⟩) 7 7) ∧ w.heap.size ≤ g ∧ Blk 44 w' g [xk + 256 * xl + 4294967296 * xg, s, a, m + h0 + 256 * h1 + 65536 * h2 + 16777216 * h3, p, t, c] ∧ Below w.heap.size w w' := by
  have hmk : ∀ w : World, (Instr.makeSlice 28 (.int .i64 7) (.int .i64 7)).run Tryd.prog w = .ok (.slice (some ⟨w.heap.size, 0, none⟩) 7 7) (w.alloc (.cells (madeCells #[.int .u64 0] 7) 44)) := run_make_row' (P := Tryd.prog) 28 44 (.int .u64 0) 8 Tryd.underlying28 u64_info rfl .i64 .i64 7 (by decide) (by decide)
  obtain ⟨W, hW⟩ : ∃ W, W = (w.alloc (.cells x.c 25)).alloc (.cells (madeCells #[.int .u64 0] 7) 44) := ⟨_, rfl⟩
  have hB : Blk 44 W (w.heap.size + 1) [0, 0, 0, 0, 0, 0, 0] := by
    have h := Blk.new (w.alloc (.cells x.c 25)) 44 7
    rw [World.size_alloc, ← hW] at h
    exact h
  have ix : Ib W w.heap.size x := by
    rw [hW]
    exact (Ib.new w x).below (k := w.heap.size + 1) ((Below.refl _ _).alloc (by simp) _) (by omega)
  have bw : Below w.heap.size w W := by rw [hW]; exact ((Below.refl _ _).alloc (Nat.le_refl _) _).alloc (by simp) _
  have HB := Lib.hid hB
  have HX := Lib.hid ix
  have HW := Lib.hid hW
  clear hB ix hW
  have lKi : (xk : Int) < 256 := by omega
  have lLi : (xl : Int) < 256 := by omega
  have lGi : (xg : Int) < 4294967296 := by omega
  have lHi0 : (h0 : Int) < 256 := by omega
  have lHi1 : (h1 : Int) < 256 := by omega
  have lHi2 : (h2 : Int) < 256 := by omega
  have lHi3 : (h3 : Int) < 256 := by omega
  clear lK lL lG lH0 lH1 lH2 lH3
  go_enter Tryd.func23, Tryd.ntmps23
  go_upto_region 2 with (fail)
  rw [← HW.out]
  clear HW hmk
  obtain ⟨x0, x1, x2, x3, x4, x5, x6, x7, x8, x9, x10, x11, x12⟩ := HX.out.cells
  have f0 := HB.out.frozen 0
  have b0 : W.cell? ⟨w.heap.size + 1, 0, none⟩ = some (.int .u64 ((0 : Nat) : Int)) := HB.out.cell 0 (by simp)
  have hlB := HB.out.lt
  have hlX := HX.out.lt
  go_upto_region 3 with (fail)
  have E1 : (xk : Int) + xl * 256 + xg * 4294967296 = ((xk + 256 * xl + 4294967296 * xg : Nat) : Int) := by omega
  rw [E1]
  have B1 : Blk 44 ((W.setCell ⟨w.heap.size + 1, 0, none⟩ (.int .u64 ((xk + 256 * xl + 4294967296 * xg : Nat) : Int)))) (w.heap.size + 1) [xk + 256 * xl + 4294967296 * xg, 0, 0, 0, 0, 0, 0] := HB.out.set 0 (xk + 256 * xl + 4294967296 * xg)
  have X1 : Ib ((W.setCell ⟨w.heap.size + 1, 0, none⟩ (.int .u64 ((xk + 256 * xl + 4294967296 * xg : Nat) : Int)))) w.heap.size x := HX.out.below ((Below.refl (w.heap.size + 1) _).setCell (Nat.le_refl _) _) (by omega)
  have bw1 : Below w.heap.size w ((W.setCell ⟨w.heap.size + 1, 0, none⟩ (.int .u64 ((xk + 256 * xl + 4294967296 * xg : Nat) : Int)))) := bw.setCell (p := ⟨w.heap.size + 1, 0, none⟩) (show w.heap.size ≤ w.heap.size + 1 by omega) _
  have HB1 := Lib.hid B1
  have HX1 := Lib.hid X1
  clear x0 x1 x2 x3 x4 x5 x6 x7 x8 x9 x10 x11 x12 f0 b0 hlB hlX
  clear B1 X1 HB HX bw E1
  generalize (W.setCell ⟨w.heap.size + 1, 0, none⟩ (.int .u64 ((xk + 256 * xl + 4294967296 * xg : Nat) : Int))) = W1 at *
  obtain ⟨x0, x1, x2, x3, x4, x5, x6, x7, x8, x9, x10, x11, x12⟩ := HX1.out.cells
  have f0 := HB1.out.frozen 1
  have b0 : W1.cell? ⟨w.heap.size + 1, 1, none⟩ = some (.int .u64 ((0 : Nat) : Int)) := HB1.out.cell 1 (by simp)
  have hlB := HB1.out.lt
  have hlX := HX1.out.lt
  go_upto_region 4 with (fail)
  have B2 : Blk 44 ((W1.setCell ⟨w.heap.size + 1, 1, none⟩ (.int .u64 ((s : Nat) : Int)))) (w.heap.size + 1) [xk + 256 * xl + 4294967296 * xg, s, 0, 0, 0, 0, 0] := HB1.out.set 1 (s)
  have X2 : Ib ((W1.setCell ⟨w.heap.size + 1, 1, none⟩ (.int .u64 ((s : Nat) : Int)))) w.heap.size x := HX1.out.below ((Below.refl (w.heap.size + 1) _).setCell (Nat.le_refl _) _) (by omega)
  have bw2 : Below w.heap.size w ((W1.setCell ⟨w.heap.size + 1, 1, none⟩ (.int .u64 ((s : Nat) : Int)))) := bw1.setCell (p := ⟨w.heap.size + 1, 1, none⟩) (show w.heap.size ≤ w.heap.size + 1 by omega) _
  have HB2 := Lib.hid B2
  have HX2 := Lib.hid X2
  clear x0 x1 x2 x3 x4 x5 x6 x7 x8 x9 x10 x11 x12 f0 b0 hlB hlX
  clear B2 X2 HB1 HX1 bw1
  generalize (W1.setCell ⟨w.heap.size + 1, 1, none⟩ (.int .u64 ((s : Nat) : Int))) = W2 at *
  obtain ⟨x0, x1, x2, x3, x4, x5, x6, x7, x8, x9, x10, x11, x12⟩ := HX2.out.cells
  have f0 := HB2.out.frozen 2
  have b0 : W2.cell? ⟨w.heap.size + 1, 2, none⟩ = some (.int .u64 ((0 : Nat) : Int)) := HB2.out.cell 2 (by simp)
  have hlB := HB2.out.lt
  have hlX := HX2.out.lt
  go_upto_region 5 with (fail)
  have B3 : Blk 44 ((W2.setCell ⟨w.heap.size + 1, 2, none⟩ (.int .u64 ((a : Nat) : Int)))) (w.heap.size + 1) [xk + 256 * xl + 4294967296 * xg, s, a, 0, 0, 0, 0] := HB2.out.set 2 (a)
  have X3 : Ib ((W2.setCell ⟨w.heap.size + 1, 2, none⟩ (.int .u64 ((a : Nat) : Int)))) w.heap.size x := HX2.out.below ((Below.refl (w.heap.size + 1) _).setCell (Nat.le_refl _) _) (by omega)
  have bw3 : Below w.heap.size w ((W2.setCell ⟨w.heap.size + 1, 2, none⟩ (.int .u64 ((a : Nat) : Int)))) := bw2.setCell (p := ⟨w.heap.size + 1, 2, none⟩) (show w.heap.size ≤ w.heap.size + 1 by omega) _
  have HB3 := Lib.hid B3
  have HX3 := Lib.hid X3
  clear x0 x1 x2 x3 x4 x5 x6 x7 x8 x9 x10 x11 x12 f0 b0 hlB hlX
  clear B3 X3 HB2 HX2 bw2
  generalize (W2.setCell ⟨w.heap.size + 1, 2, none⟩ (.int .u64 ((a : Nat) : Int))) = W3 at *
  obtain ⟨x0, x1, x2, x3, x4, x5, x6, x7, x8, x9, x10, x11, x12⟩ := HX3.out.cells
  have f0 := HB3.out.frozen 3
  have b0 : W3.cell? ⟨w.heap.size + 1, 3, none⟩ = some (.int .u64 ((0 : Nat) : Int)) := HB3.out.cell 3 (by simp)
  have hlB := HB3.out.lt
  have hlX := HX3.out.lt
  go_upto_region 6 with (fail)
  have B4 : Blk 44 ((W3.setCell ⟨w.heap.size + 1, 3, none⟩ (.int .u64 ((m : Nat) : Int)))) (w.heap.size + 1) [xk + 256 * xl + 4294967296 * xg, s, a, m, 0, 0, 0] := HB3.out.set 3 (m)
  have X4 : Ib ((W3.setCell ⟨w.heap.size + 1, 3, none⟩ (.int .u64 ((m : Nat) : Int)))) w.heap.size x := HX3.out.below ((Below.refl (w.heap.size + 1) _).setCell (Nat.le_refl _) _) (by omega)
  have bw4 : Below w.heap.size w ((W3.setCell ⟨w.heap.size + 1, 3, none⟩ (.int .u64 ((m : Nat) : Int)))) := bw3.setCell (p := ⟨w.heap.size + 1, 3, none⟩) (show w.heap.size ≤ w.heap.size + 1 by omega) _
  have HB4 := Lib.hid B4
  have HX4 := Lib.hid X4
  clear x0 x1 x2 x3 x4 x5 x6 x7 x8 x9 x10 x11 x12 f0 b0 hlB hlX
  clear B4 X4 HB3 HX3 bw3
  generalize (W3.setCell ⟨w.heap.size + 1, 3, none⟩ (.int .u64 ((m : Nat) : Int))) = W4 at *
  obtain ⟨x0, x1, x2, x3, x4, x5, x6, x7, x8, x9, x10, x11, x12⟩ := HX4.out.cells
  have f0 := HB4.out.frozen 3
  have b0 : W4.cell? ⟨w.heap.size + 1, 3, none⟩ = some (.int .u64 ((m : Nat) : Int)) := HB4.out.cell 3 (by simp)
  have hlB := HB4.out.lt
  have hlX := HX4.out.lt
  go_wp2_with (fail)
  refine wp_loop_rounds 5 ?_
  rw [rounds_succ]
  go_upto_region 9 with (fail)
  go_region
  have E5 : (m : Int) + h0 = ((m + h0 : Nat) : Int) := by omega
  rw [E5]
  have B5 : Blk 44 ((W4.setCell ⟨w.heap.size + 1, 3, none⟩ (.int .u64 ((m + h0 : Nat) : Int))).drew) (w.heap.size + 1) [xk + 256 * xl + 4294967296 * xg, s, a, m + h0, 0, 0, 0] := HB4.out.set 3 (m + h0)
  have X5 : Ib ((W4.setCell ⟨w.heap.size + 1, 3, none⟩ (.int .u64 ((m + h0 : Nat) : Int))).drew) w.heap.size x := HX4.out.below (below_drewN ((Below.refl (w.heap.size + 1) _).setCell (Nat.le_refl _) _) 1) (by omega)
  have bw5 : Below w.heap.size w ((W4.setCell ⟨w.heap.size + 1, 3, none⟩ (.int .u64 ((m + h0 : Nat) : Int))).drew) := below_drewN (bw4.setCell (p := ⟨w.heap.size + 1, 3, none⟩) (show w.heap.size ≤ w.heap.size + 1 by omega) _) 1
  have HB5 := Lib.hid B5
  have HX5 := Lib.hid X5
  clear x0 x1 x2 x3 x4 x5 x6 x7 x8 x9 x10 x11 x12 f0 b0 hlB hlX
  clear B5 X5 HB4 HX4 bw4 E5
  generalize (W4.setCell ⟨w.heap.size + 1, 3, none⟩ (.int .u64 ((m + h0 : Nat) : Int))).drew = W5 at *
  obtain ⟨x0, x1, x2, x3, x4, x5, x6, x7, x8, x9, x10, x11, x12⟩ := HX5.out.cells
  have f0 := HB5.out.frozen 3
  have b0 : W5.cell? ⟨w.heap.size + 1, 3, none⟩ = some (.int .u64 ((m + h0 : Nat) : Int)) := HB5.out.cell 3 (by simp)
  have hlB := HB5.out.lt
  have hlX := HX5.out.lt
  go_wp2_with (fail)
  rw [rounds_succ]
  go_upto_region 9 with (fail)
  go_region
  have E6 : (m : Int) + h0 + h1 * 256 = ((m + h0 + 256 * h1 : Nat) : Int) := by omega
  rw [E6]
  have B6 : Blk 44 ((W5.setCell ⟨w.heap.size + 1, 3, none⟩ (.int .u64 ((m + h0 + 256 * h1 : Nat) : Int))).drew) (w.heap.size + 1) [xk + 256 * xl + 4294967296 * xg, s, a, m + h0 + 256 * h1, 0, 0, 0] := HB5.out.set 3 (m + h0 + 256 * h1)
  have X6 : Ib ((W5.setCell ⟨w.heap.size + 1, 3, none⟩ (.int .u64 ((m + h0 + 256 * h1 : Nat) : Int))).drew) w.heap.size x := HX5.out.below (below_drewN ((Below.refl (w.heap.size + 1) _).setCell (Nat.le_refl _) _) 1) (by omega)
  have bw6 : Below w.heap.size w ((W5.setCell ⟨w.heap.size + 1, 3, none⟩ (.int .u64 ((m + h0 + 256 * h1 : Nat) : Int))).drew) := below_drewN (bw5.setCell (p := ⟨w.heap.size + 1, 3, none⟩) (show w.heap.size ≤ w.heap.size + 1 by omega) _) 1
  have HB6 := Lib.hid B6
  have HX6 := Lib.hid X6
  clear x0 x1 x2 x3 x4 x5 x6 x7 x8 x9 x10 x11 x12 f0 b0 hlB hlX
  clear B6 X6 HB5 HX5 bw5 E6
  generalize (W5.setCell ⟨w.heap.size + 1, 3, none⟩ (.int .u64 ((m + h0 + 256 * h1 : Nat) : Int))).drew = W6 at *
  obtain ⟨x0, x1, x2, x3, x4, x5, x6, x7, x8, x9, x10, x11, x12⟩ := HX6.out.cells
  have f0 := HB6.out.frozen 3
  have b0 : W6.cell? ⟨w.heap.size + 1, 3, none⟩ = some (.int .u64 ((m + h0 + 256 * h1 : Nat) : Int)) := HB6.out.cell 3 (by simp)
  have hlB := HB6.out.lt
  have hlX := HX6.out.lt
  go_wp2_with (fail)
  rw [rounds_succ]
  go_upto_region 9 with (fail)
  go_region
  have E7 : (m : Int) + h0 + 256 * h1 + h2 * 65536 = ((m + h0 + 256 * h1 + 65536 * h2 : Nat) : Int) := by omega
  rw [E7]
  have B7 : Blk 44 ((W6.setCell ⟨w.heap.size + 1, 3, none⟩ (.int .u64 ((m + h0 + 256 * h1 + 65536 * h2 : Nat) : Int))).drew) (w.heap.size + 1) [xk + 256 * xl + 4294967296 * xg, s, a, m + h0 + 256 * h1 + 65536 * h2, 0, 0, 0] := HB6.out.set 3 (m + h0 + 256 * h1 + 65536 * h2)
  have X7 : Ib ((W6.setCell ⟨w.heap.size + 1, 3, none⟩ (.int .u64 ((m + h0 + 256 * h1 + 65536 * h2 : Nat) : Int))).drew) w.heap.size x := HX6.out.below (below_drewN ((Below.refl (w.heap.size + 1) _).setCell (Nat.le_refl _) _) 1) (by omega)
  have bw7 : Below w.heap.size w ((W6.setCell ⟨w.heap.size + 1, 3, none⟩ (.int .u64 ((m + h0 + 256 * h1 + 65536 * h2 : Nat) : Int))).drew) := below_drewN (bw6.setCell (p := ⟨w.heap.size + 1, 3, none⟩) (show w.heap.size ≤ w.heap.size + 1 by omega) _) 1
  have HB7 := Lib.hid B7
  have HX7 := Lib.hid X7
  clear x0 x1 x2 x3 x4 x5 x6 x7 x8 x9 x10 x11 x12 f0 b0 hlB hlX
  clear B7 X7 HB6 HX6 bw6 E7
  generalize (W6.setCell ⟨w.heap.size + 1, 3, none⟩ (.int .u64 ((m + h0 + 256 * h1 + 65536 * h2 : Nat) : Int))).drew = W7 at *
  obtain ⟨x0, x1, x2, x3, x4, x5, x6, x7, x8, x9, x10, x11, x12⟩ := HX7.out.cells
  have f0 := HB7.out.frozen 3
  have b0 : W7.cell? ⟨w.heap.size + 1, 3, none⟩ = some (.int .u64 ((m + h0 + 256 * h1 + 65536 * h2 : Nat) : Int)) := HB7.out.cell 3 (by simp)
  have hlB := HB7.out.lt
  have hlX := HX7.out.lt
  go_wp2_with (fail)
  rw [rounds_succ]
  go_upto_region 9 with (fail)
  go_region
  have E8 : (m : Int) + h0 + 256 * h1 + 65536 * h2 + h3 * 16777216 = ((m + h0 + 256 * h1 + 65536 * h2 + 16777216 * h3 : Nat) : Int) := by omega
  rw [E8]
  have B8 : Blk 44 ((W7.setCell ⟨w.heap.size + 1, 3, none⟩ (.int .u64 ((m + h0 + 256 * h1 + 65536 * h2 + 16777216 * h3 : Nat) : Int))).drew) (w.heap.size + 1) [xk + 256 * xl + 4294967296 * xg, s, a, m + h0 + 256 * h1 + 65536 * h2 + 16777216 * h3, 0, 0, 0] := HB7.out.set 3 (m + h0 + 256 * h1 + 65536 * h2 + 16777216 * h3)
  have X8 : Ib ((W7.setCell ⟨w.heap.size + 1, 3, none⟩ (.int .u64 ((m + h0 + 256 * h1 + 65536 * h2 + 16777216 * h3 : Nat) : Int))).drew) w.heap.size x := HX7.out.below (below_drewN ((Below.refl (w.heap.size + 1) _).setCell (Nat.le_refl _) _) 1) (by omega)
  have bw8 : Below w.heap.size w ((W7.setCell ⟨w.heap.size + 1, 3, none⟩ (.int .u64 ((m + h0 + 256 * h1 + 65536 * h2 + 16777216 * h3 : Nat) : Int))).drew) := below_drewN (bw7.setCell (p := ⟨w.heap.size + 1, 3, none⟩) (show w.heap.size ≤ w.heap.size + 1 by omega) _) 1
  have HB8 := Lib.hid B8
  have HX8 := Lib.hid X8
  clear x0 x1 x2 x3 x4 x5 x6 x7 x8 x9 x10 x11 x12 f0 b0 hlB hlX
  clear B8 X8 HB7 HX7 bw7 E8
  generalize (W7.setCell ⟨w.heap.size + 1, 3, none⟩ (.int .u64 ((m + h0 + 256 * h1 + 65536 * h2 + 16777216 * h3 : Nat) : Int))).drew = W8 at *
  go_wp2_with (fail)
  rw [rounds_succ]
  obtain ⟨x0, x1, x2, x3, x4, x5, x6, x7, x8, x9, x10, x11, x12⟩ := HX8.out.cells
  have f0 := HB8.out.frozen 4
  have b0 : W8.cell? ⟨w.heap.size + 1, 4, none⟩ = some (.int .u64 ((0 : Nat) : Int)) := HB8.out.cell 4 (by simp)
  have hlB := HB8.out.lt
  have hlX := HX8.out.lt
  go_upto_region 11 with (fail)
  have B9 : Blk 44 ((W8.setCell ⟨w.heap.size + 1, 4, none⟩ (.int .u64 ((p : Nat) : Int)))) (w.heap.size + 1) [xk + 256 * xl + 4294967296 * xg, s, a, m + h0 + 256 * h1 + 65536 * h2 + 16777216 * h3, p, 0, 0] := HB8.out.set 4 (p)
  have X9 : Ib ((W8.setCell ⟨w.heap.size + 1, 4, none⟩ (.int .u64 ((p : Nat) : Int)))) w.heap.size x := HX8.out.below ((Below.refl (w.heap.size + 1) _).setCell (Nat.le_refl _) _) (by omega)
  have bw9 : Below w.heap.size w ((W8.setCell ⟨w.heap.size + 1, 4, none⟩ (.int .u64 ((p : Nat) : Int)))) := bw8.setCell (p := ⟨w.heap.size + 1, 4, none⟩) (show w.heap.size ≤ w.heap.size + 1 by omega) _
  have HB9 := Lib.hid B9
  have HX9 := Lib.hid X9
  clear x0 x1 x2 x3 x4 x5 x6 x7 x8 x9 x10 x11 x12 f0 b0 hlB hlX
  clear B9 X9 HB8 HX8 bw8
  generalize (W8.setCell ⟨w.heap.size + 1, 4, none⟩ (.int .u64 ((p : Nat) : Int))) = W9 at *
  obtain ⟨x0, x1, x2, x3, x4, x5, x6, x7, x8, x9, x10, x11, x12⟩ := HX9.out.cells
  have f0 := HB9.out.frozen 5
  have b0 : W9.cell? ⟨w.heap.size + 1, 5, none⟩ = some (.int .u64 ((0 : Nat) : Int)) := HB9.out.cell 5 (by simp)
  have hlB := HB9.out.lt
  have hlX := HX9.out.lt
  go_upto_region 12 with (fail)
  have B10 : Blk 44 ((W9.setCell ⟨w.heap.size + 1, 5, none⟩ (.int .u64 ((t : Nat) : Int)))) (w.heap.size + 1) [xk + 256 * xl + 4294967296 * xg, s, a, m + h0 + 256 * h1 + 65536 * h2 + 16777216 * h3, p, t, 0] := HB9.out.set 5 (t)
  have X10 : Ib ((W9.setCell ⟨w.heap.size + 1, 5, none⟩ (.int .u64 ((t : Nat) : Int)))) w.heap.size x := HX9.out.below ((Below.refl (w.heap.size + 1) _).setCell (Nat.le_refl _) _) (by omega)
  have bw10 : Below w.heap.size w ((W9.setCell ⟨w.heap.size + 1, 5, none⟩ (.int .u64 ((t : Nat) : Int)))) := bw9.setCell (p := ⟨w.heap.size + 1, 5, none⟩) (show w.heap.size ≤ w.heap.size + 1 by omega) _
  have HB10 := Lib.hid B10
  have HX10 := Lib.hid X10
  clear x0 x1 x2 x3 x4 x5 x6 x7 x8 x9 x10 x11 x12 f0 b0 hlB hlX
  clear B10 X10 HB9 HX9 bw9
  generalize (W9.setCell ⟨w.heap.size + 1, 5, none⟩ (.int .u64 ((t : Nat) : Int))) = W10 at *
  obtain ⟨x0, x1, x2, x3, x4, x5, x6, x7, x8, x9, x10, x11, x12⟩ := HX10.out.cells
  have f0 := HB10.out.frozen 6
  have b0 : W10.cell? ⟨w.heap.size + 1, 6, none⟩ = some (.int .u64 ((0 : Nat) : Int)) := HB10.out.cell 6 (by simp)
  have hlB := HB10.out.lt
  have hlX := HX10.out.lt
  go_upto_region 13 with (fail)
  have B11 : Blk 44 ((W10.setCell ⟨w.heap.size + 1, 6, none⟩ (.int .u64 ((c : Nat) : Int)))) (w.heap.size + 1) [xk + 256 * xl + 4294967296 * xg, s, a, m + h0 + 256 * h1 + 65536 * h2 + 16777216 * h3, p, t, c] := HB10.out.set 6 (c)
  have X11 : Ib ((W10.setCell ⟨w.heap.size + 1, 6, none⟩ (.int .u64 ((c : Nat) : Int)))) w.heap.size x := HX10.out.below ((Below.refl (w.heap.size + 1) _).setCell (Nat.le_refl _) _) (by omega)
  have bw11 : Below w.heap.size w ((W10.setCell ⟨w.heap.size + 1, 6, none⟩ (.int .u64 ((c : Nat) : Int)))) := bw10.setCell (p := ⟨w.heap.size + 1, 6, none⟩) (show w.heap.size ≤ w.heap.size + 1 by omega) _
  have HB11 := Lib.hid B11
  have HX11 := Lib.hid X11
  clear x0 x1 x2 x3 x4 x5 x6 x7 x8 x9 x10 x11 x12 f0 b0 hlB hlX
  clear B11 X11 HB10 HX10 bw10
  generalize (W10.setCell ⟨w.heap.size + 1, 6, none⟩ (.int .u64 ((c : Nat) : Int))) = W11 at *
  go_wp2_with (fail)
  go_ret
  exact ⟨w.heap.size + 1, rfl, by omega, HB11.out, bw11⟩
/-- The document's Words, of a record that has room. -/
theorem iwords_calls (x : Ino) (w : World) (hx : Small x) (hd : ¬ x.K = 2 → x.H0 = 0 ∧ x.H1 = 0 ∧ x.H2 = 0 ∧ x.H3 = 0) :
    Calls Tryd.prog 23 #[x.v] w fun e w' => ∃ g, e = .returned (.slice (some ⟨g, 0, none⟩) 7 7) ∧ w.heap.size ≤ g ∧ Blk 44 w' g (wL x) ∧ Below w.heap.size w w' := by
  have q : ∀ n : Int, 0 ≤ n ∧ n < 18446744073709551616 → IntKind.u64.wrap n = (n.toNat : Nat) := fun n h => by rw [u64_wrap, u64_nat h.1 h.2]
  have hK := hx.K; have hL := hx.L; have hG := hx.G; have hH0 := hx.H0; have hH1 := hx.H1; have hH2 := hx.H2; have hH3 := hx.H3
  have hm := u64_lt x.M
  have hsum : u64 x.M + x.H0.toNat + 256 * x.H1.toNat + 65536 * x.H2.toNat + 16777216 * x.H3.toNat < 18446744073709551616 ∧ u64 x.M + x.H0.toNat + 256 * x.H1.toNat + 65536 * x.H2.toNat + 16777216 * x.H3.toNat = bodyN x := by
    unfold bodyN heads4
    by_cases h2 : x.K = 2
    · have e : u64 x.M = 0 := by rw [hx.M h2]; rfl
      rw [if_pos h2, e]; omega
    · obtain ⟨e0, e1, e2, e3⟩ := hd h2
      rw [if_neg h2, e0, e1, e2, e3]
      constructor <;> simp <;> omega
  have h := words_go x w x.K.toNat x.L.toNat x.G.toNat (u64 x.S) (u64 x.A) (u64 x.M) (u64 x.P) (u64 x.T) (u64 x.C) x.H0.toNat x.H1.toNat x.H2.toNat x.H3.toNat (q _ (by omega)) (q _ (by omega)) (q _ (by omega)) (u64_wrap _) (u64_wrap _) (u64_wrap _) (u64_wrap _) (u64_wrap _) (u64_wrap _) (q _ (by omega)) (q _ (by omega)) (q _ (by omega)) (q _ (by omega)) (by omega) (by omega) (by omega) (by omega) (by omega) (by omega) (by omega) (by omega) (by omega) (by omega) (by omega)
  rw [hsum.2] at h
  exact h
set_option maxRecDepth 100000 in
theorem rencode_calls (x : Ino) (w : World) (hx : Small x) (hd : ¬ x.K = 2 → x.H0 = 0 ∧ x.H1 = 0 ∧ x.H2 = 0 ∧ x.H3 = 0) :
    Calls Tryd.prog 12 #[x.v] w fun e w' => ∃ A c, e = .returned (.slice A 8 c) ∧ Row w' A (sealed (wL x)) ∧ Fresh w.heap.size A ∧ Below w.heap.size w w' ∧ 8 ≤ c := by
  have hW := fun W => iwords_calls x W hx hd
  have hwd := Lib.hid (wd_wL hx)
  have hsl : (sealed (wL x)).length = 8 := rfl
  have hS : ∀ A c W, Row W A (wL x) → Calls Tryd.prog 14 #[.slice A 7 c] W fun e w' => ∃ A' c', e = .returned (.slice A' 8 c') ∧ Row w' A' (sealed (wL x)) ∧ Fresh W.heap.size A' ∧ Below W.heap.size W w' ∧ 8 ≤ c' := fun A c W hr => rseal_calls A (wL x) c W hr hwd.out (by rw [wL_length]; decide)
  generalize wL x = l at *
  clear hsl hx hd
  go_enter Tryd.func12, Tryd.ntmps12
  go_wp2_with (fail)
  refine (hW _).mono ?_
  rintro e w1 ⟨g, rfl, hg, hB, hb1⟩
  have bw1 := Below.trans ((Below.refl w.heap.size w).alloc (Nat.le_refl _) (.cells x.c 25)) (hb1.mono (by simp))
  have hs1 := bw1.size
  have hr1 := hB.row
  have hS1 := Lib.hid (hS (some ⟨g, 0, none⟩) 7 w1 hr1)
  clear hb1 hW hS hB hr1
  go_wp2_with (fail)
  refine hS1.out.mono ?_
  rintro e w2 ⟨A2, c2, rfl, hr2, hf2, hb2, hc2⟩
  have bw2 := bw1.trans (hb2.mono hs1)
  go_wp2_with (fail)
  go_ret
  exact ⟨A2, c2, rfl, hr2, hf2.mono hs1, bw2, hc2⟩
end Go.Proofs.YtppnicdhahgigaaDoor
