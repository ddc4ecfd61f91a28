/- The record that the fields of the words have. -/
import Derived.Test.YtppnicdhahgigaaDoorIno4
import Derived.Deep.RegionHeld3
namespace Go.Proofs.YtppnicdhahgigaaDoor
open Go.RowKit WordMath
/-- A word as a number with a sign. -/
def i64 (n : Nat) : Int := if n < 9223372036854775808 then (n : Int) else (n : Int) - 18446744073709551616
theorem i64_wrap (n : Nat) (h : n < 18446744073709551616) : IntKind.i64.wrap (n : Int) = i64 n := by
  unfold i64
  simp [IntKind.wrap, IntKind.bits, IntKind.signed]
  split <;> split <;> omega
theorem iget_ok (v a n : Nat) (ai ni : Int) (w : World) (hai : ai = (a : Nat)) (hni : ni = (n : Nat)) (v1 : v < 18446744073709551616) (hn : 1 ≤ n) (ha : a + n ≤ 64) :
    Calls Tryd.prog 43 #[.int .u64 v, .int .i64 ai, .int .i64 ni] w fun e w' => e = .returned (.int .u64 (fld v a n : Nat)) ∧ w = w' := by
  subst hai hni
  have h := iget_calls (v : Int) a n w (by omega) (by omega) (by omega)
  rw [getV_yes ⟨by omega, by omega, by omega⟩] at h
  exact h
theorem Ib.set5 {w : World} {b : Nat} {x : Ino} (h : Ib w b x) (n : Int) : Ib (w.setCell ⟨b, 5, none⟩ (.int .i64 n)) b { x with M := n } := by
  unfold Ib at h ⊢
  simp [World.setCell, Array.getElem?_modify, h]
theorem Ib.set6 {w : World} {b : Nat} {x : Ino} (h : Ib w b x) (n : Int) : Ib (w.setCell ⟨b, 6, none⟩ (.int .i64 n)) b { x with H0 := n } := by
  unfold Ib at h ⊢
  simp [World.setCell, Array.getElem?_modify, h]
theorem Ib.set7 {w : World} {b : Nat} {x : Ino} (h : Ib w b x) (n : Int) : Ib (w.setCell ⟨b, 7, none⟩ (.int .i64 n)) b { x with H1 := n } := by
  unfold Ib at h ⊢
  simp [World.setCell, Array.getElem?_modify, h]
theorem Ib.set8 {w : World} {b : Nat} {x : Ino} (h : Ib w b x) (n : Int) : Ib (w.setCell ⟨b, 8, none⟩ (.int .i64 n)) b { x with H2 := n } := by
  unfold Ib at h ⊢
  simp [World.setCell, Array.getElem?_modify, h]
theorem Ib.set9 {w : World} {b : Nat} {x : Ino} (h : Ib w b x) (n : Int) : Ib (w.setCell ⟨b, 9, none⟩ (.int .i64 n)) b { x with H3 := n } := by
  unfold Ib at h ⊢
  simp [World.setCell, Array.getElem?_modify, h]
theorem Ino.one (x : Ino) : x.c.all (·.oneCell') = true := by
  rw [← Array.all_toList]; rfl
set_option maxRecDepth 100000 in
set_option maxHeartbeats 4000000 in
theorem read_other (v0 v1 v2 v3 v4 v5 v6 v7 : Nat) (w : World) (h0 : v0 < 18446744073709551616) (_h3 : v3 < 18446744073709551616) (k l g : Nat) (hk : fld v0 0 8 = k) (hl : fld v0 8 8 = l) (hg : fld v0 32 32 = g) (s a p t c m : Int)
    (es : IntKind.i64.wrap (v1 : Nat) = s) (ea : IntKind.i64.wrap (v2 : Nat) = a) (ep : IntKind.i64.wrap (v4 : Nat) = p) (et : IntKind.i64.wrap (v5 : Nat) = t) (ec : IntKind.i64.wrap (v6 : Nat) = c) (em : IntKind.i64.wrap (v3 : Nat) = m)
    (ek : IntKind.u8.wrap (k : Nat) = k) (el : IntKind.i64.wrap (l : Nat) = l) (eg : IntKind.u32.wrap (g : Nat) = g) (hk2 : ¬ (k : Int) = 2) :
    Calls Tryd.prog 27 #[.agg #[.int .u64 v0, .int .u64 v1, .int .u64 v2, .int .u64 v3, .int .u64 v4, .int .u64 v5, .int .u64 v6, .int .u64 v7]] w fun e w' => e = .returned (Ino.v ⟨k, l, g, s, a, m, 0, 0, 0, 0, p, t, c⟩) ∧ Below w.heap.size w w' := by
  have f0 : getV (v0 : Nat) 0 8 = (k : Nat) := by rw [getV_yes ⟨by omega, by omega, by omega⟩, ← hk]; rfl
  have f1 : getV (v0 : Nat) 8 8 = (l : Nat) := by rw [getV_yes ⟨by omega, by omega, by omega⟩, ← hl]; rfl
  have f2 : getV (v0 : Nat) 32 32 = (g : Nat) := by rw [getV_yes ⟨by omega, by omega, by omega⟩, ← hg]; rfl
  have h0' : (v0 : Int) < 18446744073709551616 := by omega
  have HK2 := Lib.hid hk2
  clear hk2
  clear hk hl hg
  go_enter Tryd.func27, Tryd.ntmps27
  go_upto_region 1 with (fail)
  obtain ⟨W, hW⟩ : ∃ W, W = (w.alloc (.cells #[.int .u64 v0, .int .u64 v1, .int .u64 v2, .int .u64 v3, .int .u64 v4, .int .u64 v5, .int .u64 v6, .int .u64 v7] 48)).alloc (.cells (Ino.c ⟨0, 0, 0, 0, 0, 0, 0, 0, 0, 0, 0, 0, 0⟩) 25) := ⟨_, rfl⟩
  rw [← hW]
  have hlt : w.heap.size < W.heap.size := by rw [hW]; simp <;> omega
  have c0 : W.cell? ⟨w.heap.size, 0, none⟩ = some (.int .u64 (v0 : Nat)) := by rw [hW, World.cell?_alloc_lt _ _ _ (by simp)]; simp
  have c1 : W.cell? ⟨w.heap.size, 1, none⟩ = some (.int .u64 (v1 : Nat)) := by rw [hW, World.cell?_alloc_lt _ _ _ (by simp)]; simp
  have c2 : W.cell? ⟨w.heap.size, 2, none⟩ = some (.int .u64 (v2 : Nat)) := by rw [hW, World.cell?_alloc_lt _ _ _ (by simp)]; simp
  have c3 : W.cell? ⟨w.heap.size, 3, none⟩ = some (.int .u64 (v3 : Nat)) := by rw [hW, World.cell?_alloc_lt _ _ _ (by simp)]; simp
  have c4 : W.cell? ⟨w.heap.size, 4, none⟩ = some (.int .u64 (v4 : Nat)) := by rw [hW, World.cell?_alloc_lt _ _ _ (by simp)]; simp
  have c5 : W.cell? ⟨w.heap.size, 5, none⟩ = some (.int .u64 (v5 : Nat)) := by rw [hW, World.cell?_alloc_lt _ _ _ (by simp)]; simp
  have c6 : W.cell? ⟨w.heap.size, 6, none⟩ = some (.int .u64 (v6 : Nat)) := by rw [hW, World.cell?_alloc_lt _ _ _ (by simp)]; simp
  have c7 : W.cell? ⟨w.heap.size, 7, none⟩ = some (.int .u64 (v7 : Nat)) := by rw [hW, World.cell?_alloc_lt _ _ _ (by simp)]; simp
  have iz : Ib W (w.heap.size + 1) ⟨0, 0, 0, 0, 0, 0, 0, 0, 0, 0, 0, 0, 0⟩ := by
    have := Ib.new (w.alloc (.cells #[.int .u64 v0, .int .u64 v1, .int .u64 v2, .int .u64 v3, .int .u64 v4, .int .u64 v5, .int .u64 v6, .int .u64 v7] 48)) ⟨0, 0, 0, 0, 0, 0, 0, 0, 0, 0, 0, 0, 0⟩
    rw [World.size_alloc, ← hW] at this
    exact this
  have bW : Below w.heap.size w W := by rw [hW]; exact ((Below.refl _ _).alloc (Nat.le_refl _) _).alloc (by simp) _
  have IZ := Lib.hid iz
  clear iz hW
  go_cut [3] (fun pp wx => pp = .pointer (some ⟨W.heap.size, 0, none⟩) ∧ wx = (W.alloc (.cells (Ino.c ⟨k, l, g, s, a, 0, 0, 0, 0, 0, p, t, c⟩) 25)).drew)
  case first =>
    go_region_held3 (fun u => u.cell? ⟨w.heap.size, 0, none⟩ = some (.int .u64 (v0 : Nat)) ∧ u.cell? ⟨w.heap.size, 1, none⟩ = some (.int .u64 (v1 : Nat)) ∧ u.cell? ⟨w.heap.size, 2, none⟩ = some (.int .u64 (v2 : Nat)) ∧ u.cell? ⟨w.heap.size, 4, none⟩ = some (.int .u64 (v4 : Nat)) ∧ u.cell? ⟨w.heap.size, 5, none⟩ = some (.int .u64 (v5 : Nat)) ∧ u.cell? ⟨w.heap.size, 6, none⟩ = some (.int .u64 (v6 : Nat))) (first | exact ⟨c0, c1, c2, c4, c5, c6⟩ | exact ⟨(World.cell?_alloc_lt _ _ _ hlt).trans c0, (World.cell?_alloc_lt _ _ _ hlt).trans c1, (World.cell?_alloc_lt _ _ _ hlt).trans c2, (World.cell?_alloc_lt _ _ _ hlt).trans c4, (World.cell?_alloc_lt _ _ _ hlt).trans c5, (World.cell?_alloc_lt _ _ _ hlt).trans c6⟩) (first | (go_at_call 43; refine (iget_calls _ _ _ _ (by omega) h0' (by omega)).mono ?_; rintro e w' ⟨rfl, rfl⟩))
    all_goals
      go_wp2
      go_meet
      exact ⟨rfl, rfl⟩
  case rest =>
    obtain ⟨rfl, hwc⟩ := hcut
    have ix : Ib wc W.heap.size ⟨k, l, g, s, a, 0, 0, 0, 0, 0, p, t, c⟩ := by
      rw [hwc]; exact (Ib.new W ⟨k, l, g, s, a, 0, 0, 0, 0, 0, p, t, c⟩).drewN 1
    have bc : Below W.heap.size W wc := by
      rw [hwc]; exact below_drewN ((Below.refl W.heap.size W).alloc (Nat.le_refl _) _) 1
    have iz := IZ.out.below bc IZ.out.lt
    have bw := bW.trans (bc.mono (by omega))
    have d3 := (bc.cell (p := ⟨w.heap.size, 3, none⟩) hlt).trans c3
    have hz1 : w.heap.size + 1 < W.heap.size := IZ.out.lt
    have ne1 : ¬ W.heap.size = w.heap.size := by omega
    clear c0 c1 c2 c3 c4 c5 c6 c7 hwc bW bc IZ es ea ep et ec ek el eg f0 f1 f2 h0' h0
    have hk3 : ((k : Int) == 2) = false := by simpa using HK2.out
    have fx := ix.frozen
    have hlx := ix.lt
    obtain ⟨x0, x1, x2, x3, x4, x5, x6, x7, x8, x9, x10, x11, x12⟩ := ix.cells
    go_upto_region 4 with (fail)
    have ix4 := ix.set5 m
    have iz4 : Ib (wc.setCell ⟨W.heap.size, 5, none⟩ (.int .i64 m)) (w.heap.size + 1) ⟨0, 0, 0, 0, 0, 0, 0, 0, 0, 0, 0, 0, 0⟩ := iz.below ((Below.refl W.heap.size wc).setCell (Nat.le_refl _) _) hz1
    have bw4 := bw.setCell (p := ⟨W.heap.size, 5, none⟩) (show w.heap.size ≤ W.heap.size by omega) (.int .i64 m)
    clear x0 x1 x2 x3 x4 x5 x6 x7 x8 x9 x10 x11 x12 ix iz bw fx d3
    generalize wc.setCell ⟨W.heap.size, 5, none⟩ (.int .i64 m) = w4 at *
    go_upto_region 4 with (fail)
    refine wp_region_lit ?_
    refine wpList_load_row rfl 25 (.tmp 3) rfl W.heap.size rfl 25 _ (0, 0) _ ix4 Tryd.underlying25 rfl (by kernel_rfl) ?_
    refine wpList_store_row rfl 25 (.tmp 2) (.tmp 40) rfl (w.heap.size + 1) _ rfl rfl 25 _ iz4 (by kernel_rfl) rfl (Ino.one _) ?_
    refine wpList_nil ?_
    have q8 := setRow_heap w4 (w.heap.size + 1) _ (Ino.c ⟨k, l, g, s, a, m, 0, 0, 0, 0, p, t, c⟩) 25 (0, 0) iz4
    have q9 := below_setRow bw4 (show w.heap.size ≤ w.heap.size + 1 by omega) (Ino.c ⟨k, l, g, s, a, m, 0, 0, 0, 0, p, t, c⟩)
    generalize w4.setRow (w.heap.size + 1) (Ino.c ⟨k, l, g, s, a, m, 0, 0, 0, 0, p, t, c⟩) = W8 at *
    have Q8 := Lib.hid q8
    clear q8
    go_wp2_with (fail)
    exact bodyPost_ret (results_cell_row rfl _ _ (w.heap.size + 1) 25 _ (0, 0) _ rfl Q8.out Tryd.underlying25 rfl (by kernel_rfl)) rfl ⟨rfl, q9⟩
set_option maxRecDepth 100000 in
set_option maxHeartbeats 4000000 in
theorem read_dir (v0 v1 v2 v3 v4 v5 v6 v7 : Nat) (w : World) (h0 : v0 < 18446744073709551616) (h3 : v3 < 18446744073709551616) (k l g : Nat) (hk : fld v0 0 8 = k) (hl : fld v0 8 8 = l) (hg : fld v0 32 32 = g) (s a p t c : Int)
    (es : IntKind.i64.wrap (v1 : Nat) = s) (ea : IntKind.i64.wrap (v2 : Nat) = a) (ep : IntKind.i64.wrap (v4 : Nat) = p) (et : IntKind.i64.wrap (v5 : Nat) = t) (ec : IntKind.i64.wrap (v6 : Nat) = c)
    (ek : IntKind.u8.wrap (k : Nat) = k) (el : IntKind.i64.wrap (l : Nat) = l) (eg : IntKind.u32.wrap (g : Nat) = g) (hk2 : (k : Int) = 2) (b0 b1 b2 b3 : Nat) (hb0 : fld v3 0 8 = b0) (hb1 : fld v3 8 8 = b1) (hb2 : fld v3 16 8 = b2) (hb3 : fld v3 24 8 = b3) (eb0 : IntKind.i64.wrap (b0 : Nat) = b0) (eb1 : IntKind.i64.wrap (b1 : Nat) = b1) (eb2 : IntKind.i64.wrap (b2 : Nat) = b2) (eb3 : IntKind.i64.wrap (b3 : Nat) = b3) :
    Calls Tryd.prog 27 #[.agg #[.int .u64 v0, .int .u64 v1, .int .u64 v2, .int .u64 v3, .int .u64 v4, .int .u64 v5, .int .u64 v6, .int .u64 v7]] w fun e w' => e = .returned (Ino.v ⟨k, l, g, s, a, 0, b0, b1, b2, b3, p, t, c⟩) ∧ Below w.heap.size w w' := by
  have f0 : getV (v0 : Nat) 0 8 = (k : Nat) := by rw [getV_yes ⟨by omega, by omega, by omega⟩, ← hk]; rfl
  have f1 : getV (v0 : Nat) 8 8 = (l : Nat) := by rw [getV_yes ⟨by omega, by omega, by omega⟩, ← hl]; rfl
  have f2 : getV (v0 : Nat) 32 32 = (g : Nat) := by rw [getV_yes ⟨by omega, by omega, by omega⟩, ← hg]; rfl
  have h0' : (v0 : Int) < 18446744073709551616 := by omega
  have f3 : getV (v3 : Nat) 0 8 = (b0 : Nat) := by rw [getV_yes ⟨by omega, by omega, by omega⟩, ← hb0]; rfl
  have f4 : getV (v3 : Nat) 8 8 = (b1 : Nat) := by rw [getV_yes ⟨by omega, by omega, by omega⟩, ← hb1]; rfl
  have f5 : getV (v3 : Nat) 16 8 = (b2 : Nat) := by rw [getV_yes ⟨by omega, by omega, by omega⟩, ← hb2]; rfl
  have f6 : getV (v3 : Nat) 24 8 = (b3 : Nat) := by rw [getV_yes ⟨by omega, by omega, by omega⟩, ← hb3]; rfl
  have h3' : (v3 : Int) < 18446744073709551616 := by omega
  have HK2 := Lib.hid hk2
  clear hk2
  clear hk hl hg hb0 hb1 hb2 hb3
  go_enter Tryd.func27, Tryd.ntmps27
  go_upto_region 1 with (fail)
  obtain ⟨W, hW⟩ : ∃ W, W = (w.alloc (.cells #[.int .u64 v0, .int .u64 v1, .int .u64 v2, .int .u64 v3, .int .u64 v4, .int .u64 v5, .int .u64 v6, .int .u64 v7] 48)).alloc (.cells (Ino.c ⟨0, 0, 0, 0, 0, 0, 0, 0, 0, 0, 0, 0, 0⟩) 25) := ⟨_, rfl⟩
  rw [← hW]
  have hlt : w.heap.size < W.heap.size := by rw [hW]; simp <;> omega
  have c0 : W.cell? ⟨w.heap.size, 0, none⟩ = some (.int .u64 (v0 : Nat)) := by rw [hW, World.cell?_alloc_lt _ _ _ (by simp)]; simp
  have c1 : W.cell? ⟨w.heap.size, 1, none⟩ = some (.int .u64 (v1 : Nat)) := by rw [hW, World.cell?_alloc_lt _ _ _ (by simp)]; simp
  have c2 : W.cell? ⟨w.heap.size, 2, none⟩ = some (.int .u64 (v2 : Nat)) := by rw [hW, World.cell?_alloc_lt _ _ _ (by simp)]; simp
  have c3 : W.cell? ⟨w.heap.size, 3, none⟩ = some (.int .u64 (v3 : Nat)) := by rw [hW, World.cell?_alloc_lt _ _ _ (by simp)]; simp
  have c4 : W.cell? ⟨w.heap.size, 4, none⟩ = some (.int .u64 (v4 : Nat)) := by rw [hW, World.cell?_alloc_lt _ _ _ (by simp)]; simp
  have c5 : W.cell? ⟨w.heap.size, 5, none⟩ = some (.int .u64 (v5 : Nat)) := by rw [hW, World.cell?_alloc_lt _ _ _ (by simp)]; simp
  have c6 : W.cell? ⟨w.heap.size, 6, none⟩ = some (.int .u64 (v6 : Nat)) := by rw [hW, World.cell?_alloc_lt _ _ _ (by simp)]; simp
  have c7 : W.cell? ⟨w.heap.size, 7, none⟩ = some (.int .u64 (v7 : Nat)) := by rw [hW, World.cell?_alloc_lt _ _ _ (by simp)]; simp
  have iz : Ib W (w.heap.size + 1) ⟨0, 0, 0, 0, 0, 0, 0, 0, 0, 0, 0, 0, 0⟩ := by
    have := Ib.new (w.alloc (.cells #[.int .u64 v0, .int .u64 v1, .int .u64 v2, .int .u64 v3, .int .u64 v4, .int .u64 v5, .int .u64 v6, .int .u64 v7] 48)) ⟨0, 0, 0, 0, 0, 0, 0, 0, 0, 0, 0, 0, 0⟩
    rw [World.size_alloc, ← hW] at this
    exact this
  have bW : Below w.heap.size w W := by rw [hW]; exact ((Below.refl _ _).alloc (Nat.le_refl _) _).alloc (by simp) _
  have IZ := Lib.hid iz
  clear iz hW
  go_cut [3] (fun pp wx => pp = .pointer (some ⟨W.heap.size, 0, none⟩) ∧ wx = (W.alloc (.cells (Ino.c ⟨k, l, g, s, a, 0, 0, 0, 0, 0, p, t, c⟩) 25)).drew)
  case first =>
    go_region_held3 (fun u => u.cell? ⟨w.heap.size, 0, none⟩ = some (.int .u64 (v0 : Nat)) ∧ u.cell? ⟨w.heap.size, 1, none⟩ = some (.int .u64 (v1 : Nat)) ∧ u.cell? ⟨w.heap.size, 2, none⟩ = some (.int .u64 (v2 : Nat)) ∧ u.cell? ⟨w.heap.size, 4, none⟩ = some (.int .u64 (v4 : Nat)) ∧ u.cell? ⟨w.heap.size, 5, none⟩ = some (.int .u64 (v5 : Nat)) ∧ u.cell? ⟨w.heap.size, 6, none⟩ = some (.int .u64 (v6 : Nat))) (first | exact ⟨c0, c1, c2, c4, c5, c6⟩ | exact ⟨(World.cell?_alloc_lt _ _ _ hlt).trans c0, (World.cell?_alloc_lt _ _ _ hlt).trans c1, (World.cell?_alloc_lt _ _ _ hlt).trans c2, (World.cell?_alloc_lt _ _ _ hlt).trans c4, (World.cell?_alloc_lt _ _ _ hlt).trans c5, (World.cell?_alloc_lt _ _ _ hlt).trans c6⟩) (first | (go_at_call 43; refine (iget_calls _ _ _ _ (by omega) h0' (by omega)).mono ?_; rintro e w' ⟨rfl, rfl⟩))
    all_goals
      go_wp2
      go_meet
      exact ⟨rfl, rfl⟩
  case rest =>
    obtain ⟨rfl, hwc⟩ := hcut
    have ix : Ib wc W.heap.size ⟨k, l, g, s, a, 0, 0, 0, 0, 0, p, t, c⟩ := by
      rw [hwc]; exact (Ib.new W ⟨k, l, g, s, a, 0, 0, 0, 0, 0, p, t, c⟩).drewN 1
    have bc : Below W.heap.size W wc := by
      rw [hwc]; exact below_drewN ((Below.refl W.heap.size W).alloc (Nat.le_refl _) _) 1
    have iz := IZ.out.below bc IZ.out.lt
    have bw := bW.trans (bc.mono (by omega))
    have d3 := (bc.cell (p := ⟨w.heap.size, 3, none⟩) hlt).trans c3
    have hz1 : w.heap.size + 1 < W.heap.size := IZ.out.lt
    have ne1 : ¬ W.heap.size = w.heap.size := by omega
    clear c0 c1 c2 c3 c4 c5 c6 c7 hwc bW bc IZ es ea ep et ec ek el eg f0 f1 f2 h0' h0
    have hk2 := HK2.out
    have hk3 : ((k : Int) == 2) = true := by simpa using hk2
    obtain ⟨x0, -⟩ := ix.cells
    have hlx := ix.lt
    go_wp2_with (fail)
    clear x0 hk2 hk3
    have fx := ix.frozen
    obtain ⟨x0, x1, x2, x3, x4, x5, x6, x7, x8, x9, x10, x11, x12⟩ := ix.cells
    refine wp_loop_rounds 5 ?_
    rw [rounds_succ]
    go_upto_region 9 with (go_at_call 43; refine (iget_calls _ _ _ _ (by omega) h3' (by omega)).mono ?_; rintro e w' ⟨rfl, rfl⟩)
    have ix4 := ix.set6 b0
    have iz4 : Ib (wc.setCell ⟨W.heap.size, 6, none⟩ (.int .i64 b0)) (w.heap.size + 1) ⟨0, 0, 0, 0, 0, 0, 0, 0, 0, 0, 0, 0, 0⟩ := iz.below ((Below.refl W.heap.size wc).setCell (Nat.le_refl _) _) hz1
    have bw4 := bw.setCell (p := ⟨W.heap.size, 6, none⟩) (show w.heap.size ≤ W.heap.size by omega) (.int .i64 b0)
    have d4 := (((Below.refl W.heap.size wc).setCell (p := ⟨W.heap.size, 6, none⟩) (Nat.le_refl _) (.int .i64 b0)).cell (p := ⟨w.heap.size, 3, none⟩) hlt).trans d3
    clear x0 x1 x2 x3 x4 x5 x6 x7 x8 x9 x10 x11 x12 fx hlx ix iz bw d3
    generalize wc.setCell ⟨W.heap.size, 6, none⟩ (.int .i64 b0) = w4 at *
    have fx := ix4.frozen
    have hlx := ix4.lt
    obtain ⟨x0, x1, x2, x3, x4, x5, x6, x7, x8, x9, x10, x11, x12⟩ := ix4.cells
    go_wp2_with (fail)
    rw [rounds_succ]
    go_upto_region 9 with (go_at_call 43; refine (iget_calls _ _ _ _ (by omega) h3' (by omega)).mono ?_; rintro e w' ⟨rfl, rfl⟩)
    have ix5 := ix4.set7 b1
    have iz5 : Ib (w4.setCell ⟨W.heap.size, 7, none⟩ (.int .i64 b1)) (w.heap.size + 1) ⟨0, 0, 0, 0, 0, 0, 0, 0, 0, 0, 0, 0, 0⟩ := iz4.below ((Below.refl W.heap.size w4).setCell (Nat.le_refl _) _) hz1
    have bw5 := bw4.setCell (p := ⟨W.heap.size, 7, none⟩) (show w.heap.size ≤ W.heap.size by omega) (.int .i64 b1)
    have d5 := (((Below.refl W.heap.size w4).setCell (p := ⟨W.heap.size, 7, none⟩) (Nat.le_refl _) (.int .i64 b1)).cell (p := ⟨w.heap.size, 3, none⟩) hlt).trans d4
    clear x0 x1 x2 x3 x4 x5 x6 x7 x8 x9 x10 x11 x12 fx hlx ix4 iz4 bw4 d4
    generalize w4.setCell ⟨W.heap.size, 7, none⟩ (.int .i64 b1) = w5 at *
    have fx := ix5.frozen
    have hlx := ix5.lt
    obtain ⟨x0, x1, x2, x3, x4, x5, x6, x7, x8, x9, x10, x11, x12⟩ := ix5.cells
    go_wp2_with (fail)
    rw [rounds_succ]
    go_upto_region 9 with (go_at_call 43; refine (iget_calls _ _ _ _ (by omega) h3' (by omega)).mono ?_; rintro e w' ⟨rfl, rfl⟩)
    have ix6 := ix5.set8 b2
    have iz6 : Ib (w5.setCell ⟨W.heap.size, 8, none⟩ (.int .i64 b2)) (w.heap.size + 1) ⟨0, 0, 0, 0, 0, 0, 0, 0, 0, 0, 0, 0, 0⟩ := iz5.below ((Below.refl W.heap.size w5).setCell (Nat.le_refl _) _) hz1
    have bw6 := bw5.setCell (p := ⟨W.heap.size, 8, none⟩) (show w.heap.size ≤ W.heap.size by omega) (.int .i64 b2)
    have d6 := (((Below.refl W.heap.size w5).setCell (p := ⟨W.heap.size, 8, none⟩) (Nat.le_refl _) (.int .i64 b2)).cell (p := ⟨w.heap.size, 3, none⟩) hlt).trans d5
    clear x0 x1 x2 x3 x4 x5 x6 x7 x8 x9 x10 x11 x12 fx hlx ix5 iz5 bw5 d5
    generalize w5.setCell ⟨W.heap.size, 8, none⟩ (.int .i64 b2) = w6 at *
    have fx := ix6.frozen
    have hlx := ix6.lt
    obtain ⟨x0, x1, x2, x3, x4, x5, x6, x7, x8, x9, x10, x11, x12⟩ := ix6.cells
    go_wp2_with (fail)
    rw [rounds_succ]
    go_upto_region 9 with (go_at_call 43; refine (iget_calls _ _ _ _ (by omega) h3' (by omega)).mono ?_; rintro e w' ⟨rfl, rfl⟩)
    have ix7 := ix6.set9 b3
    have iz7 : Ib (w6.setCell ⟨W.heap.size, 9, none⟩ (.int .i64 b3)) (w.heap.size + 1) ⟨0, 0, 0, 0, 0, 0, 0, 0, 0, 0, 0, 0, 0⟩ := iz6.below ((Below.refl W.heap.size w6).setCell (Nat.le_refl _) _) hz1
    have bw7 := bw6.setCell (p := ⟨W.heap.size, 9, none⟩) (show w.heap.size ≤ W.heap.size by omega) (.int .i64 b3)
    have d7 := (((Below.refl W.heap.size w6).setCell (p := ⟨W.heap.size, 9, none⟩) (Nat.le_refl _) (.int .i64 b3)).cell (p := ⟨w.heap.size, 3, none⟩) hlt).trans d6
    clear x0 x1 x2 x3 x4 x5 x6 x7 x8 x9 x10 x11 x12 fx hlx ix6 iz6 bw6 d6
    generalize w6.setCell ⟨W.heap.size, 9, none⟩ (.int .i64 b3) = w7 at *
    have fx := ix7.frozen
    have hlx := ix7.lt
    obtain ⟨x0, x1, x2, x3, x4, x5, x6, x7, x8, x9, x10, x11, x12⟩ := ix7.cells
    go_wp2_with (fail)
    rw [rounds_succ]
    clear x0 x1 x2 x3 x4 x5 x6 x7 x8 x9 x10 x11 x12 fx
    go_upto_region 10 with (fail)
    refine wp_region_lit ?_
    refine wpList_load_row rfl 25 (.tmp 3) rfl W.heap.size rfl 25 _ (0, 0) _ ix7 Tryd.underlying25 rfl (by kernel_rfl) ?_
    refine wpList_store_row rfl 25 (.tmp 2) (.tmp 54) rfl (w.heap.size + 1) _ rfl rfl 25 _ iz7 (by kernel_rfl) rfl (Ino.one _) ?_
    refine wpList_nil ?_
    have q8 := setRow_heap w7 (w.heap.size + 1) _ (Ino.c ⟨k, l, g, s, a, 0, b0, b1, b2, b3, p, t, c⟩) 25 (0, 0) iz7
    have q9 := below_setRow bw7 (show w.heap.size ≤ w.heap.size + 1 by omega) (Ino.c ⟨k, l, g, s, a, 0, b0, b1, b2, b3, p, t, c⟩)
    generalize w7.setRow (w.heap.size + 1) (Ino.c ⟨k, l, g, s, a, 0, b0, b1, b2, b3, p, t, c⟩) = W8 at *
    have Q8 := Lib.hid q8
    clear q8
    go_wp2_with (fail)
    exact bodyPost_ret (results_cell_row rfl _ _ (w.heap.size + 1) 25 _ (0, 0) _ rfl Q8.out Tryd.underlying25 rfl (by kernel_rfl)) rfl ⟨rfl, q9⟩
end Go.Proofs.YtppnicdhahgigaaDoor
