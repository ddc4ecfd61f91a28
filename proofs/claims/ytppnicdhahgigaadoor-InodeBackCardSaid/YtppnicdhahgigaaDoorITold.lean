/- Told, of the errors of Decode. -/
import Derived.Test.YtppnicdhahgigaaDoorErr2
import Derived.Test.YtppnicdhahgigaaDoorStp4
namespace Go.Proofs.YtppnicdhahgigaaDoor
open Go.RowKit SumMath WordMath
theorem two_cells {w0 : World} {B : Nat} {x y : Value} {t : TypeId} (hw : w0.heap[B]? = some (.cells #[x, y] t (0, 0))) : w0.cell? ⟨B, 0, none⟩ = some x ∧ w0.cell? ⟨B, 1, none⟩ = some y :=
  ⟨cell_of_row w0 B 0 _ t (0, 0) hw, cell_of_row w0 B 1 _ t (0, 0) hw⟩
theorem told_none (w : World) : Calls Tryd.prog 22 #[errV none, fV none] w fun e w' => e = .returned (.bool true) ∧ Below w.heap.size w w' := by
  unfold errV fV
  go_enter Tryd.func22, Tryd.ntmps22
  go_wp2
  go_ret
  exact ⟨rfl, (Below.refl _ _).alloc (Nat.le_refl _) _⟩
set_option maxRecDepth 100000 in
set_option maxHeartbeats 1000000 in
theorem told_at (k n : Int) (w : World) (hn : (n == 0) = false) (hE : ErrAt w) : Calls Tryd.prog 22 #[.iface 81 (.agg #[.int .i64 k, .int .i64 n]), .agg #[.int .i64 k, .int .i64 n]] w fun e w' => e = .returned (.bool true) ∧ Below w.heap.size w w' := by
  have hon : Below w.heap.size w ((w.alloc (.cells #[.int .i64 k, .int .i64 n] 51)).alloc (.cells #[.int .i64 0, .int .i64 0] 51)) := ((Below.refl _ _).alloc (Nat.le_refl _) _).alloc (by simp) _
  have h2 : ((w.alloc (.cells #[.int .i64 k, .int .i64 n] 51)).alloc (.cells #[.int .i64 0, .int .i64 0] 51)).heap[w.heap.size + 1]? = some (.cells #[.int .i64 0, .int .i64 0] 51) := by
    have := heap_alloc_new (w.alloc (.cells #[.int .i64 k, .int .i64 n] 51)) (.cells #[.int .i64 0, .int .i64 0] 51)
    rwa [World.size_alloc] at this
  have h1 : ((w.alloc (.cells #[.int .i64 k, .int .i64 n] 51)).alloc (.cells #[.int .i64 0, .int .i64 0] 51)).heap[w.heap.size]? = some (.cells #[.int .i64 k, .int .i64 n] 51) :=
    (Below.heap_alloc _ _ _ (by simp)).trans (heap_alloc_new w _)
  have hA := Lib.hid (as_MF k n (.int .i64 0) (.int .i64 0) 51 (w.heap.size + 1) _ (hE.below hon) h2)
  have h1 := Lib.hid h1
  have hon := Lib.hid hon
  clear h2
  go_enter Tryd.func22, Tryd.ntmps22
  go_wp2_with (fail)
  refine hA.out.mono ?_
  clear hA
  rintro e w2 ⟨rfl, hb2, hm2⟩
  have h12 := (hb2.block w.heap.size (by omega)).trans h1.out
  obtain ⟨a0, a1⟩ := two_cells h12
  obtain ⟨m0, m1⟩ := two_cells hm2
  have l1 := lt_of_cells h12
  have l2 := lt_of_cells hm2
  have bw2 := Below.trans hon.out (hb2.mono (by omega))
  clear hb2 hm2 h12 h1 hon
  go_wp2_with (fail)
  refine (is_M k n _).mono ?_
  rintro e w3 ⟨rfl, hb3⟩
  go_wp2_with (fail)
  go_ret
  exact ⟨rfl, bw2.trans (hb3.mono bw2.size)⟩
theorem told_calls (l : List Nat) (P I B : Int) (w : World) (hE : ErrAt w) : Calls Tryd.prog 22 #[errV (decBad l P I B), fV (decBad l P I B)] w fun e w' => e = .returned (.bool true) ∧ Below w.heap.size w w' := by
  cases h : decBad l P I B with
  | none => exact told_none w
  | some kn =>
    obtain ⟨k, n⟩ := kn
    exact told_at k n w (decBad_ne h) hE
end Go.Proofs.YtppnicdhahgigaaDoor
