/- Told; the law's own example. -/
import Derived.Test.YtgedahjifbopcaaDoorSupRef2
namespace Go.Proofs.YtgedahjifbopcaaDoor
open Go.RowKit SumMath WordMath
theorem told_none (w : World) : Calls Tryd.prog 17 #[errV none, fV none] w fun e w' => e = .returned (.bool true) ∧ Below w.heap.size w w' := by
  unfold errV fV
  go_enter Tryd.func17, Tryd.ntmps17
  go_wp2
  go_ret
  exact ⟨rfl, (Below.refl _ _).alloc (Nat.le_refl _) _⟩
set_option maxRecDepth 100000 in
set_option maxHeartbeats 1000000 in
theorem told_some (k : Nat) (w : World) (hE : ErrAt w) : Calls Tryd.prog 17 #[errV (some k), fV (some k)] w fun e w' => e = .returned (.bool true) ∧ Below w.heap.size w w' := by
  unfold errV fV
  have hon : On w ((w.alloc (.cells #[.int .i64 (k : Nat), .int .i64 7] 48)).alloc (.cells #[.int .i64 0, .int .i64 0] 48)) := ((Below.refl _ _).alloc (Nat.le_refl _) _).alloc (by simp) _
  have h2 : ((w.alloc (.cells #[.int .i64 (k : Nat), .int .i64 7] 48)).alloc (.cells #[.int .i64 0, .int .i64 0] 48)).heap[w.heap.size + 1]? = some (.cells #[.int .i64 0, .int .i64 0] 48) := by
    have := heap_alloc_new (w.alloc (.cells #[.int .i64 (k : Nat), .int .i64 7] 48)) (.cells #[.int .i64 0, .int .i64 0] 48)
    rwa [World.size_alloc] at this
  have h1 : ((w.alloc (.cells #[.int .i64 (k : Nat), .int .i64 7] 48)).alloc (.cells #[.int .i64 0, .int .i64 0] 48)).heap[w.heap.size]? = some (.cells #[.int .i64 (k : Nat), .int .i64 7] 48) :=
    (Below.heap_alloc _ _ _ (by simp)).trans (heap_alloc_new w _)
  have hA := Lib.hid (as_MF (k : Nat) (.int .i64 0) (.int .i64 0) 48 (w.heap.size + 1) _ (hE.below hon) h2)
  have h1 := Lib.hid h1
  have hon := Lib.hid hon
  clear h2
  go_enter Tryd.func17, Tryd.ntmps17
  go_wp2_with (fail)
  refine hA.out.mono ?_
  clear hA
  rintro e w2 ⟨rfl, hb2, hm2⟩
  have h12 := (hb2.block w.heap.size (by omega)).trans h1.out
  obtain ⟨a0, a1⟩ := two_cells h12
  obtain ⟨m0, m1⟩ := two_cells hm2
  have l1 := lt_of_cells h12
  have l2 := lt_of_cells hm2
  have bw2 := Below.trans hon.out (hb2.mono (by omega))
  clear hb2 hm2 h12 h1 hon
  go_wp2_with (fail)
  refine (is_M (k : Nat) _).mono ?_
  rintro e w3 ⟨rfl, hb3⟩
  go_wp2_with (fail)
  go_ret
  exact ⟨rfl, bw2.trans (hb3.mono bw2.size)⟩
theorem told_calls (o : Option Nat) (w : World) (hE : ErrAt w) : Calls Tryd.prog 17 #[errV o, fV o] w fun e w' => e = .returned (.bool true) ∧ Below w.heap.size w w' := by
  cases o with
  | none => exact told_none w
  | some k => exact told_some k w hE
end Go.Proofs.YtgedahjifbopcaaDoor
