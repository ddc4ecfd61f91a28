/- Told: an error tells what the document's answer tells. -/
import Derived.Test.YtlejmpinfbmccaaGreatDoorDe
set_option linter.unusedSimpArgs false
set_option linter.unusedVariables false
set_option linter.unusedSimpArgs false
set_option linter.unusedVariables false
namespace Go.Proofs.YtlejmpinfbmccaaGreatDoor
open Go.RowKit SumMath WordMath
/-- The document's answer. -/
def fV : Option Nat → Value
  | none => .agg #[.int .i64 0, .int .i64 0]
  | some k => .agg #[.int .i64 (k : Nat), .int .i64 7]
theorem told_none (n : Sn) (w : World) : Calls Tryz.prog 27 #[errVA n none, fV none] w fun e w' => e = .returned (.bool true) ∧ Below w.heap.size w w' := by
  unfold errVA fV
  go_enter Tryz.func27, Tryz.ntmps27
  go_wp2
  go_ret
  exact ⟨rfl, (Below.refl _ _).alloc (Nat.le_refl _) _⟩
set_option maxRecDepth 100000 in
set_option maxHeartbeats 1000000 in
theorem told_some (n : Sn) (k : Nat) (w : World) (hE : ErrAt w) (hN : SnAt w n) (hk : isBad k) : Calls Tryz.prog 27 #[errVA n (some k), fV (some k)] w fun e w' => e = .returned (.bool true) ∧ Below w.heap.size w w' := by
  show Calls Tryz.prog 27 #[.iface 78 (.agg #[whyV n k]), .agg #[.int .i64 (k : Nat), .int .i64 7]] w fun e w' => e = .returned (.bool true) ∧ Below w.heap.size w w'
  have hon : Below w.heap.size w ((w.alloc (.cells #[.int .i64 (k : Nat), .int .i64 7] 60)).alloc (.cells #[.int .i64 0, .int .i64 0] 60)) := ((Below.refl _ _).alloc (Nat.le_refl _) _).alloc (by simp) _
  have h2 : ((w.alloc (.cells #[.int .i64 (k : Nat), .int .i64 7] 60)).alloc (.cells #[.int .i64 0, .int .i64 0] 60)).heap[w.heap.size + 1]? = some (.cells #[.int .i64 0, .int .i64 0] 60) := by
    have := heap_alloc_new (w.alloc (.cells #[.int .i64 (k : Nat), .int .i64 7] 60)) (.cells #[.int .i64 0, .int .i64 0] 60)
    rwa [World.size_alloc] at this
  have h1 : ((w.alloc (.cells #[.int .i64 (k : Nat), .int .i64 7] 60)).alloc (.cells #[.int .i64 0, .int .i64 0] 60)).heap[w.heap.size]? = some (.cells #[.int .i64 (k : Nat), .int .i64 7] 60) :=
    (Below.heap_alloc _ _ _ (by simp)).trans (heap_alloc_new w _)
  have hUn := fun W (hb : Below ((w.alloc (.cells #[.int .i64 (k : Nat), .int .i64 7] 60)).alloc (.cells #[.int .i64 0, .int .i64 0] 60)).heap.size ((w.alloc (.cells #[.int .i64 (k : Nat), .int .i64 7] 60)).alloc (.cells #[.int .i64 0, .int .i64 0] 60)) W) => unwrapM n k W ((hN.below hon).below hb) hk
  have hA := Lib.hid (as_MF (k : Nat) (whyV n k) (.int .i64 0) (.int .i64 0) 60 (w.heap.size + 1) _ hUn (hE.below hon) h2)
  have HN := Lib.hid hN
  have h1 := Lib.hid h1
  have hon := Lib.hid hon
  have hI := fun W (hW : Below w.heap.size w W) => is_M (k : Nat) (whyV n k) W (fun W2 hb => unwrapM n k W2 ((hN.below hW).below hb) hk)
  have HI := Lib.hid hI
  clear h2 hUn hI hN hE hk HN
  obtain ⟨v, hv⟩ : ∃ v, whyV n k = v := ⟨_, rfl⟩
  rw [hv] at hA HI ⊢
  clear hv
  go_enter Tryz.func27, Tryz.ntmps27
  go_wp2_with (fail)
  refine hA.out.mono ?_
  clear hA
  rintro e w2 ⟨rfl, hb2, hm2⟩
  have h12 := (hb2.block w.heap.size (by omega)).trans h1.out
  obtain ⟨a0, a1⟩ := two_cells h12
  obtain ⟨m0, m1⟩ := two_cells hm2
  have l1 := lt_of_cells h12
  have l2 := lt_of_cells hm2
  have bw2 := Below.trans hon.out (hb2.mono (by omega))
  have HBW := Lib.hid bw2
  clear hb2 hm2 h12 h1 hon bw2
  go_wp2_with (fail)
  refine (HI.out _ HBW.out).mono ?_
  rintro e w3 ⟨rfl, hb3⟩
  go_wp2_with (fail)
  go_ret
  exact ⟨rfl, HBW.out.trans (hb3.mono HBW.out.size)⟩
theorem told_calls (n : Sn) (o : Option Nat) (w : World) (hE : ErrAt w) (hN : SnAt w n) (ho : ∀ k, o = some k → isBad k) : Calls Tryz.prog 27 #[errVA n o, fV o] w fun e w' => e = .returned (.bool true) ∧ Below w.heap.size w w' := by
  cases o with
  | none => exact told_none n w
  | some k => exact told_some n k w hE hN (ho k rfl)
end Go.Proofs.YtlejmpinfbmccaaGreatDoor
