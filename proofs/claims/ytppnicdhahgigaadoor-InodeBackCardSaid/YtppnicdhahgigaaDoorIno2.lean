/- The least and the greatest numbers of a kind. -/
import Derived.Test.YtppnicdhahgigaaDoorIno1
namespace Go.Proofs.YtppnicdhahgigaaDoor
open Go.RowKit
/-- The least, and the greatest, of a kind. -/
def loI (k : Int) : Ino := if k = 1 then ⟨0, 0, 0, 0, 1, 0, 0, 0, 0, 0, 0, 0, 0⟩ else if k = 2 then ⟨0, 0, 0, 0, 1, 0, 0, 0, 0, 0, 1, 0, 0⟩ else if k = 3 then ⟨0, 0, 0, 1, 1, 1, 0, 0, 0, 0, 0, 0, 0⟩ else ⟨0, 0, 0, 0, 0, 0, 0, 0, 0, 0, 0, 0, 0⟩
def hiI (k I B : Int) : Ino := if k = 1 then ⟨0, 8, 0, 8192, B, B, 0, 0, 0, 0, 0, 1099511627776, 1099511627776⟩ else if k = 2 then ⟨0, 1, 0, 4096, B, 0, B, B, B, B, I, 1099511627776, 1099511627776⟩ else if k = 3 then ⟨0, 8, 0, 64, B, B, 0, 0, 0, 0, 0, 1099511627776, 1099511627776⟩ else ⟨0, 0, 0, 0, 0, 0, 0, 0, 0, 0, 0, 0, 0⟩
/-- Is there such a kind? -/
def okK (k : Int) : Bool := decide (0 ≤ k ∧ k ≤ 3)
set_option maxRecDepth 100000 in
set_option maxHeartbeats 2000000 in
theorem bounds_1 (P I B : Int) (w : World) : Calls Tryd.prog 35 #[.int .u8 1, gv P I B] w fun e w' => e = .returned (.tuple #[Ino.v ⟨0, 0, 0, 0, 1, 0, 0, 0, 0, 0, 0, 0, 0⟩, Ino.v ⟨0, 8, 0, 8192, B, B, 0, 0, 0, 0, 0, 1099511627776, 1099511627776⟩, .bool true]) ∧ Below w.heap.size w w' := by
  go_enter Tryd.func35, Tryd.ntmps35
  go_wp2_with (fail)
  go_region
  go_wp2_with (fail)
  go_region
  go_wp2_with (fail)
  exact bodyPost_ret (v := .tuple #[Ino.v ⟨0, 0, 0, 0, 1, 0, 0, 0, 0, 0, 0, 0, 0⟩, Ino.v ⟨0, 8, 0, 8192, B, B, 0, 0, 0, 0, 0, 1099511627776, 1099511627776⟩, .bool true]) (by simp [results, Tryd.results35, go_sem]) rfl ⟨rfl, below_drewN (below_drewN ((((Below.refl _ _).alloc (Nat.le_refl _) _).alloc (by simp) _).alloc (by simp <;> omega) _) 1) 1⟩
set_option maxRecDepth 100000 in
set_option maxHeartbeats 2000000 in
theorem bounds_2 (P I B : Int) (w : World) : Calls Tryd.prog 35 #[.int .u8 2, gv P I B] w fun e w' => e = .returned (.tuple #[Ino.v ⟨0, 0, 0, 0, 1, 0, 0, 0, 0, 0, 1, 0, 0⟩, Ino.v ⟨0, 1, 0, 4096, B, 0, B, B, B, B, I, 1099511627776, 1099511627776⟩, .bool true]) ∧ Below w.heap.size w w' := by
  go_enter Tryd.func35, Tryd.ntmps35
  go_wp2
  refine wp_loop_rounds 5 ?_
  rw [rounds_succ]
  go_wp2_with (fail)
  rw [rounds_succ]
  go_wp2_with (fail)
  rw [rounds_succ]
  go_wp2_with (fail)
  rw [rounds_succ]
  go_wp2_with (fail)
  rw [rounds_succ]
  go_wp2_with (fail)
  go_region
  go_wp2_with (fail)
  go_region
  go_wp2_with (fail)
  exact bodyPost_ret (v := .tuple #[Ino.v ⟨0, 0, 0, 0, 1, 0, 0, 0, 0, 0, 1, 0, 0⟩, Ino.v ⟨0, 1, 0, 4096, B, 0, B, B, B, B, I, 1099511627776, 1099511627776⟩, .bool true]) (by simp [results, Tryd.results35, go_sem]) rfl ⟨rfl, below_drewN (below_drewN ((((Below.refl _ _).alloc (Nat.le_refl _) _).alloc (by simp) _).alloc (by simp <;> omega) _) 1) 1⟩
set_option maxRecDepth 100000 in
set_option maxHeartbeats 2000000 in
theorem bounds_3 (P I B : Int) (w : World) : Calls Tryd.prog 35 #[.int .u8 3, gv P I B] w fun e w' => e = .returned (.tuple #[Ino.v ⟨0, 0, 0, 1, 1, 1, 0, 0, 0, 0, 0, 0, 0⟩, Ino.v ⟨0, 8, 0, 64, B, B, 0, 0, 0, 0, 0, 1099511627776, 1099511627776⟩, .bool true]) ∧ Below w.heap.size w w' := by
  go_enter Tryd.func35, Tryd.ntmps35
  go_wp2_with (fail)
  go_region
  go_wp2_with (fail)
  go_region
  go_wp2_with (fail)
  exact bodyPost_ret (v := .tuple #[Ino.v ⟨0, 0, 0, 1, 1, 1, 0, 0, 0, 0, 0, 0, 0⟩, Ino.v ⟨0, 8, 0, 64, B, B, 0, 0, 0, 0, 0, 1099511627776, 1099511627776⟩, .bool true]) (by simp [results, Tryd.results35, go_sem]) rfl ⟨rfl, below_drewN (below_drewN ((((Below.refl _ _).alloc (Nat.le_refl _) _).alloc (by simp) _).alloc (by simp <;> omega) _) 1) 1⟩
set_option maxRecDepth 100000 in
set_option maxHeartbeats 2000000 in
theorem bounds_0 (P I B : Int) (w : World) : Calls Tryd.prog 35 #[.int .u8 0, gv P I B] w fun e w' => e = .returned (.tuple #[Ino.v ⟨0, 0, 0, 0, 0, 0, 0, 0, 0, 0, 0, 0, 0⟩, Ino.v ⟨0, 0, 0, 0, 0, 0, 0, 0, 0, 0, 0, 0, 0⟩, .bool true]) ∧ Below w.heap.size w w' := by
  go_enter Tryd.func35, Tryd.ntmps35
  go_wp2_with (fail)
  go_region
  go_wp2_with (fail)
  exact bodyPost_ret (v := .tuple #[Ino.v ⟨0, 0, 0, 0, 0, 0, 0, 0, 0, 0, 0, 0, 0⟩, Ino.v ⟨0, 0, 0, 0, 0, 0, 0, 0, 0, 0, 0, 0, 0⟩, .bool true]) (by simp [results, Tryd.results35, go_sem]) rfl ⟨rfl, below_drewN ((((Below.refl _ _).alloc (Nat.le_refl _) _).alloc (by simp) _).alloc (by simp <;> omega) _) 1⟩
set_option maxRecDepth 100000 in
set_option maxHeartbeats 2000000 in
theorem bounds_x (k P I B : Int) (w : World) (h1 : ¬ k = 1) (h2 : ¬ k = 2) (h3 : ¬ k = 3) (h0 : ¬ k = 0) : Calls Tryd.prog 35 #[.int .u8 k, gv P I B] w fun e w' => e = .returned (.tuple #[Ino.v ⟨0, 0, 0, 0, 0, 0, 0, 0, 0, 0, 0, 0, 0⟩, Ino.v ⟨0, 0, 0, 0, 0, 0, 0, 0, 0, 0, 0, 0, 0⟩, .bool false]) ∧ Below w.heap.size w w' := by
  have e1 : (k == 1) = false := by simpa using h1
  have e2 : (k == 2) = false := by simpa using h2
  have e3 : (k == 3) = false := by simpa using h3
  have e0 : (k == 0) = false := by simpa using h0
  clear h1 h2 h3 h0
  go_enter Tryd.func35, Tryd.ntmps35
  go_wp2_with (fail)
  go_region
  go_wp2_with (fail)
  exact bodyPost_ret (v := .tuple #[Ino.v ⟨0, 0, 0, 0, 0, 0, 0, 0, 0, 0, 0, 0, 0⟩, Ino.v ⟨0, 0, 0, 0, 0, 0, 0, 0, 0, 0, 0, 0, 0⟩, .bool false]) (by simp [results, Tryd.results35, go_sem]) rfl ⟨rfl, below_drewN ((((Below.refl _ _).alloc (Nat.le_refl _) _).alloc (by simp) _).alloc (by simp <;> omega) _) 1⟩
end Go.Proofs.YtppnicdhahgigaaDoor
