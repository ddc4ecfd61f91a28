/- Which geometries may be: within, Check. -/
import Derived.Test.YtipghcpodhokbaaDoorCel
import Derived.Test.YtipghcpodhokbaaDoorProg
import Derived.WalkKit
import Derived.WalkSpells
import Derived.WalkLawsBesides
import Derived.Lib.Hide
import Derived.Deep.QuietTactic
import Derived.BigQuiet
import Derived.Outline
set_option linter.unusedSimpArgs false
set_option linter.unusedVariables false
namespace Go.Proofs.YtipghcpodhokbaaDoor
open Go.RowKit
theorem within_yes (n lo hi : Int) (w : World) (h1 : lo ≤ n) (h2 : n ≤ hi) : Calls Tryd.prog 47 #[.int .i64 n, .int .i64 lo, .int .i64 hi] w fun e w' => e = .returned (.bool true) ∧ w = w' := by
  go_enter Tryd.func47, Tryd.ntmps47
  go_wp2
  go_ret
  exact ⟨rfl, rfl⟩
theorem within_no (n lo hi : Int) (w : World) (h : n < lo ∨ hi < n) : Calls Tryd.prog 47 #[.int .i64 n, .int .i64 lo, .int .i64 hi] w fun e w' => e = .returned (.bool false) ∧ w = w' := by
  by_cases h1 : lo ≤ n
  · have h2 : hi < n := by omega
    clear h
    go_enter Tryd.func47, Tryd.ntmps47
    have h3 : decide (n ≤ hi) = false := by rw [decide_eq_false_iff_not]; omega
    go_wp2
    go_ret
    exact ⟨by simp, rfl⟩
  · have h2 : n < lo := by omega
    clear h h1
    go_enter Tryd.func47, Tryd.ntmps47
    go_wp2
    go_ret
    exact ⟨rfl, rfl⟩
/-- A geometry as a value. -/
abbrev gv (P I B : Int) : Value := .agg #[.int .i64 P, .int .i64 I, .int .i64 B]
/-- It may be. -/
def GOK (P I B : Int) : Prop := (1 ≤ P ∧ P ≤ 8) ∧ (2 ≤ I ∧ I ≤ 64) ∧ (4 ≤ B ∧ B ≤ 255)
theorem check_ok (P I B : Int) (w : World) (h : GOK P I B) : Calls Tryd.prog 28 #[gv P I B] w fun e w' => e = .returned (.int .i64 0) ∧ Below w.heap.size w w' := by
  obtain ⟨⟨h1, h2⟩, ⟨h3, h4⟩, ⟨h5, h6⟩⟩ := h
  go_enter Tryd.func28, Tryd.ntmps28
  go_wp2_with (go_at_call 47; refine (within_yes _ _ _ _ (by assumption) (by assumption)).mono ?_; rintro e w' ⟨rfl, rfl⟩)
  go_ret
  exact ⟨rfl, (Below.refl _ _).alloc (Nat.le_refl _) _⟩
theorem check_bad (P I B : Int) (w : World) (h : ¬ GOK P I B) : Calls Tryd.prog 28 #[gv P I B] w fun e w' => e = .returned (.int .i64 2) ∧ Below w.heap.size w w' := by
  by_cases h1 : 1 ≤ P ∧ P ≤ 8
  · by_cases h2 : 2 ≤ I ∧ I ≤ 64
    · have h3 : B < 4 ∨ 255 < B := by unfold GOK at h; omega
      clear h
      go_enter Tryd.func28, Tryd.ntmps28
      go_wp2_with fail
      refine (within_yes _ _ _ _ h1.1 h1.2).mono ?_
      rintro e w' ⟨rfl, rfl⟩
      go_wp2_with fail
      refine (within_yes _ _ _ _ h2.1 h2.2).mono ?_
      rintro e w' ⟨rfl, rfl⟩
      go_wp2_with fail
      refine (within_no _ _ _ _ h3).mono ?_
      rintro e w' ⟨rfl, rfl⟩
      go_wp2_with fail
      go_ret
      exact ⟨rfl, (Below.refl _ _).alloc (Nat.le_refl _) _⟩
    · have h3 : I < 2 ∨ 64 < I := by omega
      clear h h2
      go_enter Tryd.func28, Tryd.ntmps28
      go_wp2_with fail
      refine (within_yes _ _ _ _ h1.1 h1.2).mono ?_
      rintro e w' ⟨rfl, rfl⟩
      go_wp2_with fail
      refine (within_no _ _ _ _ h3).mono ?_
      rintro e w' ⟨rfl, rfl⟩
      go_wp2_with fail
      go_ret
      exact ⟨rfl, (Below.refl _ _).alloc (Nat.le_refl _) _⟩
  · have h3 : P < 1 ∨ 8 < P := by omega
    clear h h1
    go_enter Tryd.func28, Tryd.ntmps28
    go_wp2_with fail
    refine (within_no _ _ _ _ h3).mono ?_
    rintro e w' ⟨rfl, rfl⟩
    go_wp2_with fail
    go_ret
    exact ⟨rfl, (Below.refl _ _).alloc (Nat.le_refl _) _⟩
end Go.Proofs.YtipghcpodhokbaaDoor
