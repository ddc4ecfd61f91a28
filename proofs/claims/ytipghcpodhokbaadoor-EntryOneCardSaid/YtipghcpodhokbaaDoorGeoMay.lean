/- The document's own: which geometries may be. -/
import Derived.Test.YtipghcpodhokbaaDoorGeoCk
set_option linter.unusedSimpArgs false
set_option linter.unusedVariables false
namespace Go.Proofs.YtipghcpodhokbaaDoor
open Go.RowKit
theorem may_yes (P I B : Int) (w : World) (h : GOK P I B) : Calls Tryd.prog 17 #[gv P I B] w fun e w' => e = .returned (.bool true) ∧ Below w.heap.size w w' := by
  obtain ⟨⟨h1, h2⟩, ⟨h3, h4⟩, ⟨h5, h6⟩⟩ := h
  go_enter Tryd.func17, Tryd.ntmps17
  go_wp2
  go_ret
  exact ⟨by simp, (Below.refl _ _).alloc (Nat.le_refl _) _⟩
theorem may_no1 (P I B : Int) (w : World)  (n : P < 1) : Calls Tryd.prog 17 #[gv P I B] w fun e w' => e = .returned (.bool false) ∧ Below w.heap.size w w' := by
  have hd : decide (1 ≤ P) = false := by rw [decide_eq_false_iff_not]; omega
  go_enter Tryd.func17, Tryd.ntmps17
  go_wp2
  go_ret
  exact ⟨by simp, (Below.refl _ _).alloc (Nat.le_refl _) _⟩
theorem may_no2 (P I B : Int) (w : World) (h1 : 1 ≤ P) (n : 8 < P) : Calls Tryd.prog 17 #[gv P I B] w fun e w' => e = .returned (.bool false) ∧ Below w.heap.size w w' := by
  have hd : decide (P ≤ 8) = false := by rw [decide_eq_false_iff_not]; omega
  go_enter Tryd.func17, Tryd.ntmps17
  go_wp2
  go_ret
  exact ⟨by simp, (Below.refl _ _).alloc (Nat.le_refl _) _⟩
theorem may_no3 (P I B : Int) (w : World) (h1 : 1 ≤ P) (h2 : P ≤ 8) (n : I < 2) : Calls Tryd.prog 17 #[gv P I B] w fun e w' => e = .returned (.bool false) ∧ Below w.heap.size w w' := by
  have hd : decide (2 ≤ I) = false := by rw [decide_eq_false_iff_not]; omega
  go_enter Tryd.func17, Tryd.ntmps17
  go_wp2
  go_ret
  exact ⟨by simp, (Below.refl _ _).alloc (Nat.le_refl _) _⟩
theorem may_no4 (P I B : Int) (w : World) (h1 : 1 ≤ P) (h2 : P ≤ 8) (h3 : 2 ≤ I) (n : 64 < I) : Calls Tryd.prog 17 #[gv P I B] w fun e w' => e = .returned (.bool false) ∧ Below w.heap.size w w' := by
  have hd : decide (I ≤ 64) = false := by rw [decide_eq_false_iff_not]; omega
  go_enter Tryd.func17, Tryd.ntmps17
  go_wp2
  go_ret
  exact ⟨by simp, (Below.refl _ _).alloc (Nat.le_refl _) _⟩
theorem may_no5 (P I B : Int) (w : World) (h1 : 1 ≤ P) (h2 : P ≤ 8) (h3 : 2 ≤ I) (h4 : I ≤ 64) (n : B < 4) : Calls Tryd.prog 17 #[gv P I B] w fun e w' => e = .returned (.bool false) ∧ Below w.heap.size w w' := by
  have hd : decide (4 ≤ B) = false := by rw [decide_eq_false_iff_not]; omega
  go_enter Tryd.func17, Tryd.ntmps17
  go_wp2
  go_ret
  exact ⟨by simp, (Below.refl _ _).alloc (Nat.le_refl _) _⟩
theorem may_no6 (P I B : Int) (w : World) (h1 : 1 ≤ P) (h2 : P ≤ 8) (h3 : 2 ≤ I) (h4 : I ≤ 64) (h5 : 4 ≤ B) (n : 255 < B) : Calls Tryd.prog 17 #[gv P I B] w fun e w' => e = .returned (.bool false) ∧ Below w.heap.size w w' := by
  have hd : decide (B ≤ 255) = false := by rw [decide_eq_false_iff_not]; omega
  go_enter Tryd.func17, Tryd.ntmps17
  go_wp2
  go_ret
  exact ⟨by simp, (Below.refl _ _).alloc (Nat.le_refl _) _⟩
theorem may_no (P I B : Int) (w : World) (h : ¬ GOK P I B) : Calls Tryd.prog 17 #[gv P I B] w fun e w' => e = .returned (.bool false) ∧ Below w.heap.size w w' := by
  by_cases h1 : 1 ≤ P
  case neg => exact may_no1 P I B w  (by omega)
  by_cases h2 : P ≤ 8
  case neg => exact may_no2 P I B w h1 (by omega)
  by_cases h3 : 2 ≤ I
  case neg => exact may_no3 P I B w h1 h2 (by omega)
  by_cases h4 : I ≤ 64
  case neg => exact may_no4 P I B w h1 h2 h3 (by omega)
  by_cases h5 : 4 ≤ B
  case neg => exact may_no5 P I B w h1 h2 h3 h4 (by omega)
  by_cases h6 : B ≤ 255
  case neg => exact may_no6 P I B w h1 h2 h3 h4 h5 (by omega)
  exact absurd ⟨⟨h1, h2⟩, ⟨h3, h4⟩, ⟨h5, h6⟩⟩ h

end Go.Proofs.YtipghcpodhokbaaDoor
