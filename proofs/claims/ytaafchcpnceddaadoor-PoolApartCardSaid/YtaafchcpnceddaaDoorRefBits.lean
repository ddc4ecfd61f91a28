/- What the document's own Lowest, Count and Same tell of rows of bits. -/
import Derived.Test.YtaafchcpnceddaaDoorBits
set_option linter.unusedSimpArgs false
set_option linter.unusedVariables false
namespace Go.Proofs.YtaafchcpnceddaaDoor
open Go.RowKit WordMath
/-- Same, of two rows that are the same. -/
theorem same_calls (A B : Option Addr) (l : List Nat) (c d : Nat) (w : World) (ha : Row w A l) (hb : Row w B l) (hlen : l.length ≤ 140737488355328) :
    Calls Tryd.prog 15 #[.slice A l.length c, .slice B l.length d] w (Q (.bool true) w) := by
  go_enter Tryd.func15, Tryd.ntmps15
  go_wp2_with (fail)
  go_loopw [5] (fun i wr => ∃ k : Nat, i = .int .i64 k ∧ k ≤ l.length ∧ ∃ m, wr = w.drewN m) (fun i _ => l.length - (intOf i).toNat)
  case atStart => exact ⟨0, rfl, by omega, 0, rfl⟩
  case round =>
    obtain ⟨k, rfl, hk, m, rfl⟩ := hrel
    by_cases h1 : k < l.length
    · obtain ⟨ad, rfl, _, hca⟩ := ha (by omega)
      obtain ⟨ad', rfl, _, hcb⟩ := hb (by omega)
      have h1a := hca k h1
      have h1b := hcb k h1
      clear hca hcb ha hb
      go_wp2_with (fail)
      go_quiet (fail)
      go_wp2_with (fail)
      go_roundw
      case rel => exact ⟨k + 1, by go_num, by omega, _, rfl⟩
      case measure => simp [intOf]; omega
    · go_wp2_with (fail)
      go_ret
      exact Q.of
end Go.Proofs.YtaafchcpnceddaaDoor
