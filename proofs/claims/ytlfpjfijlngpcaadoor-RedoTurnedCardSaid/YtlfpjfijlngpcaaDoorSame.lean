/- What the document's own Same tells of two rows of words. -/
import Derived.Test.YtlfpjfijlngpcaaDoorProg
import Derived.Test.YtlfpjfijlngpcaaDoorMem
import Derived.WalkKit
import Derived.WalkSpells
import Derived.WalkLawsBesides
import Derived.Lib.Hide
import Derived.Deep.QuietTactic
import Derived.BigQuiet
set_option linter.unusedSimpArgs false
set_option linter.unusedVariables false
namespace Go.Proofs.YtlfpjfijlngpcaaDoor
open Go.RowKit WordMath
/-- The first k words are the same. -/
structure SameTo (l m : List Nat) (k : Nat) : Prop where
  all : ∀ j, j < k → l.getD j 0 = m.getD j 0
theorem SameTo.eq {l m : List Nat} (h : SameTo l m l.length) (hl : l.length = m.length) : l = m := by
  apply List.ext_getElem hl
  intro i h1 h2
  have := h.all i h1
  simpa [List.getD_eq_getElem?_getD, List.getElem?_eq_getElem h1, List.getElem?_eq_getElem h2] using this
def sameV (l m : List Nat) : Bool := decide (l = m)
theorem same_calls (A B : Option Addr) (l m : List Nat) (c d : Nat) (w : World) (ha : Row w A l) (hb : Row w B m) (hlen : l.length ≤ 140737488355328) (hlen2 : m.length ≤ 140737488355328) :
    Calls Tryd.prog 12 #[.slice A l.length c, .slice B m.length d] w (Q (.bool (sameV l m)) w) := by
  by_cases hn : l.length = m.length
  · go_enter Tryd.func12, Tryd.ntmps12
    go_wp2_with (fail)
    go_loopw [5] (fun i wr => ∃ k : Nat, i = .int .i64 k ∧ k ≤ l.length ∧ SameTo l m k ∧ ∃ q, wr = w.drewN q) (fun i _ => l.length - (intOf i).toNat)
    case atStart => exact ⟨0, rfl, by omega, ⟨fun j hj => absurd hj (by omega)⟩, 0, rfl⟩
    case round =>
      obtain ⟨k, rfl, hk, hs, q, rfl⟩ := hrel
      by_cases h1 : k < l.length
      · obtain ⟨ad, rfl, _, hca⟩ := ha (by omega)
        obtain ⟨ad', rfl, _, hcb⟩ := hb (by omega)
        have h1a := hca k h1
        have h1b := hcb k (by omega)
        by_cases he : l.getD k 0 = m.getD k 0
        · have hs' : SameTo l m (k + 1) := ⟨fun j hj => by
            by_cases h : j < k
            · exact hs.all j h
            · obtain rfl : j = k := by omega
              exact he⟩
          rw [← he] at h1b
          clear hca hcb ha hb he
          generalize l.getD k 0 = x at *
          go_wp2_with (fail)
          go_quiet (fail)
          go_wp2_with (fail)
          go_roundw
          case rel => exact ⟨k + 1, by go_num, by omega, hs', _, rfl⟩
          case measure => simp [intOf]; omega
        · have hne : ((l.getD k 0 : Int) == (m.getD k 0 : Nat)) = false := by rw [beq_eq_false_iff_ne]; omega
          have kv : Hid (sameV l m = false) := by
            show sameV l m = false
            unfold sameV
            rw [decide_eq_false_iff_not]
            rintro rfl
            exact he rfl
          clear hca hcb ha hb he
          generalize l.getD k 0 = x at *
          generalize m.getD k 0 = y at *
          go_wp2_with (fail)
          go_quiet (fail)
          go_wp2_with (fail)
          go_ret
          rw [kv.out]
          rw [World.drewN_drewN]
          exact Q.of
      · have kv : Hid (sameV l m = true) := by
          show sameV l m = true
          unfold sameV
          rw [decide_eq_true_eq]
          obtain rfl : k = l.length := by omega
          exact hs.eq hn
        go_wp2_with (fail)
        go_ret
        rw [kv.out]
        exact Q.of
  · have kv : Hid (sameV l m = false) := by
      show sameV l m = false
      unfold sameV
      rw [decide_eq_false_iff_not]
      rintro rfl
      exact hn rfl
    have hne : ((l.length : Int) == (m.length : Nat)) = false := by rw [beq_eq_false_iff_ne]; omega
    go_enter Tryd.func12, Tryd.ntmps12
    go_wp2_with (fail)
    go_ret
    rw [kv.out]
    exact Q.self
theorem sameV_self (l : List Nat) : sameV l l = true := by unfold sameV; simp
end Go.Proofs.YtlfpjfijlngpcaaDoor
