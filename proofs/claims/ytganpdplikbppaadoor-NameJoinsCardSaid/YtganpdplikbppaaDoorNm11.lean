/- Two paths that are the same. -/
import Derived.Test.YtganpdplikbppaaDoorNm7
set_option linter.unusedSimpArgs false
set_option linter.unusedVariables false
namespace Go.Proofs.YtganpdplikbppaaDoor
open Go.RowKit Go.Lib

set_option maxRecDepth 100000 in
set_option maxHeartbeats 4000000 in
theorem same_calls (r d : Bool) (A1 A2 : Option Addr) (xs : List ByteArray) (c1 c2 : Nat) (w : World) (h1 : Cel w A1 (sv xs)) (h2 : Cel w A2 (sv xs)) (hl : xs.length ≤ 1099511627776) :
    Calls Tryd.prog 17 #[pv r d A1 xs.length c1, pv r d A2 xs.length c2] w fun e w' => e = .returned (.bool true) ∧ Below w.heap.size w w' := by
  unfold pv
  have hb : Below w.heap.size w ((w.alloc (.cells #[.bool r, .bool d, .slice A1 xs.length c1] 29)).alloc (.cells #[.bool r, .bool d, .slice A2 xs.length c2] 29)) := ((Below.refl _ _).alloc (Nat.le_refl _) _).alloc (by simp) _
  have g1 := h1.below hb
  have g2 := h2.below hb
  have G1 := Lib.hid g1
  have G2 := Lib.hid g2
  have HB := Lib.hid hb
  clear g1 g2 hb h1 h2
  go_enter Tryd.func17, Tryd.ntmps17
  go_wp2_with (fail)
  go_loopw [5] (fun i wr => ∃ k m : Nat, i = .int .i64 k ∧ wr = ((w.alloc (.cells #[.bool r, .bool d, .slice A1 xs.length c1] 29)).alloc (.cells #[.bool r, .bool d, .slice A2 xs.length c2] 29)).drewN m ∧ k ≤ xs.length) (fun i _ => xs.length - (RowKit.intOf i).toNat)
  case atStart => exact ⟨0, 0, rfl, rfl, Nat.zero_le _⟩
  case round =>
    obtain ⟨k, m, rfl, rfl, hk⟩ := hrel
    by_cases hkl : k < xs.length
    · obtain ⟨x, hx⟩ : ∃ x, xs[k]? = some x := ⟨_, List.getElem?_eq_getElem hkl⟩
      obtain ⟨a1, rfl, l1, e1⟩ := G1.out (by rw [sv_length]; omega)
      obtain ⟨a2, rfl, l2, e2⟩ := G2.out (by rw [sv_length]; omega)
      have e1 := e1 k (.string x) (sv_at hx)
      have e2 := e2 k (.string x) (sv_at hx)
      clear hx
      go_wp2_with (go_quiet (fail))
      go_roundw
      case rel => exact ⟨k + 1, m + nq, by go_num, by simp [World.drewN, Nat.add_assoc], by omega⟩
      case measure => simp [RowKit.intOf] <;> omega
    · obtain rfl : k = xs.length := by omega
      go_wp2_with (fail)
      go_ret
      exact ⟨rfl, below_drewN HB.out _⟩
end Go.Proofs.YtganpdplikbppaaDoor
