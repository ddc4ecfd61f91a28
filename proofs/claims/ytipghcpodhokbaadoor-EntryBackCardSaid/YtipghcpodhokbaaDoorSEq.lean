/- Slots and faults, compared. -/
import Derived.Test.YtipghcpodhokbaaDoorSlo1
import Derived.Laws.StructEq
import Derived.StillTactics
set_option linter.unusedSimpArgs false
set_option linter.unusedVariables false
namespace Go.Proofs.YtipghcpodhokbaaDoor
open Go.RowKit
/-- Are two slots the same, field by field? -/
def sameS (a b : Int) (s : ByteArray) (a' b' : Int) (s' : ByteArray) : Bool := decide (a = a') && (decide (b = b') && decide (s = s'))
theorem sameS_eq {x y : Slt} : sameS x.I x.K x.S y.I y.K y.S = true ↔ x = y := by
  unfold sameS
  simp only [Bool.and_eq_true, decide_eq_true_eq]
  constructor
  · rintro ⟨h1, h2, h3⟩
    cases x; cases y
    simp only at h1 h2 h3
    rw [h1, h2, h3]
  · rintro rfl; exact ⟨rfl, rfl, rfl⟩
theorem sameS_self (x : Slt) : sameS x.I x.K x.S x.I x.K x.S = true := sameS_eq.2 rfl
theorem sameS_no {x y : Slt} (h : x ≠ y) : sameS x.I x.K x.S y.I y.K y.S = false := by
  cases hb : sameS x.I x.K x.S y.I y.K y.S
  · rfl
  · exact absurd (sameS_eq.1 hb) h
theorem isZ_same (x : Slt) : sameS x.I x.K x.S 0 0 ⟨#[]⟩ = isZ x := by
  rw [Bool.eq_iff_iff]
  exact Iff.trans (sameS_eq (y := zS)) isZ_eq.symm
theorem ba_toList {s t : ByteArray} : s.toList = t.toList ↔ s = t := by
  constructor
  · intro h
    rw [ByteArray.toList_eq, ByteArray.toList_eq] at h
    cases s; cases t
    simp only at h
    rw [Array.toList_inj.1 h]
  · rintro rfl; rfl
set_option maxRecDepth 100000 in
theorem eqS_in (d : Nat) (a b : Int) (s : ByteArray) (a' b' : Int) (s' : ByteArray) (w : World) :
    (Op.equalIn (d + 2) 23 (.agg #[.int .i64 a, .int .u8 b, .string s]) (.agg #[.int .i64 a', .int .u8 b', .string s'])).run Tryd.prog w = .ok (sameS a b s a' b' s') w := by
  have u3 := Tryd.underlying3
  have a3 := Tryd.isAgg3
  have z3 := Tryd.sizeOf3
  have u4 := Tryd.underlying5
  have a4 := Tryd.isAgg5
  have z4 := Tryd.sizeOf5
  have u5 := Tryd.underlying9
  have a5 := Tryd.isAgg9
  have z5 := Tryd.sizeOf9
  have hS : Tryd.prog.underlying 23 = some (.struct (Tryd.prog.fieldsOf 23)) := by kernel_rfl
  have hp : Tryd.prog.stoodInHeld 23 = false := by kernel_rfl
  rw [show d + 2 = (d + 1) + 1 from rfl, run_equalIn_agg w (d + 1) 23 _ _ hS hp]
  simp only [Program.fieldsOf, Tryd.underlying23]
  go_simp
  unfold sameS
  by_cases h1 : a = a' <;> by_cases h2 : b = b' <;> by_cases h3 : s = s' <;> simp [h1, h2, h3, ba_toList]
theorem eqS (a b : Int) (s : ByteArray) (a' b' : Int) (s' : ByteArray) (w : World) :
    (Op.equalIn 10000 23 (.agg #[.int .i64 a, .int .u8 b, .string s]) (.agg #[.int .i64 a', .int .u8 b', .string s'])).run Tryd.prog w = .ok (sameS a b s a' b' s') w := eqS_in 9998 ..
set_option maxRecDepth 100000 in
@[go_sem] theorem eqF (k n k' n' : Int) (w : World) : (Op.equalIn 10000 54 (.agg #[.int .i64 k, .int .i64 n]) (.agg #[.int .i64 k', .int .i64 n'])).run Tryd.prog w = .ok (k == k' && n == n') w := by
  have u3 := Tryd.underlying3
  have a3 := Tryd.isAgg3
  have z3 := Tryd.sizeOf3
  have u4 := Tryd.underlying32
  have a4 := Tryd.isAgg32
  have z4 := Tryd.sizeOf32
  have hS : Tryd.prog.underlying 54 = some (.struct (Tryd.prog.fieldsOf 54)) := by kernel_rfl
  have hp : Tryd.prog.stoodInHeld 54 = false := by kernel_rfl
  rw [show (10000 : Nat) = 9999 + 1 from rfl, run_equalIn_agg w 9999 54 _ _ hS hp]
  simp only [Program.fieldsOf, Tryd.underlying54]
  go_simp
  by_cases h1 : k = k' <;> by_cases h2 : n = n' <;> simp [h1, h2]
/-- Against the empty one. -/
theorem eqZ {x : Slt} {b : Bool} (h : isZ x = b) (w : World) :
    (Op.equalIn 10000 23 (.agg #[.int .i64 x.I, .int .u8 x.K, .string x.S]) (.agg #[.int .i64 0, .int .u8 0, .string ⟨#[]⟩])).run Tryd.prog w = .ok b w := by
  rw [eqS, isZ_same, h]
end Go.Proofs.YtipghcpodhokbaaDoor
