/- Rows of ints as values. -/
import Derived.Test.YthlodfahajaneaaCel
import Derived.Test.YthlodfahajaneaaKit
import Derived.Test.YthlodfahajaneaaProg
set_option linter.unusedSimpArgs false
set_option linter.unusedVariables false
namespace Go.Proofs.Ythlodfahajaneaa
open Go.RowKit WordMath
def iv (l : List Int) : List Value := l.map fun x => Value.int .i64 x
theorem iv_length (l : List Int) : (iv l).length = l.length := by simp [iv]
theorem iv_get (l : List Int) (k : Nat) (h : k < l.length) : (iv l)[k]? = some (.int .i64 (l.getD k 0)) := by
  simp [iv, List.getElem?_map, List.getD_eq_getElem?_getD, List.getElem?_eq_getElem h]
theorem iv_set (l : List Int) (k : Nat) (v : Int) : iv (l.set k v) = (iv l).set k (.int .i64 v) := by simp [iv, List.map_set]
theorem iv_append (l m : List Int) : iv (l ++ m) = iv l ++ iv m := by simp [iv]
theorem iv_one (l : List Int) : ∀ u ∈ iv l, u.oneCell' = true := by
  intro u hu
  simp only [iv, List.mem_map] at hu
  obtain ⟨x, _, rfl⟩ := hu
  rfl
theorem Cel.int {w : World} {A : Option Addr} {l : List Int} (h : Cel w A (iv l)) {k : Nat} (hk : k < l.length) :
    ∃ ad, A = some ad ∧ w.cell? (ad.add k) = some (.int .i64 (l.getD k 0)) := by
  obtain ⟨ad, e, _, hc⟩ := h (by rw [iv_length]; omega)
  exact ⟨ad, e, hc _ _ (iv_get l k hk)⟩
theorem i64_info : (Try.prog.info? 3).map (fun i => (i.zero, i.size, i.bytes)) = some (some (.int .i64 0), 1, 8) := by kernel_rfl
end Go.Proofs.Ythlodfahajaneaa
