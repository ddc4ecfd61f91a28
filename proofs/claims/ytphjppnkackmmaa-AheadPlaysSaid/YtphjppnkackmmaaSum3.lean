/- Rows of words: each is one. -/
import Derived.Test.YtphjppnkackmmaaOwn
set_option linter.unusedSimpArgs false
set_option linter.unusedVariables false
namespace Go.Proofs.Ytphjppnkackmmaa
open Go.RowKit WordMath
theorem Wd.mem {l : List Nat} (h : Wd l) : ∀ x ∈ l, x < 18446744073709551616 := fun x hx => by
  obtain ⟨i, hi, rfl⟩ := List.getElem_of_mem hx
  have := h i
  rwa [List.getD_eq_getElem?_getD, List.getElem?_eq_getElem hi, Option.getD_some] at this
theorem Wd.of_mem {l : List Nat} (h : ∀ x ∈ l, x < 18446744073709551616) : Wd l := fun k => by
  rw [List.getD_eq_getElem?_getD]
  rcases Nat.lt_or_ge k l.length with hk | hk
  · rw [List.getElem?_eq_getElem hk, Option.getD_some]; exact h _ (List.getElem_mem hk)
  · rw [List.getElem?_eq_none hk]; decide
end Go.Proofs.Ytphjppnkackmmaa
