/- A list as an argument. -/
import Derived.Test.YtdioafoikcfhhaaGw
set_option linter.unusedSimpArgs false
set_option linter.unusedVariables false
set_option linter.unusedSimpArgs false
set_option linter.unusedVariables false
namespace Go.Proofs.Ytdioafoikcfhhaa
open Go.Joins Go.ChangeShapes Go.WideShapes Go.ChangeAt Go.WideMaps Go.WideElems Go.RowKit Go.Deep
section
variable {H : Type} {enc : TypeId × Value → H} {w : World}
theorem open_acl {base : Nat} {v : Value} {d : DataW H} {ps : List MemPlace} (hok : Value.okWide Try.prog w .any base 28 v) (h : DataW.Trod enc Try.prog w 0 (fun _ => true) true 28 v d ps) :
    ∃ (x : Ac) (p : Lie), v = x.v p ∧ Lies w x p ∧ Bg x ∧ CNum x := by
  obtain ⟨cs, rfl, hsz⟩ := okWide_struct Try.underlying28 hok
  obtain ⟨fuel, hf⟩ := h
  obtain ⟨x, p, e, h1, h2, h3, _⟩ := open_aclc hf
  refine ⟨x, p, ?_, h1, h2, h3⟩
  have e2 : cs = x.c p := Array.toList_inj.1 e
  rw [e2]
end
end Go.Proofs.Ytdioafoikcfhhaa
