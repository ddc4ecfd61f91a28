/- Which numbers attributes have. -/
import Derived.Test.YtejhodjbgablaaaCk2
set_option linter.unusedSimpArgs false
set_option linter.unusedVariables false
namespace Go.Proofs.Ytejhodjbgablaaa
open Go.RowKit
structure CNum (x : Ac) : Prop where
  us : ∀ (k : Nat) p, x.us[k]? = some p → p.id < 65536 ∧ p.pm < 256
  gs : ∀ (k : Nat) p, x.gs[k]? = some p → p.id < 65536 ∧ p.pm < 256
structure ANum (x : At) : Prop where
  ui : x.ui < 65536
  gi : x.gi < 65536
  ac : CNum x.ac
  df : CNum x.df
structure Nb (x : Ac) : Prop where
  ow : x.ow < 256
  gr : x.gr < 256
  ot : x.ot < 256
  ms : x.ms < 256
  pm : ∀ (k : Nat) p, x.gs[k]? = some p → p.pm < 256
theorem amay_parts {x : At} (h : amayB x = true) : x.bi ≤ 7 ∧ mayB x.ac = true ∧ mayB x.df = true ∧ (x.hd || sameB x.df acZ) = true ∧ xsB x.xs = true := by
  unfold amayB defB at h
  simp only [Bool.and_eq_true, decide_eq_true_eq] at h
  exact ⟨h.1, h.2.1, h.2.2.1.1, h.2.2.1.2, h.2.2.2⟩
theorem asm_of {x : At} (h : amayB x = true) : ASm x := by
  obtain ⟨h1, h2, h3, _, h5⟩ := amay_parts h
  have m2 := mayB_iff.1 h2
  have m3 := mayB_iff.1 h3
  have a1 := (namedB_iff.1 m2.us).2
  have a2 := (namedB_iff.1 m2.gs).2
  have a3 := (namedB_iff.1 m3.us).2
  have a4 := (namedB_iff.1 m3.gs).2
  have a5 := (xsB_iff.1 h5).2
  exact ⟨⟨by omega, by omega⟩, ⟨by omega, by omega⟩, by omega⟩
end Go.Proofs.Ytejhodjbgablaaa
