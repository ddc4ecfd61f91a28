/- Which attributes are the same. -/
import Derived.Test.YtejhodjbgablaaaXs
set_option linter.unusedSimpArgs false
set_option linter.unusedVariables false
namespace Go.Proofs.Ytejhodjbgablaaa
open Go.RowKit
instance : DecidableEq At := fun x y => if h : x.bi = y.bi ∧ x.ui = y.ui ∧ x.gi = y.gi ∧ x.ac = y.ac ∧ x.hd = y.hd ∧ x.df = y.df ∧ x.xs = y.xs then isTrue (by
    obtain ⟨h1, h2, h3, h4, h5, h6, h7⟩ := h
    cases x; cases y
    simp only at h1 h2 h3 h4 h5 h6 h7
    rw [h1, h2, h3, h4, h5, h6, h7]) else isFalse (by rintro rfl; exact h ⟨rfl, rfl, rfl, rfl, rfl, rfl, rfl⟩)
def asameB (x y : At) : Bool := decide (x = y)
theorem asameB_iff {x y : At} : asameB x y = true ↔ x = y := decide_eq_true_iff
theorem asameB_no {x y : At} (h : x ≠ y) : asameB x y = false := decide_eq_false h
theorem asameB_self (x : At) : asameB x x = true := asameB_iff.2 rfl
theorem at_ext {x y : At} (h1 : x.bi = y.bi) (h2 : x.ui = y.ui) (h3 : x.gi = y.gi) (h4 : x.ac = y.ac) (h5 : x.hd = y.hd) (h6 : x.df = y.df) (h7 : x.xs = y.xs) : x = y := by
  cases x; cases y
  simp only at h1 h2 h3 h4 h5 h6 h7
  rw [h1, h2, h3, h4, h5, h6, h7]
/-- Two attributes in two blocks. -/
structure Two (w wr : World) (x y : At) (p q : ALie) : Prop where
  one : Bt wr w.heap.size x p
  two : Bt wr (w.heap.size + 1) y q
  l1 : ALies wr x p
  l2 : ALies wr y q
  be : Below w.heap.size w wr
theorem Two.on {w wr w' : World} {x y : At} {p q : ALie} (h : Two w wr x y p q) (hb : Below wr.heap.size wr w') : Two w w' x y p q :=
  ⟨h.one.on hb, h.two.on hb, h.l1.below hb, h.l2.below hb, h.be.trans (hb.mono h.be.size)⟩
theorem Two.start {w : World} {x y : At} {p q : ALie} (h1 : ALies w x p) (h2 : ALies w y q) : Two w ((w.alloc (.cells (x.c p) 31)).alloc (.cells (y.c q) 31)) x y p q := by
  have b1 : Below w.heap.size w (w.alloc (.cells (x.c p) 31)) := (Below.refl _ _).alloc (Nat.le_refl _) _
  have b2 : Below (w.alloc (.cells (x.c p) 31)).heap.size (w.alloc (.cells (x.c p) 31)) ((w.alloc (.cells (x.c p) 31)).alloc (.cells (y.c q) 31)) := (Below.refl _ _).alloc (Nat.le_refl _) _
  refine ⟨(Bt.new w x p).on b2, ?_, (h1.below b1).below b2, (h2.below b1).below b2, b1.trans (b2.mono (by simp))⟩
  have h := Bt.new (w.alloc (.cells (x.c p) 31)) y q
  rwa [World.size_alloc] at h
end Go.Proofs.Ytejhodjbgablaaa
