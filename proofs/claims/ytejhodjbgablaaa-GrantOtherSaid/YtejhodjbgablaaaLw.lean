/- What the laws share. -/
import Derived.Test.YtejhodjbgablaaaLg
import Derived.Test.YtejhodjbgablaaaNu
import Derived.Test.YtejhodjbgablaaaRMay
import Derived.Test.YtejhodjbgablaaaCp
set_option linter.unusedSimpArgs false
set_option linter.unusedVariables false
namespace Go.Proofs.Ytejhodjbgablaaa
open Go.RowKit WordMath
/-- Attributes in a block, their rows in memory. -/
structure Hl (wr : World) (b : Nat) (x : At) (p : ALie) : Prop where
  bt : Bt wr b x p
  li : ALies wr x p
theorem Hl.on {wr w' : World} {b : Nat} {x : At} {p : ALie} (h : Hl wr b x p) (hb : Below wr.heap.size wr w') : Hl w' b x p := ⟨h.bt.on hb, h.li.below hb⟩
theorem Hl.new {w : World} {x : At} {p : ALie} (h : ALies w x p) : Hl (w.alloc (.cells (x.c p) 31)) w.heap.size x p := ⟨Bt.new w x p, h.below ((Below.refl _ _).alloc (Nat.le_refl _) _)⟩
/-- A variable is made, and attributes are stored in it. -/
theorem Hl.put {w : World} {x : At} {p : ALie} (h : ALies w x p) : Hl ((w.alloc (.cells zAt 31)).setRow w.heap.size (x.c p)) w.heap.size x p :=
  ⟨setRow_heap _ _ _ _ _ _ (heap_alloc_new w _), h.below (below_setRow ((Below.refl _ _).alloc (Nat.le_refl _) _) (Nat.le_refl _) _)⟩
theorem put_below (w : World) (C : Array Value) : Below w.heap.size w ((w.alloc (.cells zAt 31)).setRow w.heap.size C) := below_setRow ((Below.refl _ _).alloc (Nat.le_refl _) _) (Nat.le_refl _) _
theorem c_one (x : At) (p : ALie) : (x.c p).all (·.oneCell') = true := by rw [← Array.all_toList]; rfl
theorem c_size (x : At) (p : ALie) : (Try.prog.info? 31).map (·.size) = some (x.c p).size := attr_size
theorem key_pos {x : At} (h : amayB x = true) : ∀ (k : Nat) q, x.xs[k]? = some q → 0 < q.key.size := fun k q hk => by
  obtain ⟨_, _, _, _, h5⟩ := amay_parts h
  exact (keyB_iff.1 ((xsB_iff.1 h5).1.ky k q (List.getElem?_eq_some_iff.1 hk).1 hk)).1
end Go.Proofs.Ytejhodjbgablaaa
