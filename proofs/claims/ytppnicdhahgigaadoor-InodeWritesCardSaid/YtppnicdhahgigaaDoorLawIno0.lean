/- A record and a geometry in blocks of their own, one behind the other. -/
import Derived.Test.YtppnicdhahgigaaDoorInoAlive
namespace Go.Proofs.YtppnicdhahgigaaDoor
open Go.RowKit SumMath WordMath
/-- Such blocks. -/
structure Two (w : World) (b : Nat) (x : Ino) (P I B : Int) : Prop where
  ino : Ib w b x
  geo : w.heap[b + 1]? = some (.cells #[.int .i64 P, .int .i64 I, .int .i64 B] 27 (0, 0))
theorem Two.on {w w' : World} {b : Nat} {x : Ino} {P I B : Int} (h : Two w b x P I B) (hb : On w w') : Two w' b x P I B :=
  ⟨h.ino.below hb h.ino.lt, (Below.block hb _ (lt_of_cells h.geo)).trans h.geo⟩
theorem Two.new (w : World) (x : Ino) (P I B : Int) : Two ((w.alloc (.cells x.c 25)).alloc (.cells #[.int .i64 P, .int .i64 I, .int .i64 B] 27)) w.heap.size x P I B :=
  ⟨(Ib.new w x).below (k := w.heap.size + 1) ((Below.refl _ _).alloc (by simp) _) (by omega), by
    have h := heap_alloc_new (w.alloc (.cells x.c 25)) (.cells #[.int .i64 P, .int .i64 I, .int .i64 B] 27)
    rw [World.size_alloc] at h
    exact h⟩
theorem on_alloc (w : World) (o : Obj) : On w (w.alloc o) := (Below.refl _ _).alloc (Nat.le_refl _) o
theorem on_two (w : World) (o o' : Obj) : On w ((w.alloc o).alloc o') := (on_alloc w o).trans (on_alloc _ o')
theorem on_drewN (w : World) (n : Nat) : On w (w.drewN n) := below_drewN (Below.refl _ _) n
end Go.Proofs.YtppnicdhahgigaaDoor
