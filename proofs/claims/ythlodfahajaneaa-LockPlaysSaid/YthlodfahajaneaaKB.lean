/- Both tables; a step's block beside them. -/
import Derived.Test.YthlodfahajaneaaKv
import Derived.Test.YthlodfahajaneaaKo
set_option linter.unusedSimpArgs false
set_option linter.unusedVariables false
namespace Go.Proofs.Ythlodfahajaneaa
open Go Go.RowKit LockMath Go.Shelf
structure Pt (w u : World) (T G : Nat) (As : List (Option Addr × Nat)) (Q : List (List Int)) (T' G' : Nat) (As' : List (Option Addr × Nat)) (R : List (List Int)) (n : Int) : Prop where
  tb : Tb w u T G As n Q
  rb : Rb w u T' G' As' n R
  on : Below w.heap.size w u
  dj : ∀ k, TF T G As k → ¬ TF T' G' As' k
section
variable {w w1 u u' : World} {T G T' G' gx : Nat} {As As' As2 : List (Option Addr × Nat)} {Q R Q2 : List (List Int)} {n : Int} {X : Array Value}
theorem Pt.below (h : Pt w u T G As Q T' G' As' R n) (hb : Below u.heap.size u u') : Pt w u' T G As Q T' G' As' R n := ⟨h.tb.below hb, h.rb.below hb, h.on.trans (hb.mono h.on.size), h.dj⟩
theorem Pt.turnA (h : Pt w u T G As Q T' G' As' R n) (h2 : Tb w u' T G As2 n Q2) (t : Tn u u' T G As As2) : Pt w u' T G As2 Q2 T' G' As' R n :=
  ⟨h2, ⟨h.rb.tg.keep fun k hk => t.only.block k (h.rb.tg.ltF hk) fun hf => h.dj k hf hk, h.rb.nm⟩, t.below h.tb.tg h.on, fun k hk hq => by
    rcases t.fr k hk with h1 | h1
    · exact h.dj k h1 hq
    · have := h.rb.tg.ltF hq; omega⟩
theorem Pt.turnB (h : Pt w u T G As Q T' G' As' R n) (h2 : Rb w u' T' G' As2 n Q2) (t : Tn u u' T' G' As' As2) : Pt w u' T G As Q T' G' As2 Q2 n :=
  ⟨(h.tb.tg.keep fun k hk => t.only.block k (h.tb.tg.ltF hk) (h.dj k hk)).tb rfl h.tb.nm, h2, t.below h.rb.tg h.on, fun k hk hq => by
    rcases t.fr k hq with h1 | h1
    · exact h.dj k hk h1
    · have := h.tb.tg.ltF hk; omega⟩
theorem Qm.base {ts te : TypeId} (h : Qm w1 u ts te G As Q) (hw : w.heap.size ≤ w1.heap.size) : Qm w u ts te G As Q :=
  ⟨h.ne, h.al, Nat.le_trans hw h.hG, h.blk, h.own, fun i hi ad hA => Nat.le_trans hw (h.hi i hi ad hA), h.ap⟩
theorem Tg.base {tt : TypeId} (h : Tg w1 u tt X T G As Q) (hw : w.heap.size ≤ w1.heap.size) : Tg w u tt X T G As Q :=
  ⟨h.blk, h.q.base hw, Nat.le_trans hw h.hT, h.n1, h.n2⟩
theorem Pt.start (h1 : Tb w w1 T G As n Q) (hb1 : Below w.heap.size w w1) (h2 : Rb w1 u T' G' As' n R) (hb2 : Below w1.heap.size w1 u) : Pt w u T G As Q T' G' As' R n :=
  ⟨h1.below hb2, ⟨h2.tg.base hb1.size, h2.nm⟩, hb1.trans (hb2.mono hb1.size), fun k hk hq => by
    have := h1.tg.ltF hk
    have := h2.tg.hF hq
    omega⟩
/-- With a step's block. -/
structure Pz (w u : World) (gx : Nat) (X : Array Value) (T G : Nat) (As : List (Option Addr × Nat)) (Q : List (List Int)) (T' G' : Nat) (As' : List (Option Addr × Nat)) (R : List (List Int)) (n : Int) : Prop where
  pt : Pt w u T G As Q T' G' As' R n
  xb : u.heap[gx]? = some (.cells X 31 (0, 0))
  x1 : ¬ TF T G As gx
  x2 : ¬ TF T' G' As' gx
theorem Pz.cell (h : Pz w u gx X T G As Q T' G' As' R n) (k : Nat) : u.cell? ⟨gx, k, none⟩ = X[k]? := cell_of_row u gx k _ _ _ h.xb
theorem Pz.start (h : Pt w u T G As Q T' G' As' R n) : Pz w (u.alloc (.cells X 31)) u.heap.size X T G As Q T' G' As' R n :=
  ⟨h.below ((Below.refl _ _).alloc (Nat.le_refl _) _), heap_alloc_new u _, fun hk => Nat.lt_irrefl _ (h.tb.tg.ltF hk), fun hk => Nat.lt_irrefl _ (h.rb.tg.ltF hk)⟩
theorem Pz.below (h : Pz w u gx X T G As Q T' G' As' R n) (hb : Below u.heap.size u u') : Pz w u' gx X T G As Q T' G' As' R n :=
  ⟨h.pt.below hb, (hb.block _ (lt_of_cells h.xb)).trans h.xb, h.x1, h.x2⟩
theorem Pz.turnA (h : Pz w u gx X T G As Q T' G' As' R n) (h2 : Tb w u' T G As2 n Q2) (t : Tn u u' T G As As2) : Pz w u' gx X T G As2 Q2 T' G' As' R n :=
  ⟨h.pt.turnA h2 t, (t.only.block _ (lt_of_cells h.xb) h.x1).trans h.xb, fun hk => by
    rcases t.fr _ hk with h1 | h1
    · exact h.x1 h1
    · have := lt_of_cells h.xb; omega, h.x2⟩
theorem Pz.turnB (h : Pz w u gx X T G As Q T' G' As' R n) (h2 : Rb w u' T' G' As2 n Q2) (t : Tn u u' T' G' As' As2) : Pz w u' gx X T G As Q T' G' As2 Q2 n :=
  ⟨h.pt.turnB h2 t, (t.only.block _ (lt_of_cells h.xb) h.x2).trans h.xb, h.x1, fun hk => by
    rcases t.fr _ hk with h1 | h1
    · exact h.x2 h1
    · have := lt_of_cells h.xb; omega⟩
end
end Go.Proofs.Ythlodfahajaneaa
