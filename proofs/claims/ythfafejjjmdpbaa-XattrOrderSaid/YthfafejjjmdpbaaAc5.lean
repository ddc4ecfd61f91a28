/- Copies, and which lists are the same. -/
import Derived.Test.YthfafejjjmdpbaaAc2
import Derived.Deep.DeepCutAuto
set_option linter.unusedSimpArgs false
set_option linter.unusedVariables false
namespace Go.Proofs.Ythfafejjjmdpbaa
open Go.RowKit
/-- The rows of a copy (made at w): the call's own, apart. -/
structure Copied (w w' : World) (x : Ac) (p : Lie) : Prop where
  us : Mine w w' p.A x.us.length p.c x.us
  gs : Mine w w' p.B x.gs.length p.d x.gs
  ne : ∀ a b, p.A = some a → p.B = some b → a.block ≠ b.block
theorem Copied.lies {w w' : World} {x : Ac} {p : Lie} (h : Copied w w' x p) : Lies w' x p := ⟨h.us.cel, h.gs.cel⟩
theorem Mine.on {w w' w'' : World} {A : Option Addr} {n c : Nat} {L : List Nm} (h : Mine w w' A n c L) (hb : Below w'.heap.size w' w'') : Mine w w'' A n c L :=
  ⟨h.1.keep fun ad e => hb.block _ (h.1.lt ad e), h.2⟩
theorem Mine.from {v w w' : World} {A : Option Addr} {n c : Nat} {L : List Nm} (h : Mine w w' A n c L) (hb : v.heap.size ≤ w.heap.size) : Mine v w' A n c L :=
  ⟨h.1, fun ad e => Nat.le_trans hb (h.2 ad e)⟩
theorem Copied.on {w w' w'' : World} {x : Ac} {p : Lie} (h : Copied w w' x p) (hb : Below w'.heap.size w' w'') : Copied w w'' x p := ⟨h.us.on hb, h.gs.on hb, h.ne⟩
theorem Copied.from {v w w' : World} {x : Ac} {p : Lie} (h : Copied w w' x p) (hb : v.heap.size ≤ w.heap.size) : Copied v w' x p := ⟨h.us.from hb, h.gs.from hb, h.ne⟩
/-- Two rows, made one behind the other. -/
theorem Copied.of {w w1 w2 w3 : World} {x : Ac} {p : Lie} (h1 : Mine w w1 p.A x.us.length p.c x.us) (h12 : Below w1.heap.size w1 w2) (h2 : Mine w2 w3 p.B x.gs.length p.d x.gs) (h23 : Below w2.heap.size w2 w3) (h0 : w.heap.size ≤ w1.heap.size) : Copied w w3 x p :=
  ⟨(h1.on h12).on h23, h2.from (Nat.le_trans h0 h12.size), fun a b ha hb e => by
    have := h1.1.lt a ha
    have := h2.2 b hb
    have := h12.size
    omega⟩
/-- No list: what a result begins as. -/
abbrev acZ : Ac := ⟨0, 0, 0, [], [], false, 0⟩
abbrev lieZ : Lie := ⟨none, 0, none, 0⟩
section
variable {w w' : World} {b : Nat} {x : Ac} {p : Lie}
theorem Ab.set3 (h : Ab w b x p) (A : Option Addr) (c : Nat) : Ab (w.setCell ⟨b, 3, none⟩ (.slice A x.us.length c)) b x ⟨A, c, p.B, p.d⟩ := by
  unfold Ab at h ⊢
  exact heap_setCell_same _ _ _ _ _ _ h
theorem Ab.set4 (h : Ab w b x p) (B : Option Addr) (d : Nat) : Ab (w.setCell ⟨b, 4, none⟩ (.slice B x.gs.length d)) b x ⟨p.A, p.c, B, d⟩ := by
  unfold Ab at h ⊢
  exact heap_setCell_same _ _ _ _ _ _ h
theorem Ab.other (h : Ab w b x p) {a : Addr} (v : Value) (hne : b ≠ a.block) : Ab (w.setCell a v) b x p := by
  unfold Ab at h ⊢
  rw [Below.heap_setCell w a v b hne]
  exact h
/-- A cell of a block b turned: rows elsewhere stay. -/
theorem Cel.other {A : Option Addr} {xs : List Value} (h : Cel w A xs) {a : Addr} (v : Value) (hne : ∀ ad, A = some ad → 0 < xs.length → ad.block ≠ a.block) : Cel (w.setCell a v) A xs := fun h0 => by
  obtain ⟨ad, e, hl, hc⟩ := h h0
  have hn := hne ad e h0
  exact ⟨ad, e, by simpa [World.setCell] using hl, fun j u hu => (World.cell?_of_block (by rw [add_block]; exact Below.heap_setCell w a v ad.block hn)).trans (hc j u hu)⟩
theorem Mine.other {A : Option Addr} {n c : Nat} {L : List Nm} (h : Mine w w' A n c L) {a : Addr} (v : Value) (hne : ∀ ad, A = some ad → ad.block ≠ a.block) : Mine w (w'.setCell a v) A n c L :=
  ⟨h.1.keep fun ad e => Below.heap_setCell w' a v ad.block (hne ad e), h.2⟩
theorem Ab.two (w : World) (x : Ac) (p : Lie) : Ab ((w.alloc (.cells (x.c p) 57)).alloc (.cells (acZ.c lieZ) 57)) w.heap.size x p ∧ Ab ((w.alloc (.cells (x.c p) 57)).alloc (.cells (acZ.c lieZ) 57)) (w.heap.size + 1) acZ lieZ :=
  ⟨(Ab.new w x p).on ((Below.refl _ _).alloc (Nat.le_refl _) _), by have h := Ab.new (w.alloc (.cells (x.c p) 57)) acZ lieZ; rwa [World.size_alloc] at h⟩
end
section
variable {w w' : World} {b : Nat} {x0 : Ac} {p0 : Lie}
/-- All of a list, stored over another. -/
abbrev setAll (w : World) (b : Nat) (x : Ac) (p : Lie) : World := (((((((w.setCell ⟨b, 0, none⟩ (.int .u8 (x.ow : Nat))).setCell ⟨b, 1, none⟩ (.int .u8 (x.gr : Nat))).setCell ⟨b, 2, none⟩ (.int .u8 (x.ot : Nat))).setCell ⟨b, 3, none⟩ (.slice p.A x.us.length p.c)).setCell ⟨b, 4, none⟩ (.slice p.B x.gs.length p.d)).setCell ⟨b, 5, none⟩ (.bool x.hm)).setCell ⟨b, 6, none⟩ (.int .u8 (x.ms : Nat)))
theorem set_cell {cs : Array Value} {t : TypeId} {w : World} (h : w.heap[b]? = some (.cells cs t (0, 0))) (k : Nat) (v : Value) : (w.setCell ⟨b, k, none⟩ v).heap[b]? = some (.cells (cs.setIfInBounds k v) t (0, 0)) := by
  simp [World.setCell, Array.getElem?_modify, h]
theorem Ab.all (h : Ab w b x0 p0) (x : Ac) (p : Lie) : Ab (setAll w b x p) b x p := by
  have h7 := set_cell (set_cell (set_cell (set_cell (set_cell (set_cell (set_cell h 0 (.int .u8 (x.ow : Nat))) 1 (.int .u8 (x.gr : Nat))) 2 (.int .u8 (x.ot : Nat))) 3 (.slice p.A x.us.length p.c)) 4 (.slice p.B x.gs.length p.d)) 5 (.bool x.hm)) 6 (.int .u8 (x.ms : Nat))
  unfold Ab
  simpa using h7
theorem below_all {k : Nat} {p : Lie} (h : Below k w w') (hb : k ≤ b) (x : Ac) : Below k w (setAll w' b x p) :=
  ((((((h.setCell hb _).setCell hb _).setCell hb _).setCell hb _).setCell hb _).setCell hb _).setCell hb _
theorem Mine.all {A : Option Addr} {n c : Nat} {L : List Nm} (h : Mine w w' A n c L) (x : Ac) (p : Lie) (hne : ∀ ad, A = some ad → ad.block ≠ b) : Mine w (setAll w' b x p) A n c L :=
  ((((((h.other _ hne).other _ hne).other _ hne).other _ hne).other _ hne).other _ hne).other _ hne
theorem Copied.all {y : Ac} {q : Lie} (h : Copied w w' y q) (x : Ac) (p : Lie) (h1 : ∀ ad, q.A = some ad → ad.block ≠ b) (h2 : ∀ ad, q.B = some ad → ad.block ≠ b) : Copied w (setAll w' b x p) y q := ⟨h.us.all x p h1, h.gs.all x p h2, h.ne⟩
theorem Ab.others (h : Ab w b x0 p0) {g : Nat} (x : Ac) (p : Lie) (hne : b ≠ g) : Ab (setAll w g x p) b x0 p0 :=
  ((((((h.other _ hne).other _ hne).other _ hne).other _ hne).other _ hne).other _ hne).other _ hne
end
abbrev zC : Array Value := #[.int .u8 0, .int .u8 0, .int .u8 0, .slice none 0 0, .slice none 0 0, .bool false, .int .u8 0]
/-- A block that holds nothing yet. -/
def Zb (w : World) (b : Nat) : Prop := w.heap[b]? = some (.cells zC 57 (0, 0))
theorem Zb.ab {w : World} {b : Nat} (h : Zb w b) : Ab w b acZ lieZ := h
end Go.Proofs.Ythfafejjjmdpbaa
