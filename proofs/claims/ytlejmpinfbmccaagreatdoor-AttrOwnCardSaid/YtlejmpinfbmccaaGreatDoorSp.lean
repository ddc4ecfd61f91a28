/- A copy whose rows are written into: nothing older turns. -/
import Derived.Test.YtlejmpinfbmccaaGreatDoorLw
set_option linter.unusedSimpArgs false
set_option linter.unusedVariables false
set_option linter.unusedSimpArgs false
set_option linter.unusedVariables false
namespace Go.Proofs.YtlejmpinfbmccaaGreatDoor
open Go.RowKit
theorem Cel.nm0 {w : World} {b o : Nat} {L : List Nm} (h : Cel w (some ⟨b, o, none⟩) (nv L)) {k : Nat} {p : Nm} (hk : L[k]? = some p) : w.cell? ⟨b, o + k * 2, none⟩ = some (.int .u16 (p.id : Nat)) ∧ w.cell? ⟨b, o + k * 2 + 1, none⟩ = some (.int .u8 (p.pm : Nat)) := by
  obtain ⟨b', o', e, _, hc⟩ := h.nm (by have := (List.getElem?_eq_some_iff.1 hk).1; omega)
  injection e with e
  injection e with e1 e2
  subst e1 e2
  exact hc k p hk
section
variable {w w' : World} {g n c k : Nat}
theorem OwnR.put {v : Value} {xs : List Value} {e : TypeId} {size : Nat} (h : OwnR w e size (some ⟨g, 0, none⟩) n c xs) (i : Nat) : OwnR (w.setCell ⟨g, i, none⟩ v) e size (some ⟨g, 0, none⟩) n c (xs.set i v) := by
  obtain ⟨h1, h2, h3, h4⟩ := h
  refine ⟨by rw [List.length_set]; exact h1, h2, h3, .inr ?_⟩
  rcases h4 with ⟨h4, _⟩ | ⟨g', cur, h4, hg, h5, h6⟩
  · cases h4
  · injection h4 with h4
    injection h4 with h4
    subst h4
    refine ⟨g, cur.setIfInBounds i v, rfl, set_cell hg i v, by simpa using h5, ?_⟩
    rw [Array.toList_setIfInBounds, List.take_set, h6]
theorem OwnR.head {xs : List Value} {e : TypeId} {size : Nat} {A : Option Addr} (h : OwnR w e size A n c xs) (hn : 0 < n) : ∃ g, A = some ⟨g, 0, none⟩ ∧ ∃ cur, w.heap[g]? = some (.cells cur e (0, 0)) := by
  obtain ⟨h1, h2, h3, h4⟩ := h
  rcases h4 with ⟨h4, h5⟩ | ⟨g', cur, h4, hg, h5, h6⟩
  · omega
  · exact ⟨g', h4, cur, hg⟩
theorem open_of {w : World} {g : Nat} {cur : Array Value} {e : TypeId} (h : w.heap[g]? = some (.cells cur e (0, 0))) (k : Nat) : w.frozen? ⟨g, k, none⟩ = false := by simp [World.frozen?, h]
theorem OwnR.other {xs : List Value} {e : TypeId} {size : Nat} {A : Option Addr} (h : OwnR w e size A n c xs) {a : Addr} (v : Value) (hne : ∀ ad, A = some ad → ad.block ≠ a.block) : OwnR (w.setCell a v) e size A n c xs :=
  h.keep fun ad e => Below.heap_setCell w a v ad.block (hne ad e)
end
/-- Where the copy's rows lie: apart, above what was there, below its block. -/
structure Apt (B g : Nat) (q : ALie) : Prop where
  ug : ∀ a b, q.p.A = some a → q.q.B = some b → a.block ≠ b.block
  ux : ∀ a b, q.p.A = some a → q.X = some b → a.block ≠ b.block
  gx : ∀ a b, q.q.B = some a → q.X = some b → a.block ≠ b.block
  x : ∀ a, q.X = some a → B ≤ a.block ∧ a.block < g
  u : ∀ a, q.p.A = some a → B ≤ a.block ∧ a.block < g
  v : ∀ a, q.q.B = some a → B ≤ a.block ∧ a.block < g
/-- Round by round. -/
structure SpA (w0 wr : World) (g : Nat) (x : At) (q : ALie) (X : List Xt) (L M : List Nm) : Prop where
  box : Bt wr g x q
  xs : OwnR wr 52 2 q.X x.xs.length q.n (xv X)
  us : OwnR wr 54 2 q.p.A x.ac.us.length q.p.c (nv L)
  gs : OwnR wr 54 2 q.q.B x.df.gs.length q.q.d (nv M)
  xl : X.length = x.xs.length
  ul : L.length = x.ac.us.length
  gl : M.length = x.df.gs.length
  low : Below w0.heap.size w0 wr
section
variable {w0 wr : World} {g : Nat} {x : At} {q : ALie} {X : List Xt} {L M : List Nm}
theorem Bt.otherB {b : Nat} {p : ALie} (h : Bt wr b x p) {a : Addr} (v : Value) (hne : b ≠ a.block) : Bt (wr.setCell a v) b x p := (Below.heap_setCell wr a v b hne).trans h
theorem SpA.key (h : SpA w0 wr g x q X L M) (ha : Apt w0.heap.size g q) {b k : Nat} {r : Xt} (hX : q.X = some ⟨b, 0, none⟩) (hr : X[k]? = some r) (v : ByteArray) :
    SpA w0 (wr.setCell ⟨b, k * 2, none⟩ (.string v)) g x q (X.set k ⟨v, r.val⟩) L M := by
  obtain ⟨h1, h2⟩ := ha.x _ hX
  have h1' : w0.heap.size ≤ b := h1
  have h2' : b < g := h2
  refine ⟨h.box.otherB _ (by show g ≠ b; omega), ?_, h.us.other _ (fun ad e => ha.ux ad ⟨b, 0, none⟩ e hX), h.gs.other _ (fun ad e => ha.gx ad ⟨b, 0, none⟩ e hX), by rw [List.length_set]; exact h.xl, h.ul, h.gl, h.low.setCell (p := ⟨b, k * 2, none⟩) h1' _⟩
  have h3 := h.xs
  rw [hX] at h3 ⊢
  rw [xv_setKey _ v hr]
  exact h3.put _
theorem SpA.user (h : SpA w0 wr g x q X L M) (ha : Apt w0.heap.size g q) {b k : Nat} {r : Nm} (hA : q.p.A = some ⟨b, 0, none⟩) (hr : L[k]? = some r) (v : Nat) :
    SpA w0 (wr.setCell ⟨b, k * 2, none⟩ (.int .u16 (v : Nat))) g x q X (L.set k ⟨v, r.pm⟩) M := by
  obtain ⟨h1, h2⟩ := ha.u _ hA
  have h1' : w0.heap.size ≤ b := h1
  have h2' : b < g := h2
  refine ⟨h.box.otherB _ (by show g ≠ b; omega), h.xs.other _ (fun ad e => (ha.ux ⟨b, 0, none⟩ ad hA e).symm), ?_, h.gs.other _ (fun ad e => (ha.ug ⟨b, 0, none⟩ ad hA e).symm), h.xl, by rw [List.length_set]; exact h.ul, h.gl, h.low.setCell (p := ⟨b, k * 2, none⟩) h1' _⟩
  have h3 := h.us
  rw [hA] at h3 ⊢
  rw [nv_setId _ v hr]
  exact h3.put _
theorem SpA.group (h : SpA w0 wr g x q X L M) (ha : Apt w0.heap.size g q) {b k : Nat} {r : Nm} (hB : q.q.B = some ⟨b, 0, none⟩) (hr : M[k]? = some r) (v : Nat) :
    SpA w0 (wr.setCell ⟨b, k * 2, none⟩ (.int .u16 (v : Nat))) g x q X L (M.set k ⟨v, r.pm⟩) := by
  obtain ⟨h1, h2⟩ := ha.v _ hB
  have h1' : w0.heap.size ≤ b := h1
  have h2' : b < g := h2
  refine ⟨h.box.otherB _ (by show g ≠ b; omega), h.xs.other _ (fun ad e => (ha.gx ⟨b, 0, none⟩ ad hB e).symm), h.us.other _ (fun ad e => ha.ug ad ⟨b, 0, none⟩ e hB), ?_, h.xl, h.ul, by rw [List.length_set]; exact h.gl, h.low.setCell (p := ⟨b, k * 2, none⟩) h1' _⟩
  have h3 := h.gs
  rw [hB] at h3 ⊢
  rw [nv_setId _ v hr]
  exact h3.put _
/-- The copy, put in a variable. -/
theorem Apt.of (h : ACopied w0 wr x q) : Apt w0.heap.size wr.heap.size q :=
  ⟨h.ug, h.ux, h.gx, fun a e => ⟨h.xs.2 a e, h.xs.1.lt a e⟩, fun a e => ⟨h.ac.us.2 a e, h.ac.us.1.lt a e⟩, fun a e => ⟨h.df.gs.2 a e, h.df.gs.1.lt a e⟩⟩
theorem SpA.of (h : ACopied w0 wr x q) (hb : Below w0.heap.size w0 wr) : SpA w0 ((wr.alloc (.cells zA 28)).setRow wr.heap.size (x.c q)) wr.heap.size x q x.xs x.ac.us x.df.gs := by
  have hp := put_below wr (x.c q)
  exact ⟨(Hl.put h.lies).bt, (h.xs.on hp).1, (h.ac.us.on hp).1, (h.df.gs.on hp).1, rfl, rfl, rfl, hb.trans (hp.mono hb.size)⟩
end
end Go.Proofs.YtlejmpinfbmccaaGreatDoor
