/- A device and the document's own one side by side. -/
import Derived.Test.YtghppmgieljgiaaLawFenced
import Derived.Test.YtghppmgieljgiaaRel
namespace Go.Proofs.Ytghppmgieljgiaa
open Go.RowKit
/-- Both are the call's own, and share no block. -/
structure Twin (w0 w : World) (g g' : Nat) (F F' : Nat → Prop) (m : Mo) (K : List Nat) (L : List Pn) : Prop where
  a : Mine w0 w g F m.K m.S m.L
  b : RDev w g' F' K L
  lo : ∀ i, F' i → w0.heap.size ≤ i
  apart : ∀ i, F i → ¬ F' i
/-- A block beside both. -/
structure Aloof (w : World) (F F' : Nat → Prop) (i : Nat) (o : Obj) : Prop where
  obj : w.heap[i]? = some o
  a : ¬ F i
  b : ¬ F' i
section
variable {w0 w w' : World} {g g' i : Nat} {F F' : Nat → Prop} {m : Mo} {K K2 S2 : List Nat} {L L2 : List Pn} {o : Obj}
theorem Aloof.lt (h : Aloof w F F' i o) : i < w.heap.size := by
  rcases Nat.lt_or_ge i w.heap.size with hlt | hge
  · exact hlt
  · have := h.obj; rw [Array.getElem?_eq_none hge] at this; cases this
theorem Aloof.below (h : Aloof w F F' i o) (hb : Below w.heap.size w w') : Aloof w' F F' i o := ⟨(hb.block i h.lt).trans h.obj, h.a, h.b⟩
theorem Twin.pass (h : Twin w0 w g g' F F' m K L) (hb : Below w.heap.size w w') : Twin w0 w' g g' F F' m K L := ⟨h.a.pass hb, h.b.below hb, h.lo, h.apart⟩
theorem Twin.aloof (h : Twin w0 w g g' F F' m K L) (o : Obj) : Aloof (w.alloc o) F F' w.heap.size o :=
  ⟨heap_alloc_new _ _, fun hf => Nat.lt_irrefl _ (h.a.dev.lt _ hf), fun hf => Nat.lt_irrefl _ (h.b.lt _ hf)⟩
theorem Twin.turnA (h : Twin w0 w g g' F F' m K L) (t : Turn w g F K2 S2 L2 w') :
    ∃ F2, Twin w0 w' g g' F2 F' ⟨K2, S2, L2⟩ K L ∧ ∀ i o, Aloof w F F' i o → Aloof w' F2 F' i o := by
  obtain ⟨F2, h1, h2, h3⟩ := t
  have hz := h.a.below.size
  have lo2 : ∀ i, F2 i → w0.heap.size ≤ i := fun i hi => by
    rcases h3 i hi with h4 | h4
    · exact h.a.lo i h4
    · omega
  refine ⟨F2, ⟨⟨h1, lo2, h.a.below.trans (h2.below hz h.a.lo)⟩, h.b.other h2 (fun i hi hf => h.apart i hf hi), h.lo, fun i hi hf => ?_⟩, fun i o hA => ⟨(h2.block i hA.lt hA.a).trans hA.obj, fun hf => ?_, hA.b⟩⟩
  · rcases h3 i hi with h4 | h4
    · exact h.apart i h4 hf
    · have := h.b.lt _ hf; omega
  · rcases h3 i hf with h4 | h4
    · exact hA.a h4
    · have := hA.lt; omega
theorem Twin.turnB (h : Twin w0 w g g' F F' m K L) (t : RTurn w g' F' K2 L2 w') :
    ∃ F2, Twin w0 w' g g' F F2 m K2 L2 ∧ ∀ i o, Aloof w F F' i o → Aloof w' F F2 i o := by
  obtain ⟨F2, h1, h2, h3⟩ := t
  have hz := h.a.below.size
  have lo2 : ∀ i, F2 i → w0.heap.size ≤ i := fun i hi => by
    rcases h3 i hi with h4 | h4
    · exact h.lo i h4
    · omega
  refine ⟨F2, ⟨⟨h.a.dev.other h2 (fun i hi hf => h.apart i hi hf), h.a.lo, h.a.below.trans (h2.below hz h.lo)⟩, h1, lo2, fun i hi hf => ?_⟩, fun i o hA => ⟨(h2.block i hA.lt hA.b).trans hA.obj, hA.a, fun hf => ?_⟩⟩
  · rcases h3 i hf with h4 | h4
    · exact h.apart i hi h4
    · have := h.a.dev.lt _ hi; omega
  · rcases h3 i hf with h4 | h4
    · exact hA.b h4
    · have := hA.lt; omega
theorem Twin.below (h : Twin w0 w g g' F F' m K L) : Below w0.heap.size w0 w := h.a.below
end
/-- Both read alike. -/
def TwinM (w0 w : World) (g g' : Nat) (m : Mo) (n N : Nat) : Prop := ∃ F F', Twin w0 w g g' F F' m m.K m.L ∧ m.ok n N
theorem TwinM.below {w0 w : World} {g g' n N : Nat} {m : Mo} (h : TwinM w0 w g g' m n N) : Below w0.heap.size w0 w := by
  obtain ⟨F, F', p, _⟩ := h; exact p.a.below
/-- The four cells of a step that was laid down. -/
theorem four_cells {w : World} {B : Nat} {x y z u : Value} {t : TypeId} (hw : w.heap[B]? = some (.cells #[x, y, z, u] t (0, 0))) :
    w.cell? ⟨B, 0, none⟩ = some x ∧ w.cell? ⟨B, 1, none⟩ = some y ∧ w.cell? ⟨B, 2, none⟩ = some z ∧ w.cell? ⟨B, 3, none⟩ = some u :=
  ⟨cell_of_row w B 0 _ t (0, 0) hw, cell_of_row w B 1 _ t (0, 0) hw, cell_of_row w B 2 _ t (0, 0) hw, cell_of_row w B 3 _ t (0, 0) hw⟩
/-- What an operation's value is. -/
inductive Spec where
  | val (v : Value)
  | row (l : List Nat)
  | pends (L : List Pn)
def Spec.ok : Spec → Value → World → Prop
  | .val u, v, _ => v = u
  | .row l, v, w => ∃ A c, v = .slice A l.length c ∧ Row w A l
  | .pends L, v, w => ∃ A c, v = .slice A L.length c ∧ OwnR w 61 3 A L.length c (pv L)
theorem Spec.stable {s : Spec} {v : Value} {w w' : World} (h : s.ok v w) (hb : Below w.heap.size w w') : s.ok v w' := by
  cases s with
  | val u => exact h
  | row l =>
    obtain ⟨A, c, e, hr⟩ := h
    exact ⟨A, c, e, hr.below hb⟩
  | pends L =>
    obtain ⟨A, c, e, hr⟩ := h
    exact ⟨A, c, e, hr.keep fun ad e => hb.block _ (hr.lt ad e)⟩
def specs (S : List Spec) (i : Nat) (v : Value) (w : World) : Prop := (S.getD i (.val undef)).ok v w
/-- Words below w. -/
def On (w w' : World) : Prop := Below w.heap.size w w'
theorem On.trans {a b c : World} (h : On a b) (k : On b c) : On a c := Below.trans h (Below.mono k (Below.size h))
section
variable {w : World} {a : Act} {o : Oper} {g : Nat} {F : Nat → Prop} {K S l : List Nat} {L : List Pn}
theorem step_pending (h : Dev w g F K S L) (hm : L.length ≤ 1099511627776) (x : Operand) (ty : TypeId) (ho : o.op = .call { callee := .value (.func 25), args := #[x], argTypes := #[ty] }) (hx : a.eval x = .pointer (some ⟨g, 0, none⟩)) :
    StepOK Try.prog On o a w ((Spec.pends L).ok) := by
  refine StepOK.call 25 #[.pointer (some ⟨g, 0, none⟩)] ?_ ((pending_calls h hm).mono fun e w' h => ?_)
  · unfold execOp
    rw [ho]
    simp only [resolve, List.map_toArray, List.map_cons, List.map_nil, hx]
    simp [go_sem]
  · obtain ⟨A, c, he, h1, h2, _⟩ := h
    exact ⟨_, he, ⟨A, c, rfl, h1⟩, h2⟩
theorem step_wordsA (h : Dev w g F K S L) (hm : S.length ≤ 1099511627776) (x : Operand) (ty : TypeId) (ho : o.op = .call { callee := .value (.func 27), args := #[x], argTypes := #[ty] }) (hx : a.eval x = .pointer (some ⟨g, 0, none⟩)) :
    StepOK Try.prog On o a w ((Spec.row S).ok) := by
  refine StepOK.call 27 #[.pointer (some ⟨g, 0, none⟩)] ?_ ((words_calls h hm).mono fun e w' h => ?_)
  · unfold execOp
    rw [ho]
    simp only [resolve, List.map_toArray, List.map_cons, List.map_nil, hx]
    simp [go_sem]
  · obtain ⟨A, c, he, h1, h2, _⟩ := h
    exact ⟨_, he, ⟨A, c, rfl, h1.row⟩, h2⟩
theorem step_keptA (h : Dev w g F K S L) (hm : K.length ≤ 1099511627776) (x : Operand) (ty : TypeId) (ho : o.op = .call { callee := .value (.func 29), args := #[x], argTypes := #[ty] }) (hx : a.eval x = .pointer (some ⟨g, 0, none⟩)) :
    StepOK Try.prog On o a w ((Spec.row K).ok) := by
  refine StepOK.call 29 #[.pointer (some ⟨g, 0, none⟩)] ?_ ((kept_calls h hm).mono fun e w' h => ?_)
  · unfold execOp
    rw [ho]
    simp only [resolve, List.map_toArray, List.map_cons, List.map_nil, hx]
    simp [go_sem]
  · obtain ⟨A, c, he, h1, h2, _⟩ := h
    exact ⟨_, he, ⟨A, c, rfl, h1.row⟩, h2⟩
theorem step_wordsB (h : RDev w g F K L) (hK0 : 0 < K.length) (hpos : ∀ p ∈ L, p.pos < K.length) (hm : K.length ≤ 1099511627776) (hL : L.length ≤ 1099511627776) (x : Operand) (ty : TypeId)
    (ho : o.op = .call { callee := .value (.func 28), args := #[x], argTypes := #[ty] }) (hx : a.eval x = .pointer (some ⟨g, 0, none⟩)) :
    StepOK Try.prog On o a w ((Spec.row (lay K L)).ok) := by
  obtain ⟨gk, ck, A, cp, hd, _⟩ := h
  refine StepOK.call 28 #[.pointer (some ⟨g, 0, none⟩)] ?_ ((rwords_calls hd hK0 hpos hm hL).mono fun e w' h => ?_)
  · unfold execOp
    rw [ho]
    simp only [resolve, List.map_toArray, List.map_cons, List.map_nil, hx]
    simp [go_sem]
  · obtain ⟨g2, c, he, h1, h2⟩ := h
    exact ⟨_, he, ⟨_, c, by rw [lay_length], h1.row⟩, h2⟩
theorem step_pends (hm : L.length ≤ 1099511627776) (x y : Operand) (t : TypeId) (ho : o.op = .call { callee := .value (.func 24), args := #[x, y], argTypes := #[t, t] }) (hx : (Spec.pends L).ok (a.eval x) w) (hy : (Spec.pends L).ok (a.eval y) w) :
    StepOK Try.prog On o a w ((Spec.val (.bool true)).ok) := by
  obtain ⟨A, c, e1, h1⟩ := hx
  obtain ⟨B, d, e2, h2⟩ := hy
  refine StepOK.call 24 #[.slice A L.length c, .slice B L.length d] ?_ ((same_pends A B c d L w h1 h2 hm).mono fun e w' h => ?_)
  · unfold execOp
    rw [ho]
    simp only [resolve, List.map_toArray, List.map_cons, List.map_nil, e1, e2]
    simp [go_sem]
  · obtain ⟨he, m, rfl⟩ := h
    exact ⟨_, he, rfl, below_drewN (Below.refl _ _) m⟩
theorem step_same (hm : l.length ≤ 140737488355328) (x y : Operand) (t : TypeId) (ho : o.op = .call { callee := .value (.func 26), args := #[x, y], argTypes := #[t, t] }) (hx : (Spec.row l).ok (a.eval x) w) (hy : (Spec.row l).ok (a.eval y) w) :
    StepOK Try.prog On o a w ((Spec.val (.bool true)).ok) := by
  obtain ⟨A, c, e1, h1⟩ := hx
  obtain ⟨B, d, e2, h2⟩ := hy
  refine StepOK.call 26 #[.slice A l.length c, .slice B l.length d] ?_ ((same_self A B l c d w h1 h2 hm).mono fun e w' h => ?_)
  · unfold execOp
    rw [ho]
    simp only [resolve, List.map_toArray, List.map_cons, List.map_nil, e1, e2]
    simp [go_sem]
  · obtain ⟨he, hb, _⟩ := h
    exact ⟨_, he, rfl, hb⟩
theorem step_neq (x y : Operand) (t u : TypeId) (ho : o.op = .binOp .neq t x y u) (k : Int) (h1 : a.eval x = .int .i64 k) (h2 : a.eval y = .int .i64 k) :
    StepOK Try.prog On o a w ((Spec.val (.bool false)).ok) := by
  refine StepOK.run _ ?_ rfl (Below.refl _ _)
  unfold execOp
  rw [ho]
  simp only [h1, h2]
  simp [go_sem]
theorem step_not (x : Operand) (t : TypeId) (ho : o.op = .unOp .not t x) (h1 : a.eval x = .bool true) : StepOK Try.prog On o a w ((Spec.val (.bool false)).ok) := by
  refine StepOK.run _ ?_ rfl (Below.refl _ _)
  unfold execOp
  rw [ho]
  simp only [h1]
  simp [go_sem]
theorem step_pickF (x y z : Operand) (ho : o.op = .pick x y z) (h1 : a.eval x = .bool false) (h2 : a.eval z = .bool false) : StepOK Try.prog On o a w ((Spec.val (.bool false)).ok) := by
  refine StepOK.run _ ?_ rfl (Below.refl _ _)
  unfold execOp
  rw [ho]
  simp only [h1, h2]
  simp [go_sem]
theorem step_nilCheck (x : Operand) (ho : o.op = .nilCheck x) (ad : Addr) (h1 : a.eval x = .pointer (some ad)) : StepOK Try.prog On o a w ((Spec.val (.pointer (some ad))).ok) := by
  refine StepOK.run _ ?_ rfl (Below.refl _ _)
  unfold execOp
  rw [ho]
  simp only [h1]
  simp [go_sem]
theorem step_field0 (x : Operand) (ho : o.op = .fieldAddr 52 x 0) (h1 : a.eval x = .pointer (some ⟨g, 0, none⟩)) : StepOK Try.prog On o a w ((Spec.val (.pointer (some ⟨g, 0, none⟩))).ok) := by
  refine StepOK.run _ ?_ rfl (Below.refl _ _)
  unfold execOp
  rw [ho]
  simp only [h1]
  kernel_rfl
theorem step_field1 (x : Operand) (ho : o.op = .fieldAddr 52 x 1) (h1 : a.eval x = .pointer (some ⟨g, 0, none⟩)) : StepOK Try.prog On o a w ((Spec.val (.pointer (some ⟨g, 1, none⟩))).ok) := by
  refine StepOK.run _ ?_ rfl (Below.refl _ _)
  unfold execOp
  rw [ho]
  simp only [h1]
  kernel_rfl
theorem step_loadP {gk ck : Nat} {A : Option Addr} {cp : Nat} (h : RDevC w g gk ck A cp K L) (x : Operand) (ho : o.op = .load 48 x) (h1 : a.eval x = .pointer (some ⟨g, 1, none⟩)) : StepOK Try.prog On o a w ((Spec.pends L).ok) := by
  have c1 := h.c1
  refine StepOK.run (.slice A L.length cp) ?_ ⟨A, cp, rfl, h.hp⟩ (Below.refl _ _)
  unfold execOp
  rw [ho]
  simp only [h1]
  simp [go_sem, c1]
theorem step_loadK {gk ck : Nat} {A : Option Addr} {cp : Nat} (h : RDevC w g gk ck A cp K L) (x : Operand) (ho : o.op = .load 50 x) (h1 : a.eval x = .pointer (some ⟨g, 0, none⟩)) : StepOK Try.prog On o a w ((Spec.row K).ok) := by
  have c0 := h.c0
  refine StepOK.run (.slice (some ⟨gk, 0, none⟩) K.length ck) ?_ ⟨_, ck, rfl, h.hk.row⟩ (Below.refl _ _)
  unfold execOp
  rw [ho]
  simp only [h1]
  simp [go_sem, c0]
end
end Go.Proofs.Ytghppmgieljgiaa
