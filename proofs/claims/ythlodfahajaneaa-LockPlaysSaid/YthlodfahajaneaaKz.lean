/- The phases of 't.q[id] = append(t.q[id], p)', whatever the order: ahead of the append, behind it, behind the store. -/
import Derived.Test.YthlodfahajaneaaKe
import Derived.Test.YthlodfahajaneaaKy
set_option linter.unusedSimpArgs false
set_option linter.unusedVariables false
namespace Go.Proofs.Ythlodfahajaneaa
open Go Go.RowKit LockMath
theorem ev_of {a : Act} {d : Tmp} {v : Value} (h : a.eval (.tmp d) = v) : a.tmps[d]?.getD undef = v := by
  simpa [Act.eval] using h
section
variable (w0 wB : World) (tt : TypeId) (X : Array Value) (T G : Nat) (As : List (Option Addr × Nat)) (Q : List (List Int)) (i : Nat) (A : Option Addr) (N C : Nat) (p : Int)
def ApA (u : World) : Prop := Tg w0 u tt X T G As Q ∧ Tn wB u T G As As ∧ w0.heap.size ≤ u.heap.size
def ApB (y : Value) (u : World) : Prop := ∃ u0 g c, y = .slice (some ⟨g, 0, none⟩) (N + 1) c ∧ ApA w0 wB tt X T G As Q u0 ∧ OwnR u 3 1 (some ⟨g, 0, none⟩) (N + 1) c (iv (qu Q i) ++ iv [p]) ∧ u0.grownBy u (A.map (·.block)) ∧ (A = some ⟨g, 0, none⟩ ∨ g = u0.heap.size)
def ApC (u : World) : Prop := ∃ As', Tg w0 u tt X T G As' (Q.set i (qu Q i ++ [p])) ∧ Tn wB u T G As As'
def ApR (x : Value) (u : World) : Prop := ∃ g, x = .slice (some ⟨g, 0, none⟩) 1 1 ∧ u.heap[g]? = some (.cells #[.int .i64 p] 3 (0, 0))
structure Ap (L : Nat → Bool) (x y : Value) (u : World) : Prop where
  a : L 14 = false → ApA w0 wB tt X T G As Q u
  r : L 14 = false → L 13 = true → ApR p x u
  m : L 14 = true → L 13 = true
  b : L 14 = true → L 16 = false → ApB w0 wB tt X T G As Q i A N p y u
  z : L 16 = true → ∀ j, j < 16 → L j = true
  c : L 16 = true → ApC w0 wB tt X T G As Q i p u
end
section
variable {w0 wB u u' : World} {tt : TypeId} {X : Array Value} {T G : Nat} {As : List (Option Addr × Nat)} {Q : List (List Int)} {i : Nat} {A : Option Addr} {N C : Nat} {p : Int} {L : Nat → Bool} {x y : Value}
theorem Ap.keep (h : Ap w0 wB tt X T G As Q i A N p L x y u) {k : Nat} (h1 : k ≠ 13) (h2 : k ≠ 14) (h3 : k ≠ 16) : Ap w0 wB tt X T G As Q i A N p (setL L k) x y u := by
  have e1 := setLne (L := L) h1
  have e2 := setLne (L := L) h2
  have e3 := setLne (L := L) h3
  refine ⟨fun k => h.a (by rwa [e2] at k), fun k k2 => h.r (by rwa [e2] at k) (by rwa [e1] at k2), fun k => by rw [e1]; exact h.m (by rwa [e2] at k), fun k k2 => h.b (by rwa [e2] at k) (by rwa [e3] at k2), fun k j hj => ?_, fun k => h.c (by rwa [e3] at k)⟩
  rw [e3] at k
  have := h.z k j hj
  unfold setL
  split
  · rfl
  · exact this
theorem Ap.start (h : ApA w0 wB tt X T G As Q u) : Ap w0 wB tt X T G As Q i A N p (fun _ => false) x y u :=
  ⟨fun _ => h, fun _ k => (by cases k), fun k => (by cases k), fun k => (by cases k), fun k => (by cases k), fun k => (by cases k)⟩
theorem grown_cell {g : Nat} {k : Nat} {t : TypeId} {cs : Array Value} {v : Value} (hi : i < Q.length) (h : Tg w0 u tt X T G As Q) (hg : u.grownBy u' ((qA As i).map (·.block))) (hne : t ≠ 3) (hk : u.heap[g]? = some (.cells cs t (0, 0))) (hv : u.cell? ⟨g, k, none⟩ = some v) : u'.cell? ⟨g, k, none⟩ = some v := by
  refine Eq.trans (World.cell?_of_block (hg.block g (lt_of_cells hk) fun e => ?_)) hv
  cases hA : qA As i with
  | none => rw [hA] at e; cases e
  | some ad =>
    rw [hA] at e
    injection e with e
    obtain ⟨cur2, hg2⟩ := own_block (h.q.own i (h.q.isome hA)) hA
    exact cells_type hg2 hk (Ne.symm hne) e.symm
/-- The table's own cells; the queue's. -/
theorem Ap.cT (h : Ap w0 wB tt X T G As Q i A N p L x y u) (hi : i < Q.length) (hA : qA As i = A) {j : Nat} (hj : j < 16) (hl : L j = false) (k : Nat) {v : Value} (hv : X[k]? = some v) : u.cell? ⟨T, k, none⟩ = some v := by
  subst hA
  cases h16 : L 16 with
  | true => rw [h.z h16 j hj] at hl; cases hl
  | false =>
    cases h14 : L 14 with
    | false => rw [cell_of_row u T k _ _ _ (h.a h14).1.blk]; exact hv
    | true =>
      obtain ⟨u0, g, c, _, ha, _, hg, _⟩ := h.b h14 h16
      exact grown_cell hi ha.1 hg ha.1.n2 ha.1.blk (by rw [cell_of_row u0 T k _ _ _ ha.1.blk]; exact hv)
theorem Ap.cG (h : Ap w0 wB tt X T G As Q i A N p L x y u) (hi : i < Q.length) (hA : qA As i = A) (hN : (qu Q i).length = N) (hC : qC As i = C) {j : Nat} (hj : j < 16) (hl : L j = false) : u.cell? ⟨G, i, none⟩ = some (.slice A N C) := by
  subst hA hN hC
  cases h16 : L 16 with
  | true => rw [h.z h16 j hj] at hl; cases hl
  | false =>
    cases h14 : L 14 with
    | false => exact (h.a h14).1.q.cell hi
    | true =>
      obtain ⟨u0, g, c, _, ha, _, hg, _⟩ := h.b h14 h16
      exact ha.1.q.cell1 hi hg rfl rfl rfl
/-- The row of one is laid. -/
theorem Ap.lay (h : Ap w0 wB tt X T G As Q i A N p L x y u) (hl : L 13 = false) : Ap w0 wB tt X T G As Q i A N p (setL L 13) (.slice (some ⟨u.heap.size, 0, none⟩) 1 1) y (u.alloc (.cells #[.int .i64 p] 3)) := by
  have h14 : L 14 = false := by
    cases h14 : L 14 with
    | false => rfl
    | true => rw [h.m h14] at hl; cases hl
  have h16 : L 16 = false := by
    cases h16 : L 16 with
    | false => rfl
    | true => rw [h.z h16 13 (by decide)] at hl; cases hl
  have e2 : setL L 13 14 = false := (setLne (by decide)).trans h14
  have e3 : setL L 13 16 = false := (setLne (by decide)).trans h16
  have hb : Below u.heap.size u (u.alloc (.cells #[.int .i64 p] 3)) := (Below.refl _ _).alloc (Nat.le_refl _) _
  obtain ⟨a1, a2, a3⟩ := h.a h14
  exact ⟨fun _ => ⟨a1.below hb, a2.trans (Tn.of_below hb), Nat.le_trans a3 hb.size⟩, fun _ _ => ⟨u.heap.size, rfl, heap_alloc_new u _⟩, fun k => (by rw [e2] at k; cases k), fun k => (by rw [e2] at k; cases k), fun k => (by rw [e3] at k; cases k), fun k => (by rw [e3] at k; cases k)⟩
/-- The append. -/
theorem Ap.app (h : Ap w0 wB tt X T G As Q i A N p L x y u) (hl : L 14 = false) (h13 : L 13 = true) {g c : Nat} {w1 : World} (ho : OwnR w1 3 1 (some ⟨g, 0, none⟩) (N + 1) c (iv (qu Q i) ++ iv [p])) (hg : u.grownBy w1 (A.map (·.block))) (hE : A = some ⟨g, 0, none⟩ ∨ g = u.heap.size) :
    Ap w0 wB tt X T G As Q i A N p (setL L 14) x (.slice (some ⟨g, 0, none⟩) (N + 1) c) w1 := by
  have h16 : L 16 = false := by
    cases h16 : L 16 with
    | false => rfl
    | true => rw [h.z h16 14 (by decide)] at hl; cases hl
  have e3 : setL L 14 16 = false := (setLne (by decide)).trans h16
  exact ⟨fun k => (by rw [setLeq] at k; cases k), fun k => (by rw [setLeq] at k; cases k), fun _ => (setLne (by decide)).trans h13, fun _ _ => ⟨u, g, c, rfl, h.a hl, ho, hg, hE⟩, fun k => (by rw [e3] at k; cases k), fun k => (by rw [e3] at k; cases k)⟩
/-- The store: what it needs. -/
theorem Ap.store (h : Ap w0 wB tt X T G As Q i A N p L x y u) (hi : i < Q.length) (hA : qA As i = A) (hN : (qu Q i).length = N) (hC : qC As i = C) (hl : L 16 = false) (hall : ∀ j, j < 16 → L j = true) :
    ∃ g c, y = .slice (some ⟨g, 0, none⟩) (N + 1) c ∧ u.cell? ⟨G, i, none⟩ = some (.slice A N C) ∧ u.frozen? ⟨G, i, none⟩ = false ∧
      Ap w0 wB tt X T G As Q i A N p (setL L 16) x y (u.setCell ⟨G, i, none⟩ (.slice (some ⟨g, 0, none⟩) (N + 1) c)) := by
  subst hA
  obtain ⟨u0, g, c, e, ha, ho, hg, hE⟩ := h.b (hall 14 (by decide)) hl
  obtain ⟨k1, k2⟩ := ha.1.grow hi ha.2.2 hN (by rw [show iv [p] = [.int .i64 p] from rfl] at ho; exact ho) hg hE
  refine ⟨g, c, e, ha.1.q.cell1 hi hg rfl hN hC, ha.1.q.frozen1 hi hg i, fun k => ?_, fun k => ?_, fun _ => (setLne (by decide)).trans (hall 13 (by decide)), fun _ k => ?_, fun _ j hj => (setLne (by omega)).trans (hall j hj), fun _ => ⟨_, k1, ha.2.1.trans k2⟩⟩
  · rw [setLne (by decide), hall 14 (by decide)] at k; cases k
  · rw [setLne (by decide), hall 14 (by decide)] at k; cases k
  · rw [setLeq] at k; cases k
theorem step_app {P : Program} (t e : TypeId) (i0 : TypeInfo) (z : Value) (ht : P.underlying t = some (.slice e)) (hi : P.info? e = some i0) (hz : i0.zero = some z) (hs : i0.size = 1) (hb : i0.bytes = 8) (hzs : z.cells.size = 1)
    {o : Oper} {a : Act} {u : World} {Tr : World → World → Prop} {Rv : Value → World → Prop} (s v : Operand) (ho : o.op = .call { callee := .builtin .append, args := #[s, v], argTypes := #[t, t] }) {R : Option Addr} {n c : Nat} {xs : List Value} (h1 : a.eval s = .slice R n c) (hown : OwnR u e 1 R n c xs)
    {g : Nat} {q : Int} (h2 : a.eval v = .slice (some ⟨g, 0, none⟩) 1 1) (hg : u.heap[g]? = some (.cells #[.int .i64 q] e (0, 0))) (hn : n ≤ 1000)
    (h : ∀ g' c' w', OwnR w' e 1 (some ⟨g', 0, none⟩) (n + 1) c' (xs ++ iv [q]) → u.grownBy w' (R.map (·.block)) → (R = some ⟨g', 0, none⟩ ∨ g' = u.heap.size) → Rv (.slice (some ⟨g', 0, none⟩) (n + 1) c') w' ∧ Tr u w') : StepOK P Tr o a u Rv := by
  obtain ⟨g', c', w', hrun, h3, h4, h5⟩ := run_append_r (P := P) u t o.type e i0 z 1 8 ht hi hz hs hb hzs R n c xs hown ⟨g, 0, none⟩ 1 1 (iv [q]) rfl (cells_one hg) (iv_one _) (by decide) (by unfold maxLen; omega) (by omega)
  obtain ⟨k1, k2⟩ := h g' c' w' h3 h4 h5
  refine StepOK.run (.slice (some ⟨g', 0, none⟩) (n + 1) c') ?_ k1 k2
  unfold execOp
  simp only [ho, resolve, invoke, builtin, Sem.run_bind, Sem.run_pure, Result.andThen_ok, List.map_toArray, List.map_cons, List.map_nil, h1, h2, hrun]
end
end Go.Proofs.Ythlodfahajaneaa
