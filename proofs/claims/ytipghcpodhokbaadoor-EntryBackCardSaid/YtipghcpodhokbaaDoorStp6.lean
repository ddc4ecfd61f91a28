/- Regions that draw their order, in which a row is cloned, a variable of any struct made and stored: what an operation leaves; steps by kind. -/
import Derived.Test.YtipghcpodhokbaaDoorStp3
import Derived.Test.YtipghcpodhokbaaDoorDbMath
import Derived.Test.YtipghcpodhokbaaDoorOwn
set_option linter.unusedSimpArgs false
set_option linter.unusedVariables false
namespace Go.Proofs.YtipghcpodhokbaaDoor
open Go.RowKit WordMath
/-- A block of cells of type t. -/
abbrev Vb (t : TypeId) (w : World) (g : Nat) (q : Array Value) : Prop := Ob w g (.cells q t (0, 0))
structure T6 (n0 : Nat) (t : TypeId) (z : Array Value) (A B : World) : Prop where
  old : ∀ m, m ≤ n0 → m ≤ A.heap.size → Below m A B
  var : ∀ i q, Vb t A i q → q.size = z.size → ∃ q', Vb t B i q' ∧ q'.size = z.size
  varz : ∀ i, Vb t A i z → Vb t B i z
section
variable {n0 : Nat} {t : TypeId} {z : Array Value} {A B C : World}
theorem T6.trans (h : T6 n0 t z A B) (k : T6 n0 t z B C) : T6 n0 t z A C :=
  ⟨fun m h1 h2 => (h.old m h1 h2).trans (k.old m h1 (Nat.le_trans h2 (h.old m h1 h2).size)), fun i q hq hs => by obtain ⟨q', hq', hs'⟩ := h.var i q hq hs; exact k.var i q' hq' hs', fun i hq => k.varz i (h.varz i hq)⟩
theorem T6.on (h : On A B) : T6 n0 t z A B :=
  ⟨fun _ _ h2 => Below.mono h h2, fun _ q hq hs => ⟨q, Ob.on hq h, hs⟩, fun _ hq => Ob.on hq h⟩
theorem T6.store {g : Nat} {q : Array Value} (hg : n0 ≤ g) (h : Vb t A g q) : T6 n0 t z A (A.setRow g z) := by
  have hself : Vb t (A.setRow g z) g z := setRow_heap A g _ z t (0, 0) h
  have hoth : ∀ i, i ≠ g → (A.setRow g z).heap[i]? = A.heap[i]? := fun i hi => setRow_other A g i _ hi
  refine ⟨fun m h1 _ => below_setRow (Below.refl m A) (by omega) _, fun i q' hq hs => ?_, fun i hq => ?_⟩
  · by_cases hi : i = g
    · subst hi; exact ⟨z, hself, rfl⟩
    · exact ⟨q', (hoth i hi).trans hq, hs⟩
  · by_cases hi : i = g
    · subst hi; exact hself
    · exact (hoth i hi).trans hq
end
/-- What an operation leaves: a value; a row; a variable's block; that of operation p, stored. -/
inductive Sp6 where
  | val (v : Value)
  | row (l : List Nat)
  | var
  | done (p : Nat)
  | any
def Sp6.ok1 (n0 : Nat) (t : TypeId) (z : Array Value) (i : Nat) (vs : Nat → Value) (w : World) : Sp6 → Prop
  | .val v => vs i = v
  | .row l => ∃ A c, vs i = .slice A l.length c ∧ l.length ≤ c
  | .var => ∃ g, vs i = .pointer (some ⟨g, 0, none⟩) ∧ n0 ≤ g ∧ ∃ q, Vb t w g q ∧ q.size = z.size
  | .done p => ∃ g, vs p = .pointer (some ⟨g, 0, none⟩) ∧ n0 ≤ g ∧ Vb t w g z
  | .any => True
def Sp6.ok0 (i : Nat) (vs : Nat → Value) (w : World) : Sp6 → Prop
  | .row l => ∃ A c, vs i = .slice A l.length c ∧ l.length ≤ c ∧ Row w A l
  | _ => True
def cg6 (S : List Sp6) : Nat → List Oper → Bool
  | _, [] => true
  | k, o :: r => (match S.getD k .any with
    | .done p => o.after.any fun e => Region.binds .any e && e.on == p
    | _ => true) && cg6 S (k + 1) r
theorem cg6_at {S : List Sp6} : ∀ {l : List Oper} {k : Nat}, cg6 S k l = true → ∀ i o, l[i]? = some o →
    (match S.getD (k + i) .any with
    | .done p => o.after.any fun e => Region.binds .any e && e.on == p
    | _ => true) = true
  | [], _, _, i, o, h => by simp at h
  | x :: r, k, hB, i, o, h => by
    simp only [cg6, Bool.and_eq_true] at hB
    cases i with
    | zero =>
      simp only [List.getElem?_cons_zero, Option.some.injEq] at h
      subst h
      exact hB.1
    | succ i =>
      rw [List.getElem?_cons_succ] at h
      have := cg6_at hB.2 i o h
      rwa [show k + 1 + i = k + (i + 1) by omega] at this
theorem Sp6.cg {n0 : Nat} {t : TypeId} {z : Array Value} {S : List Sp6} {l : List Oper} (hB : cg6 S 0 l = true) (i : Nat) (o : Oper) (ho : l[i]? = some o) (vs vs' : Nat → Value) (w : World) (h : vs i = vs' i)
    (hd : ∀ e ∈ o.after, Region.binds .any e = true → vs e.on = vs' e.on) : ((S.getD i .any).ok1 n0 t z i vs w → (S.getD i .any).ok1 n0 t z i vs' w) ∧ ((S.getD i .any).ok0 i vs w → (S.getD i .any).ok0 i vs' w) := by
  have hc := cg6_at hB i o ho
  rw [Nat.zero_add] at hc
  cases hs : S.getD i .any with
  | val v => exact ⟨fun k => by have := k; unfold Sp6.ok1 at this ⊢; rw [← h]; exact this, fun k => k⟩
  | row l => exact ⟨fun k => by unfold Sp6.ok1 at k ⊢; rw [← h]; exact k, fun k => by unfold Sp6.ok0 at k ⊢; rw [← h]; exact k⟩
  | var => exact ⟨fun k => by unfold Sp6.ok1 at k ⊢; rw [← h]; exact k, fun k => k⟩
  | any => exact ⟨fun k => k, fun k => k⟩
  | done p =>
    rw [hs] at hc
    obtain ⟨e, he1, he2⟩ := Array.any_eq_true'.1 hc
    simp only [Bool.and_eq_true, beq_iff_eq] at he2
    have := hd e he1 he2.1
    rw [he2.2] at this
    exact ⟨fun k => by obtain ⟨g, e1, hg, hq⟩ := k; exact ⟨g, this.symm.trans e1, hg, hq⟩, fun k => k⟩
theorem Sp6.st1 {n0 : Nat} {t : TypeId} {z : Array Value} {s : Sp6} {i : Nat} {vs : Nat → Value} {w w' : World} (h : s.ok1 n0 t z i vs w) (k : T6 n0 t z w w') : s.ok1 n0 t z i vs w' := by
  cases s with
  | val v => exact h
  | row l => exact h
  | var => obtain ⟨g, e, hg, q, hq, hs⟩ := h; exact ⟨g, e, hg, k.var g q hq hs⟩
  | done p => obtain ⟨g, e, hg, hq⟩ := h; exact ⟨g, e, hg, k.varz g hq⟩
  | any => trivial
theorem Sp6.st0 {s : Sp6} {i : Nat} {vs : Nat → Value} {w w' : World} (h : s.ok0 i vs w) (k : On w w') : s.ok0 i vs w' := by
  cases s with
  | row l => obtain ⟨A, c, e, hc, hr⟩ := h; exact ⟨A, c, e, hc, hr.below k⟩
  | val v => trivial
  | var => trivial
  | done p => trivial
  | any => trivial
def R61 (n0 : Nat) (t : TypeId) (z : Array Value) (S : List Sp6) (i : Nat) (vs : Nat → Value) (w : World) : Prop := (S.getD i .any).ok1 n0 t z i vs w
def R60 (S : List Sp6) (i : Nat) (vs : Nat → Value) (w : World) : Prop := (S.getD i .any).ok0 i vs w
/-- **Such a region.** -/
theorem wp_region6 {id : Nat} (t : TypeId) (z : Array Value) (E W : Nat → Bool) (s : Nat) (S : List Sp6) {l : List Oper} {a0 : Act} {w : World} {Q : Exit → Act → World → Prop}
    (hm : Tryd.prog.follows .mixedOrders = true) (hB : relC a0.tmps.size 0 l = true) (hC : cg6 S 0 l = true) (hEB : earlyB E s l = true) (hWB : writeB W s l = true) (hWs : W s = true)
    (hS : Steps3 Tryd.prog On (T6 w.heap.size t z) E W s (R60 S) (R61 w.heap.size t z S) l a0 w 0 l)
    (h : ∀ (vs : Nat → Value) w', Below w.heap.size w w' → (∀ i, i < l.length → (S.getD i .any).ok1 w.heap.size t z i vs w') → Q .normal (putsFrom l 0 vs a0) w') : (Code.region id l.toArray true).wp Tryd.prog Q a0 w :=
  wp_region_rel3 (T0 := On) (T := T6 w.heap.size t z) (R0 := R60 S) (R1 := R61 w.heap.size t z S) E W s hm hB On.trans T6.on T6.trans (fun _ _ _ _ h k => Sp6.st0 h k) (fun _ _ _ _ h k => Sp6.st1 h k)
    (fun i o ho vs vs' w' h1 h2 => Sp6.cg hC i o ho vs vs' w' h1 h2) (On.drawn _) hEB hWB hWs hS (fun vs w' hT hR => h vs w' (hT.old _ (Nat.le_refl _) (Nat.le_refl _)) hR)
/-! ### Steps, by kind -/
section
variable {t : TypeId} {z : Array Value} {E W : Nat → Bool} {s : Nat} {S : List Sp6} {l : List Oper} {a0 : Act} {w0 : World} {k : Nat} {o : Oper}
theorem dep6 {R : Nat → (Nat → Value) → World → Prop} {a : Act} {w : World} (h1 : ∀ e ∈ o.after, Region.binds .any e = true → R e.on (vals l a) w) (j : Nat) (d : Tmp) (hj : (l[j]?).bind (·.dst) = some d) (hm : o.after.toList.any (fun e => e.on == j && Region.binds .any e) = true) :
    R j (vals l a) w ∧ vals l a j = a.eval (.tmp d) := by
  rw [List.any_eq_true] at hm
  obtain ⟨e, hi, hb⟩ := hm
  rw [Bool.and_eq_true, beq_iff_eq] at hb
  have h := h1 e (by simpa using hi) hb.2
  rw [hb.1] at h
  refine ⟨h, ?_⟩
  unfold vals
  cases hlj : l[j]? with
  | none => rw [hlj] at hj; cases hj
  | some oj =>
    rw [hlj] at hj
    have hd2 : oj.dst = some d := hj
    show valOf a oj = _
    unfold valOf
    rw [hd2]
theorem dep6v {n0 : Nat} {a : Act} {w : World} (h1 : ∀ e ∈ o.after, Region.binds .any e = true → R61 n0 t z S e.on (vals l a) w) (j : Nat) (d : Tmp) (hj : (l[j]?).bind (·.dst) = some d) (hm : o.after.toList.any (fun e => e.on == j && Region.binds .any e) = true) (v : Value) (hv : S.getD j .any = .val v) : a.eval (.tmp d) = v := by
  obtain ⟨e1, e2⟩ := dep6 h1 j d hj hm
  unfold R61 at e1
  rw [hv] at e1
  rw [← e2]; exact e1
/-- An operation that hands back v and leaves the world as it is. -/
theorem st6_val (v : Value) (d : Tmp) (hk : S.getD k .any = .val v) (hd : o.dst = some d) (hg : o.guard = none) (hW : W k = false)
    (step : ∀ a u, Below w0.heap.size w0 u → Agree l a0 a → (∀ j dj, (l[j]?).bind (·.dst) = some dj → o.after.toList.any (fun e => e.on == j && Region.binds .any e) = true → ∀ vj, S.getD j .any = .val vj → a.eval (.tmp dj) = vj) → (execOp a.eval o).run Tryd.prog u = .ok (.value v) u) :
    StepAt3 Tryd.prog On (T6 w0.heap.size t z) E W s (R60 S) (R61 w0.heap.size t z S) l a0 w0 k o := by
  intro a u hT hT0 hA h1 h0
  refine ⟨wanted_plain hg, StepOK.run v (step a u (hT.old _ (Nat.le_refl _) (Nat.le_refl _)) hA fun j dj hj hm vj hv => dep6v h1 j dj hj hm vj hv) ?_ ?_⟩
  · rw [ov_some v hd]
    exact ⟨by unfold R61; rw [hk]; exact upd_self _ _ _, fun _ => by unfold R60; rw [hk]; trivial⟩
  · rw [hW]; exact On.refl _
/-- A row of one's own that reads as another one. -/
theorem st6_clone (m : List Nat) (d : Tmp) (hk : S.getD k .any = .row m) (hd : o.dst = some d) (hg : o.guard = none) (hW : W k = false) (x y : Operand) (ho : o.op = .call { callee := .builtin .append, args := #[x, y], argTypes := #[31, 31] })
    (A : Option Addr) (c : Nat) (hlen : m.length ≤ 17592186044416) (hE : (E k || decide (k = s)) = true)
    (step : ∀ a u, On w0 u → Agree l a0 a → (∀ j dj, (l[j]?).bind (·.dst) = some dj → o.after.toList.any (fun e => e.on == j && Region.binds .any e) = true → ∀ vj, S.getD j .any = .val vj → a.eval (.tmp dj) = vj) → a.eval x = .slice none 0 0 ∧ a.eval y = .slice A m.length c ∧ Row u A m) :
    StepAt3 Tryd.prog On (T6 w0.heap.size t z) E W s (R60 S) (R61 w0.heap.size t z S) l a0 w0 k o := by
  intro a u hT hT0 hA h1 h0
  obtain ⟨q1, q2, hr⟩ := step a u (hT0 hE) hA fun j dj hj hm vj hv => dep6v h1 j dj hj hm vj hv
  obtain ⟨i0, hi0, hz0, hs0, hb0⟩ := info_parts u64_info
  obtain ⟨v, w', hrun, h2, h3⟩ := run_clone_own (P := Tryd.prog) u 31 o.type 36 i0 Tryd.underlying31 hi0 hz0 hs0 hb0 A m c hr hlen
  obtain ⟨_, A', c', rfl, e1, _, _, e4⟩ := Row.of_ownC h2
  refine ⟨wanted_plain hg, StepOK.run (w' := w') (.slice A' m.length c') (by
    unfold execOp
    simp only [ho, resolve, invoke, builtin, Sem.run_bind, Sem.run_pure, Result.andThen_ok, List.map_toArray, List.map_cons, List.map_nil, q1, q2, hrun]) ?_ ?_⟩
  · rw [ov_some _ hd]
    exact ⟨by unfold R61; rw [hk]; exact ⟨A', c', upd_self _ _ _, e4⟩, fun _ => by unfold R60; rw [hk]; exact ⟨A', c', upd_self _ _ _, e4, e1⟩⟩
  · rw [hW]; exact h3
/-- A call that is given the row of operation j. -/
theorem st6_rcall (v : Value) (d : Tmp) (hk : S.getD k .any = .val v) (hd : o.dst = some d) (hg : o.guard = none) (hW : W k = false) (hE : (E k || decide (k = s)) = true) (j : Nat) (dj : Tmp) (m : List Nat) (hj : (l[j]?).bind (·.dst) = some dj)
    (hm : o.after.toList.any (fun e => e.on == j && Region.binds .any e) = true) (hs : S.getD j .any = .row m) (f : FuncId) (args : Value → Array Value)
    (step : ∀ a u A c, On w0 u → Agree l a0 a → (∀ j dj, (l[j]?).bind (·.dst) = some dj → o.after.toList.any (fun e => e.on == j && Region.binds .any e) = true → ∀ vj, S.getD j .any = .val vj → a.eval (.tmp dj) = vj) → a.eval (.tmp dj) = .slice A m.length c → m.length ≤ c → Row u A m →
      (execOp a.eval o).run Tryd.prog u = .ok (.enter f (args (.slice A m.length c))) u ∧ Calls Tryd.prog f (args (.slice A m.length c)) u fun e w' => e = .returned v ∧ On u w') :
    StepAt3 Tryd.prog On (T6 w0.heap.size t z) E W s (R60 S) (R61 w0.heap.size t z S) l a0 w0 k o := by
  intro a u hT hT0 hA h1 h0
  obtain ⟨r1, r2⟩ := dep6 (h0 hE) j dj hj hm
  unfold R60 at r1
  rw [hs] at r1
  obtain ⟨A, c, e, hc, hr⟩ := r1
  obtain ⟨q1, q2⟩ := step a u A c (hT0 hE) hA (fun j dj hj hm vj hv => dep6v h1 j dj hj hm vj hv) (r2.symm.trans e) hc hr
  refine ⟨wanted_plain hg, StepOK.call f _ q1 (q2.mono ?_)⟩
  rintro e w' ⟨rfl, hb⟩
  rw [hW]
  exact ⟨v, rfl, ⟨by unfold R61; rw [hk, ov_some v hd]; exact upd_self _ _ _, fun _ => by unfold R60; rw [hk]; trivial⟩, hb⟩
/-- A variable. -/
theorem st6_var (d : Tmp) (hk : S.getD k .any = .var) (hd : o.dst = some d) (hg : o.guard = none) (hW : W k = false) (zz : Array Value) (hzz : zz.size = z.size)
    (hrun : ∀ (a : Act) (u : World), (execOp a.eval o).run Tryd.prog u = .ok (.value (.pointer (some ⟨u.heap.size, 0, none⟩))) (u.alloc (.cells zz t))) :
    StepAt3 Tryd.prog On (T6 w0.heap.size t z) E W s (R60 S) (R61 w0.heap.size t z S) l a0 w0 k o := by
  intro a u hT hT0 hA h1 h0
  have hsz := (hT.old _ (Nat.le_refl _) (Nat.le_refl _)).size
  refine ⟨wanted_plain hg, StepOK.run (w' := u.alloc (.cells zz t)) (.pointer (some ⟨u.heap.size, 0, none⟩)) (hrun a u) ?_ ?_⟩
  · rw [ov_some _ hd]
    exact ⟨by unfold R61; rw [hk]; exact ⟨_, upd_self _ _ _, hsz, zz, Ob.new u _, hzz⟩, fun _ => by unfold R60; rw [hk]; trivial⟩
  · rw [hW]; exact on_alloc _ _
/-- It is stored. -/
theorem st6_store (p q : Nat) (dp dq : Tmp) (hk : S.getD k .any = .done p) (ho : o.op = .store t (.tmp dp) (.tmp dq)) (hg : o.guard = none) (hW : W k = true) (hkp : p ≠ k) (hz : z.all (·.oneCell') = true) (hi : (Tryd.prog.info? t).map (·.size) = some z.size)
    (hp : S.getD p .any = .var) (hjp : (l[p]?).bind (·.dst) = some dp) (hmp : o.after.toList.any (fun e => e.on == p && Region.binds .any e) = true)
    (hq : S.getD q .any = .val (.agg z)) (hjq : (l[q]?).bind (·.dst) = some dq) (hmq : o.after.toList.any (fun e => e.on == q && Region.binds .any e) = true) :
    StepAt3 Tryd.prog On (T6 w0.heap.size t z) E W s (R60 S) (R61 w0.heap.size t z S) l a0 w0 k o := by
  intro a u hT hT0 hA h1 h0
  obtain ⟨p1, p2⟩ := dep6 h1 p dp hjp hmp
  unfold R61 at p1
  rw [hp] at p1
  obtain ⟨g, eg, hgn, r, hr, hrs⟩ := p1
  have e2 : a.eval (.tmp dq) = .agg z := dep6v h1 q dq hjq hmq _ hq
  have e1 : a.eval (.tmp dp) = .pointer (some ⟨g, 0, none⟩) := by rw [← p2]; exact eg
  refine ⟨wanted_plain hg, ?_⟩
  intro K Q hK
  refine wp_store_row t (.tmp dp) (.tmp dq) ho g z e1 e2 t _ hr hi hrs hz ?_
  refine hK undef _ ⟨?_, fun h => by rw [hW] at h; cases h⟩ (by rw [hW]; exact T6.store hgn hr)
  unfold R61
  rw [hk]
  exact ⟨g, (upd_ne _ _ hkp).trans eg, hgn, setRow_heap u g _ z t (0, 0) hr⟩
end
end Go.Proofs.YtipghcpodhokbaaDoor
