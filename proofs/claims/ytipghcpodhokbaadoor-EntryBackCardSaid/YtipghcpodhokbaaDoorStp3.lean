/- Regions that draw their order, in which a slot's variable is made and stored: what an operation leaves; steps by kind. -/
import Derived.Test.YtipghcpodhokbaaDoorRelT
import Derived.Test.YtipghcpodhokbaaDoorSlo4
set_option linter.unusedSimpArgs false
set_option linter.unusedVariables false
namespace Go.Proofs.YtipghcpodhokbaaDoor
open Go.RowKit WordMath
/-- What was there at first is as it was; slots stay slots, and what is z stays so. -/
structure TT (n0 : Nat) (z : Slt) (A B : World) : Prop where
  old : ∀ m, m ≤ n0 → m ≤ A.heap.size → Below m A B
  slo : ∀ i q, Sb A i q → ∃ q', Sb B i q'
  sloz : ∀ i, Sb A i z → Sb B i z
section
variable {n0 : Nat} {z : Slt} {A B C : World}
theorem TT.trans (h : TT n0 z A B) (k : TT n0 z B C) : TT n0 z A C :=
  ⟨fun m h1 h2 => (h.old m h1 h2).trans (k.old m h1 (Nat.le_trans h2 (h.old m h1 h2).size)), fun i q hq => by obtain ⟨q', hq'⟩ := h.slo i q hq; exact k.slo i q' hq', fun i hq => k.sloz i (h.sloz i hq)⟩
theorem TT.on (h : On A B) : TT n0 z A B :=
  ⟨fun _ _ h2 => Below.mono h h2, fun _ q hq => ⟨q, Ob.on hq h⟩, fun _ hq => Ob.on hq h⟩
theorem TT.store {g : Nat} {q : Slt} (hg : n0 ≤ g) (h : Sb A g q) : TT n0 z A (A.setRow g z.c) := by
  have hself : Sb (A.setRow g z.c) g z := setRow_heap A g _ z.c 23 (0, 0) h
  have hoth : ∀ i, i ≠ g → (A.setRow g z.c).heap[i]? = A.heap[i]? := fun i hi => setRow_other A g i _ hi
  refine ⟨fun m h1 _ => below_setRow (Below.refl m A) (by omega) _, fun i q' hq => ?_, fun i hq => ?_⟩
  · by_cases hi : i = g
    · subst hi; exact ⟨z, hself⟩
    · exact ⟨q', (hoth i hi).trans hq⟩
  · by_cases hi : i = g
    · subst hi; exact hself
    · exact (hoth i hi).trans hq
end
/-- What an operation leaves: a value; a slot's block; that of operation p, stored. -/
inductive Sp3 where
  | val (v : Value)
  | slo
  | sloDone (p : Nat)
  | any
def Sp3.ok1 (n0 : Nat) (z : Slt) (i : Nat) (vs : Nat → Value) (w : World) : Sp3 → Prop
  | .val v => vs i = v
  | .slo => ∃ g, vs i = .pointer (some ⟨g, 0, none⟩) ∧ n0 ≤ g ∧ ∃ q, Sb w g q
  | .sloDone p => ∃ g, vs p = .pointer (some ⟨g, 0, none⟩) ∧ n0 ≤ g ∧ Sb w g z
  | .any => True
def cgB (S : List Sp3) : Nat → List Oper → Bool
  | _, [] => true
  | k, o :: r => (match S.getD k .any with
    | .sloDone p => o.after.any fun e => Region.binds .any e && e.on == p
    | _ => true) && cgB S (k + 1) r
theorem cgB_at {S : List Sp3} : ∀ {l : List Oper} {k : Nat}, cgB S k l = true → ∀ i o, l[i]? = some o →
    (match S.getD (k + i) .any with
    | .sloDone p => o.after.any fun e => Region.binds .any e && e.on == p
    | _ => true) = true
  | [], _, _, i, o, h => by simp at h
  | x :: r, k, hB, i, o, h => by
    simp only [cgB, Bool.and_eq_true] at hB
    cases i with
    | zero =>
      simp only [List.getElem?_cons_zero, Option.some.injEq] at h
      subst h
      exact hB.1
    | succ i =>
      rw [List.getElem?_cons_succ] at h
      have := cgB_at hB.2 i o h
      rwa [show k + 1 + i = k + (i + 1) by omega] at this
theorem Sp3.cg {n0 : Nat} {z : Slt} {S : List Sp3} {l : List Oper} (hB : cgB S 0 l = true) (i : Nat) (o : Oper) (ho : l[i]? = some o) (vs vs' : Nat → Value) (w : World) (h : vs i = vs' i)
    (hd : ∀ e ∈ o.after, Region.binds .any e = true → vs e.on = vs' e.on) : (S.getD i .any).ok1 n0 z i vs w → (S.getD i .any).ok1 n0 z i vs' w := by
  have hc := cgB_at hB i o ho
  rw [Nat.zero_add] at hc
  cases hs : S.getD i .any with
  | val v => exact fun k => by have := k; unfold Sp3.ok1 at this ⊢; rw [← h]; exact this
  | slo => exact fun k => by unfold Sp3.ok1 at k ⊢; rw [← h]; exact k
  | any => exact fun k => k
  | sloDone p =>
    rw [hs] at hc
    obtain ⟨e, he1, he2⟩ := Array.any_eq_true'.1 hc
    simp only [Bool.and_eq_true, beq_iff_eq] at he2
    have := hd e he1 he2.1
    rw [he2.2] at this
    exact fun k => by obtain ⟨g, e1, hg, hq⟩ := k; exact ⟨g, this.symm.trans e1, hg, hq⟩
theorem Sp3.st1 {n0 : Nat} {z : Slt} {s : Sp3} {i : Nat} {vs : Nat → Value} {w w' : World} (h : s.ok1 n0 z i vs w) (k : TT n0 z w w') : s.ok1 n0 z i vs w' := by
  cases s with
  | val v => exact h
  | slo => obtain ⟨g, e, hg, q, hq⟩ := h; exact ⟨g, e, hg, k.slo g q hq⟩
  | sloDone p => obtain ⟨g, e, hg, hq⟩ := h; exact ⟨g, e, hg, k.sloz g hq⟩
  | any => trivial
def R1 (n0 : Nat) (z : Slt) (S : List Sp3) (i : Nat) (vs : Nat → Value) (w : World) : Prop := (S.getD i .any).ok1 n0 z i vs w
def R0 (_ : Nat) (_ : Nat → Value) (_ : World) : Prop := True
/-- **Such a region.** -/
theorem wp_region3 {id : Nat} (z : Slt) (E W : Nat → Bool) (s : Nat) (S : List Sp3) {l : List Oper} {a0 : Act} {w : World} {Q : Exit → Act → World → Prop}
    (hm : Tryd.prog.follows .mixedOrders = true) (hB : relC a0.tmps.size 0 l = true) (hC : cgB S 0 l = true) (hEB : earlyB E s l = true) (hWB : writeB W s l = true) (hWs : W s = true)
    (hS : Steps3 Tryd.prog On (TT w.heap.size z) E W s R0 (R1 w.heap.size z S) l a0 w 0 l)
    (h : ∀ (vs : Nat → Value) w', Below w.heap.size w w' → (∀ i, i < l.length → (S.getD i .any).ok1 w.heap.size z i vs w') → Q .normal (putsFrom l 0 vs a0) w') : (Code.region id l.toArray true).wp Tryd.prog Q a0 w :=
  wp_region_rel3 (T0 := On) (T := TT w.heap.size z) (R0 := R0) (R1 := R1 w.heap.size z S) E W s hm hB On.trans TT.on TT.trans (fun _ _ _ _ _ _ => trivial) (fun _ _ _ _ h k => Sp3.st1 h k)
    (fun i o ho vs vs' w' h1 h2 => ⟨Sp3.cg hC i o ho vs vs' w' h1 h2, fun _ => trivial⟩) (On.drawn _) hEB hWB hWs hS (fun vs w' hT hR => h vs w' (hT.old _ (Nat.le_refl _) (Nat.le_refl _)) hR)
/-! ### Steps, by kind -/
section
variable {z : Slt} {E W : Nat → Bool} {s : Nat} {S : List Sp3} {l : List Oper} {a0 : Act} {w0 : World} {k : Nat} {o : Oper}
/-- What operation j left, as this one sees it. -/
theorem dep3 {n0 : Nat} {a : Act} {w : World} (h1 : ∀ e ∈ o.after, Region.binds .any e = true → R1 n0 z S e.on (vals l a) w) (j : Nat) (d : Tmp) (hj : (l[j]?).bind (·.dst) = some d) (hm : o.after.toList.any (fun e => e.on == j && Region.binds .any e) = true) :
    (S.getD j .any).ok1 n0 z j (vals l a) w ∧ vals l a j = a.eval (.tmp d) := by
  rw [List.any_eq_true] at hm
  obtain ⟨e, hi, hb⟩ := hm
  rw [Bool.and_eq_true, beq_iff_eq] at hb
  have h := h1 e (by simpa using hi) hb.2
  rw [hb.1] at h
  refine ⟨h, ?_⟩
  unfold vals
  cases hlj : l[j]? with
  | none => rw [hlj] at hj; cases hj
  | some oj =>
    rw [hlj] at hj
    have hd2 : oj.dst = some d := hj
    show valOf a oj = _
    unfold valOf
    rw [hd2]
theorem upd_self (f : Nat → Value) (k : Nat) (v : Value) : upd f k v k = v := if_pos rfl
theorem upd_ne (f : Nat → Value) {k j : Nat} (v : Value) (h : j ≠ k) : upd f k v j = f j := if_neg h
theorem ov_some {o : Oper} {d : Tmp} (v : Value) (h : o.dst = some d) : ov o v = v := by unfold ov; rw [h]
/-- An operation that hands back v and leaves the world as it is. -/
theorem st3_val (v : Value) (d : Tmp) (hk : S.getD k .any = .val v) (hd : o.dst = some d) (hg : o.guard = none) (hW : W k = false)
    (step : ∀ a u, Below w0.heap.size w0 u → Agree l a0 a → (∀ j dj, (l[j]?).bind (·.dst) = some dj → o.after.toList.any (fun e => e.on == j && Region.binds .any e) = true → ∀ vj, S.getD j .any = .val vj → a.eval (.tmp dj) = vj) → (execOp a.eval o).run Tryd.prog u = .ok (.value v) u) :
    StepAt3 Tryd.prog On (TT w0.heap.size z) E W s R0 (R1 w0.heap.size z S) l a0 w0 k o := by
  intro a u hT hT0 hA h1 h0
  refine ⟨wanted_plain hg, StepOK.run v (step a u (hT.old _ (Nat.le_refl _) (Nat.le_refl _)) hA fun j dj hj hm vj hv => ?_) ?_ ?_⟩
  · obtain ⟨e1, e2⟩ := dep3 h1 j dj hj hm
    rw [hv] at e1
    rw [← e2]; exact e1
  · rw [ov_some v hd]
    exact ⟨by unfold R1; rw [hk]; exact upd_self _ _ _, fun _ => trivial⟩
  · rw [hW]; exact On.refl _
/-- A call that hands back v; what was there stays. -/
theorem st3_call (v : Value) (d : Tmp) (hk : S.getD k .any = .val v) (hd : o.dst = some d) (hg : o.guard = none) (hW : W k = false) (hE : (E k || decide (k = s)) = true) (f : FuncId) (args : Array Value)
    (step : ∀ a u, On w0 u → Agree l a0 a → (∀ j dj, (l[j]?).bind (·.dst) = some dj → o.after.toList.any (fun e => e.on == j && Region.binds .any e) = true → ∀ vj, S.getD j .any = .val vj → a.eval (.tmp dj) = vj) → (execOp a.eval o).run Tryd.prog u = .ok (.enter f args) u ∧ Calls Tryd.prog f args u fun e w' => e = .returned v ∧ On u w') :
    StepAt3 Tryd.prog On (TT w0.heap.size z) E W s R0 (R1 w0.heap.size z S) l a0 w0 k o := by
  intro a u hT hT0 hA h1 h0
  obtain ⟨q1, q2⟩ := step a u (hT0 hE) hA fun j dj hj hm vj hv => by
    obtain ⟨e1, e2⟩ := dep3 h1 j dj hj hm
    rw [hv] at e1
    rw [← e2]; exact e1
  refine ⟨wanted_plain hg, StepOK.call f args q1 (q2.mono ?_)⟩
  rintro e w' ⟨rfl, hb⟩
  rw [hW]
  exact ⟨v, rfl, ⟨by unfold R1; rw [hk, ov_some v hd]; exact upd_self _ _ _, fun _ => trivial⟩, hb⟩
/-- A variable for a slot. -/
theorem st3_slo (d : Tmp) (hk : S.getD k .any = .slo) (ho : o.op = .alloc 23) (hd : o.dst = some d) (hg : o.guard = none) (hW : W k = false) :
    StepAt3 Tryd.prog On (TT w0.heap.size z) E W s R0 (R1 w0.heap.size z S) l a0 w0 k o := by
  intro a u hT hT0 hA h1 h0
  have hsz := (hT.old _ (Nat.le_refl _) (Nat.le_refl _)).size
  refine ⟨wanted_plain hg, StepOK.run (w' := u.alloc (.cells #[.int .i64 0, .int .u8 0, .string ⟨#[]⟩] 23)) (.pointer (some ⟨u.heap.size, 0, none⟩)) (by unfold execOp; rw [ho]; kernel_rfl) ?_ ?_⟩
  · rw [ov_some _ hd]
    exact ⟨by unfold R1; rw [hk]; exact ⟨_, upd_self _ _ _, hsz, zS, Ob.new u _⟩, fun _ => trivial⟩
  · rw [hW]; exact on_alloc _ _
/-- It is stored. -/
theorem st3_store (p q : Nat) (dp dq : Tmp) (hk : S.getD k .any = .sloDone p) (ho : o.op = .store 23 (.tmp dp) (.tmp dq)) (_hd : o.dst = none) (hg : o.guard = none) (hW : W k = true) (hkp : p ≠ k)
    (hp : S.getD p .any = .slo) (hjp : (l[p]?).bind (·.dst) = some dp) (hmp : o.after.toList.any (fun e => e.on == p && Region.binds .any e) = true)
    (hq : S.getD q .any = .val z.v) (hjq : (l[q]?).bind (·.dst) = some dq) (hmq : o.after.toList.any (fun e => e.on == q && Region.binds .any e) = true) :
    StepAt3 Tryd.prog On (TT w0.heap.size z) E W s R0 (R1 w0.heap.size z S) l a0 w0 k o := by
  intro a u hT hT0 hA h1 h0
  obtain ⟨p1, p2⟩ := dep3 h1 p dp hjp hmp
  rw [hp] at p1
  obtain ⟨g, eg, hgn, r, hr⟩ := p1
  obtain ⟨q1, q2⟩ := dep3 h1 q dq hjq hmq
  rw [hq] at q1
  have e1 : a.eval (.tmp dp) = .pointer (some ⟨g, 0, none⟩) := by rw [← p2]; exact eg
  have e2 : a.eval (.tmp dq) = z.v := by rw [← q2]; exact q1
  refine ⟨wanted_plain hg, ?_⟩
  intro K Q hK
  refine wp_store_row 23 (.tmp dp) (.tmp dq) ho g z.c e1 e2 23 _ hr (by kernel_rfl) rfl (Slt.one _) ?_
  refine hK undef _ ⟨?_, fun h => by rw [hW] at h; cases h⟩ (by rw [hW]; exact TT.store hgn hr)
  unfold R1
  rw [hk]
  exact ⟨g, (upd_ne _ _ hkp).trans eg, hgn, setRow_heap u g _ z.c 23 (0, 0) hr⟩
end
end Go.Proofs.YtipghcpodhokbaaDoor
