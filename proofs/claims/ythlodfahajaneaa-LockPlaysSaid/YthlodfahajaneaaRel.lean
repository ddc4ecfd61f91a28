/- A region that draws its order, whose operations make memory: one walk, by what each operation's value is in whatever world there is then. No program stands here. -/
import Derived.Orders
import Derived.Control
import Derived.Deep.AppendLies
import Derived.WalkKit
set_option linter.unusedSimpArgs false
set_option linter.unusedVariables false
namespace Go.Proofs.Ythlodfahajaneaa
open Go

section
variable {P : Program}
/-- The value in o's own slot. -/
def valOf (a : Act) (o : Oper) : Value := match o.dst with
  | some d => a.eval (.tmp d)
  | none => undef
/-- t is no operation's own slot. -/
def outside (l : List Oper) (t : Tmp) : Bool := l.all fun o => o.dst != some t
/-- But for the operations' own slots a is a0. -/
structure Agree (l : List Oper) (a0 a : Act) : Prop where
  size : a.tmps.size = a0.tmps.size
  defers : a.defers = a0.defers
  out : ∀ t, outside l t = true → a.tmps[t]? = a0.tmps[t]?
theorem Agree.refl (l : List Oper) (a : Act) : Agree l a a := ⟨rfl, rfl, fun _ _ => rfl⟩
theorem Agree.eval {l : List Oper} {a0 a : Act} (h : Agree l a0 a) (t : Tmp) (ht : outside l t = true) : a.eval (.tmp t) = a0.eval (.tmp t) := by
  show a.tmps.getD t undef = a0.tmps.getD t undef
  rw [Array.getD_eq_getD_getElem?, Array.getD_eq_getD_getElem?, h.out t ht]
/-- Each operation has a slot of its own, and waits for earlier ones alone. -/
def relB (n : Nat) : Nat → List Oper → Bool
  | _, [] => true
  | k, o :: r => (match o.dst with
    | some d => decide (d < n) && r.all (fun o' => o'.dst != some d)
    | none => false) && o.after.all (fun e => decide (e.on < k)) && relB n (k + 1) r
theorem relB_at {n : Nat} : ∀ {l : List Oper} {k : Nat}, relB n k l = true → ∀ i o, l[i]? = some o →
    ∃ d, o.dst = some d ∧ d < n ∧ (∀ e ∈ o.after, e.on < k + i) ∧ ∀ j o', i < j → l[j]? = some o' → o'.dst ≠ some d
  | [], _, _, i, o, h => by simp at h
  | x :: r, k, hB, i, o, h => by
    simp only [relB, Bool.and_eq_true] at hB
    obtain ⟨⟨h1, h2⟩, h3⟩ := hB
    cases i with
    | zero =>
      simp only [List.getElem?_cons_zero, Option.some.injEq] at h
      subst h
      cases hd : x.dst with
      | none => rw [hd] at h1; cases h1
      | some d =>
        rw [hd] at h1
        simp only [Bool.and_eq_true, decide_eq_true_eq] at h1
        refine ⟨d, rfl, h1.1, fun e he => ?_, fun j o' hj ho' => ?_⟩
        · have := Array.all_eq_true_iff_forall_mem.1 h2 e he
          simpa using this
        · obtain ⟨j, rfl⟩ : ∃ j', j = j' + 1 := ⟨j - 1, by omega⟩
          rw [List.getElem?_cons_succ] at ho'
          have := List.all_eq_true.1 h1.2 o' (List.mem_of_getElem? ho')
          simpa using this
    | succ i =>
      rw [List.getElem?_cons_succ] at h
      obtain ⟨d, e1, e2, e3, e4⟩ := relB_at h3 i o h
      refine ⟨d, e1, e2, fun e he => by have := e3 e he; omega, fun j o' hj ho' => ?_⟩
      obtain ⟨j, rfl⟩ : ∃ j', j = j' + 1 := ⟨j - 1, by omega⟩
      rw [List.getElem?_cons_succ] at ho'
      exact e4 j o' (by omega) ho'
theorem relB_apart {n : Nat} {l : List Oper} {k : Nat} (hB : relB n k l = true) {i j : Nat} {o o' : Oper} {d : Tmp} (hi : l[i]? = some o) (hj : l[j]? = some o') (hne : i ≠ j) (hd : o.dst = some d) : o'.dst ≠ some d := by
  rcases Nat.lt_or_gt_of_ne hne with h | h
  · obtain ⟨d', e1, _, _, e4⟩ := relB_at hB i o hi
    rw [hd] at e1
    injection e1 with e1
    subst e1
    exact e4 j o' h hj
  · obtain ⟨d', e1, _, _, e4⟩ := relB_at hB j o' hj
    rw [e1]
    intro he
    injection he with he
    subst he
    exact e4 i o h hi hd

/-- The operation hands back a value that meets R, in a world that has gone on by T. -/
def StepOK (P : Program) (T : World → World → Prop) (o : Oper) (a : Act) (w : World) (R : Value → World → Prop) : Prop :=
  ∀ (K : Act → World → Prop) (Q : Exit → Act → World → Prop), (∀ v w', R v w' → T w w' → K (a.put o.dst v) w') → o.wp P a w K Q
/-- What is owed of operation k: where those that it waits for have come up. -/
def StepAt (P : Program) (T : World → World → Prop) (R : Nat → Value → World → Prop) (l : List Oper) (a0 : Act) (w0 : World) (k : Nat) (o : Oper) : Prop :=
  ∀ a w, T w0 w → Agree l a0 a → (∀ e ∈ o.after, Region.binds .any e = true → ∀ oj, l[e.on]? = some oj → R e.on (valOf a oj) w) →
    (Region.wanted o (yielded l.toArray a.tmps) = true ∧ StepOK P T o a w (R k)) ∨ (Region.wanted o (yielded l.toArray a.tmps) = false ∧ R k undef w)
def Steps (P : Program) (T : World → World → Prop) (R : Nat → Value → World → Prop) (l : List Oper) (a0 : Act) (w0 : World) : Nat → List Oper → Prop
  | _, [] => True
  | k, o :: r => StepAt P T R l a0 w0 k o ∧ Steps P T R l a0 w0 (k + 1) r
theorem Steps.at {T : World → World → Prop} {R : Nat → Value → World → Prop} {l0 : List Oper} {a0 : Act} {w0 : World} : ∀ {l : List Oper} {k : Nat}, Steps P T R l0 a0 w0 k l → ∀ i o, l[i]? = some o → StepAt P T R l0 a0 w0 (k + i) o
  | [], _, _, i, o, h => by simp at h
  | x :: r, k, hS, i, o, h => by
    cases i with
    | zero =>
      simp only [List.getElem?_cons_zero, Option.some.injEq] at h
      subst h
      exact hS.1
    | succ i =>
      rw [List.getElem?_cons_succ] at h
      have := hS.2.at i o h
      rwa [show k + 1 + i = k + (i + 1) by omega] at this

/-- All slots filled in, in the text's order. -/
def putsFrom : List Oper → Nat → (Nat → Value) → Act → Act
  | [], _, _, a => a
  | o :: r, k, vs, a => putsFrom r (k + 1) vs (a.put o.dst (vs k))
theorem putsFrom_size : ∀ (l : List Oper) (k : Nat) (vs : Nat → Value) (a : Act), (putsFrom l k vs a).tmps.size = a.tmps.size ∧ (putsFrom l k vs a).defers = a.defers
  | [], _, _, _ => ⟨rfl, rfl⟩
  | o :: r, k, vs, a => by
    have h := putsFrom_size r (k + 1) vs (a.put o.dst (vs k))
    cases hd : o.dst with
    | none => rw [hd] at h; simpa [putsFrom, hd, Act.put] using h
    | some d => rw [hd] at h; simpa [putsFrom, hd, Act.put] using h
theorem putsFrom_out : ∀ (l : List Oper) (k : Nat) (vs : Nat → Value) (a : Act) (t : Tmp), outside l t = true → (putsFrom l k vs a).tmps[t]? = a.tmps[t]?
  | [], _, _, _, _, _ => rfl
  | o :: r, k, vs, a, t, h => by
    simp only [outside, List.all_cons, Bool.and_eq_true] at h
    have h2 := putsFrom_out r (k + 1) vs (a.put o.dst (vs k)) t h.2
    show (putsFrom r (k + 1) vs (a.put o.dst (vs k))).tmps[t]? = _
    rw [h2]
    cases hd : o.dst with
    | none => rfl
    | some d =>
      have hne : d ≠ t := fun e => by rw [hd, e] at h; simp at h
      simp [Act.put, Array.getElem?_setIfInBounds_ne hne]
theorem putsFrom_at {n : Nat} : ∀ {l : List Oper} {k : Nat} (vs : Nat → Value) (a : Act) {m : Nat}, relB n m l = true → n ≤ a.tmps.size → ∀ i o d, l[i]? = some o → o.dst = some d → (putsFrom l k vs a).tmps[d]? = some (vs (k + i))
  | [], _, _, _, _, _, _, i, o, d, h, _ => by simp at h
  | x :: r, k, vs, a, m, hB, hn, i, o, d, h, hd => by
    have hB2 := hB
    simp only [relB, Bool.and_eq_true] at hB2
    have hsz : (a.put x.dst (vs k)).tmps.size = a.tmps.size := by
      cases hx : x.dst <;> simp [Act.put]
    cases i with
    | zero =>
      simp only [List.getElem?_cons_zero, Option.some.injEq] at h
      subst h
      obtain ⟨d', e1, e2, _, e4⟩ := relB_at hB 0 x rfl
      rw [hd] at e1
      injection e1 with e1
      subst e1
      have hout : outside r d = true := by
        unfold outside
        rw [List.all_eq_true]
        intro o' ho'
        obtain ⟨j, hj⟩ := List.getElem?_of_mem ho'
        have := e4 (j + 1) o' (by omega) (by rw [List.getElem?_cons_succ]; exact hj)
        simpa using this
      show (putsFrom r (k + 1) vs (a.put x.dst (vs k))).tmps[d]? = _
      rw [putsFrom_out r (k + 1) vs _ d hout, hd]
      have hlt : d < a.tmps.size := Nat.lt_of_lt_of_le e2 hn
      simp [Act.put, hlt]
    | succ i =>
      rw [List.getElem?_cons_succ] at h
      have := putsFrom_at (k := k + 1) vs (a.put x.dst (vs k)) hB2.2 (by rw [hsz]; exact hn) i o d h hd
      rw [show k + 1 + i = k + (i + 1) by omega] at this
      exact this

theorem rel_any {T : World → World → Prop} {R : Nat → Value → World → Prop} {l : List Oper} {a0 : Act} {w0 : World} {Q : Exit → Act → World → Prop}
    (hTr : ∀ w, T w w) (hTt : ∀ {A B C : World}, T A B → T B C → T A C) (hst : ∀ i v w w', R i v w → T w w' → R i v w') (hB : relB a0.tmps.size 0 l = true)
    (hS : Steps P T R l a0 w0 0 l)
    (h : ∀ (vs : Nat → Value) w, T w0 w → (∀ i, i < l.length → R i (vs i) w) → Q .normal (putsFrom l 0 vs a0) w) :
    ∀ (fuel : Nat) (listed : Array Bool) (a : Act) (w : World), listed.size = l.length → listed.toList.count false ≤ fuel → T w0 w → Agree l a0 a →
      (∀ i o, l[i]? = some o → listed.getD i false = true → R i (valOf a o) w) → wpAny P .any l.toArray Q fuel listed a w := by
  have fin : ∀ (listed : Array Bool) (a : Act) (w : World), listed.size = l.length → (∀ i, i < l.length → listed.getD i false = true) → T w0 w → Agree l a0 a →
      (∀ i o, l[i]? = some o → listed.getD i false = true → R i (valOf a o) w) → Q .normal a w := by
    intro listed a w hsz hall hT hA hR
    have hR2 : ∀ i o, l[i]? = some o → R i (valOf a o) w := fun i o ho => hR i o ho (hall i (List.getElem?_eq_some_iff.1 ho).1)
    have key : a = putsFrom l 0 (fun i => ((l[i]?).map (valOf a)).getD undef) a0 := by
      obtain ⟨s1, s2⟩ := putsFrom_size l 0 (fun i => ((l[i]?).map (valOf a)).getD undef) a0
      have ht : a.tmps = (putsFrom l 0 (fun i => ((l[i]?).map (valOf a)).getD undef) a0).tmps := by
        apply Array.ext_getElem?
        intro t
        by_cases ho : outside l t = true
        · rw [hA.out t ho, putsFrom_out l 0 _ a0 t ho]
        · have : ∃ o ∈ l, o.dst = some t := by
            simp only [outside, List.all_eq_true, Classical.not_forall] at ho
            obtain ⟨o, hm, hne⟩ := ho
            exact ⟨o, hm, by simpa using hne⟩
          obtain ⟨o, hm, hd⟩ := this
          obtain ⟨i, hi⟩ := List.getElem?_of_mem hm
          obtain ⟨d', e1, e2, _, _⟩ := relB_at hB i o hi
          rw [hd] at e1
          injection e1 with e1
          subst e1
          rw [putsFrom_at _ a0 hB (Nat.le_refl _) i o t hi hd, Nat.zero_add, hi]
          have hlt : t < a.tmps.size := by rw [hA.size]; exact e2
          simp [valOf, hd, Act.eval, Array.getElem?_eq_getElem hlt]
      obtain ⟨at1, ad1⟩ := a
      simp only at ht
      have hd := hA.defers
      simp only at hd
      rw [← s2] at hd
      generalize putsFrom l 0 _ a0 = b at *
      obtain ⟨bt, bd⟩ := b
      simp only at ht hd
      rw [ht, hd]
    rw [key]
    refine h _ w hT fun i hi => ?_
    have hi2 : l[i]? = some l[i] := List.getElem?_eq_getElem hi
    rw [hi2]
    exact hR2 i _ hi2
  have all_of_ready : ∀ (listed : Array Bool), listed.size = l.length → Region.ready .any l.toArray listed = [] → ∀ i, i < l.length → listed.getD i false = true := by
    intro listed hsz hr i
    induction i using Nat.strongRecOn with
    | _ i ih =>
      intro hi
      cases hc : listed.getD i false with
      | true => rfl
      | false =>
        exfalso
        have hi2 : l[i]? = some l[i] := List.getElem?_eq_getElem hi
        obtain ⟨d', _, _, e3, _⟩ := relB_at hB i _ hi2
        have hmem : i ∈ Region.ready .any l.toArray listed := by
          refine mem_ready.2 ⟨?_, l[i], by simp [hi], fun e he _ => ih e.on ?_ ?_⟩
          · have hlt : i < listed.size := by omega
            simp [Array.getD, hlt] at hc ⊢
            exact hc
          · have := e3 e he; omega
          · have := e3 e he; omega
        rw [hr] at hmem
        cases hmem
  intro fuel
  induction fuel with
  | zero =>
    intro listed a w hsz hcnt hT hA hR
    have hall : ∀ i, i < l.length → listed.getD i false = true := by
      intro i hi
      have hlt : i < listed.size := by omega
      have h0 : listed.toList.count false = 0 := by omega
      rw [List.count_eq_zero] at h0
      simp only [Array.getD, hlt, dif_pos]
      cases hc : listed[i] with
      | true => simp [hc]
      | false => exact absurd (by rw [← hc]; simp) h0
    refine ⟨?_, fin listed a w hsz hall hT hA hR⟩
    cases hr : Region.ready .any l.toArray listed with
    | nil => rfl
    | cons x r =>
      exfalso
      have hx : x ∈ Region.ready .any l.toArray listed := by rw [hr]; simp
      obtain ⟨h1, o, ho, _⟩ := mem_ready.1 hx
      have hxl : x < l.length := by
        have := (Array.getElem?_eq_some_iff.1 ho).1
        simpa using this
      have h2 := hall x hxl
      have hlt : x < listed.size := by omega
      simp [Array.getD, hlt] at h1 h2
      rw [h1] at h2
      cases h2
  | succ fuel ihf =>
    intro listed a w hsz hcnt hT hA hR
    refine ⟨fun hr => fin listed a w hsz (all_of_ready listed hsz hr) hT hA hR, fun i hi => ?_⟩
    obtain ⟨hun, o, ho, hdep⟩ := mem_ready.1 hi
    have ho' : l[i]? = some o := by simpa using ho
    have hil : i < l.length := (List.getElem?_eq_some_iff.1 ho').1
    have hlt : i < listed.size := by omega
    have hun2 : listed[i] = false := by simpa [Array.getD, hlt] using hun
    obtain ⟨d, hd, hdn, _, _⟩ := relB_at hB i o ho'
    have hstep := hS.at i o ho' a w hT hA (fun e he hb oj hj => hR e.on oj hj (hdep e he hb))
    rw [Nat.zero_add] at hstep
    -- what follows behind the operation's value
    have next : ∀ v w', R i v w' → T w w' → wpAny P .any l.toArray Q fuel (listed.setIfInBounds i true) (a.put o.dst v) w' := by
      intro v w' hv hTw
      refine ihf _ _ w' (by simp [hsz]) ?_ (hTt hT hTw) ?_ ?_
      · have hmem : false ∈ listed.toList := by rw [← hun2]; simp
        have hpos : 0 < listed.toList.count false := List.count_pos_iff.2 hmem
        rw [Array.toList_setIfInBounds, List.count_set (by simpa using hlt)]
        have e1 : (listed.toList[i]'(by simpa using hlt) == false) = true := by simp [hun2]
        rw [if_pos e1, if_neg (by decide)]
        omega
      · refine ⟨?_, ?_, fun t ht => ?_⟩
        · rw [hd]; simp [Act.put, hA.size]
        · rw [hd]; exact hA.defers
        · have hne : d ≠ t := fun e => by
            simp only [outside, List.all_eq_true] at ht
            have := ht o (List.mem_of_getElem? ho')
            rw [hd, e] at this
            simp at this
          rw [← hA.out t ht, hd]
          simp [Act.put, Array.getElem?_setIfInBounds_ne hne]
      · intro j o' hj hlj
        by_cases hij : i = j
        · subst hij
          rw [ho'] at hj
          injection hj with hj
          subst hj
          have : valOf (a.put o.dst v) o = v := by
            have hlt2 : d < a.tmps.size := by rw [hA.size]; exact hdn
            simp [valOf, hd, Act.put, Act.eval, hlt2]
          rw [this]; exact hv
        · have hne : o'.dst ≠ some d := relB_apart hB ho' hj hij hd
          have hv2 : valOf (a.put o.dst v) o' = valOf a o' := by
            unfold valOf
            cases hd' : o'.dst with
            | none => rfl
            | some d' =>
              rw [hd]
              exact Act.eval_put fun x hx he => by
                injection hx with hx
                injection he with he
                subst hx he
                exact hne hd'
          rw [hv2]
          refine hst j _ w w' (hR j o' hj ?_) hTw
          rwa [getD_set_ne false hij] at hlj
    unfold wpOp
    rw [ho]
    rcases hstep with ⟨hw, hok⟩ | ⟨hw, hv⟩
    · simp only [hw, if_true]
      exact .inl (hok _ _ next)
    · simp only [hw, Bool.false_eq_true, if_false]
      have := next undef w hv (hTr w)
      exact this

/-- **A region that draws its order, whose operations may make memory.** -/
theorem wp_region_rel {id : Nat} {T : World → World → Prop} {R : Nat → Value → World → Prop} {l : List Oper} {a0 : Act} {w : World} {Q : Exit → Act → World → Prop}
    (hm : P.follows .mixedOrders = true) (hB : relB a0.tmps.size 0 l = true) (hTr : ∀ w, T w w) (hTt : ∀ {A B C : World}, T A B → T B C → T A C) (hst : ∀ i v w w', R i v w → T w w' → R i v w')
    (hd : T w { w with drawn := w.drawn + 1 }) (hS : Steps P T R l a0 w 0 l)
    (h : ∀ (vs : Nat → Value) w', T w w' → (∀ i, i < l.length → R i (vs i) w') → Q .normal (putsFrom l 0 vs a0) w') : (Code.region id l.toArray true).wp P Q a0 w := by
  refine wp_region_any hm ?_
  refine rel_any hTr hTt hst hB hS h _ _ _ _ (by simp) (by simp) hd (Agree.refl _ _) fun i o ho hl => ?_
  exfalso
  have hlt : i < l.length := (List.getElem?_eq_some_iff.1 ho).1
  simp [Array.getD, hlt] at hl
/-! ### Steps, by kind -/
theorem StepOK.run {T : World → World → Prop} {R : Value → World → Prop} {o : Oper} {a : Act} {w w' : World} (v : Value) (hr : (execOp a.eval o).run P w = .ok (.value v) w') (hv : R v w') (hT : T w w') : StepOK P T o a w R := by
  intro K Q h
  unfold Oper.wp
  rw [hr]
  exact h v w' hv hT
theorem StepOK.move {T : World → World → Prop} {R : Value → World → Prop} {o : Oper} {a : Act} {w : World} (x : Operand) (ho : o.op = .move x) (hv : R (a.eval x) w) (hT : T w w) : StepOK P T o a w R :=
  StepOK.run (a.eval x) (by unfold execOp; rw [ho]; rfl) hv hT
theorem StepOK.assign {T : World → World → Prop} {R : Value → World → Prop} {o : Oper} {a : Act} {w : World} (x : Operand) (ho : o.op = .assign x) (hv : R (a.eval x) w) (hT : T w w) : StepOK P T o a w R :=
  StepOK.run (a.eval x) (by unfold execOp; rw [ho]; rfl) hv hT
theorem StepOK.call {T : World → World → Prop} {R : Value → World → Prop} {o : Oper} {a : Act} {w : World} (f : FuncId) (args : Array Value) (hr : (execOp a.eval o).run P w = .ok (.enter f args) w)
    (hc : Calls P f args w fun e w' => ∃ v, e = .returned v ∧ R v w' ∧ T w w') : StepOK P T o a w R := by
  intro K Q h
  unfold Oper.wp
  rw [hr]
  refine hc.mono ?_
  rintro e w' ⟨v, rfl, h1, h2⟩
  exact h v w' h1 h2
theorem StepOK.mono {T : World → World → Prop} {R R' : Value → World → Prop} {o : Oper} {a : Act} {w : World} (h : StepOK P T o a w R) (hR : ∀ v w', T w w' → R v w' → R' v w') : StepOK P T o a w R' :=
  fun K Q hK => h K Q fun v w' hv hT => hK v w' (hR v w' hT hv) hT
/-- What operation j left, as operation o sees it. -/
theorem dep {R : Nat → Value → World → Prop} {l : List Oper} {a : Act} {w : World} {o : Oper} (hd : ∀ e ∈ o.after, Region.binds .any e = true → ∀ oj, l[e.on]? = some oj → R e.on (valOf a oj) w)
    (j : Nat) (d : Tmp) (hj : (l[j]?).bind (·.dst) = some d) (hm : o.after.toList.any (fun e => e.on == j && Region.binds .any e) = true) : R j (a.eval (.tmp d)) w := by
  rw [List.any_eq_true] at hm
  obtain ⟨e, hi, hb⟩ := hm
  rw [Bool.and_eq_true, beq_iff_eq] at hb
  cases hlj : l[j]? with
  | none => rw [hlj] at hj; cases hj
  | some oj =>
    rw [hlj] at hj
    have h := hd e (by simpa using hi) hb.2 oj (by rw [hb.1]; exact hlj)
    rw [hb.1] at h
    have hd2 : oj.dst = some d := hj
    unfold valOf at h
    rw [hd2] at h
    exact h
/-- Behind '&&' and '||': the guard's own value is known. -/
theorem wanted_of {ops : Array Oper} {o : Oper} {a : Act} {g : Nat} {want b : Bool} {d : Tmp} (hg : o.guard = some (g, want)) (hd : (ops[g]?).bind (·.dst) = some d) (h : a.eval (.tmp d) = .bool b) : Region.wanted o (yielded ops a.tmps) = (b == want) := by
  have h2 : a.tmps[d]? = some (.bool b) := by
    have h3 : a.tmps.getD d undef = .bool b := h
    rw [Array.getD_eq_getD_getElem?] at h3
    cases hc : a.tmps[d]? with
    | none => rw [hc] at h3; cases h3
    | some v => rw [hc] at h3; rw [show v = .bool b from h3]
  have hy : yielded ops a.tmps g = some b := by
    unfold yielded
    rw [hd]
    simp [h2]
  unfold Region.wanted
  rw [hg]
  simp only [hy]
  cases b <;> cases want <;> rfl
/-- 'min(x, y, z)' of three numbers. -/
theorem run_min3 (ats : Array TypeId) (ty : TypeId) (x y z : Nat) (w : World) : (Builtin.min_ ats ty #[.int .i64 (x : Int), .int .i64 (y : Int), .int .i64 (z : Int)]).run P w = .ok (.int .i64 ((min (min x y) z : Nat) : Int)) w := by
  have h : ∀ a b : Nat, (if (b : Int) < (a : Int) then (b : Int) else (a : Int)) = ((min a b : Nat) : Int) := by
    intro a b
    split <;> omega
  simp only [Builtin.min_, List.foldlM_cons, List.foldlM_nil, Builtin.min2, Sem.run_bind, Sem.run_pure, Result.andThen_ok, h]
theorem wpList_min3 {ops : Array Oper} {rest : List Oper} {o : Oper} {a : Act} {w : World} {Q : Exit → Act → World → Prop} (hgd : o.guard = none) (x y z : Operand) (ts : Array TypeId)
    (ho : o.op = .call { callee := .builtin .min, args := #[x, y, z], argTypes := ts }) (n1 n2 n3 : Nat) (h1 : a.eval x = .int .i64 (n1 : Int)) (h2 : a.eval y = .int .i64 (n2 : Int)) (h3 : a.eval z = .int .i64 (n3 : Int))
    (h : wpList P ops Q rest (a.put o.dst (.int .i64 ((min (min n1 n2) n3 : Nat) : Int))) w) : wpList P ops Q (o :: rest) a w :=
  wpList_plain hgd fun K hK => by
    unfold Oper.wp execOp
    simp only [ho, resolve, invoke, builtin, Sem.run_bind, Sem.run_pure, Result.andThen_ok, List.map_toArray, List.map_cons, List.map_nil, h1, h2, h3, run_min3]
    exact hK _ _ h
end
end Go.Proofs.Ythlodfahajaneaa
