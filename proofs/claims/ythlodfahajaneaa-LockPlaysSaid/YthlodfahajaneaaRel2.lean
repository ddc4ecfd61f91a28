/- A region that draws its order, one operation of which writes: the others that it waits for see the world as it was. -/
import Derived.Test.YthlodfahajaneaaRel
set_option linter.unusedSimpArgs false
set_option linter.unusedVariables false
namespace Go.Proofs.Ythlodfahajaneaa
open Go
section
variable {P : Program}
/-- Each operation that has a slot has one of its own, and waits for earlier ones alone. -/
def relC (n : Nat) : Nat → List Oper → Bool
  | _, [] => true
  | k, o :: r => (match o.dst with
    | some d => decide (d < n) && r.all (fun o' => o'.dst != some d)
    | none => true) && o.after.all (fun e => !Region.binds .any e || decide (e.on < k)) && relC n (k + 1) r
theorem relC_at {n : Nat} : ∀ {l : List Oper} {k : Nat}, relC n k l = true → ∀ i o, l[i]? = some o →
    (∀ e ∈ o.after, Region.binds .any e = true → e.on < k + i) ∧ ∀ d, o.dst = some d → d < n ∧ ∀ j o', i < j → l[j]? = some o' → o'.dst ≠ some d
  | [], _, _, i, o, h => by simp at h
  | x :: r, k, hB, i, o, h => by
    simp only [relC, Bool.and_eq_true] at hB
    obtain ⟨⟨h1, h2⟩, h3⟩ := hB
    cases i with
    | zero =>
      simp only [List.getElem?_cons_zero, Option.some.injEq] at h
      subst h
      refine ⟨fun e he hb => ?_, fun d hd => ?_⟩
      · have := Array.all_eq_true_iff_forall_mem.1 h2 e he
        rw [hb] at this
        simpa using this
      · rw [hd] at h1
        simp only [Bool.and_eq_true, decide_eq_true_eq] at h1
        refine ⟨h1.1, fun j o' hj ho' => ?_⟩
        obtain ⟨j, rfl⟩ : ∃ j', j = j' + 1 := ⟨j - 1, by omega⟩
        rw [List.getElem?_cons_succ] at ho'
        have := List.all_eq_true.1 h1.2 o' (List.mem_of_getElem? ho')
        simpa using this
    | succ i =>
      rw [List.getElem?_cons_succ] at h
      obtain ⟨e3, e4⟩ := relC_at h3 i o h
      refine ⟨fun e he hb => by have := e3 e he hb; omega, fun d hd => ⟨(e4 d hd).1, fun j o' hj ho' => ?_⟩⟩
      obtain ⟨j, rfl⟩ : ∃ j', j = j' + 1 := ⟨j - 1, by omega⟩
      rw [List.getElem?_cons_succ] at ho'
      exact (e4 d hd).2 j o' (by omega) ho'
theorem relC_apart {n : Nat} {l : List Oper} {k : Nat} (hB : relC n k l = true) {i j : Nat} {o o' : Oper} {d : Tmp} (hi : l[i]? = some o) (hj : l[j]? = some o') (hne : i ≠ j) (hd : o.dst = some d) : o'.dst ≠ some d := by
  rcases Nat.lt_or_gt_of_ne hne with h | h
  · exact ((relC_at hB i o hi).2 d hd).2 j o' h hj
  · intro he
    exact ((relC_at hB j o' hj).2 d he).2 i o h hi hd
/-- The operations that the writing one, s, waits for, by whatever chain: each is waited for by one of them, or by s. -/
def earlyB (E : Nat → Bool) (s : Nat) (l : List Oper) : Bool :=
  (List.range l.length).all fun k => !E k || (List.range l.length).any fun j => decide (k < j) && (E j || decide (j = s)) && (match l[j]? with
    | some o => o.after.any fun e => Region.binds .any e && e.on == k
    | none => false)
theorem earlyB_at {E : Nat → Bool} {s : Nat} {l : List Oper} (h : earlyB E s l = true) {k : Nat} (hk : k < l.length) (he : E k = true) :
    ∃ j o, k < j ∧ (E j = true ∨ j = s) ∧ l[j]? = some o ∧ ∃ e ∈ o.after, Region.binds .any e = true ∧ e.on = k := by
  unfold earlyB at h
  rw [List.all_eq_true] at h
  have h1 := h k (List.mem_range.2 hk)
  rw [he] at h1
  simp only [Bool.not_true, Bool.false_or, List.any_eq_true, Bool.and_eq_true, Bool.or_eq_true, decide_eq_true_eq] at h1
  obtain ⟨j, _, ⟨h2, h3⟩, h4⟩ := h1
  cases hj : l[j]? with
  | none => rw [hj] at h4; cases h4
  | some o =>
    rw [hj] at h4
    obtain ⟨e, he1, he2⟩ := Array.any_eq_true'.1 h4
    simp only [Bool.and_eq_true, beq_iff_eq] at he2
    exact ⟨j, o, h2, h3, hj, e, he1, he2.1, he2.2⟩
/-- What is owed of operation k. -/
def StepAt2 (P : Program) (T0 T : World → World → Prop) (E : Nat → Bool) (s : Nat) (R : Nat → Value → World → Prop) (l : List Oper) (a0 : Act) (w0 : World) (k : Nat) (o : Oper) : Prop :=
  ∀ a w, T w0 w → ((E k || decide (k = s)) = true → T0 w0 w) → Agree l a0 a → (∀ e ∈ o.after, Region.binds .any e = true → ∀ oj, l[e.on]? = some oj → R e.on (valOf a oj) w) →
    (Region.wanted o (yielded l.toArray a.tmps) = true ∧ StepOK P (if k = s then T else T0) o a w (R k)) ∨ (Region.wanted o (yielded l.toArray a.tmps) = false ∧ R k undef w)
def Steps2 (P : Program) (T0 T : World → World → Prop) (E : Nat → Bool) (s : Nat) (R : Nat → Value → World → Prop) (l : List Oper) (a0 : Act) (w0 : World) : Nat → List Oper → Prop
  | _, [] => True
  | k, o :: r => StepAt2 P T0 T E s R l a0 w0 k o ∧ Steps2 P T0 T E s R l a0 w0 (k + 1) r
theorem Steps2.at {T0 T : World → World → Prop} {E : Nat → Bool} {s : Nat} {R : Nat → Value → World → Prop} {l0 : List Oper} {a0 : Act} {w0 : World} : ∀ {l : List Oper} {k : Nat}, Steps2 P T0 T E s R l0 a0 w0 k l → ∀ i o, l[i]? = some o → StepAt2 P T0 T E s R l0 a0 w0 (k + i) o
  | [], _, _, i, o, h => by simp at h
  | x :: r, k, hS, i, o, h => by
    cases i with
    | zero =>
      simp only [List.getElem?_cons_zero, Option.some.injEq] at h
      subst h
      exact hS.1
    | succ i =>
      rw [List.getElem?_cons_succ] at h
      have := hS.2.at i o h
      rwa [show k + 1 + i = k + (i + 1) by omega] at this
theorem putsFrom_atC {n : Nat} : ∀ {l : List Oper} {k : Nat} (vs : Nat → Value) (a : Act) {m : Nat}, relC n m l = true → n ≤ a.tmps.size → ∀ i o d, l[i]? = some o → o.dst = some d → (putsFrom l k vs a).tmps[d]? = some (vs (k + i))
  | [], _, _, _, _, _, _, i, o, d, h, _ => by simp at h
  | x :: r, k, vs, a, m, hB, hn, i, o, d, h, hd => by
    have hB2 := hB
    simp only [relC, Bool.and_eq_true] at hB2
    have hsz : (a.put x.dst (vs k)).tmps.size = a.tmps.size := by
      cases hx : x.dst <;> simp [Act.put]
    cases i with
    | zero =>
      simp only [List.getElem?_cons_zero, Option.some.injEq] at h
      subst h
      obtain ⟨e2, e4⟩ := (relC_at hB 0 x rfl).2 d hd
      have hout : outside r d = true := by
        unfold outside
        rw [List.all_eq_true]
        intro o' ho'
        obtain ⟨j, hj⟩ := List.getElem?_of_mem ho'
        have := e4 (j + 1) o' (by omega) (by rw [List.getElem?_cons_succ]; exact hj)
        simpa using this
      show (putsFrom r (k + 1) vs (a.put x.dst (vs k))).tmps[d]? = _
      rw [putsFrom_out r (k + 1) vs _ d hout, hd]
      have hlt : d < a.tmps.size := Nat.lt_of_lt_of_le e2 hn
      simp [Act.put, hlt]
    | succ i =>
      rw [List.getElem?_cons_succ] at h
      have := putsFrom_atC (k := k + 1) vs (a.put x.dst (vs k)) hB2.2 (by rw [hsz]; exact hn) i o d h hd
      rw [show k + 1 + i = k + (i + 1) by omega] at this
      exact this

theorem rel_any2 {T0 T : World → World → Prop} (E : Nat → Bool) (s : Nat) {R : Nat → Value → World → Prop} {l : List Oper} {a0 : Act} {w0 : World} {Q : Exit → Act → World → Prop}
    (hT0r : ∀ w, T0 w w) (hT0t : ∀ {A B C : World}, T0 A B → T0 B C → T0 A C) (hT01 : ∀ {A B : World}, T0 A B → T A B) (hTt : ∀ {A B C : World}, T A B → T B C → T A C) (hst : ∀ i v w w', R i v w → T w w' → R i v w') (hun0 : ∀ o i, l[i]? = some o → o.dst = none → ∀ v w, R i v w → R i undef w) (hB : relC a0.tmps.size 0 l = true)
    (hEB : earlyB E s l = true) (hS : Steps2 P T0 T E s R l a0 w0 0 l)
    (h : ∀ (vs : Nat → Value) w, T w0 w → (∀ i, i < l.length → R i (vs i) w) → Q .normal (putsFrom l 0 vs a0) w) :
    ∀ (fuel : Nat) (listed : Array Bool) (a : Act) (w : World), listed.size = l.length → listed.toList.count false ≤ fuel → T w0 w → (listed.getD s false = false → T0 w0 w) → (∀ j o, l[j]? = some o → listed.getD j false = true → ∀ e ∈ o.after, Region.binds .any e = true → listed.getD e.on false = true) → Agree l a0 a →
      (∀ i o, l[i]? = some o → listed.getD i false = true → R i (valOf a o) w) → wpAny P .any l.toArray Q fuel listed a w := by
  have fin : ∀ (listed : Array Bool) (a : Act) (w : World), listed.size = l.length → (∀ i, i < l.length → listed.getD i false = true) → T w0 w → Agree l a0 a →
      (∀ i o, l[i]? = some o → listed.getD i false = true → R i (valOf a o) w) → Q .normal a w := by
    intro listed a w hsz hall hT hA hR
    have hR2 : ∀ i o, l[i]? = some o → R i (valOf a o) w := fun i o ho => hR i o ho (hall i (List.getElem?_eq_some_iff.1 ho).1)
    have key : a = putsFrom l 0 (fun i => ((l[i]?).map (valOf a)).getD undef) a0 := by
      obtain ⟨s1, s2⟩ := putsFrom_size l 0 (fun i => ((l[i]?).map (valOf a)).getD undef) a0
      have ht : a.tmps = (putsFrom l 0 (fun i => ((l[i]?).map (valOf a)).getD undef) a0).tmps := by
        apply Array.ext_getElem?
        intro t
        by_cases ho : outside l t = true
        · rw [hA.out t ho, putsFrom_out l 0 _ a0 t ho]
        · have : ∃ o ∈ l, o.dst = some t := by
            simp only [outside, List.all_eq_true, Classical.not_forall] at ho
            obtain ⟨o, hm, hne⟩ := ho
            exact ⟨o, hm, by simpa using hne⟩
          obtain ⟨o, hm, hd⟩ := this
          obtain ⟨i, hi⟩ := List.getElem?_of_mem hm
          have e2 := ((relC_at hB i o hi).2 t hd).1
          rw [putsFrom_atC _ a0 hB (Nat.le_refl _) i o t hi hd, Nat.zero_add, hi]
          have hlt : t < a.tmps.size := by rw [hA.size]; exact e2
          simp [valOf, hd, Act.eval, Array.getElem?_eq_getElem hlt]
      obtain ⟨at1, ad1⟩ := a
      simp only at ht
      have hd := hA.defers
      simp only at hd
      rw [← s2] at hd
      generalize putsFrom l 0 _ a0 = b at *
      obtain ⟨bt, bd⟩ := b
      simp only at ht hd
      rw [ht, hd]
    rw [key]
    refine h _ w hT fun i hi => ?_
    have hi2 : l[i]? = some l[i] := List.getElem?_eq_getElem hi
    rw [hi2]
    exact hR2 i _ hi2
  have all_of_ready : ∀ (listed : Array Bool), listed.size = l.length → Region.ready .any l.toArray listed = [] → ∀ i, i < l.length → listed.getD i false = true := by
    intro listed hsz hr i
    induction i using Nat.strongRecOn with
    | _ i ih =>
      intro hi
      cases hc : listed.getD i false with
      | true => rfl
      | false =>
        exfalso
        have hi2 : l[i]? = some l[i] := List.getElem?_eq_getElem hi
        have e3 := (relC_at hB i _ hi2).1
        have hmem : i ∈ Region.ready .any l.toArray listed := by
          refine mem_ready.2 ⟨?_, l[i], by simp [hi], fun e he hb => ih e.on ?_ ?_⟩
          · have hlt : i < listed.size := by omega
            simp [Array.getD, hlt] at hc ⊢
            exact hc
          · have := e3 e he hb; omega
          · have := e3 e he hb; omega
        rw [hr] at hmem
        cases hmem
  intro fuel
  induction fuel with
  | zero =>
    intro listed a w hsz hcnt hT hT0 hcl hA hR
    have hall : ∀ i, i < l.length → listed.getD i false = true := by
      intro i hi
      have hlt : i < listed.size := by omega
      have h0 : listed.toList.count false = 0 := by omega
      rw [List.count_eq_zero] at h0
      simp only [Array.getD, hlt, dif_pos]
      cases hc : listed[i] with
      | true => simp [hc]
      | false => exact absurd (by rw [← hc]; simp) h0
    refine ⟨?_, fin listed a w hsz hall hT hA hR⟩
    cases hr : Region.ready .any l.toArray listed with
    | nil => rfl
    | cons x r =>
      exfalso
      have hx : x ∈ Region.ready .any l.toArray listed := by rw [hr]; simp
      obtain ⟨h1, o, ho, _⟩ := mem_ready.1 hx
      have hxl : x < l.length := by
        have := (Array.getElem?_eq_some_iff.1 ho).1
        simpa using this
      have h2 := hall x hxl
      have hlt : x < listed.size := by omega
      simp [Array.getD, hlt] at h1 h2
      rw [h1] at h2
      cases h2
  | succ fuel ihf =>
    intro listed a w hsz hcnt hT hT0 hcl hA hR
    refine ⟨fun hr => fin listed a w hsz (all_of_ready listed hsz hr) hT hA hR, fun i hi => ?_⟩
    obtain ⟨hun, o, ho, hdep⟩ := mem_ready.1 hi
    have ho' : l[i]? = some o := by simpa using ho
    have hil : i < l.length := (List.getElem?_eq_some_iff.1 ho').1
    have hlt : i < listed.size := by omega
    have hun2 : listed[i] = false := by simpa [Array.getD, hlt] using hun
    have hdn := (relC_at hB i o ho').2
    -- the writing operation has not come up where one that it waits for has not
    have hearly : E i = true → listed.getD s false = false := by
      intro hE
      cases hs : listed.getD s false with
      | false => rfl
      | true =>
        exfalso
        have down : ∀ n k, l.length - k ≤ n → k < l.length → E k = true → listed.getD k false = true := by
          intro n
          induction n with
          | zero => intro k h1 h2 _; omega
          | succ n ih =>
            intro k h1 h2 h3
            obtain ⟨j, oj, hj1, hj2, hj3, e, he1, he2, he3⟩ := earlyB_at hEB h2 h3
            have hjl := (List.getElem?_eq_some_iff.1 hj3).1
            have hjt : listed.getD j false = true := by
              rcases hj2 with hj2 | hj2
              · exact ih j (by omega) hjl hj2
              · rw [hj2]; exact hs
            rw [← he3]
            exact hcl j oj hj3 hjt e he1 he2
        have := down _ i (Nat.le_refl _) hil hE
        simp [Array.getD, hlt, hun2] at this
    have hns : i = s → listed.getD s false = false := by
      rintro rfl
      simp [Array.getD, hlt, hun2]
    have hT0i : (E i || decide (i = s)) = true → T0 w0 w := by
      intro h1
      simp only [Bool.or_eq_true, decide_eq_true_eq] at h1
      rcases h1 with h1 | h1
      · exact hT0 (hearly h1)
      · exact hT0 (hns h1)
    have hstep := hS.at i o ho' a w hT (by rw [Nat.zero_add]; exact hT0i) hA (fun e he hb oj hj => hR e.on oj hj (hdep e he hb))
    rw [Nat.zero_add] at hstep
    -- what follows behind the operation's value
    have next : ∀ v w', R i v w' → (if i = s then T else T0) w w' → wpAny P .any l.toArray Q fuel (listed.setIfInBounds i true) (a.put o.dst v) w' := by
      intro v w' hv hTi
      have hTw : T w w' := by
        by_cases his : i = s
        · rwa [if_pos his] at hTi
        · rw [if_neg his] at hTi; exact hT01 hTi
      refine ihf _ _ w' (by simp [hsz]) ?_ (hTt hT hTw) ?_ ?_ ?_ ?_
      · have hmem : false ∈ listed.toList := by rw [← hun2]; simp
        have hpos : 0 < listed.toList.count false := List.count_pos_iff.2 hmem
        rw [Array.toList_setIfInBounds, List.count_set (by simpa using hlt)]
        have e1 : (listed.toList[i]'(by simpa using hlt) == false) = true := by simp [hun2]
        rw [if_pos e1, if_neg (by decide)]
        omega
      · intro hs
        by_cases his : i = s
        · subst his
          simp [Array.getD, hlt] at hs
        · rw [if_neg his] at hTi
          rw [getD_set_ne false his] at hs
          exact hT0t (hT0 hs) hTi
      · intro j o' hj hlj e he hb
        by_cases hij : i = j
        · subst hij
          rw [ho'] at hj
          injection hj with hj
          subst hj
          have hne : i ≠ e.on := by have := (relC_at hB i o ho').1 e he hb; omega
          rw [getD_set_ne false hne]
          exact hdep e he hb
        · rw [getD_set_ne false hij] at hlj
          have hje := hcl j o' hj hlj e he hb
          by_cases hie : i = e.on
          · rw [← hie]; simp [Array.getD, hlt]
          · rw [getD_set_ne false hie]; exact hje
      · cases hd : o.dst with
        | none => exact hA
        | some d =>
          refine ⟨?_, ?_, fun t ht => ?_⟩
          · simp [Act.put, hA.size]
          · exact hA.defers
          · have hne : d ≠ t := fun e => by
              simp only [outside, List.all_eq_true] at ht
              have := ht o (List.mem_of_getElem? ho')
              rw [hd, e] at this
              simp at this
            rw [← hA.out t ht]
            simp [Act.put, Array.getElem?_setIfInBounds_ne hne]
      · intro j o' hj hlj
        by_cases hij : i = j
        · subst hij
          rw [ho'] at hj
          injection hj with hj
          subst hj
          cases hd : o.dst with
          | none =>
            have hv0 : valOf (a.put Option.none v) o = undef := by simp [valOf, hd]
            rw [hv0]
            exact hun0 o i ho' hd v w' hv
          | some d =>
            have : valOf (a.put (some d) v) o = v := by
              have hlt2 : d < a.tmps.size := by rw [hA.size]; exact (hdn d hd).1
              simp [valOf, hd, Act.put, Act.eval, hlt2]
            rw [this]; exact hv
        · have hv2 : valOf (a.put o.dst v) o' = valOf a o' := by
            unfold valOf
            cases hd' : o'.dst with
            | none => rfl
            | some d' =>
              cases hd : o.dst with
              | none => rfl
              | some d =>
                have hne : o'.dst ≠ some d := relC_apart hB ho' hj hij hd
                exact Act.eval_put fun x hx he => by
                  injection hx with hx
                  injection he with he
                  subst hx he
                  exact hne hd'
          rw [hv2]
          refine hst j _ w w' (hR j o' hj ?_) hTw
          rwa [getD_set_ne false hij] at hlj
    unfold wpOp
    rw [ho]
    rcases hstep with ⟨hw, hok⟩ | ⟨hw, hv⟩
    · simp only [hw, if_true]
      exact .inl (hok _ _ next)
    · simp only [hw, Bool.false_eq_true, if_false]
      have := next undef w hv (by by_cases his : i = s <;> simp only [his, if_true, if_false] <;> first | exact hT01 (hT0r w) | exact hT0r w)
      exact this

/-- **A region that draws its order, whose operations may make memory.** -/
theorem wp_region_rel2 {id : Nat} {T0 T : World → World → Prop} (E : Nat → Bool) (s : Nat) {R : Nat → Value → World → Prop} {l : List Oper} {a0 : Act} {w : World} {Q : Exit → Act → World → Prop}
    (hm : P.follows .mixedOrders = true) (hB : relC a0.tmps.size 0 l = true) (hT0r : ∀ w, T0 w w) (hT0t : ∀ {A B C : World}, T0 A B → T0 B C → T0 A C) (hT01 : ∀ {A B : World}, T0 A B → T A B) (hTt : ∀ {A B C : World}, T A B → T B C → T A C) (hst : ∀ i v w w', R i v w → T w w' → R i v w') (hun0 : ∀ o i, l[i]? = some o → o.dst = none → ∀ v w, R i v w → R i undef w)
    (hd : T0 w { w with drawn := w.drawn + 1 }) (hEB : earlyB E s l = true) (hS : Steps2 P T0 T E s R l a0 w 0 l)
    (h : ∀ (vs : Nat → Value) w', T w w' → (∀ i, i < l.length → R i (vs i) w') → Q .normal (putsFrom l 0 vs a0) w') : (Code.region id l.toArray true).wp P Q a0 w := by
  refine wp_region_any hm ?_
  have hz : ∀ j o, l[j]? = some o → (Array.replicate l.toArray.size false).getD j false = true → False := fun i o ho hl => by
    have hlt : i < l.length := (List.getElem?_eq_some_iff.1 ho).1
    simp [Array.getD, hlt] at hl
  refine rel_any2 E s hT0r hT0t hT01 hTt hst hun0 hB hEB hS h _ _ _ _ (by simp) (by simp) (hT01 hd) (fun _ => hd) (fun j o hj hl => (hz j o hj hl).elim) (Agree.refl _ _) fun i o ho hl => ?_
  exfalso
  have hlt : i < l.length := (List.getElem?_eq_some_iff.1 ho).1
  simp [Array.getD, hlt] at hl
end
end Go.Proofs.Ythlodfahajaneaa
