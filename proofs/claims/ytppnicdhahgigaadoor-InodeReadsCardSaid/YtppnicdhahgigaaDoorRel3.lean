/- A region that draws its order, some operations of which write, each behind the first of these: what an operation leaves may speak of the values of those that it waits for. -/
import Derived.Test.YtppnicdhahgigaaDoorRel2
namespace Go.Proofs.YtppnicdhahgigaaDoor
open Go
section
variable {P : Program}
/-- The operations' values. -/
def vals (l : List Oper) (a : Act) (i : Nat) : Value := match l[i]? with
  | some o => valOf a o
  | none => undef
def upd (f : Nat → Value) (k : Nat) (v : Value) (j : Nat) : Value := if j = k then v else f j
def ov (o : Oper) (v : Value) : Value := match o.dst with
  | some _ => v
  | none => undef
/-- What is owed of operation k. -/
def StepAt3 (P : Program) (T0 T : World → World → Prop) (E W : Nat → Bool) (s : Nat) (R0 R1 : Nat → (Nat → Value) → World → Prop) (l : List Oper) (a0 : Act) (w0 : World) (k : Nat) (o : Oper) : Prop :=
  ∀ a w, T w0 w → ((E k || decide (k = s)) = true → T0 w0 w) → Agree l a0 a → (∀ e ∈ o.after, Region.binds .any e = true → R1 e.on (vals l a) w) →
    ((E k || decide (k = s)) = true → ∀ e ∈ o.after, Region.binds .any e = true → R0 e.on (vals l a) w) →
    Region.wanted o (yielded l.toArray a.tmps) = true ∧ StepOK P (if W k then T else T0) o a w (fun v w' => R1 k (upd (vals l a) k (ov o v)) w' ∧ (W k = false → R0 k (upd (vals l a) k (ov o v)) w'))
def Steps3 (P : Program) (T0 T : World → World → Prop) (E W : Nat → Bool) (s : Nat) (R0 R1 : Nat → (Nat → Value) → World → Prop) (l : List Oper) (a0 : Act) (w0 : World) : Nat → List Oper → Prop
  | _, [] => True
  | k, o :: r => StepAt3 P T0 T E W s R0 R1 l a0 w0 k o ∧ Steps3 P T0 T E W s R0 R1 l a0 w0 (k + 1) r
theorem Steps3.at {T0 T : World → World → Prop} {E W : Nat → Bool} {s : Nat} {R0 R1 : Nat → (Nat → Value) → World → Prop} {l0 : List Oper} {a0 : Act} {w0 : World} : ∀ {l : List Oper} {k : Nat}, Steps3 P T0 T E W s R0 R1 l0 a0 w0 k l → ∀ i o, l[i]? = some o → StepAt3 P T0 T E W s R0 R1 l0 a0 w0 (k + i) o
  | [], _, _, i, o, h => by simp at h
  | x :: r, k, hS, i, o, h => by
    cases i with
    | zero =>
      simp only [List.getElem?_cons_zero, Option.some.injEq] at h
      subst h
      exact hS.1
    | succ i =>
      rw [List.getElem?_cons_succ] at h
      have := hS.2.at i o h
      rwa [show k + 1 + i = k + (i + 1) by omega] at this
/-- Each writing one but s waits for s. -/
def writeB (W : Nat → Bool) (s : Nat) (l : List Oper) : Bool :=
  (List.range l.length).all fun k => !W k || decide (k = s) || (match l[k]? with
    | some o => o.after.any fun e => Region.binds .any e && e.on == s
    | none => false)
theorem writeB_at {W : Nat → Bool} {s : Nat} {l : List Oper} (h : writeB W s l = true) {k : Nat} {o : Oper} (ho : l[k]? = some o) (hw : W k = true) (hne : k ≠ s) : ∃ e ∈ o.after, Region.binds .any e = true ∧ e.on = s := by
  unfold writeB at h
  rw [List.all_eq_true] at h
  have h1 := h k (List.mem_range.2 (List.getElem?_eq_some_iff.1 ho).1)
  rw [hw, ho] at h1
  simp only [Bool.not_true, Bool.false_or, Bool.or_eq_true, decide_eq_true_eq] at h1
  rcases h1 with h1 | h1
  · exact absurd h1 hne
  · obtain ⟨e, he1, he2⟩ := Array.any_eq_true'.1 h1
    simp only [Bool.and_eq_true, beq_iff_eq] at he2
    exact ⟨e, he1, he2.1, he2.2⟩
theorem rel_any3 {T0 T : World → World → Prop} (E W : Nat → Bool) (s : Nat) {R0 R1 : Nat → (Nat → Value) → World → Prop} {l : List Oper} {a0 : Act} {w0 : World} {Q : Exit → Act → World → Prop}
    (hT0t : ∀ {A B C : World}, T0 A B → T0 B C → T0 A C) (hT01 : ∀ {A B : World}, T0 A B → T A B) (hTt : ∀ {A B C : World}, T A B → T B C → T A C)
    (hst0 : ∀ i vs w w', R0 i vs w → T0 w w' → R0 i vs w') (hst : ∀ i vs w w', R1 i vs w → T w w' → R1 i vs w')
    (hcg : ∀ i o, l[i]? = some o → ∀ vs vs' w, vs i = vs' i → (∀ e ∈ o.after, Region.binds .any e = true → vs e.on = vs' e.on) → (R1 i vs w → R1 i vs' w) ∧ (R0 i vs w → R0 i vs' w)) (hB : relC a0.tmps.size 0 l = true)
    (hEB : earlyB E s l = true) (hWB : writeB W s l = true) (hWs : W s = true) (hS : Steps3 P T0 T E W s R0 R1 l a0 w0 0 l)
    (h : ∀ (vs : Nat → Value) w, T w0 w → (∀ i, i < l.length → R1 i vs w) → Q .normal (putsFrom l 0 vs a0) w) :
    ∀ (fuel : Nat) (listed : Array Bool) (a : Act) (w : World), listed.size = l.length → listed.toList.count false ≤ fuel → T w0 w → (listed.getD s false = false → T0 w0 w) → (∀ j o, l[j]? = some o → listed.getD j false = true → ∀ e ∈ o.after, Region.binds .any e = true → listed.getD e.on false = true) → Agree l a0 a →
      (∀ i o, l[i]? = some o → listed.getD i false = true → R1 i (vals l a) w ∧ (listed.getD s false = false → R0 i (vals l a) w)) → wpAny P .any l.toArray Q fuel listed a w := by
  have fin : ∀ (listed : Array Bool) (a : Act) (w : World), listed.size = l.length → (∀ i, i < l.length → listed.getD i false = true) → T w0 w → Agree l a0 a →
      (∀ i o, l[i]? = some o → listed.getD i false = true → R1 i (vals l a) w ∧ (listed.getD s false = false → R0 i (vals l a) w)) → Q .normal a w := by
    intro listed a w hsz hall hT hA hR
    have hR2 : ∀ i, i < l.length → R1 i (vals l a) w := fun i hi => (hR i l[i] (List.getElem?_eq_getElem hi) (hall i hi)).1
    have key : a = putsFrom l 0 (vals l a) a0 := by
      obtain ⟨s1, s2⟩ := putsFrom_size l 0 (vals l a) a0
      have ht : a.tmps = (putsFrom l 0 (vals l a) a0).tmps := by
        apply Array.ext_getElem?
        intro t
        by_cases ho : outside l t = true
        · rw [hA.out t ho, putsFrom_out l 0 _ a0 t ho]
        · have : ∃ o ∈ l, o.dst = some t := by
            simp only [outside, List.all_eq_true, Classical.not_forall] at ho
            obtain ⟨o, hm, hne⟩ := ho
            exact ⟨o, hm, by simpa using hne⟩
          obtain ⟨o, hm, hd⟩ := this
          obtain ⟨i, hi⟩ := List.getElem?_of_mem hm
          have e2 := ((relC_at hB i o hi).2 t hd).1
          rw [putsFrom_atC _ a0 hB (Nat.le_refl _) i o t hi hd, Nat.zero_add]
          have hlt : t < a.tmps.size := by rw [hA.size]; exact e2
          simp [vals, hi, valOf, hd, Act.eval, Array.getElem?_eq_getElem hlt]
      obtain ⟨at1, ad1⟩ := a
      simp only at ht
      have hd := hA.defers
      simp only at hd
      rw [← s2] at hd
      generalize putsFrom l 0 _ a0 = b at *
      obtain ⟨bt, bd⟩ := b
      simp only at ht hd
      rw [ht, hd]
    have hfin := h _ w hT hR2
    rwa [← key] at hfin
  have all_of_ready : ∀ (listed : Array Bool), listed.size = l.length → Region.ready .any l.toArray listed = [] → ∀ i, i < l.length → listed.getD i false = true := by
    intro listed hsz hr i
    induction i using Nat.strongRecOn with
    | _ i ih =>
      intro hi
      cases hc : listed.getD i false with
      | true => rfl
      | false =>
        exfalso
        have hi2 : l[i]? = some l[i] := List.getElem?_eq_getElem hi
        have e3 := (relC_at hB i _ hi2).1
        have hmem : i ∈ Region.ready .any l.toArray listed := by
          refine mem_ready.2 ⟨?_, l[i], by simp [hi], fun e he hb => ih e.on ?_ ?_⟩
          · have hlt : i < listed.size := by omega
            simp [Array.getD, hlt] at hc ⊢
            exact hc
          · have := e3 e he hb; omega
          · have := e3 e he hb; omega
        rw [hr] at hmem
        cases hmem
  intro fuel
  induction fuel with
  | zero =>
    intro listed a w hsz hcnt hT hT0 hcl hA hR
    have hall : ∀ i, i < l.length → listed.getD i false = true := by
      intro i hi
      have hlt : i < listed.size := by omega
      have h0 : listed.toList.count false = 0 := by omega
      rw [List.count_eq_zero] at h0
      simp only [Array.getD, hlt, dif_pos]
      cases hc : listed[i] with
      | true => simp [hc]
      | false => exact absurd (by rw [← hc]; simp) h0
    refine ⟨?_, fin listed a w hsz hall hT hA hR⟩
    cases hr : Region.ready .any l.toArray listed with
    | nil => rfl
    | cons x r =>
      exfalso
      have hx : x ∈ Region.ready .any l.toArray listed := by rw [hr]; simp
      obtain ⟨h1, o, ho, _⟩ := mem_ready.1 hx
      have hxl : x < l.length := by
        have := (Array.getElem?_eq_some_iff.1 ho).1
        simpa using this
      have h2 := hall x hxl
      have hlt : x < listed.size := by omega
      simp [Array.getD, hlt] at h1 h2
      rw [h1] at h2
      cases h2
  | succ fuel ihf =>
    intro listed a w hsz hcnt hT hT0 hcl hA hR
    refine ⟨fun hr => fin listed a w hsz (all_of_ready listed hsz hr) hT hA hR, fun i hi => ?_⟩
    obtain ⟨hun, o, ho, hdep⟩ := mem_ready.1 hi
    have ho' : l[i]? = some o := by simpa using ho
    have hil : i < l.length := (List.getElem?_eq_some_iff.1 ho').1
    have hlt : i < listed.size := by omega
    have hun2 : listed[i] = false := by simpa [Array.getD, hlt] using hun
    have hdn := (relC_at hB i o ho').2
    -- the writing operation has not come up where one that it waits for has not
    have hearly : E i = true → listed.getD s false = false := by
      intro hE
      cases hs : listed.getD s false with
      | false => rfl
      | true =>
        exfalso
        have down : ∀ n k, l.length - k ≤ n → k < l.length → E k = true → listed.getD k false = true := by
          intro n
          induction n with
          | zero => intro k h1 h2 _; omega
          | succ n ih =>
            intro k h1 h2 h3
            obtain ⟨j, oj, hj1, hj2, hj3, e, he1, he2, he3⟩ := earlyB_at hEB h2 h3
            have hjl := (List.getElem?_eq_some_iff.1 hj3).1
            have hjt : listed.getD j false = true := by
              rcases hj2 with hj2 | hj2
              · exact ih j (by omega) hjl hj2
              · rw [hj2]; exact hs
            rw [← he3]
            exact hcl j oj hj3 hjt e he1 he2
        have := down _ i (Nat.le_refl _) hil hE
        simp [Array.getD, hlt, hun2] at this
    have hns : i = s → listed.getD s false = false := by
      rintro rfl
      simp [Array.getD, hlt, hun2]
    have hT0i : (E i || decide (i = s)) = true → T0 w0 w := by
      intro h1
      simp only [Bool.or_eq_true, decide_eq_true_eq] at h1
      rcases h1 with h1 | h1
      · exact hT0 (hearly h1)
      · exact hT0 (hns h1)
    have hdl : ∀ e ∈ o.after, Region.binds .any e = true → ∃ oj, l[e.on]? = some oj := fun e he hb => by
      have hlt2 : e.on < l.length := by have := (relC_at hB i o ho').1 e he hb; omega
      exact ⟨_, List.getElem?_eq_getElem hlt2⟩
    have hnl : (E i || decide (i = s)) = true → listed.getD s false = false := by
      intro h1
      simp only [Bool.or_eq_true, decide_eq_true_eq] at h1
      rcases h1 with h1 | h1
      · exact hearly h1
      · exact hns h1
    have hstep := hS.at i o ho' a w hT (by rw [Nat.zero_add]; exact hT0i) hA (fun e he hb => by obtain ⟨oj, hj⟩ := hdl e he hb; exact (hR e.on oj hj (hdep e he hb)).1) (fun h1 e he hb => by obtain ⟨oj, hj⟩ := hdl e he hb; exact (hR e.on oj hj (hdep e he hb)).2 (hnl (by rwa [Nat.zero_add] at h1)))
    rw [Nat.zero_add] at hstep
    -- what follows behind the operation's value
    have hws : W i = true → i ≠ s → listed.getD s false = true := fun h1 h2 => by
      obtain ⟨e, he, hb, hon⟩ := writeB_at hWB ho' h1 h2
      rw [← hon]; exact hdep e he hb
    have next : ∀ v w', (R1 i (upd (vals l a) i (ov o v)) w' ∧ (W i = false → R0 i (upd (vals l a) i (ov o v)) w')) → (if W i then T else T0) w w' → wpAny P .any l.toArray Q fuel (listed.setIfInBounds i true) (a.put o.dst v) w' := by
      intro v w' hv hTi
      have hTw : T w w' := by
        cases hWi : W i with
        | true => rw [hWi] at hTi; exact hTi
        | false => rw [hWi] at hTi; exact hT01 hTi
      refine ihf _ _ w' (by simp [hsz]) ?_ (hTt hT hTw) ?_ ?_ ?_ ?_
      · have hmem : false ∈ listed.toList := by rw [← hun2]; simp
        have hpos : 0 < listed.toList.count false := List.count_pos_iff.2 hmem
        rw [Array.toList_setIfInBounds, List.count_set (by simpa using hlt)]
        have e1 : (listed.toList[i]'(by simpa using hlt) == false) = true := by simp [hun2]
        rw [if_pos e1, if_neg (by decide)]
        omega
      · intro hs
        by_cases his : i = s
        · subst his
          simp [Array.getD, hlt] at hs
        · rw [getD_set_ne false his] at hs
          cases hWi : W i with
          | true => rw [hws hWi his] at hs; cases hs
          | false => rw [hWi] at hTi; exact hT0t (hT0 hs) hTi
      · intro j o' hj hlj e he hb
        by_cases hij : i = j
        · subst hij
          rw [ho'] at hj
          injection hj with hj
          subst hj
          have hne : i ≠ e.on := by have := (relC_at hB i o ho').1 e he hb; omega
          rw [getD_set_ne false hne]
          exact hdep e he hb
        · rw [getD_set_ne false hij] at hlj
          have hje := hcl j o' hj hlj e he hb
          by_cases hie : i = e.on
          · rw [← hie]; simp [Array.getD, hlt]
          · rw [getD_set_ne false hie]; exact hje
      · cases hd : o.dst with
        | none => exact hA
        | some d =>
          refine ⟨?_, ?_, fun t ht => ?_⟩
          · simp [Act.put, hA.size]
          · exact hA.defers
          · have hne : d ≠ t := fun e => by
              simp only [outside, List.all_eq_true] at ht
              have := ht o (List.mem_of_getElem? ho')
              rw [hd, e] at this
              simp at this
            rw [← hA.out t ht]
            simp [Act.put, Array.getElem?_setIfInBounds_ne hne]
      · have hself : vals l (a.put o.dst v) i = ov o v := by
          unfold vals ov
          rw [ho']
          cases hd : o.dst with
          | none => simp [valOf, hd]
          | some d =>
            have hlt2 : d < a.tmps.size := by rw [hA.size]; exact (hdn d hd).1
            simp [valOf, hd, Act.put, Act.eval, hlt2]
        have hoth : ∀ j, j ≠ i → vals l (a.put o.dst v) j = vals l a j := by
          intro j hji
          unfold vals
          cases hlj : l[j]? with
          | none => rfl
          | some o' =>
            show valOf (a.put o.dst v) o' = valOf a o'
            unfold valOf
            cases hd' : o'.dst with
            | none => rfl
            | some d' =>
              cases hd : o.dst with
              | none => rfl
              | some d =>
                have hne : o'.dst ≠ some d := relC_apart hB ho' hlj (fun h => hji h.symm) hd
                exact Act.eval_put fun x hx he => by
                  injection hx with hx
                  injection he with he
                  subst hx he
                  exact hne hd'
        intro j o' hj hlj
        by_cases hij : i = j
        · subst hij
          rw [ho'] at hj
          injection hj with hj
          subst hj
          have hc := hcg i o ho' (upd (vals l a) i (ov o v)) (vals l (a.put o.dst v)) w' (by rw [hself]; simp [upd]) (fun e he hb => by
            have hne : e.on ≠ i := by have := (relC_at hB i o ho').1 e he hb; omega
            rw [hoth _ hne]; simp [upd, hne])
          refine ⟨hc.1 hv.1, fun hs => hc.2 (hv.2 ?_)⟩
          cases hWi : W i with
          | false => rfl
          | true =>
            exfalso
            by_cases his : i = s
            · subst his; simp [Array.getD, hlt] at hs
            · rw [getD_set_ne false his, hws hWi his] at hs; cases hs
        · rw [getD_set_ne false hij] at hlj
          have hdj := hcl j o' hj hlj
          have hc := fun W' => hcg j o' hj (vals l a) (vals l (a.put o.dst v)) W' (hoth j (fun h => hij h.symm)).symm (fun e he hb => by
            have hne : e.on ≠ i := fun h => by
              have := hdj e he hb
              rw [h] at this
              simp [Array.getD, hlt, hun2] at this
            rw [hoth _ hne])
          obtain ⟨r1, r0⟩ := hR j o' hj hlj
          refine ⟨(hc w').1 (hst j _ w w' r1 hTw), fun hs => ?_⟩
          by_cases his : i = s
          · subst his; simp [Array.getD, hlt] at hs
          · rw [getD_set_ne false his] at hs
            cases hWi : W i with
            | true => rw [hws hWi his] at hs; cases hs
            | false => rw [hWi] at hTi; exact (hc w').2 (hst0 j _ w w' (r0 hs) hTi)
    unfold wpOp
    rw [ho]
    obtain ⟨hw, hok⟩ := hstep
    simp only [hw, if_true]
    exact .inl (hok _ _ next)

/-- **A region that draws its order, some operations of which write.** -/
theorem wp_region_rel3 {id : Nat} {T0 T : World → World → Prop} (E W : Nat → Bool) (s : Nat) {R0 R1 : Nat → (Nat → Value) → World → Prop} {l : List Oper} {a0 : Act} {w : World} {Q : Exit → Act → World → Prop}
    (hm : P.follows .mixedOrders = true) (hB : relC a0.tmps.size 0 l = true) (hT0t : ∀ {A B C : World}, T0 A B → T0 B C → T0 A C) (hT01 : ∀ {A B : World}, T0 A B → T A B) (hTt : ∀ {A B C : World}, T A B → T B C → T A C)
    (hst0 : ∀ i vs w w', R0 i vs w → T0 w w' → R0 i vs w') (hst : ∀ i vs w w', R1 i vs w → T w w' → R1 i vs w')
    (hcg : ∀ i o, l[i]? = some o → ∀ vs vs' w, vs i = vs' i → (∀ e ∈ o.after, Region.binds .any e = true → vs e.on = vs' e.on) → (R1 i vs w → R1 i vs' w) ∧ (R0 i vs w → R0 i vs' w))
    (hd : T0 w { w with drawn := w.drawn + 1 }) (hEB : earlyB E s l = true) (hWB : writeB W s l = true) (hWs : W s = true) (hS : Steps3 P T0 T E W s R0 R1 l a0 w 0 l)
    (h : ∀ (vs : Nat → Value) w', T w w' → (∀ i, i < l.length → R1 i vs w') → Q .normal (putsFrom l 0 vs a0) w') : (Code.region id l.toArray true).wp P Q a0 w := by
  refine wp_region_any hm ?_
  have hz : ∀ j o, l[j]? = some o → (Array.replicate l.toArray.size false).getD j false = true → False := fun i o ho hl => by
    have hlt : i < l.length := (List.getElem?_eq_some_iff.1 ho).1
    simp [Array.getD, hlt] at hl
  refine rel_any3 (w0 := w) (T0 := T0) (T := T) (R0 := R0) (R1 := R1) E W s hT0t hT01 hTt hst0 hst hcg hB hEB hWB hWs hS h _ _ a0 { w with drawn := w.drawn + 1 } (by simp) (by simp) (hT01 hd) (fun _ => hd) (fun j o hj hl => (hz j o hj hl).elim) (Agree.refl _ _) fun i o ho hl => ?_
  exfalso
  have hlt : i < l.length := (List.getElem?_eq_some_iff.1 ho).1
  simp [Array.getD, hlt] at hl
end
end Go.Proofs.YtppnicdhahgigaaDoor
