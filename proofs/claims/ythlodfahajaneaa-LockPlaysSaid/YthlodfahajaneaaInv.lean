/- A region that draws its order, walked by one invariant: what holds, whichever operations have come up. No program stands here. -/
import Derived.Test.YthlodfahajaneaaRel2
set_option linter.unusedSimpArgs false
set_option linter.unusedVariables false
namespace Go.Proofs.Ythlodfahajaneaa
open Go
section
variable {P : Program}
/-- One operation more has come up. -/
def setL (L : Nat → Bool) (i : Nat) : Nat → Bool := fun j => if j = i then true else L j
/-- What is owed of operation i. -/
def StepI (P : Program) (I : (Nat → Bool) → Act → World → Prop) (l : List Oper) (i : Nat) (o : Oper) : Prop :=
  ∀ L a w, I L a w → L i = false → (∀ e ∈ o.after, Region.binds .any e = true → L e.on = true) →
    Region.wanted o (yielded l.toArray a.tmps) = true ∧ ∀ (K : Act → World → Prop) (Q : Exit → Act → World → Prop), (∀ v w', I (setL L i) (a.put o.dst v) w' → K (a.put o.dst v) w') → o.wp P a w K Q
def StepsI (P : Program) (I : (Nat → Bool) → Act → World → Prop) (l : List Oper) : Nat → List Oper → Prop
  | _, [] => True
  | k, o :: r => StepI P I l k o ∧ StepsI P I l (k + 1) r
theorem StepsI.at {I : (Nat → Bool) → Act → World → Prop} {l0 : List Oper} : ∀ {l : List Oper} {k : Nat}, StepsI P I l0 k l → ∀ i o, l[i]? = some o → StepI P I l0 (k + i) o
  | [], _, _, i, o, h => by simp at h
  | x :: r, k, hS, i, o, h => by
    cases i with
    | zero =>
      simp only [List.getElem?_cons_zero, Option.some.injEq] at h
      subst h
      exact hS.1
    | succ i =>
      rw [List.getElem?_cons_succ] at h
      have := hS.2.at i o h
      rwa [show k + 1 + i = k + (i + 1) by omega] at this
theorem setL_of {listed : Array Bool} {i : Nat} (hi : i < listed.size) : (fun k => (listed.setIfInBounds i true).getD k false) = setL (fun k => listed.getD k false) i := by
  funext k
  unfold setL
  by_cases h : k = i
  · subst h
    simp [Array.getD, hi]
  · rw [if_neg h, getD_set_ne false (fun e => h e.symm)]
theorem inv_any (I : (Nat → Bool) → Act → World → Prop) {l : List Oper} {Q : Exit → Act → World → Prop} {n : Nat} (hB : relC n 0 l = true)
    (hS : StepsI P I l 0 l) (fin : ∀ L a w, I L a w → (∀ i, i < l.length → L i = true) → Q .normal a w) :
    ∀ (fuel : Nat) (listed : Array Bool) (a : Act) (w : World), listed.size = l.length → listed.toList.count false ≤ fuel → I (fun k => listed.getD k false) a w → wpAny P .any l.toArray Q fuel listed a w := by
  have all_of_ready : ∀ (listed : Array Bool), listed.size = l.length → Region.ready .any l.toArray listed = [] → ∀ i, i < l.length → listed.getD i false = true := by
    intro listed hsz hr i
    induction i using Nat.strongRecOn with
    | _ i ih =>
      intro hi
      cases hc : listed.getD i false with
      | true => rfl
      | false =>
        exfalso
        have hi2 : l[i]? = some l[i] := List.getElem?_eq_getElem hi
        have e3 := (relC_at hB i _ hi2).1
        have hmem : i ∈ Region.ready .any l.toArray listed := by
          refine mem_ready.2 ⟨?_, l[i], by simp [hi], fun e he hb => ih e.on ?_ ?_⟩
          · have hlt : i < listed.size := by omega
            simp [Array.getD, hlt] at hc ⊢
            exact hc
          · have := e3 e he hb; omega
          · have := e3 e he hb; omega
        rw [hr] at hmem
        cases hmem
  intro fuel
  induction fuel with
  | zero =>
    intro listed a w hsz hcnt hI
    have hall : ∀ i, i < l.length → listed.getD i false = true := by
      intro i hi
      have hlt : i < listed.size := by omega
      have h0 : listed.toList.count false = 0 := by omega
      rw [List.count_eq_zero] at h0
      simp only [Array.getD, hlt, dif_pos]
      cases hc : listed[i] with
      | true => simp [hc]
      | false => exact absurd (by rw [← hc]; simp) h0
    refine ⟨?_, fin _ a w hI hall⟩
    cases hr : Region.ready .any l.toArray listed with
    | nil => rfl
    | cons x r =>
      exfalso
      have hx : x ∈ Region.ready .any l.toArray listed := by rw [hr]; simp
      obtain ⟨h1, o, ho, _⟩ := mem_ready.1 hx
      have hxl : x < l.length := by
        have := (Array.getElem?_eq_some_iff.1 ho).1
        simpa using this
      have h2 := hall x hxl
      have hlt : x < listed.size := by omega
      simp [Array.getD, hlt] at h1 h2
      rw [h1] at h2
      cases h2
  | succ fuel ihf =>
    intro listed a w hsz hcnt hI
    refine ⟨fun hr => fin _ a w hI (all_of_ready listed hsz hr), fun i hi => ?_⟩
    obtain ⟨hun, o, ho, hdep⟩ := mem_ready.1 hi
    have ho' : l[i]? = some o := by simpa using ho
    have hil : i < l.length := (List.getElem?_eq_some_iff.1 ho').1
    have hlt : i < listed.size := by omega
    have hun2 : listed[i] = false := by simpa [Array.getD, hlt] using hun
    have hst := hS.at i o ho'
    rw [Nat.zero_add] at hst
    obtain ⟨hw, hgo⟩ := hst _ a w hI (by simp [Array.getD, hlt, hun2]) hdep
    unfold wpOp
    rw [ho]
    simp only [hw, if_true]
    refine .inl (hgo _ _ fun v w' hv => ihf _ _ w' (by simp [hsz]) ?_ ?_)
    · have hmem : false ∈ listed.toList := by rw [← hun2]; simp
      have hpos : 0 < listed.toList.count false := List.count_pos_iff.2 hmem
      rw [Array.toList_setIfInBounds, List.count_set (by simpa using hlt)]
      have e1 : (listed.toList[i]'(by simpa using hlt) == false) = true := by simp [hun2]
      rw [if_pos e1, if_neg (by decide)]
      omega
    · rw [setL_of hlt]; exact hv
/-- **A region that draws its order, by one invariant.** -/
theorem wp_region_inv {id : Nat} (I : (Nat → Bool) → Act → World → Prop) {l : List Oper} {a0 : Act} {w : World} {Q : Exit → Act → World → Prop} {n : Nat}
    (hm : P.follows .mixedOrders = true) (hB : relC n 0 l = true) (h0 : I (fun _ => false) a0 { w with drawn := w.drawn + 1 }) (hS : StepsI P I l 0 l)
    (fin : ∀ L a w', I L a w' → (∀ i, i < l.length → L i = true) → Q .normal a w') : (Code.region id l.toArray true).wp P Q a0 w := by
  refine wp_region_any hm ?_
  have e : (fun k => (Array.replicate l.toArray.size false).getD k false) = fun _ => false := by
    funext k
    by_cases h : k < l.length
    · simp [Array.getD, h]
    · simp [Array.getD, h]
  exact inv_any I hB hS fin _ _ _ _ (by simp) (by simp) (by rw [e]; exact h0)
theorem Agree.put {l : List Oper} {a0 a : Act} (h : Agree l a0 a) {o : Oper} (ho : o ∈ l) (v : Value) : Agree l a0 (a.put o.dst v) := by
  cases hd : o.dst with
  | none => exact h
  | some d =>
    refine ⟨?_, ?_, fun t ht => ?_⟩
    · simp [Act.put, h.size]
    · exact h.defers
    · have hne : d ≠ t := fun e => by
        simp only [outside, List.all_eq_true] at ht
        have := ht o ho
        rw [hd, e] at this
        simp at this
      rw [← h.out t ht]
      simp [Act.put, Array.getElem?_setIfInBounds_ne hne]
/-- The same, where the invariant speaks of slots and of the world: all other slots stay. -/
def StepA (P : Program) (I : (Nat → Bool) → (Nat → Value) → World → Prop) (l : List Oper) (a0 : Act) (i : Nat) (o : Oper) : Prop :=
  ∀ L a w, Agree l a0 a → I L (fun t => a.eval (.tmp t)) w → L i = false → (∀ e ∈ o.after, Region.binds .any e = true → L e.on = true) →
    Region.wanted o (yielded l.toArray a.tmps) = true ∧ ∀ (K : Act → World → Prop) (Q : Exit → Act → World → Prop), (∀ v w', I (setL L i) (fun t => (a.put o.dst v).eval (.tmp t)) w' → K (a.put o.dst v) w') → o.wp P a w K Q
def StepsA (P : Program) (I : (Nat → Bool) → (Nat → Value) → World → Prop) (l : List Oper) (a0 : Act) : Nat → List Oper → Prop
  | _, [] => True
  | k, o :: r => StepA P I l a0 k o ∧ StepsA P I l a0 (k + 1) r
theorem stepsI_of {I : (Nat → Bool) → (Nat → Value) → World → Prop} {l : List Oper} {a0 : Act} : ∀ {r : List Oper} {k : Nat}, (∀ o ∈ r, o ∈ l) → StepsA P I l a0 k r → StepsI P (fun L a w => Agree l a0 a ∧ I L (fun t => a.eval (.tmp t)) w) l k r
  | [], _, _, _ => trivial
  | o :: r, k, hm, ⟨h1, h2⟩ => ⟨fun L a w hI hL hd => by
      obtain ⟨hw, hgo⟩ := h1 L a w hI.1 hI.2 hL hd
      exact ⟨hw, fun K Q hK => hgo K Q fun v w' hv => hK v w' ⟨hI.1.put (hm o (by simp)) v, hv⟩⟩, stepsI_of (fun o' ho' => hm o' (by simp [ho'])) h2⟩
/-- An act that agrees with a0 is a0 with the operations' own slots filled in. -/
theorem Agree.eq {l : List Oper} {a0 a : Act} (hA : Agree l a0 a) (hB : relC a0.tmps.size 0 l = true) : ∃ vs, a = putsFrom l 0 vs a0 := by
  refine ⟨fun i => ((l[i]?).map (valOf a)).getD undef, ?_⟩
  obtain ⟨s1, s2⟩ := putsFrom_size l 0 (fun i => ((l[i]?).map (valOf a)).getD undef) a0
  have ht : a.tmps = (putsFrom l 0 (fun i => ((l[i]?).map (valOf a)).getD undef) a0).tmps := by
    apply Array.ext_getElem?
    intro t
    by_cases ho : outside l t = true
    · rw [hA.out t ho, putsFrom_out l 0 _ a0 t ho]
    · have : ∃ o ∈ l, o.dst = some t := by
        simp only [outside, List.all_eq_true, Classical.not_forall] at ho
        obtain ⟨o, hm, hne⟩ := ho
        exact ⟨o, hm, by simpa using hne⟩
      obtain ⟨o, hm, hd⟩ := this
      obtain ⟨i, hi⟩ := List.getElem?_of_mem hm
      have e2 := ((relC_at hB i o hi).2 t hd).1
      rw [putsFrom_atC _ a0 hB (Nat.le_refl _) i o t hi hd, Nat.zero_add, hi]
      have hlt : t < a.tmps.size := by rw [hA.size]; exact e2
      simp [valOf, hd, Act.eval, Array.getElem?_eq_getElem hlt]
  have hd := hA.defers
  rw [← s2] at hd
  generalize putsFrom l 0 (fun i => ((l[i]?).map (valOf a)).getD undef) a0 = b at *
  obtain ⟨at1, ad1⟩ := a
  obtain ⟨bt, bd⟩ := b
  simp only at ht hd
  rw [ht, hd]
theorem wp_region_invA {id : Nat} (I : (Nat → Bool) → (Nat → Value) → World → Prop) {l : List Oper} {a0 : Act} {w : World} {Q : Exit → Act → World → Prop}
    (hm : P.follows .mixedOrders = true) (hB : relC a0.tmps.size 0 l = true) (h0 : I (fun _ => false) (fun t => a0.eval (.tmp t)) { w with drawn := w.drawn + 1 }) (hS : StepsA P I l a0 0 l)
    (fin : ∀ L (vs : Nat → Value) w', I L (fun t => (putsFrom l 0 vs a0).eval (.tmp t)) w' → (∀ i, i < l.length → L i = true) → Q .normal (putsFrom l 0 vs a0) w') : (Code.region id l.toArray true).wp P Q a0 w :=
  wp_region_inv (fun L a w => Agree l a0 a ∧ I L (fun t => a.eval (.tmp t)) w) hm hB ⟨Agree.refl _ _, h0⟩ (stepsI_of (fun _ h => h) hS) fun L a w' hI hall => by
    obtain ⟨vs, e⟩ := hI.1.eq hB
    have h := hI.2
    subst e
    exact fin L vs w' h hall
end
end Go.Proofs.Ythlodfahajaneaa
