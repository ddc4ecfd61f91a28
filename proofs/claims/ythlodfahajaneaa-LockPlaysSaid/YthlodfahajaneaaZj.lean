/- A region that draws its order and calls what turns memory, one call behind the other: by what each operation hands back, and by the phase in which the world stands. No program stands here. -/
import Derived.Test.YthlodfahajaneaaInv
import Derived.Test.YthlodfahajaneaaSteps
set_option linter.unusedSimpArgs false
set_option linter.unusedVariables false
namespace Go.Proofs.Ythlodfahajaneaa
open Go
section
variable {P : Program}
/-- What is owed of operation i. -/
def StepP (P : Program) (T : World → World → Prop) (R : Nat → Value → World → Prop) (PH : (Nat → Bool) → World → Prop) (l : List Oper) (a0 : Act) (i : Nat) (o : Oper) : Prop :=
  ∀ L a w, Agree l a0 a → PH L w → L i = false → (∀ e ∈ o.after, Region.binds .any e = true → L e.on = true ∧ ∀ oj, l[e.on]? = some oj → R e.on (valOf a oj) w) →
    Region.wanted o (yielded l.toArray a.tmps) = true ∧ StepOK P T o a w (fun v w' => R i v w' ∧ PH (setL L i) w')
def StepsP (P : Program) (T : World → World → Prop) (R : Nat → Value → World → Prop) (PH : (Nat → Bool) → World → Prop) (l : List Oper) (a0 : Act) : Nat → List Oper → Prop
  | _, [] => True
  | k, o :: r => StepP P T R PH l a0 k o ∧ StepsP P T R PH l a0 (k + 1) r
/-- What the invariant says. -/
def InvP (R : Nat → Value → World → Prop) (PH : (Nat → Bool) → World → Prop) (l : List Oper) (L : Nat → Bool) (vs : Nat → Value) (w : World) : Prop :=
  (∀ i o d, l[i]? = some o → o.dst = some d → L i = true → R i (vs d) w) ∧ PH L w
theorem stepsA_of {T : World → World → Prop} {R : Nat → Value → World → Prop} {PH : (Nat → Bool) → World → Prop} {l : List Oper} {a0 : Act} (hB2 : relB a0.tmps.size 0 l = true) (hst : ∀ i v w w', R i v w → T w w' → R i v w') :
    ∀ {r : List Oper} {k : Nat}, (∀ j o, r[j]? = some o → l[k + j]? = some o) → StepsP P T R PH l a0 k r → StepsA P (InvP R PH l) l a0 k r
  | [], _, _, _ => trivial
  | o :: r, k, hm, ⟨h1, h2⟩ => by
    refine ⟨?_, stepsA_of hB2 hst (fun j o' hj => by
      have := hm (j + 1) o' (by simpa using hj)
      rwa [show k + (j + 1) = k + 1 + j by omega] at this) h2⟩
    intro L a w hA hI hL hd
    have hk : l[k]? = some o := hm 0 o rfl
    obtain ⟨d, e1, e2, _, _⟩ := relB_at hB2 k o hk
    obtain ⟨hw, hs⟩ := h1 L a w hA hI.2 hL fun e he hb => ⟨hd e he hb, fun oj hj => by
      obtain ⟨dj, f1, _, _, _⟩ := relB_at hB2 e.on oj hj
      have := hI.1 e.on oj dj hj f1 (hd e he hb)
      unfold valOf
      rw [f1]
      exact this⟩
    refine ⟨hw, fun K Q hK => hs K Q fun v w' hv hT => hK v w' ⟨fun i o' d' hi hd' hL' => ?_, hv.2⟩⟩
    have hsz : d < a.tmps.size := by rw [hA.size]; exact e2
    by_cases hik : i = k
    · subst hik
      rw [hk] at hi
      injection hi with hi
      subst hi
      rw [e1] at hd'
      injection hd' with hd'
      subst hd'
      have : (a.put o.dst v).eval (.tmp d) = v := by
        rw [e1]
        show (a.tmps.setIfInBounds d v).getD d undef = v
        rw [Array.getD_eq_getD_getElem?, Array.getElem?_setIfInBounds_self_of_lt hsz]; rfl
      show R i ((a.put o.dst v).eval (.tmp d)) w'
      rw [this]
      exact hv.1
    · have hLi : L i = true := by
        unfold setL at hL'
        rwa [if_neg hik] at hL'
      have hne := relB_apart hB2 hk hi (fun e => hik e.symm) e1
      have hdd : d ≠ d' := fun e => hne (by rw [hd', e])
      have : (a.put o.dst v).eval (.tmp d') = a.eval (.tmp d') := by
        rw [e1]
        show (a.tmps.setIfInBounds d v).getD d' undef = a.tmps.getD d' undef
        rw [Array.getD_eq_getD_getElem?, Array.getD_eq_getD_getElem?, Array.getElem?_setIfInBounds_ne hdd]
      show R i ((a.put o.dst v).eval (.tmp d')) w'
      rw [this]
      exact hst i _ w w' (hI.1 i o' d' hi hd' hLi) hT
theorem wp_region_phase {id : Nat} {T : World → World → Prop} (R : Nat → Value → World → Prop) (PH : (Nat → Bool) → World → Prop) {l : List Oper} {a0 : Act} {w : World} {Q : Exit → Act → World → Prop}
    (hm : P.follows .mixedOrders = true) (hB : relC a0.tmps.size 0 l = true) (hB2 : relB a0.tmps.size 0 l = true) (hst : ∀ i v w w', R i v w → T w w' → R i v w')
    (h0 : PH (fun _ => false) { w with drawn := w.drawn + 1 }) (hS : StepsP P T R PH l a0 0 l)
    (fin : ∀ L (vs : Nat → Value) w', PH L w' → (∀ i, i < l.length → R i (vs i) w') → (∀ i, i < l.length → L i = true) → Q .normal (putsFrom l 0 vs a0) w') : (Code.region id l.toArray true).wp P Q a0 w := by
  refine wp_region_invA (InvP R PH l) hm hB ⟨fun i o d hi hd hL => (by cases hL), h0⟩ (stepsA_of hB2 hst (fun j o hj => by rw [Nat.zero_add]; exact hj) hS) fun L vs w' hI hall => ?_
  refine fin L vs w' hI.2 (fun i hi => ?_) hall
  have hi2 : l[i]? = some l[i] := List.getElem?_eq_getElem hi
  obtain ⟨d, e1, e2, _, _⟩ := relB_at hB2 i _ hi2
  have h1 : R i ((putsFrom l 0 vs a0).eval (.tmp d)) w' := hI.1 i _ d hi2 e1 (hall i hi)
  have h2 := putsFrom_at (k := 0) vs a0 hB2 (Nat.le_refl _) i _ d hi2 e1
  rw [Nat.zero_add] at h2
  have : (putsFrom l 0 vs a0).eval (.tmp d) = vs i := by
    show (putsFrom l 0 vs a0).tmps.getD d undef = vs i
    rw [Array.getD_eq_getD_getElem?, h2]; rfl
  rwa [this] at h1
theorem setL_ne {L : Nat → Bool} {i j : Nat} (h : i ≠ j) : setL L i j = L j := by
  unfold setL
  rw [if_neg (fun e => h e.symm)]
theorem setL_eq {L : Nat → Bool} {i : Nat} : setL L i i = true := by
  unfold setL
  rw [if_pos rfl]
/-- Operation i leaves V's i-th. -/
def Vals (V : List Value) (i : Nat) (v : Value) (_ : World) : Prop := v = V.getD i undef
theorem Vals.mk {V : List Value} {i : Nat} {v : Value} {w : World} (h : v = V.getD i undef) : Vals V i v w := h
/-- Operation i leaves V's i-th; operation j what S says. -/
def ValsR (V : List Value) (j : Nat) (S : Value → World → Prop) (i : Nat) (v : Value) (w : World) : Prop := if i = j then S v w else v = V.getD i undef
theorem ValsR.mk {V : List Value} {j i : Nat} {S : Value → World → Prop} {v : Value} {w : World} (hi : i ≠ j) (h : v = V.getD i undef) : ValsR V j S i v w := by
  unfold ValsR
  rwa [if_neg hi]
theorem ValsR.at {V : List Value} {j : Nat} {S : Value → World → Prop} {v : Value} {w : World} (h : S v w) : ValsR V j S j v w := by
  unfold ValsR
  rwa [if_pos rfl]
theorem ValsR.val {V : List Value} {j i : Nat} {S : Value → World → Prop} {v : Value} {w : World} (h : ValsR V j S i v w) (hi : i ≠ j) : v = V.getD i undef := by
  unfold ValsR at h
  rwa [if_neg hi] at h
theorem ValsR.row {V : List Value} {j : Nat} {S : Value → World → Prop} {v : Value} {w : World} (h : ValsR V j S j v w) : S v w := by
  unfold ValsR at h
  rwa [if_pos rfl] at h
theorem ValsR.stable {V : List Value} {j : Nat} {S : Value → World → Prop} {T : World → World → Prop} (hS : ∀ v w w', S v w → T w w' → S v w') (i : Nat) (v : Value) (w w' : World) (h : ValsR V j S i v w) (hT : T w w') : ValsR V j S i v w' := by
  unfold ValsR at h ⊢
  split
  · rw [if_pos (by assumption)] at h
    exact hS v w w' h hT
  · rw [if_neg (by assumption)] at h
    exact h
theorem depP {R : Nat → Value → World → Prop} {l : List Oper} {a : Act} {w : World} {o : Oper} {L : Nat → Bool} (hd : ∀ e ∈ o.after, Region.binds .any e = true → L e.on = true ∧ ∀ oj, l[e.on]? = some oj → R e.on (valOf a oj) w)
    (j : Nat) (d : Tmp) (hj : (l[j]?).bind (·.dst) = some d) (hm : o.after.toList.any (fun e => e.on == j && Region.binds .any e) = true) : R j (a.eval (.tmp d)) w := dep (fun e he hb => (hd e he hb).2) j d hj hm
theorem depL {R : Nat → Value → World → Prop} {l : List Oper} {a : Act} {w : World} {o : Oper} {L : Nat → Bool} (hd : ∀ e ∈ o.after, Region.binds .any e = true → L e.on = true ∧ ∀ oj, l[e.on]? = some oj → R e.on (valOf a oj) w)
    (j : Nat) (hm : o.after.toList.any (fun e => e.on == j && Region.binds .any e) = true) : L j = true := by
  rw [List.any_eq_true] at hm
  obtain ⟨e, hi, hb⟩ := hm
  rw [Bool.and_eq_true, beq_iff_eq] at hb
  have := (hd e (by simpa using hi) hb.2).1
  rwa [hb.1] at this
/-- One operation turns the world. -/
def PH1 (s : Nat) (A B : World → Prop) (L : Nat → Bool) (u : World) : Prop := (L s = false → A u) ∧ (L s = true → B u)
theorem PH1.start {s : Nat} {A B : World → Prop} {u : World} (h : A u) : PH1 s A B (fun _ => false) u := ⟨fun _ => h, fun h => (by cases h)⟩
theorem PH1.keep {s i : Nat} {A B : World → Prop} {L : Nat → Bool} {u u' : World} (h : PH1 s A B L u) (hi : i ≠ s) (hA : A u → A u') (hB : B u → B u') : PH1 s A B (setL L i) u' := by
  unfold PH1
  rw [setL_ne hi]
  exact ⟨fun k => hA (h.1 k), fun k => hB (h.2 k)⟩
theorem PH1.turn {s : Nat} {A B : World → Prop} {L : Nat → Bool} {u : World} (h : B u) : PH1 s A B (setL L s) u := by
  unfold PH1
  rw [setL_eq]
  exact ⟨fun k => (by cases k), fun _ => h⟩
theorem PH1.any {s : Nat} {A B C : World → Prop} {L : Nat → Bool} {u : World} (h : PH1 s A B L u) (hA : A u → C u) (hB : B u → C u) : C u := by
  cases hL : L s with
  | false => exact hA (h.1 hL)
  | true => exact hB (h.2 hL)
/-- Two do, one behind the other. -/
def PH2 (s t : Nat) (A B C : World → Prop) (L : Nat → Bool) (u : World) : Prop := (L s = false → L t = false ∧ A u) ∧ (L s = true → L t = false → B u) ∧ (L s = true → L t = true → C u)
theorem PH2.start {s t : Nat} {A B C : World → Prop} {u : World} (h : A u) : PH2 s t A B C (fun _ => false) u := ⟨fun _ => ⟨rfl, h⟩, fun h => (by cases h), fun h => (by cases h)⟩
theorem PH2.keep {s t i : Nat} {A B C : World → Prop} {L : Nat → Bool} {u u' : World} (h : PH2 s t A B C L u) (hi : i ≠ s) (hj : i ≠ t) (hA : A u → A u') (hB : B u → B u') (hC : C u → C u') : PH2 s t A B C (setL L i) u' := by
  unfold PH2
  rw [setL_ne hi, setL_ne hj]
  exact ⟨fun k => ⟨(h.1 k).1, hA (h.1 k).2⟩, fun k k2 => hB (h.2.1 k k2), fun k k2 => hC (h.2.2 k k2)⟩
theorem PH2.first {s t : Nat} {A B C : World → Prop} {L : Nat → Bool} {u u' : World} (h : PH2 s t A B C L u) (hst : s ≠ t) (hL : L s = false) (hB : B u') : PH2 s t A B C (setL L s) u' := by
  unfold PH2
  rw [setL_eq, setL_ne hst]
  exact ⟨fun k => (by cases k), fun _ _ => hB, fun _ k => (by rw [(h.1 hL).1] at k; cases k)⟩
theorem PH2.second {s t : Nat} {A B C : World → Prop} {L : Nat → Bool} {u u' : World} (h : PH2 s t A B C L u) (hst : t ≠ s) (hL : L s = true) (hC : C u') : PH2 s t A B C (setL L t) u' := by
  unfold PH2
  rw [setL_eq, setL_ne hst]
  exact ⟨fun k => (by rw [hL] at k; cases k), fun _ k => (by cases k), fun _ _ => hC⟩
theorem PH2.any {s t : Nat} {A B C D : World → Prop} {L : Nat → Bool} {u : World} (h : PH2 s t A B C L u) (hA : A u → D u) (hB : B u → D u) (hC : C u → D u) : D u := by
  cases hL : L s with
  | false => exact hA (h.1 hL).2
  | true =>
    cases hM : L t with
    | false => exact hB (h.2.1 hL hM)
    | true => exact hC (h.2.2 hL hM)
end
end Go.Proofs.Ythlodfahajaneaa
