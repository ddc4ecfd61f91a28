/- A region that draws its order, two of whose operations leave what hangs on the world, all others what is known: by a phase that speaks of those two. No program stands here. -/
import Derived.Test.YthlodfahajaneaaInv
import Derived.Test.YthlodfahajaneaaSteps
set_option linter.unusedSimpArgs false
set_option linter.unusedVariables false
namespace Go.Proofs.Ythlodfahajaneaa
open Go
section
variable {P : Program}
/-- Values by their places. -/
def lv (l : List Value) (k : Nat) : Value := l.getD k undef
/-- What is owed of operation i. -/
def StepS (P : Program) (V : Nat → Value) (l : List Oper) (a0 : Act) (s1 s2 : Nat) (d1 d2 : Tmp) (Ψ : (Nat → Bool) → Value → Value → World → Prop) (i : Nat) (o : Oper) : Prop :=
  ∀ L a w, Agree l a0 a → Ψ L (a.eval (.tmp d1)) (a.eval (.tmp d2)) w → L i = false →
    (∀ e ∈ o.after, Region.binds .any e = true → L e.on = true ∧ ∀ oj d, l[e.on]? = some oj → oj.dst = some d → e.on ≠ s1 → e.on ≠ s2 → a.eval (.tmp d) = V e.on) →
    Region.wanted o (yielded l.toArray a.tmps) = true ∧ StepOK P (fun _ _ => True) o a w (fun v w' => (i ≠ s1 → i ≠ s2 → v = V i) ∧ Ψ (setL L i) (if i = s1 then v else a.eval (.tmp d1)) (if i = s2 then v else a.eval (.tmp d2)) w')
def StepsS (P : Program) (V : Nat → Value) (l : List Oper) (a0 : Act) (s1 s2 : Nat) (d1 d2 : Tmp) (Ψ : (Nat → Bool) → Value → Value → World → Prop) : Nat → List Oper → Prop
  | _, [] => True
  | k, o :: r => StepS P V l a0 s1 s2 d1 d2 Ψ k o ∧ StepsS P V l a0 s1 s2 d1 d2 Ψ (k + 1) r
def InvS (V : Nat → Value) (l : List Oper) (s1 s2 : Nat) (d1 d2 : Tmp) (Ψ : (Nat → Bool) → Value → Value → World → Prop) (L : Nat → Bool) (vs : Nat → Value) (w : World) : Prop :=
  (∀ i o d, l[i]? = some o → o.dst = some d → L i = true → i ≠ s1 → i ≠ s2 → vs d = V i) ∧ Ψ L (vs d1) (vs d2) w
theorem put_eval_ne {a : Act} {dst : Option Tmp} {v : Value} {d : Tmp} (h : dst ≠ some d) : (a.put dst v).eval (.tmp d) = a.eval (.tmp d) := by
  cases dst with
  | none => rfl
  | some d' =>
    have hne : d' ≠ d := fun e => h (by rw [e])
    show (a.tmps.setIfInBounds d' v).getD d undef = a.tmps.getD d undef
    rw [Array.getD_eq_getD_getElem?, Array.getD_eq_getD_getElem?, Array.getElem?_setIfInBounds_ne hne]
theorem put_eval_eq {a : Act} {v : Value} {d : Tmp} (h : d < a.tmps.size) : (a.put (some d) v).eval (.tmp d) = v := by
  show (a.tmps.setIfInBounds d v).getD d undef = v
  rw [Array.getD_eq_getD_getElem?, Array.getElem?_setIfInBounds_self_of_lt h]; rfl
theorem stepsS_of {V : Nat → Value} {l : List Oper} {a0 : Act} {s1 s2 : Nat} {d1 d2 : Tmp} {Ψ : (Nat → Bool) → Value → Value → World → Prop} (hB : relC a0.tmps.size 0 l = true) (h1 : (l[s1]?).bind (·.dst) = some d1) (h2 : (l[s2]?).bind (·.dst) = some d2) :
    ∀ {r : List Oper} {k : Nat}, (∀ j o, r[j]? = some o → l[k + j]? = some o) → StepsS P V l a0 s1 s2 d1 d2 Ψ k r → StepsA P (InvS V l s1 s2 d1 d2 Ψ) l a0 k r
  | [], _, _, _ => trivial
  | o :: r, k, hm, ⟨hs, hr⟩ => by
    refine ⟨?_, stepsS_of hB h1 h2 (fun j o' hj => by
      have := hm (j + 1) o' (by simpa using hj)
      rwa [show k + (j + 1) = k + 1 + j by omega] at this) hr⟩
    intro L a w hA hI hL hd
    have hk : l[k]? = some o := hm 0 o rfl
    obtain ⟨hw, hgo⟩ := hs L a w hA hI.2 hL fun e he hb => ⟨hd e he hb, fun oj d hj hdj n1 n2 => hI.1 e.on oj d hj hdj (hd e he hb) n1 n2⟩
    have slot : ∀ (s : Nat) (d : Tmp), (l[s]?).bind (·.dst) = some d → ∀ v, (a.put o.dst v).eval (.tmp d) = if k = s then v else a.eval (.tmp d) := by
      intro s d hsd v
      cases hls : l[s]? with
      | none => rw [hls] at hsd; cases hsd
      | some os =>
        rw [hls] at hsd
        have hsd : os.dst = some d := hsd
        have hlt := ((relC_at hB s os hls).2 d hsd).1
        by_cases hks : k = s
        · subst hks
          rw [hk] at hls
          injection hls with hls
          subst hls
          rw [if_pos rfl, hsd]
          exact put_eval_eq (by rw [hA.size]; exact hlt)
        · rw [if_neg hks]
          exact put_eval_ne (relC_apart hB hls hk (fun e => hks e.symm) hsd)
    refine ⟨hw, fun K Q hK => hgo K Q fun v w' hv _ => hK v w' ⟨fun i o' d' hi hd' hL' n1 n2 => ?_, ?_⟩⟩
    · by_cases hik : i = k
      · subst hik
        rw [hk] at hi
        injection hi with hi
        subst hi
        have hlt := ((relC_at hB i o hk).2 d' hd').1
        show (a.put o.dst v).eval (.tmp d') = V i
        rw [hd', put_eval_eq (by rw [hA.size]; exact hlt)]
        exact hv.1 n1 n2
      · have hLi : L i = true := by
          unfold setL at hL'
          rwa [if_neg hik] at hL'
        show (a.put o.dst v).eval (.tmp d') = V i
        rw [put_eval_ne (relC_apart hB hi hk hik hd')]
        exact hI.1 i o' d' hi hd' hLi n1 n2
    · show Ψ (setL L k) ((a.put o.dst v).eval (.tmp d1)) ((a.put o.dst v).eval (.tmp d2)) w'
      rw [slot s1 d1 h1, slot s2 d2 h2]
      exact hv.2
theorem wp_region_slots {id : Nat} (V : Nat → Value) (s1 s2 : Nat) (d1 d2 : Tmp) (Ψ : (Nat → Bool) → Value → Value → World → Prop) {l : List Oper} {a0 : Act} {w : World} {Q : Exit → Act → World → Prop}
    (hm : P.follows .mixedOrders = true) (hB : relC a0.tmps.size 0 l = true) (h1 : (l[s1]?).bind (·.dst) = some d1) (h2 : (l[s2]?).bind (·.dst) = some d2)
    (h0 : Ψ (fun _ => false) (a0.eval (.tmp d1)) (a0.eval (.tmp d2)) { w with drawn := w.drawn + 1 }) (hS : StepsS P V l a0 s1 s2 d1 d2 Ψ 0 l)
    (fin : ∀ L (vs : Nat → Value) w', Ψ L (vs s1) (vs s2) w' → (∀ i, ((l[i]?).bind (·.dst)).isSome = true → i ≠ s1 → i ≠ s2 → vs i = V i) → (∀ i, i < l.length → L i = true) → Q .normal (putsFrom l 0 vs a0) w') : (Code.region id l.toArray true).wp P Q a0 w := by
  refine wp_region_invA (InvS V l s1 s2 d1 d2 Ψ) hm hB ⟨fun i o d hi hd hL => (by cases hL), h0⟩ (stepsS_of hB h1 h2 (fun j o hj => by rw [Nat.zero_add]; exact hj) hS) fun L vs w' hI hall => ?_
  have slot : ∀ i o d, l[i]? = some o → o.dst = some d → (putsFrom l 0 vs a0).eval (.tmp d) = vs i := by
    intro i o d hi hd
    have h2 := putsFrom_atC (k := 0) vs a0 hB (Nat.le_refl _) i o d hi hd
    rw [Nat.zero_add] at h2
    show (putsFrom l 0 vs a0).tmps.getD d undef = vs i
    rw [Array.getD_eq_getD_getElem?, h2]; rfl
  have sl2 : ∀ s d, (l[s]?).bind (·.dst) = some d → (putsFrom l 0 vs a0).eval (.tmp d) = vs s := by
    intro s d hsd
    cases hls : l[s]? with
    | none => rw [hls] at hsd; cases hsd
    | some os =>
      rw [hls] at hsd
      exact slot s os d hls hsd
  refine fin L vs w' ?_ (fun i hi n1 n2 => ?_) hall
  · have : Ψ L ((putsFrom l 0 vs a0).eval (.tmp d1)) ((putsFrom l 0 vs a0).eval (.tmp d2)) w' := hI.2
    rw [sl2 s1 d1 h1, sl2 s2 d2 h2] at this
    exact this
  · cases hli : l[i]? with
    | none => rw [hli] at hi; cases hi
    | some o =>
      rw [hli] at hi
      obtain ⟨d, hd⟩ := Option.isSome_iff_exists.1 hi
      have hd : o.dst = some d := hd
      have hlt : i < l.length := (List.getElem?_eq_some_iff.1 hli).1
      rw [← slot i o d hli hd]
      exact hI.1 i o d hli hd (hall i hlt) n1 n2
theorem depS {V : Nat → Value} {l : List Oper} {a : Act} {o : Oper} {L : Nat → Bool} {s1 s2 : Nat} (hd : ∀ e ∈ o.after, Region.binds .any e = true → L e.on = true ∧ ∀ oj d, l[e.on]? = some oj → oj.dst = some d → e.on ≠ s1 → e.on ≠ s2 → a.eval (.tmp d) = V e.on)
    (j : Nat) (d : Tmp) (hj : (l[j]?).bind (·.dst) = some d) (hm : o.after.toList.any (fun e => e.on == j && Region.binds .any e) = true) (n1 : j ≠ s1) (n2 : j ≠ s2) : a.eval (.tmp d) = V j := by
  rw [List.any_eq_true] at hm
  obtain ⟨e, hi, hb⟩ := hm
  rw [Bool.and_eq_true, beq_iff_eq] at hb
  obtain ⟨hb1, hb2⟩ := hb
  subst hb1
  cases hl : l[e.on]? with
  | none => rw [hl] at hj; cases hj
  | some oj =>
    rw [hl] at hj
    exact (hd e (by simpa using hi) hb2).2 oj d hl hj n1 n2
theorem depSL {V : Nat → Value} {l : List Oper} {a : Act} {o : Oper} {L : Nat → Bool} {s1 s2 : Nat} (hd : ∀ e ∈ o.after, Region.binds .any e = true → L e.on = true ∧ ∀ oj d, l[e.on]? = some oj → oj.dst = some d → e.on ≠ s1 → e.on ≠ s2 → a.eval (.tmp d) = V e.on)
    (j : Nat) (hm : o.after.toList.any (fun e => e.on == j && Region.binds .any e) = true) : L j = true := by
  rw [List.any_eq_true] at hm
  obtain ⟨e, hi, hb⟩ := hm
  rw [Bool.and_eq_true, beq_iff_eq] at hb
  have := (hd e (by simpa using hi) hb.2).1
  rwa [hb.1] at this
theorem setLne {L : Nat → Bool} {i j : Nat} (h : i ≠ j) : setL L i j = L j := by
  unfold setL
  rw [if_neg (fun e => h e.symm)]
theorem setLeq {L : Nat → Bool} {i : Nat} : setL L i i = true := by
  unfold setL
  rw [if_pos rfl]
end
end Go.Proofs.Ythlodfahajaneaa
