/- A region that draws its order, one operation of which turns what earlier ones made: behind it they are asked no more. -/
import Derived.Test.YtejhodjbgablaaaInv
import Derived.Test.YtejhodjbgablaaaSteps
set_option linter.unusedSimpArgs false
set_option linter.unusedVariables false
namespace Go.Proofs.Ytejhodjbgablaaa
open Go Go.RowKit
section
variable {P : Program}
/-- Each operation behind s waits for one that is s or behind it. -/
def lateB (s : Nat) (l : List Oper) : Bool :=
  (List.range l.length).all fun k => !decide (s < k) || (match l[k]? with
    | some o => o.after.any fun e => Region.binds .any e && decide (s ≤ e.on) && decide (e.on < k)
    | none => false)
theorem lateB_at {s : Nat} {l : List Oper} (h : lateB s l = true) {k : Nat} {o : Oper} (hk : l[k]? = some o) (hs : s < k) :
    ∃ e ∈ o.after, Region.binds .any e = true ∧ s ≤ e.on ∧ e.on < k := by
  unfold lateB at h
  rw [List.all_eq_true] at h
  have h1 := h k (List.mem_range.2 (List.getElem?_eq_some_iff.1 hk).1)
  rw [decide_eq_true hs, hk] at h1
  simp only [Bool.not_true, Bool.false_or] at h1
  obtain ⟨e, he, h4⟩ := Array.any_eq_true'.1 h1
  simp only [Bool.and_eq_true, decide_eq_true_eq] at h4
  exact ⟨e, he, h4.1.1, h4.1.2, h4.2⟩
theorem wp_region_last {id : Nat} (s : Nat) {R : Nat → Value → World → Prop} {l : List Oper} {a0 : Act} {w : World} {Q : Exit → Act → World → Prop}
    (hm : P.follows .mixedOrders = true) (hB : relC a0.tmps.size 0 l = true) (hD : l.all (fun o => o.dst.isSome && o.guard.isNone) = true)
    (hEB : earlyB (fun i => decide (i < s)) s l = true) (hLB : lateB s l = true) (hst : ∀ i v w w', R i v w → On w w' → R i v w')
    (hS : ∀ (i : Nat) (o : Oper), l[i]? = some o → i < s → StepAt P On R l a0 w i o)
    (hS2 : ∀ (i : Nat) (o : Oper), l[i]? = some o → s < i → ∀ a u, On w u → Agree l a0 a → (∀ e ∈ o.after, Region.binds .any e = true → s ≤ e.on → ∀ oj, l[e.on]? = some oj → R e.on (valOf a oj) u) → StepOK P On o a u (R i))
    (hs : ∀ (o : Oper), l[s]? = some o → ∀ a u, On w u → Agree l a0 a → (∀ e ∈ o.after, Region.binds .any e = true → ∀ oj, l[e.on]? = some oj → R e.on (valOf a oj) u) → StepOK P (fun _ w' => On w w') o a u (R s))
    (hsl : s < l.length)
    (fin : ∀ (vs : Nat → Value) w', On w w' → (∀ i, i < l.length → s ≤ i → R i (vs i) w') → Q .normal (putsFrom l 0 vs a0) w') : (Code.region id l.toArray true).wp P Q a0 w := by
  have hdst : ∀ (i : Nat) (o : Oper), l[i]? = some o → ∃ d, o.dst = some d := fun i o hi => by
    have := List.all_eq_true.1 hD o (List.mem_of_getElem? hi)
    rw [Bool.and_eq_true, Option.isSome_iff_exists] at this
    exact this.1
  have hgd : ∀ (i : Nat) (o : Oper), l[i]? = some o → o.guard = none := fun i o hi => by
    have := List.all_eq_true.1 hD o (List.mem_of_getElem? hi)
    rw [Bool.and_eq_true, Option.isNone_iff_eq_none] at this
    exact this.2
  have hwant : ∀ (i : Nat) (o : Oper) (a : Act), l[i]? = some o → Region.wanted o (yielded l.toArray a.tmps) = true := fun i o a hi => by
    unfold Region.wanted
    rw [hgd i o hi]
  -- the slots behind an operation
  have hput : ∀ (a : Act) (i : Nat) (o : Oper) (v : Value), Agree l a0 a → l[i]? = some o → (Agree l a0 (a.put o.dst v) ∧ valOf (a.put o.dst v) o = v ∧ ∀ (j : Nat) (o' : Oper), l[j]? = some o' → j ≠ i → valOf (a.put o.dst v) o' = valOf a o') := by
    intro a i o v hA hi
    obtain ⟨d, hd⟩ := hdst i o hi
    refine ⟨hA.put (List.mem_of_getElem? hi) v, ?_, fun j o' hj hne => ?_⟩
    · have hlt2 : d < a.tmps.size := by rw [hA.size]; exact ((relC_at hB i o hi).2 d hd).1
      simp [valOf, hd, Act.put, Act.eval, hlt2]
    · obtain ⟨d', hd'⟩ := hdst j o' hj
      have hn : o'.dst ≠ some d := relC_apart hB hi hj (fun e => hne e.symm) hd
      unfold valOf
      rw [hd', hd]
      exact Act.eval_put fun x hx he => by
        injection hx with hx
        injection he with he
        subst hx he
        exact hn hd'
  have closed : ∀ (L : Nat → Bool), (∀ (j : Nat) (o : Oper), l[j]? = some o → L j = true → ∀ e ∈ o.after, Region.binds .any e = true → L e.on = true) →
      (L s = true → ∀ n k, l.length - k ≤ n → k < l.length → k < s → L k = true) ∧ (∀ n k, k ≤ n → s < k → k < l.length → L k = true → L s = true) := by
    intro L hcl
    refine ⟨fun hLs n => ?_, fun n => ?_⟩
    · induction n with
      | zero => intro k h1 h2 _; omega
      | succ n ih =>
        intro k h1 h2 h3
        obtain ⟨j, oj, hj1, hj2, hj3, e, he1, he2, he3⟩ := earlyB_at hEB h2 (decide_eq_true h3)
        have hjl := (List.getElem?_eq_some_iff.1 hj3).1
        have hjt : L j = true := by
          rcases hj2 with hj2 | hj2
          · exact ih j (by omega) hjl (of_decide_eq_true hj2)
          · rw [hj2]; exact hLs
        rw [← he3]
        exact hcl j oj hj3 hjt e he1 he2
    · induction n with
      | zero => intro k h1 h2 _ _; omega
      | succ n ih =>
        intro k h1 h2 h3 h4
        have hk : l[k]? = some l[k] := List.getElem?_eq_getElem h3
        obtain ⟨e, he, hb, h5, h6⟩ := lateB_at hLB hk h2
        have := hcl k _ hk h4 e he hb
        rcases Nat.eq_or_lt_of_le h5 with h7 | h7
        · rw [h7]; exact this
        · exact ih e.on (by omega) h7 (by omega) this
  refine wp_region_inv (fun L a u => Agree l a0 a ∧ On w u ∧ (∀ j, L j = true → j < l.length) ∧ (∀ (j : Nat) (o : Oper), l[j]? = some o → L j = true → ∀ e ∈ o.after, Region.binds .any e = true → L e.on = true) ∧
      ∀ (i : Nat) (o : Oper), l[i]? = some o → L i = true → (L s = true → s ≤ i) → R i (valOf a o) u) hm hB ⟨Agree.refl _ _, On.drawn _, (fun j h => by cases h), (fun j o _ h => by cases h), (fun i o _ h => by cases h)⟩ ?_ ?_
  · have steps : ∀ (r : List Oper) (k : Nat), (∀ i, l[k + i]? = r[i]?) → StepsI P (fun L a u => Agree l a0 a ∧ On w u ∧ (∀ j, L j = true → j < l.length) ∧ (∀ (j : Nat) (o : Oper), l[j]? = some o → L j = true → ∀ e ∈ o.after, Region.binds .any e = true → L e.on = true) ∧
        ∀ (i : Nat) (o : Oper), l[i]? = some o → L i = true → (L s = true → s ≤ i) → R i (valOf a o) u) l k r := by
      intro r
      induction r with
      | nil => intro k _; trivial
      | cons o r ih =>
        intro k hk
        refine ⟨?_, ih (k + 1) fun i => by rw [show k + 1 + i = k + (i + 1) by omega, hk (i + 1), List.getElem?_cons_succ]⟩
        have ho : l[k]? = some o := by have := hk 0; rwa [Nat.add_zero, List.getElem?_cons_zero] at this
        have hkl := (List.getElem?_eq_some_iff.1 ho).1
        rintro L a u ⟨hA, hO, hlt, hcl, hR⟩ hL hdeps
        refine ⟨hwant k o a ho, fun K Q hK => ?_⟩
        obtain ⟨c1, c2⟩ := closed L hcl
        have hdep : ∀ e ∈ o.after, Region.binds .any e = true → (k ≤ s ∨ s ≤ e.on) → ∀ oj, l[e.on]? = some oj → R e.on (valOf a oj) u := fun e he hb hes oj hoj => hR e.on oj hoj (hdeps e he hb) fun hLs => by
          rcases Nat.lt_trichotomy k s with h | h | h
          · exact absurd (c1 hLs l.length k (by omega) hkl h) (by rw [hL]; decide)
          · rw [h, hLs] at hL; cases hL
          · rcases hes with hes | hes
            · omega
            · exact hes
        have next : ∀ v u', On w u' → R k v u' → (k ≠ s → On u u') → K (a.put o.dst v) u' := by
          intro v u' hO' hv hst'
          obtain ⟨p1, p2, p3⟩ := hput a k o v hA ho
          refine hK v u' ⟨p1, hO', fun j hj => ?_, fun j o' hj hlj e he hb => ?_, fun j o' hj hlj hsj => ?_⟩
          · unfold setL at hj
            split at hj
            · omega
            · exact hlt j hj
          · unfold setL at hlj ⊢
            split
            · rfl
            · split at hlj
              · rename_i h1 h2
                subst h2
                rw [ho] at hj
                cases hj
                exact hdeps e he hb
              · exact hcl j o' hj hlj e he hb
          · by_cases hjk : j = k
            · subst hjk
              rw [ho] at hj
              cases hj
              rw [p2]
              exact hv
            · rw [p3 j o' hj hjk]
              have hLj : L j = true := by
                unfold setL at hlj
                rwa [if_neg hjk] at hlj
              by_cases hks : k = s
              · exfalso
                have h1 : s ≤ j := hsj (by unfold setL; rw [if_pos hks.symm])
                have := c2 l.length j (by have := hlt j hLj; omega) (by omega) (hlt j hLj) hLj
                rw [← hks, hL] at this
                cases this
              · refine hst j _ u u' (hR j o' hj hLj fun hLs => hsj ?_) (hst' hks)
                unfold setL
                rw [if_neg (fun e => hks e.symm)]
                exact hLs
        by_cases hks : k = s
        · subst hks
          exact hs o ho a u hO hA (fun e he hb => hdep e he hb (.inl (Nat.le_refl _))) K Q fun v u' hv hT => next v u' hT hv fun h => absurd rfl h
        · rcases Nat.lt_or_gt_of_ne hks with hlt' | hgt
          · rcases hS k o ho hlt' a u hO hA (fun e he hb => hdep e he hb (.inl (Nat.le_of_lt hlt'))) with ⟨_, hok⟩ | ⟨hw, _⟩
            · exact hok K Q fun v u' hv hT => next v u' (hO.trans hT) hv fun _ => hT
            · rw [hwant k o a ho] at hw; cases hw
          · exact hS2 k o ho hgt a u hO hA (fun e he hb hes => hdep e he hb (.inr hes)) K Q fun v u' hv hT => next v u' (hO.trans hT) hv fun _ => hT
    exact steps l 0 fun i => by rw [Nat.zero_add]
  · rintro L a u ⟨hA, hO, _, _, hR⟩ hall
    obtain ⟨vs, e⟩ := hA.eq hB
    have hvs : ∀ i, i < l.length → s ≤ i → R i (vs i) u := fun i hi hsi => by
      have hi2 : l[i]? = some l[i] := List.getElem?_eq_getElem hi
      have h := hR i _ hi2 (hall i hi) fun _ => hsi
      obtain ⟨d, hd⟩ := hdst i _ hi2
      have h2 := putsFrom_atC (k := 0) vs a0 hB (Nat.le_refl _) i _ d hi2 hd
      rw [Nat.zero_add] at h2
      have : valOf a l[i] = vs i := by
        unfold valOf
        rw [hd, e]
        show (putsFrom l 0 vs a0).tmps.getD d undef = vs i
        rw [Array.getD_eq_getD_getElem?, h2]
        rfl
      rwa [this] at h
    rw [e]
    exact fin vs u hO hvs
end
end Go.Proofs.Ytejhodjbgablaaa
