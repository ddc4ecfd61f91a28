/- A region that draws its order and ends in operations whose order is forced, one of which assigns what earlier ones read. -/
import Derived.Test.YtphjppnkackmmaaGx
set_option linter.unusedSimpArgs false
set_option linter.unusedVariables false
namespace Go.Proofs.Ytphjppnkackmmaa
open Go Go.RowKit
section
variable {P : Program}
/-- What is owed of operation k of l, those of l2 alone having come up. -/
def StepAtT (P : Program) (T : World → World → Prop) (R : Nat → Value → World → Prop) (l l2 : List Oper) (a0 : Act) (w0 : World) (k : Nat) (o : Oper) : Prop :=
  ∀ a w, T w0 w → Agree l2 a0 a → (∀ e ∈ o.after, Region.binds .any e = true → ∀ oj, l[e.on]? = some oj → R e.on (valOf a oj) w) →
    (Region.wanted o (yielded l.toArray a.tmps) = true ∧ StepOK P T o a w (R k)) ∨ (Region.wanted o (yielded l.toArray a.tmps) = false ∧ R k undef w)
theorem wp_region_tailT {id : Nat} (n : Nat) {R : Nat → Value → World → Prop} {l : List Oper} {a0 : Act} {w : World} {Q : Exit → Act → World → Prop}
    (hm : P.follows .mixedOrders = true) (hB : relC a0.tmps.size 0 l = true) (hD : (l.take n).all (fun o => o.dst.isSome && o.guard.isNone) = true)
    (hsk : Region.sinkB .any l.toArray n = true) (hch : Region.chainB .any l.toArray n = true) (hn : n < l.length) (hq : Region.seqB .any l.toArray (l.length - n) n (headL n l.length) = true)
    (hst : ∀ i v w w', R i v w → On w w' → R i v w') (hS : ∀ (i : Nat) (o : Oper), l[i]? = some o → i < n → StepAtT P On R l (l.take n) a0 w i o)
    (h : ∀ (vs : Nat → Value) u, On w u → (∀ i, i < n → R i (vs i) u) → wpList P l.toArray Q (l.drop n) (putsFrom (l.take n) 0 vs a0) u) : (Code.region id l.toArray true).wp P Q a0 w := by
  have hmem : ∀ (i : Nat) (o : Oper), l[i]? = some o → i < n → o ∈ l.take n := fun i o hi hin => List.mem_of_getElem? (i := i) (by rw [List.getElem?_take_of_lt hin]; exact hi)
  have hdst : ∀ (i : Nat) (o : Oper), l[i]? = some o → i < n → ∃ d, o.dst = some d := fun i o hi hin => by
    have := List.all_eq_true.1 hD o (hmem i o hi hin)
    rw [Bool.and_eq_true, Option.isSome_iff_exists] at this
    exact this.1
  have hwant : ∀ (i : Nat) (o : Oper) (a : Act), l[i]? = some o → i < n → Region.wanted o (yielded l.toArray a.tmps) = true := fun i o a hi hin => by
    have := List.all_eq_true.1 hD o (hmem i o hi hin)
    rw [Bool.and_eq_true, Option.isNone_iff_eq_none] at this
    unfold Region.wanted
    rw [this.2]
  have hsub : ∀ {a : Act}, Agree (l.take n) a0 a → Agree l a0 a := fun hA => ⟨hA.size, hA.defers, fun t ht => hA.out t (by
    unfold outside at ht ⊢
    exact List.all_eq_true.2 fun x hx => List.all_eq_true.1 ht x (List.mem_of_mem_take hx))⟩
  have main : ∀ (fuel : Nat) (listed : Array Bool) (a : Act) (u : World), listed.toList.count false = fuel → HeadInv .any l.toArray n listed → Agree (l.take n) a0 a → On w u →
      (∀ (i : Nat) (o : Oper), l[i]? = some o → i < n → listed.getD i false = true → R i (valOf a o) u) → wpAny P .any l.toArray Q fuel listed a u := by
    intro fuel
    induction fuel with
    | zero =>
      intro listed a u hcnt inv hA hO hR
      exfalso
      have hsz : listed.size = l.length := by have := inv.size; simpa using this
      have h2 := inv.tail n (Nat.le_refl _) (by rw [List.size_toArray]; exact hn)
      rw [List.count_eq_zero] at hcnt
      have hlt : n < listed.size := by omega
      simp only [Array.getD, hlt, dif_pos] at h2
      exact hcnt (by rw [← h2]; simp)
    | succ fuel ih =>
      intro listed a u hcnt inv hA hO hR
      have hsz : listed.size = l.length := by have := inv.size; simpa using this
      by_cases hall : ∀ i, i < n → listed.getD i false = true
      · have he := head_eq (m := l.length) (Nat.le_of_lt hn) hsz hall (fun i h1 h2 => inv.tail i h1 (by rw [List.size_toArray]; exact h2))
        have hc := head_count n l.length
        rw [← he, hcnt] at hc
        obtain ⟨vs, e⟩ := hA.eq (relC_take (m := n) hB)
        have hvs : ∀ i, i < n → R i (vs i) u := fun i hi => by
          have hi2 : l[i]? = some l[i] := List.getElem?_eq_getElem (by omega)
          have h1 := hR i _ hi2 hi (hall i hi)
          obtain ⟨d, hd⟩ := hdst i _ hi2 hi
          have h2 := putsFrom_atC (k := 0) vs a0 (relC_take (m := n) hB) (Nat.le_refl _) i _ d (by rw [List.getElem?_take_of_lt hi]; exact hi2) hd
          rw [Nat.zero_add] at h2
          have : valOf a l[i] = vs i := by
            unfold valOf
            rw [hd, e]
            show (putsFrom (l.take n) 0 vs a0).tmps.getD d undef = vs i
            rw [Array.getD_eq_getD_getElem?, h2]
            rfl
          rwa [this] at h1
        have h3 := h vs u hO hvs
        rw [← e] at h3
        have := wpAny_of_seq (P := P) (md := .any) (ops := l.toArray) (Q' := Q) (l.drop n) n listed a u (fun j => by simp [List.getElem?_drop]) (by rw [List.length_drop, he]; exact hq) h3
        rwa [List.length_drop, ← hc] at this
      · obtain ⟨i0, hi0⟩ := Classical.not_forall.1 hall
        obtain ⟨hi0n, hi0f⟩ := Classical.not_imp.1 hi0
        have hi0f' : listed.getD i0 true = false := by
          have hlt : i0 < listed.size := by omega
          simp only [Array.getD, hlt, dif_pos] at hi0f ⊢
          simpa using hi0f
        have tw := tail_waits hsk hch (by rw [List.size_toArray]; exact hn) inv _ i0 rfl hi0n hi0f'
        refine ⟨fun hr => ?_, fun i hi => ?_⟩
        · exfalso
          have all : ∀ i, i < n → listed.getD i false = true := by
            intro i
            induction i using Nat.strongRecOn with
            | _ i ih2 =>
              intro hin
              cases hcx : listed.getD i false with
              | true => rfl
              | false =>
                exfalso
                have hi2 : l[i]? = some l[i] := List.getElem?_eq_getElem (by omega)
                have e3 := (relC_at hB i _ hi2).1
                have hmm : i ∈ Region.ready .any l.toArray listed := by
                  refine mem_ready.2 ⟨?_, l[i], by simp, fun e he hb => ih2 e.on ?_ ?_⟩
                  · have hlt : i < listed.size := by omega
                    simp [Array.getD, hlt] at hcx ⊢
                    exact hcx
                  · have := e3 e he hb; omega
                  · have := e3 e he hb; omega
                rw [hr] at hmm
                cases hmm
          exact hall all
        · have hin : i < n := by
            rcases Nat.lt_or_ge i n with h1 | h1
            · exact h1
            · exact absurd hi (tw i h1)
          obtain ⟨hun, o, ho, hdep⟩ := mem_ready.1 hi
          have ho' : l[i]? = some o := by simpa using ho
          have hlt : i < listed.size := by omega
          have hun2 : listed[i] = false := by simpa [Array.getD, hlt] using hun
          obtain ⟨d, hd⟩ := hdst i o ho' hin
          have next : ∀ v u', R i v u' → On u u' → wpAny P .any l.toArray Q fuel (listed.setIfInBounds i true) (a.put o.dst v) u' := by
            intro v u' hv hT
            refine ih _ _ u' ?_ (inv.set hi hin) (hA.put (hmem i o ho' hin) v) (hO.trans hT) fun j o' hj hjn hlj => ?_
            · have hpos : 0 < listed.toList.count false := by omega
              rw [Array.toList_setIfInBounds, List.count_set (by simpa using hlt)]
              have e1 : (listed.toList[i]'(by simpa using hlt) == false) = true := by simp [hun2]
              rw [if_pos e1, if_neg (by decide)]
              omega
            · by_cases hji : j = i
              · subst hji
                rw [ho'] at hj
                cases hj
                have hlt2 : d < a.tmps.size := by rw [hA.size]; exact ((relC_at hB j o ho').2 d hd).1
                have : valOf (a.put o.dst v) o = v := by simp [valOf, hd, Act.put, Act.eval, hlt2]
                rw [this]; exact hv
              · obtain ⟨d', hd'⟩ := hdst j o' hj hjn
                have hne : o'.dst ≠ some d := relC_apart hB ho' hj (fun e => hji e.symm) hd
                have : valOf (a.put o.dst v) o' = valOf a o' := by
                  unfold valOf
                  rw [hd', hd]
                  exact Act.eval_put fun x hx he => by
                    injection hx with hx
                    injection he with he
                    subst hx he
                    exact hne hd'
                rw [this]
                refine hst j _ u u' (hR j o' hj hjn ?_) hT
                rwa [getD_set_ne false (fun e => hji e.symm)] at hlj
          unfold wpOp
          rw [ho]
          simp only [hwant i o a ho' hin, if_true]
          rcases hS i o ho' hin a u hO hA (fun e he hb oj hoj => hR e.on oj hoj (by have := (relC_at hB i o ho').1 e he hb; omega) (hdep e he hb)) with ⟨_, hok⟩ | ⟨hw, _⟩
          · exact .inl (hok _ _ next)
          · rw [hwant i o a ho' hin] at hw; cases hw
  refine wp_region_any hm ?_
  refine main _ _ a0 _ (by simp [List.count_replicate]) ⟨by simp, fun j oj _ hl => (by rw [getD_replicate_false] at hl; cases hl), fun t _ ht => getD_in (by simpa using ht) (getD_replicate_false _ _)⟩ (Agree.refl _ _) (On.drawn _) fun i o ho _ hl => ?_
  rw [getD_replicate_false] at hl
  cases hl
end
end Go.Proofs.Ytphjppnkackmmaa
