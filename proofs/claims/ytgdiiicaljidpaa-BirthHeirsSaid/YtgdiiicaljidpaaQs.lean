/- A region that draws its order, and stores once into a variable that it makes: other operations may come ahead of the store, or behind it. -/
import Derived.Test.YtgdiiicaljidpaaQr
set_option linter.unusedSimpArgs false
set_option linter.unusedVariables false
namespace Go.Proofs.Ytgdiiicaljidpaa
open Go Go.RowKit
section
variable {P : Program} {T : World → World → Prop} {R : Nat → Value → World → Prop} {l0 : List Oper} {a0 : Act} {w0 : World} {s : Nat}
/-- What is owed of all operations but s. -/
def StepsN (P : Program) (T : World → World → Prop) (R : Nat → Value → World → Prop) (l0 : List Oper) (a0 : Act) (w0 : World) (s : Nat) : Nat → List Oper → Prop
  | _, [] => True
  | k, o :: r => (k ≠ s → StepAt P T R l0 a0 w0 k o) ∧ StepsN P T R l0 a0 w0 s (k + 1) r
theorem StepsN.at : ∀ {l : List Oper} {k : Nat}, StepsN P T R l0 a0 w0 s k l → ∀ (i : Nat) (o : Oper), l[i]? = some o → k + i ≠ s → StepAt P T R l0 a0 w0 (k + i) o
  | [], _, _, i, o, h, _ => by simp at h
  | x :: r, k, hS, i, o, h, hn => by
    cases i with
    | zero =>
      simp only [List.getElem?_cons_zero, Option.some.injEq] at h
      subst h
      exact hS.1 hn
    | succ i =>
      rw [List.getElem?_cons_succ] at h
      have := hS.2.at i o h (by omega)
      rwa [show k + 1 + i = k + (i + 1) by omega] at this
end
/-- It waits for operation j. -/
def waitsB (o : Oper) (j : Nat) : Bool := o.after.toList.any fun e => e.on == j && Region.binds .any e
theorem waits_at {o : Oper} {j : Nat} (h : waitsB o j = true) : ∃ e ∈ o.after, Region.binds .any e = true ∧ e.on = j := by
  obtain ⟨e, he, h2⟩ := List.any_eq_true.1 h
  rw [Bool.and_eq_true, beq_iff_eq] at h2
  exact ⟨e, by simpa using he, h2.2, h2.1⟩
/-- **Such a region.** s: the store; p: what makes the variable; q: what is stored. -/
theorem wp_region_put {P : Program} {id : Nat} (R : Nat → Value → World → Prop) (Z : Value → World → Prop) (s p q : Nat) (tp tv : Tmp) (ty : TypeId) {l : List Oper} {z op oq : Oper} {a0 : Act} {w : World} {Q : Exit → Act → World → Prop}
    (hz : l[s]? = some z) (ho : z.op = .store ty (.tmp tp) (.tmp tv)) (hzd : z.dst = none) (hzg : z.guard = none) (hp : l[p]? = some op) (hpd : op.dst = some tp) (hq : l[q]? = some oq) (hqd : oq.dst = some tv) (hwp : waitsB z p = true) (hwq : waitsB z q = true)
    (hm : P.follows .mixedOrders = true) (hB : relC a0.tmps.size 0 l = true) (hD : (List.range l.length).all (fun i => decide (i = s) || (match l[i]? with | some o => o.dst.isSome && o.guard.isNone | none => true)) = true)
    (stR : ∀ i v u u', R i v u → On u u' → R i v u') (stZ : ∀ v u u', Z v u → On u u' → Z v u') (hRs : ∀ v u, R s v u) (hS : StepsN P On R l a0 w s 0 l)
    (hst : ∀ u vp vq, On w u → R p vp u → R q vq u → ∃ g C C0 t, vp = .pointer (some ⟨g, 0, none⟩) ∧ vq = .agg C ∧ w.heap.size ≤ g ∧ u.heap[g]? = some (.cells C0 t (0, 0)) ∧ (P.info? ty).map (·.size) = some C.size ∧ C0.size = C.size ∧ C.all (·.oneCell') = true ∧ Z vp (u.setRow g C) ∧ ∀ i v, R i v u → R i v (u.setRow g C))
    (fin : ∀ (vs : Nat → Value) u, On w u → (∀ i, i < l.length → R i (vs i) u) → Z (vs p) u → Q .normal (putsFrom l 0 vs a0) u) :
    (Code.region id l.toArray true).wp P Q a0 w := by
  have hps : p ≠ s := by
    rintro rfl
    rw [hz] at hp
    injection hp with hp
    rw [← hp, hzd] at hpd
    cases hpd
  have hqs : q ≠ s := by
    rintro rfl
    rw [hz] at hq
    injection hq with hq
    rw [← hq, hzd] at hqd
    cases hqd
  let I : (Nat → Bool) → Act → World → Prop := fun L a w' => Agree l a0 a ∧ On w w' ∧ (∀ i o, l[i]? = some o → L i = true → R i (valOf a o) w') ∧ (L s = true → L p = true ∧ Z (valOf a op) w')
  have keep : ∀ {a : Act} {k j : Nat} {o oj : Oper} (v : Value), l[k]? = some o → l[j]? = some oj → j ≠ k → valOf (a.put o.dst v) oj = valOf a oj := by
    intro a k j o oj v hk hj hjk
    cases hd : o.dst with
    | none => rfl
    | some d =>
      have hap := relC_apart hB hk hj (fun h => hjk h.symm) hd
      unfold valOf
      cases hoj : oj.dst with
      | none => rfl
      | some t =>
        have hne : t ≠ d := fun h => hap (by rw [hoj, h])
        exact put_ne _ hne
  have hsteps : ∀ (r : List Oper) (k : Nat), (∀ i o, r[i]? = some o → l[k + i]? = some o) → StepsI P I l k r := by
    intro r
    induction r with
    | nil => intro k _; trivial
    | cons o r ih =>
      intro k hk
      refine ⟨?_, ih (k + 1) fun i o' h => by
        have := hk (i + 1) o' (by rw [List.getElem?_cons_succ]; exact h)
        rwa [show k + (i + 1) = k + 1 + i by omega] at this⟩
      have hko : l[k]? = some o := hk 0 o rfl
      intro L a u hI hL hd
      obtain ⟨hA, hT, hR, hZ⟩ := hI
      by_cases hks : k = s
      · subst hks
        rw [hz] at hko
        injection hko with hko
        subst hko
        obtain ⟨ep, hep, hbp, honp⟩ := waits_at hwp
        obtain ⟨eq, heq, hbq, honq⟩ := waits_at hwq
        have hLp : L p = true := by rw [← honp]; exact hd ep hep hbp
        have hLq : L q = true := by rw [← honq]; exact hd eq heq hbq
        obtain ⟨g, C, C0, t, h1, h2, h3, h4, h5, h6, h7, h8, h9⟩ := hst u (valOf a op) (valOf a oq) hT (hR p op hp hLp) (hR q oq hq hLq)
        have e1 : a.eval (.tmp tp) = .pointer (some ⟨g, 0, none⟩) := by
          rw [← h1]; unfold valOf; rw [hpd]
        have e2 : a.eval (.tmp tv) = .agg C := by
          rw [← h2]; unfold valOf; rw [hqd]
        refine ⟨by unfold Region.wanted; rw [hzg], fun K Q' hK => ?_⟩
        refine wp_store_row ty (.tmp tp) (.tmp tv) ho g C e1 e2 t C0 h4 h5 h6 h7 ?_
        have h := hK undef (u.setRow g C)
        rw [hzd] at h ⊢
        refine h ⟨hA, below_setRow hT h3 _, fun i o hi hLi => ?_, fun _ => ⟨?_, h8⟩⟩
        · by_cases his : i = k
          · subst his
            exact hRs _ _
          · unfold setL at hLi
            rw [if_neg his] at hLi
            exact h9 i _ (hR i o hi hLi)
        · unfold setL
          split
          · rfl
          · exact hLp
      · have hkl : k < l.length := (List.getElem?_eq_some_iff.1 hko).1
        have hDo := List.all_eq_true.1 hD k (List.mem_range.2 hkl)
        rw [decide_eq_false hks, hko, Bool.false_or, Bool.and_eq_true] at hDo
        obtain ⟨hds, hgn⟩ := hDo
        obtain ⟨d, hdd⟩ := Option.isSome_iff_exists.1 hds
        have hw : Region.wanted o (yielded l.toArray a.tmps) = true := by
          unfold Region.wanted
          cases hg : o.guard with
          | none => rfl
          | some x => rw [hg] at hgn; cases hgn
        have hst0 := hS.at k o hko (by rw [Nat.zero_add]; exact hks)
        rw [Nat.zero_add] at hst0
        have h1 := hst0 a u hT hA fun e he hb oj hoj => hR e.on oj hoj (hd e he hb)
        have hok : StepOK P On o a u (R k) := by
          rcases h1 with ⟨_, hok⟩ | ⟨hno, _⟩
          · exact hok
          · rw [hw] at hno; cases hno
        refine ⟨hw, fun K Q' hK => hok K Q' fun v w' hRv hTv => hK v w' ⟨hA.put (List.mem_of_getElem? hko) v, hT.trans hTv, fun j oj hj hLj => ?_, fun hLs => ?_⟩⟩
        · by_cases hjk : j = k
          · subst hjk
            rw [hko] at hj
            injection hj with hj
            subst hj
            have e : valOf (a.put o.dst v) o = v := by
              have hsz := ((relC_at hB j o hko).2 d hdd).1
              unfold valOf
              rw [hdd]
              exact put_self _ (by rw [hA.size]; exact hsz)
            rw [e]
            exact hRv
          · unfold setL at hLj
            rw [if_neg hjk] at hLj
            rw [keep v hko hj hjk]
            exact stR j _ _ _ (hR j oj hj hLj) hTv
        · unfold setL at hLs
          rw [if_neg (fun h => hks h.symm)] at hLs
          obtain ⟨hLp, hz'⟩ := hZ hLs
          have hpk : p ≠ k := by
            rintro rfl
            rw [hL] at hLp
            cases hLp
          refine ⟨?_, ?_⟩
          · unfold setL
            rw [if_neg hpk]
            exact hLp
          · rw [keep v hko hp hpk]
            exact stZ _ _ _ hz' hTv
  refine wp_region_inv I hm hB ⟨Agree.refl _ _, On.drawn w, fun i o _ h => (by cases h), fun h => (by cases h)⟩ (hsteps _ 0 fun i o h => by rwa [Nat.zero_add]) ?_
  intro L a w' hI hall
  obtain ⟨hA, hT, hR, hZ⟩ := hI
  obtain ⟨vs, e⟩ := hA.eq hB
  subst e
  have vv : ∀ i o, l[i]? = some o → o.dst.isSome = true → valOf (putsFrom l 0 vs a0) o = vs i := by
    intro i o hi hds
    obtain ⟨d, hdd⟩ := Option.isSome_iff_exists.1 hds
    have hat := putsFrom_atC (k := 0) vs a0 hB (Nat.le_refl _) i o d hi hdd
    rw [Nat.zero_add] at hat
    unfold valOf
    rw [hdd]
    show (putsFrom l 0 vs a0).tmps.getD d undef = vs i
    rw [Array.getD_eq_getD_getElem?, hat]
    rfl
  have hzlt : s < l.length := (List.getElem?_eq_some_iff.1 hz).1
  refine fin vs w' hT (fun i hi => ?_) ?_
  · by_cases his : i = s
    · subst his
      exact hRs _ _
    · have hio : l[i]? = some l[i] := List.getElem?_eq_getElem hi
      have hDo := List.all_eq_true.1 hD i (List.mem_range.2 hi)
      rw [decide_eq_false his, hio, Bool.false_or, Bool.and_eq_true] at hDo
      have h := hR i _ hio (hall i hi)
      rwa [vv i _ hio hDo.1] at h
  · have h := (hZ (hall s hzlt)).2
    rwa [vv p op hp (by rw [hpd]; rfl)] at h
end Go.Proofs.Ytgdiiicaljidpaa
