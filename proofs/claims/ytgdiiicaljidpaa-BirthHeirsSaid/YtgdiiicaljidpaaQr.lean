/- Regions that draw their order and end in a store of a whole struct. -/
import Derived.Test.YtgdiiicaljidpaaRelT
import Derived.Test.YtgdiiicaljidpaaAtStp
import Derived.Test.YtgdiiicaljidpaaOb
set_option linter.unusedSimpArgs false
set_option linter.unusedVariables false
set_option linter.unusedSimpArgs false
set_option linter.unusedVariables false
namespace Go.Proofs.Ytgdiiicaljidpaa
open Go Go.RowKit
section
variable {o : Oper} {a : Act} {u : World} {K : Act → World → Prop} {Q : Exit → Act → World → Prop}
theorem wp_val {v : Value} (hrun : (execOp a.eval o).run Try.prog u = .ok (.value v) u) (h : K (a.put o.dst v) u) : o.wp Try.prog a u K Q := by
  unfold Oper.wp
  rw [hrun]
  exact h
theorem put_ne {a : Act} {d t : Tmp} (v : Value) (h : t ≠ d) : (a.put (some d) v).eval (.tmp t) = a.eval (.tmp t) :=
  Act.eval_put fun x hx he => by
    injection hx with hx
    injection he with he
    subst hx he
    exact h rfl
theorem put_self {a : Act} {d : Tmp} (v : Value) (h : d < a.tmps.size) : (a.put (some d) v).eval (.tmp d) = v := by
  simp [Act.put, Act.eval, h]
theorem want_plain {l : List Oper} (hg : o.guard = none) : Region.wanted o (yielded l.toArray a.tmps) = true := by
  unfold Region.wanted; rw [hg]
end
theorem setL_other {L : Nat → Bool} {i j : Nat} (h : setL L i j = true) (hne : j ≠ i) : L j = true := by
  unfold setL at h
  rwa [if_neg hne] at h
/-- Operation i is waited for, by whatever chain, by the last one. -/
def coverB (l : List Oper) (n : Nat) : Bool :=
  (List.range n).all fun i => (List.range (n + 1)).any fun j => decide (i < j) && (match l[j]? with
    | some o => o.after.toList.any (fun e => e.on == i && Region.binds .any e)
    | none => false)
def Closed (l : List Oper) (L : Nat → Bool) : Prop := ∀ j o, l[j]? = some o → L j = true → ∀ e ∈ o.after, Region.binds .any e = true → L e.on = true
theorem cover_all {l : List Oper} {n : Nat} {L : Nat → Bool} (hc : coverB l n = true) (hL : Closed l L) {z : Oper} (hz : l[n]? = some z) (hd : ∀ e ∈ z.after, Region.binds .any e = true → L e.on = true) : ∀ i, i < n → L i = true := by
  have key : ∀ d i, n - i ≤ d → i < n → L i = true := by
    intro d
    induction d with
    | zero => intro i h1 h2; omega
    | succ d ih =>
      intro i h1 h2
      have h3 := List.all_eq_true.1 hc i (List.mem_range.2 h2)
      obtain ⟨j, hj, h4⟩ := List.any_eq_true.1 h3
      have hj' := List.mem_range.1 hj
      rw [Bool.and_eq_true, decide_eq_true_eq] at h4
      obtain ⟨h5, h6⟩ := h4
      cases hlj : l[j]? with
      | none => rw [hlj] at h6; cases h6
      | some o =>
        rw [hlj] at h6
        obtain ⟨e, he, h7⟩ := List.any_eq_true.1 h6
        rw [Bool.and_eq_true, beq_iff_eq] at h7
        rw [← h7.1]
        by_cases hjn : j = n
        · subst hjn
          rw [hz] at hlj
          injection hlj with hlj
          subst hlj
          exact hd e (by simpa using he) h7.2
        · exact hL j o hlj (ih j (by omega) (by omega)) e (by simpa using he) h7.2
  intro i hi
  exact key (n - i) i (Nat.le_refl _) hi
/-- **Such a region.** -/
theorem wp_region_last {P : Program} {id : Nat} (R : Nat → Value → World → Prop) {l0 : List Oper} {z : Oper} {a0 : Act} {w : World} {Q : Exit → Act → World → Prop}
    (hm : P.follows .mixedOrders = true) (hB : relC a0.tmps.size 0 (l0 ++ [z]) = true) (hcov : coverB (l0 ++ [z]) l0.length = true) (hD : l0.all (fun o => o.dst.isSome && o.guard.isNone) = true) (hz : z.dst = none) (hzg : z.guard = none)
    (stable : ∀ i v w' w'', R i v w' → On w' w'' → R i v w'') (hS : Steps P On R (l0 ++ [z]) a0 w 0 l0)
    (hl : ∀ a u, On w u → Agree (l0 ++ [z]) a0 a → (∀ i o, l0[i]? = some o → R i (valOf a o) u) → ∀ (K : Act → World → Prop) (Q' : Exit → Act → World → Prop), (∀ w', Q .normal a w' → K a w') → z.wp P a u K Q') :
    (Code.region id (l0 ++ [z]).toArray true).wp P Q a0 w := by
  have hzn : (l0 ++ [z])[l0.length]? = some z := by simp
  have hlt : ∀ i o, l0[i]? = some o → (l0 ++ [z])[i]? = some o ∧ i < l0.length := fun i o h => by
    have := (List.getElem?_eq_some_iff.1 h).1
    exact ⟨by rw [List.getElem?_append_left this]; exact h, this⟩
  have hgt : ∀ i o, (l0 ++ [z])[i]? = some o → i < l0.length → l0[i]? = some o := fun i o h hi => by rwa [List.getElem?_append_left hi] at h
  let I : (Nat → Bool) → Act → World → Prop := fun L a w' => Agree (l0 ++ [z]) a0 a ∧
    ((L l0.length = false ∧ On w w' ∧ Closed (l0 ++ [z]) L ∧ ∀ i o, l0[i]? = some o → L i = true → R i (valOf a o) w') ∨ (L l0.length = true ∧ (∀ i, i < l0.length → L i = true) ∧ Q .normal a w'))
  have hsteps : ∀ (r : List Oper) (k : Nat), (∀ i o, r[i]? = some o → (l0 ++ [z])[k + i]? = some o) → StepsI P I (l0 ++ [z]) k r := by
    intro r
    induction r with
    | nil => intro k _; trivial
    | cons o r ih =>
      intro k hk
      refine ⟨?_, ih (k + 1) fun i o' h => by
        have := hk (i + 1) o' (by rw [List.getElem?_cons_succ]; exact h)
        rwa [show k + (i + 1) = k + 1 + i by omega] at this⟩
      have hko : (l0 ++ [z])[k]? = some o := hk 0 o rfl
      intro L a u hI hL hd
      obtain ⟨hA, hI⟩ := hI
      rcases hI with ⟨hLn, hT, hC, hR⟩ | ⟨hLn, hall, hq⟩
      · by_cases hkn : k = l0.length
        · subst hkn
          rw [hzn] at hko
          injection hko with hko
          subst hko
          have hall := cover_all hcov hC hzn hd
          refine ⟨by unfold Region.wanted; rw [hzg], fun K Q' hK => ?_⟩
          refine hl a u hT hA (fun i o' ho' => hR i o' ho' (hall i (hlt i o' ho').2)) K Q' fun w' hq => ?_
          have h := hK undef w'
          rw [hz] at h
          refine h ⟨hA, .inr ⟨by unfold setL; rw [if_pos rfl], fun i hi => ?_, hq⟩⟩
          unfold setL
          rw [if_neg (by omega)]
          exact hall i hi
        · have hkl : k < l0.length := by
            have := (List.getElem?_eq_some_iff.1 hko).1
            rw [List.length_append, List.length_singleton] at this
            omega
          have hk0 := hgt k o hko hkl
          have hDo := List.all_eq_true.1 hD o (List.mem_of_getElem? hk0)
          rw [Bool.and_eq_true] at hDo
          obtain ⟨hds, hgn⟩ := hDo
          obtain ⟨d, hdd⟩ := Option.isSome_iff_exists.1 hds
          have hw : Region.wanted o (yielded (l0 ++ [z]).toArray a.tmps) = true := by
            unfold Region.wanted
            cases hg : o.guard with
            | none => rfl
            | some x => rw [hg] at hgn; cases hgn
          have hst := hS.at k o hk0
          rw [Nat.zero_add] at hst
          have h1 := hst a u hT hA fun e he hb oj hoj => by
            have hon := (relC_at hB k o hko).1 e he hb
            exact hR e.on oj (hgt e.on oj hoj (by omega)) (hd e he hb)
          have hok : StepOK P On o a u (R k) := by
            rcases h1 with ⟨_, hok⟩ | ⟨hno, _⟩
            · exact hok
            · rw [hw] at hno; cases hno
          refine ⟨hw, fun K Q' hK => hok K Q' fun v w' hRv hTv => hK v w' ⟨hA.put (List.mem_of_getElem? hko) v, .inl ⟨?_, hT.trans hTv, ?_, ?_⟩⟩⟩
          · unfold setL
            rw [if_neg (by omega)]
            exact hLn
          · intro j oj hj hLj e he hb
            unfold setL at hLj ⊢
            by_cases hjk : j = k
            · subst hjk
              rw [hko] at hj
              injection hj with hj
              subst hj
              split
              · rfl
              · exact hd e he hb
            · rw [if_neg hjk] at hLj
              split
              · rfl
              · exact hC j oj hj hLj e he hb
          · intro j oj hj hLj
            by_cases hjk : j = k
            · subst hjk
              rw [hk0] at hj
              injection hj with hj
              subst hj
              have e : valOf (a.put o.dst v) o = v := by
                have hsz := ((relC_at hB j o hko).2 d hdd).1
                unfold valOf
                rw [hdd]
                exact put_self _ (by rw [hA.size]; exact hsz)
              rw [e]
              exact hRv
            · unfold setL at hLj
              rw [if_neg hjk] at hLj
              have e : valOf (a.put o.dst v) oj = valOf a oj := by
                have hap := relC_apart hB hko (hlt j oj hj).1 (fun h => hjk h.symm) hdd
                unfold valOf
                rw [hdd]
                cases hoj : oj.dst with
                | none => rfl
                | some t =>
                  have hne : t ≠ d := fun h => hap (by rw [hoj, h])
                  exact put_ne _ hne
              rw [e]
              exact stable j _ _ _ (hR j oj hj hLj) hTv
      · exfalso
        by_cases hkn : k = l0.length
        · rw [hkn] at hL
          rw [hL] at hLn
          cases hLn
        · have hkl : k < l0.length := by
            have := (List.getElem?_eq_some_iff.1 hko).1
            rw [List.length_append, List.length_singleton] at this
            omega
          have := hall k hkl
          rw [hL] at this
          cases this
  refine wp_region_inv I hm hB ⟨Agree.refl _ _, .inl ⟨rfl, On.drawn w, fun j o _ h => (by cases h), fun i o _ h => (by cases h)⟩⟩ (hsteps _ 0 fun i o h => by rwa [Nat.zero_add]) ?_
  intro L a w' hI hall
  rcases hI.2 with ⟨h, _⟩ | ⟨_, _, hq⟩
  · have := hall l0.length (by simp)
    rw [h] at this
    cases this
  · exact hq
/-- The same, over the region's own list, and over what the operations left. -/
theorem wp_region_lastV {P : Program} {id : Nat} (R : Nat → Value → World → Prop) (n : Nat) {l : List Oper} {z : Oper} {a0 : Act} {w : World} {Q : Exit → Act → World → Prop} (hlz : l = l.take n ++ [z])
    (hm : P.follows .mixedOrders = true) (hB : relC a0.tmps.size 0 l = true) (hcov : coverB l n = true) (hn : (l.take n).length = n) (hD : (l.take n).all (fun o => o.dst.isSome && o.guard.isNone) = true) (hz : z.dst = none) (hzg : z.guard = none)
    (stable : ∀ i v w' w'', R i v w' → On w' w'' → R i v w'') (hS : Steps P On R l a0 w 0 (l.take n))
    (hl : ∀ (vs : Nat → Value) u, On w u → (∀ i, i < n → R i (vs i) u) → ∀ (K : Act → World → Prop) (Q' : Exit → Act → World → Prop), (∀ w', Q .normal (putsFrom l 0 vs a0) w' → K (putsFrom l 0 vs a0) w') → z.wp P (putsFrom l 0 vs a0) u K Q') :
    (Code.region id l.toArray true).wp P Q a0 w := by
  have hB' : relC a0.tmps.size 0 (l.take n ++ [z]) = true := by rw [← hlz]; exact hB
  have h := wp_region_last (P := P) (id := id) R (l0 := l.take n) (z := z) (a0 := a0) (w := w) (Q := Q) hm hB' (by rw [← hlz, hn]; exact hcov) hD hz hzg stable (by rw [← hlz]; exact hS) (fun a u hT hA hR K Q' hK => by
    obtain ⟨vs, e⟩ := hA.eq hB'
    have e2 : a = putsFrom l 0 vs a0 := by rw [e, ← hlz]
    subst e2
    refine hl vs u hT (fun i hi => ?_) K Q' hK
    have hi' : i < (l.take n).length := by rw [hn]; exact hi
    have hio : (l.take n)[i]? = some ((l.take n)[i]) := List.getElem?_eq_getElem hi'
    have hr := hR i _ hio
    have hds := List.all_eq_true.1 hD _ (List.getElem_mem hi')
    rw [Bool.and_eq_true] at hds
    obtain ⟨d, hdd⟩ := Option.isSome_iff_exists.1 hds.1
    have hil : l[i]? = some ((l.take n)[i]) := (List.getElem?_take_of_lt hi).symm.trans hio
    have hsz := ((relC_at hB i _ hil).2 d hdd).1
    have hat := putsFrom_atC (k := 0) vs a0 hB (Nat.le_refl _) i _ d hil hdd
    rw [Nat.zero_add] at hat
    have e3 : valOf (putsFrom l 0 vs a0) ((l.take n)[i]) = vs i := by
      unfold valOf
      rw [hdd]
      show (putsFrom l 0 vs a0).tmps.getD d undef = vs i
      rw [Array.getD_eq_getD_getElem?, hat]
      rfl
    rw [e3] at hr
    exact hr)
  rw [← hlz] at h
  exact h
theorem run_allocT {a : Act} {o : Oper} {u : World} (ho : o.op = .alloc 31) : (execOp a.eval o).run Try.prog u = .ok (.value (.pointer (some ⟨u.heap.size, 0, none⟩))) (u.alloc (.cells zAt 31)) := by
  unfold execOp
  rw [ho]
  kernel_rfl
/-- A list, wherever its own rows lie. -/
abbrev Sp4.aco (x : Ac) : Sp4 := .prop (fun v w => ∃ p, v = x.v p ∧ LiesO w x p) (fun _ _ _ h hb => by
  obtain ⟨p, e, hl⟩ := h
  exact ⟨p, e, hl.below hb⟩)
/-- Attributes without values, wherever their lists' own rows lie. -/
abbrev Sp4.ato (x : At) : Sp4 := .prop (fun v w => ∃ p, v = At.v x p ∧ LiesO w x.ac p.p ∧ LiesO w x.df p.q ∧ p.X = none ∧ p.n = 0) (fun _ _ _ h hb => by
  obtain ⟨p, e, h1, h2, h3⟩ := h
  exact ⟨p, e, h1.below hb, h2.below hb, h3⟩)
theorem R4.at {S : List Sp4} {i : Nat} {v : Value} {u : World} (sp : Sp4) (hk : S.getD i .any = sp) (h : R4 S i v u) : sp.ok v u := by
  unfold R4 at h
  rwa [hk] at h
/-- A region that draws its order, and ends in the store of a whole struct. -/
theorem wp_region_storeV {P : Program} {id : Nat} (R : Nat → Value → World → Prop) (n j1 j2 : Nat) (p v : Tmp) (ty : TypeId) {l : List Oper} {z : Oper} {a0 : Act} {w : World} {Q : Exit → Act → World → Prop} (hlz : l = l.take n ++ [z])
    (ho : z.op = .store ty (.tmp p) (.tmp v)) (hj1 : j1 < n) (hj2 : j2 < n) (hp : (l[j1]?).bind (·.dst) = some p) (hv : (l[j2]?).bind (·.dst) = some v)
    (hm : P.follows .mixedOrders = true) (hB : relC a0.tmps.size 0 l = true) (hcov : coverB l n = true) (hn : (l.take n).length = n) (hD : (l.take n).all (fun o => o.dst.isSome && o.guard.isNone) = true) (hz : z.dst = none) (hzg : z.guard = none)
    (stable : ∀ i v w' w'', R i v w' → On w' w'' → R i v w'') (hS : Steps P On R l a0 w 0 (l.take n))
    (hl : ∀ (vs : Nat → Value) u, On w u → (∀ i, i < n → R i (vs i) u) → ∃ g C C0 t, vs j1 = .pointer (some ⟨g, 0, none⟩) ∧ vs j2 = .agg C ∧ u.heap[g]? = some (.cells C0 t (0, 0)) ∧ (P.info? ty).map (·.size) = some C.size ∧ C0.size = C.size ∧ C.all (·.oneCell') = true ∧ Q .normal (putsFrom l 0 vs a0) (u.setRow g C)) :
    (Code.region id l.toArray true).wp P Q a0 w := by
  refine wp_region_lastV R n hlz hm hB hcov hn hD hz hzg stable hS fun vs u hb hR K Q' hK => ?_
  obtain ⟨g, C, C0, t, h1, h2, h3, h4, h5, h6, h7⟩ := hl vs u hb hR
  have ev : ∀ j d, (l[j]?).bind (·.dst) = some d → (putsFrom l 0 vs a0).eval (.tmp d) = vs j := by
    intro j d hd
    obtain ⟨oj, hoj, hdd⟩ := Option.bind_eq_some_iff.1 hd
    have hat := putsFrom_atC (k := 0) vs a0 hB (Nat.le_refl _) j oj d hoj hdd
    rw [Nat.zero_add] at hat
    show (putsFrom l 0 vs a0).tmps.getD d undef = vs j
    rw [Array.getD_eq_getD_getElem?, hat]
    rfl
  refine wp_store_row ty (.tmp p) (.tmp v) ho g C ((ev j1 p hp).trans h1) ((ev j2 v hv).trans h2) t C0 h3 h4 h5 h6 ?_
  rw [hz]
  exact hK _ h7
section
variable {S : List Sp4} {l : List Oper} {a0 a : Act} {w0 u : World} {k : Nat} {o : Oper}
/-- An operation that leaves what is said, and may make memory. -/
theorem st4_gen (sp : Sp4) (hk : S.getD k .any = sp) (hg : Go4 S l o)
    (step : ∀ a u, On w0 u → Agree l a0 a → Deps S l o a u → ∃ v u', (execOp a.eval o).run Try.prog u = .ok (.value v) u' ∧ sp.ok v u' ∧ On u u') :
    StepAt Try.prog On (R4 S) l a0 w0 k o := by
  intro a u hT hA hd
  obtain ⟨v, u', h1, h2, h3⟩ := step a u hT hA fun j dj hj hm sp hv => dep4 hd j dj hj hm sp hv
  exact .inl ⟨hg.wanted hd, StepOK.run v h1 (by unfold R4; rw [hk]; exact h2) h3⟩
end
end Go.Proofs.Ytgdiiicaljidpaa
