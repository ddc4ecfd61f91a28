/- Locks with queues, over lists: who holds, who waits, wanted, freed; that somebody moves, that all end. No program stands here. -/
import Derived.WalkKit
set_option linter.unusedSimpArgs false
set_option linter.unusedVariables false
namespace Go.Proofs.Ythlodfahajaneaa.LockMath
/-- The queue of a lock. -/
def qu (Q : List (List Int)) (i : Nat) : List Int := Q.getD i []
theorem qu_out {Q : List (List Int)} {i : Nat} (h : Q.length ≤ i) : qu Q i = [] := by
  unfold qu
  rw [List.getD_eq_getElem?_getD, List.getElem?_eq_none h]; rfl
theorem qu_set (Q : List (List Int)) (i j : Nat) (l : List Int) : qu (Q.set i l) j = if i = j ∧ i < Q.length then l else qu Q j := by
  unfold qu
  rw [List.getD_eq_getElem?_getD, List.getElem?_set, List.getD_eq_getElem?_getD]
  by_cases h : i = j
  · subst h
    by_cases h2 : i < Q.length
    · simp [h2]
    · rw [List.getElem?_eq_none (show Q.length ≤ i by omega)]
      simp [h2]
  · simp [h]
theorem qu_map (Q : List (List Int)) (f : List Int → List Int) (hf : f [] = []) (i : Nat) : qu (Q.map f) i = f (qu Q i) := by
  unfold qu
  rw [List.getD_eq_getElem?_getD, List.getElem?_map, List.getD_eq_getElem?_getD]
  cases Q[i]? with
  | none => simpa using hf.symm
  | some l => rfl
/-- Who holds; who waits where. -/
def Hold (Q : List (List Int)) (p : Int) (i : Nat) : Prop := (qu Q i).head? = some p
def Wait (Q : List (List Int)) (p : Int) (i : Nat) : Prop := p ∈ (qu Q i).tail
instance (Q : List (List Int)) (p : Int) (i : Nat) : Decidable (Hold Q p i) := by unfold Hold; infer_instance
instance (Q : List (List Int)) (p : Int) (i : Nat) : Decidable (Wait Q p i) := by unfold Wait; infer_instance
theorem Hold.lt {Q : List (List Int)} {p : Int} {i : Nat} (h : Hold Q p i) : i < Q.length := by
  rcases Nat.lt_or_ge i Q.length with h1 | h1
  · exact h1
  · unfold Hold at h; rw [qu_out h1] at h; cases h
theorem Wait.lt {Q : List (List Int)} {p : Int} {i : Nat} (h : Wait Q p i) : i < Q.length := by
  rcases Nat.lt_or_ge i Q.length with h1 | h1
  · exact h1
  · unfold Wait at h; rw [qu_out h1] at h; cases h
theorem mem_or {Q : List (List Int)} {p : Int} {i : Nat} : p ∈ qu Q i ↔ Hold Q p i ∨ Wait Q p i := by
  unfold Hold Wait
  cases qu Q i with
  | nil => simp
  | cons a r => simp [eq_comm]
/-- The locks that it holds, rising; the first one for which it waits. -/
def holdsL (Q : List (List Int)) (p : Int) : List Nat := (List.range Q.length).filter fun i => decide (Hold Q p i)
theorem mem_holds {Q : List (List Int)} {p : Int} {i : Nat} : i ∈ holdsL Q p ↔ Hold Q p i := by
  unfold holdsL
  rw [List.mem_filter, List.mem_range, decide_eq_true_eq]
  exact ⟨fun h => h.2, fun h => ⟨h.lt, h⟩⟩
theorem holds_rise (Q : List (List Int)) (p : Int) : (holdsL Q p).Pairwise (· < ·) := List.Pairwise.filter _ List.pairwise_lt_range
theorem holds_succ (Q : List (List Int)) (p : Int) (k : Nat) : ((List.range (k + 1)).filter fun i => decide (Hold Q p i)) = ((List.range k).filter fun i => decide (Hold Q p i)) ++ (if Hold Q p k then [k] else []) := by
  rw [List.range_succ, List.filter_append]
  congr 1
  by_cases h : Hold Q p k
  · rw [if_pos h, List.filter_cons_of_pos (by simpa using h)]; rfl
  · rw [if_neg h, List.filter_cons_of_neg (by simpa using h)]; rfl
def waitsF (Q : List (List Int)) (p : Int) : Option Nat := (List.range Q.length).find? fun i => decide (Wait Q p i)
theorem waits_some {Q : List (List Int)} {p : Int} {i : Nat} (h : waitsF Q p = some i) : Wait Q p i := by
  have := List.find?_some h
  simpa using this
theorem waits_none {Q : List (List Int)} {p : Int} : waitsF Q p = none ↔ ∀ i, ¬ Wait Q p i := by
  unfold waitsF
  rw [List.find?_eq_none]
  constructor
  · intro h i hw
    exact h i (List.mem_range.2 hw.lt) (by simpa using hw)
  · intro h i _
    simpa using h i
/-- What is kept: each stands in a queue once; nobody waits for two; nobody waits for one that is no greater than one that he holds. -/
structure Inv (Q : List (List Int)) : Prop where
  once : ∀ i, (qu Q i).Nodup
  one : ∀ p i j, Wait Q p i → Wait Q p j → i = j
  up : ∀ p i j, Wait Q p i → Hold Q p j → j < i
theorem Inv.start (n : Nat) : Inv (List.replicate n []) := by
  have e : ∀ i, qu (List.replicate n ([] : List Int)) i = [] := fun i => by
    unfold qu
    rw [List.getD_eq_getElem?_getD, List.getElem?_replicate]
    split <;> rfl
  refine ⟨fun i => by rw [e]; exact List.nodup_nil, fun p i j h => ?_, fun p i j h => ?_⟩
  · unfold Wait at h; rw [e] at h; cases h
  · unfold Wait at h; rw [e] at h; cases h
/-! ### freed -/
def offQ (p : Int) (l : List Int) : List Int := l.filter fun x => decide (x ≠ p)
def freeQ (Q : List (List Int)) (p : Int) : List (List Int) := Q.map (offQ p)
theorem qu_free (Q : List (List Int)) (p : Int) (i : Nat) : qu (freeQ Q p) i = offQ p (qu Q i) := qu_map Q (offQ p) rfl i
theorem free_len (Q : List (List Int)) (p : Int) : (freeQ Q p).length = Q.length := by simp [freeQ]
theorem off_mem {p x : Int} {l : List Int} : x ∈ offQ p l ↔ x ∈ l ∧ x ≠ p := by
  unfold offQ
  rw [List.mem_filter, decide_eq_true_eq]
theorem off_tail {p x : Int} {l : List Int} (h : x ∈ (offQ p l).tail) : x ∈ l.tail := by
  cases l with
  | nil => cases h
  | cons a r =>
    unfold offQ at h
    by_cases c : a = p
    · rw [List.filter_cons_of_neg (by simp [c])] at h
      exact (List.mem_filter.1 (List.mem_of_mem_tail h)).1
    · rw [List.filter_cons_of_pos (by simp [c])] at h
      exact (List.mem_filter.1 h).1
/-- Who comes to the front held it, or waited for it. -/
theorem off_head {p x : Int} {l : List Int} (h : (offQ p l).head? = some x) : l.head? = some x ∨ x ∈ l.tail := by
  cases l with
  | nil => cases h
  | cons a r =>
    unfold offQ at h
    by_cases c : a = p
    · rw [List.filter_cons_of_neg (by simp [c])] at h
      exact .inr ((List.mem_filter.1 (List.mem_of_mem_head? h)).1)
    · rw [List.filter_cons_of_pos (by simp [c])] at h
      exact .inl h
theorem Inv.free {Q : List (List Int)} (h : Inv Q) (p : Int) : Inv (freeQ Q p) := by
  have hw : ∀ q i, Wait (freeQ Q p) q i → Wait Q q i := fun q i hh => by
    unfold Wait at hh ⊢
    rw [qu_free] at hh
    exact off_tail hh
  refine ⟨fun i => ?_, fun q i j h1 h2 => h.one q i j (hw _ _ h1) (hw _ _ h2), fun q i j h1 h2 => ?_⟩
  · rw [qu_free]
    exact List.Pairwise.filter _ (h.once i)
  · unfold Hold at h2
    rw [qu_free] at h2
    rcases off_head h2 with h3 | h3
    · exact h.up q i j (hw _ _ h1) h3
    · -- it waited for j, and waits for i still: one and the same; but at j it stands in front now
      exfalso
      have e := h.one q i j (hw _ _ h1) h3
      subst e
      unfold Wait at h1
      rw [qu_free] at h1
      have hn : (offQ p (qu Q i)).Nodup := List.Pairwise.filter _ (h.once i)
      cases hl : offQ p (qu Q i) with
      | nil => rw [hl] at h2; cases h2
      | cons a r =>
        rw [hl] at h1 h2 hn
        injection h2 with h2
        subst h2
        exact (List.nodup_cons.1 hn).1 h1
/-! ### wanted -/
/-- It may be put behind the queue: it holds nothing that is greater, nor the lock itself, and waits for nothing. -/
theorem Inv.want {Q : List (List Int)} (h : Inv Q) {p : Int} {i : Nat} (hi : i < Q.length) (hw : ∀ j, ¬ Wait Q p j) (hh : ∀ j, Hold Q p j → j < i) : Inv (Q.set i (qu Q i ++ [p])) := by
  have hnot : p ∉ qu Q i := fun hm => by
    rcases mem_or.1 hm with h1 | h1
    · exact absurd (hh i h1) (Nat.lt_irrefl _)
    · exact hw i h1
  have hq : ∀ j, qu (Q.set i (qu Q i ++ [p])) j = if i = j then qu Q i ++ [p] else qu Q j := fun j => by
    rw [qu_set]
    by_cases c : i = j
    · rw [if_pos ⟨c, hi⟩, if_pos c]
    · rw [if_neg (fun h => c h.1), if_neg c]
  have w2 : ∀ q j, Wait (Q.set i (qu Q i ++ [p])) q j → Wait Q q j ∨ (q = p ∧ j = i) := fun q j hh => by
    unfold Wait at hh ⊢
    rw [hq] at hh
    by_cases c : i = j
    · subst c
      rw [if_pos rfl] at hh
      cases hl : qu Q i with
      | nil => rw [hl] at hh; cases hh
      | cons a r =>
        rw [hl] at hh
        rcases List.mem_append.1 (show q ∈ r ++ [p] from hh) with h1 | h1
        · exact .inl h1
        · exact .inr ⟨by simpa using h1, rfl⟩
    · rw [if_neg c] at hh
      exact .inl hh
  have h2 : ∀ q j, Hold (Q.set i (qu Q i ++ [p])) q j → Hold Q q j ∨ (q = p ∧ j = i) := fun q j hh => by
    unfold Hold at hh ⊢
    rw [hq] at hh
    by_cases c : i = j
    · subst c
      rw [if_pos rfl] at hh
      cases hl : qu Q i with
      | nil =>
        rw [hl] at hh
        have hh : some p = some q := hh
        injection hh with hh
        exact .inr ⟨hh.symm, rfl⟩
      | cons a r =>
        rw [hl] at hh
        exact .inl hh
    · rw [if_neg c] at hh
      exact .inl hh
  refine ⟨fun j => ?_, fun q a b ha hb => ?_, fun q a b ha hb => ?_⟩
  · rw [hq]
    by_cases c : i = j
    · rw [if_pos c]
      exact List.nodup_append.2 ⟨h.once i, by simp, fun x hx y hy => by
        rw [List.mem_singleton] at hy
        subst hy
        rintro rfl
        exact hnot hx⟩
    · rw [if_neg c]
      exact h.once j
  · rcases w2 q a ha with h1 | ⟨rfl, rfl⟩
    · rcases w2 q b hb with h3 | ⟨rfl, rfl⟩
      · exact h.one q a b h1 h3
      · exact absurd h1 (hw a)
    · rcases w2 q b hb with h3 | ⟨_, rfl⟩
      · exact absurd h3 (hw b)
      · rfl
  · rcases w2 q a ha with h1 | ⟨e1, e2⟩
    · rcases h2 q b hb with h3 | ⟨e3, e4⟩
      · exact h.up q a b h1 h3
      · subst e3
        exact absurd h1 (hw a)
    · subst e1 e2
      rcases h2 q b hb with h3 | ⟨_, e4⟩
      · exact hh b h3
      · -- it would hold and wait for the same lock
        exfalso
        subst e4
        unfold Wait at ha
        unfold Hold at hb
        rw [hq, if_pos rfl] at ha hb
        cases hl : qu Q b with
        | nil => rw [hl] at ha; cases ha
        | cons x r =>
          rw [hl] at hb
          have hb : some x = some q := hb
          injection hb with hb
          rw [hl, hb] at hnot
          simp at hnot
/-! ### somebody moves -/
theorem greatest {P : Nat → Prop} [DecidablePred P] : ∀ {n : Nat}, (∃ i, i < n ∧ P i) → ∃ i, i < n ∧ P i ∧ ∀ j, j < n → P j → j ≤ i
  | 0, ⟨i, h, _⟩ => by omega
  | n + 1, ⟨i, h, hp⟩ => by
    by_cases hn : P n
    · exact ⟨n, by omega, hn, fun j hj _ => by omega⟩
    · have hi : i < n := by
        rcases Nat.lt_or_ge i n with h1 | h1
        · exact h1
        · obtain rfl : i = n := by omega
          exact absurd hp hn
      obtain ⟨k, h1, h2, h3⟩ := greatest (P := P) ⟨i, hi, hp⟩
      exact ⟨k, by omega, h2, fun j hj hpj => by
        rcases Nat.lt_or_ge j n with h4 | h4
        · exact h3 j h4 hpj
        · obtain rfl : j = n := by omega
          exact absurd hpj hn⟩
/-- As long as a queue is not empty, there is one who holds a lock and does not wait. -/
theorem Inv.moves {Q : List (List Int)} (h : Inv Q) {i : Nat} (hi : qu Q i ≠ []) : ∃ p j, Hold Q p j ∧ ∀ k, ¬ Wait Q p k := by
  have hlt : i < Q.length := by
    rcases Nat.lt_or_ge i Q.length with h1 | h1
    · exact h1
    · exact absurd (qu_out h1) hi
  by_cases hw : ∃ j, j < Q.length ∧ (qu Q j).tail ≠ []
  · obtain ⟨j, h1, h2, h3⟩ := greatest hw
    cases hl : qu Q j with
    | nil => rw [hl] at h2; exact absurd rfl h2
    | cons p r =>
      refine ⟨p, j, by unfold Hold; rw [hl]; rfl, fun k hk => ?_⟩
      have hup := h.up p k j hk (by unfold Hold; rw [hl]; rfl)
      have := h3 k hk.lt (by intro e; unfold Wait at hk; rw [e] at hk; cases hk)
      omega
  · cases hl : qu Q i with
    | nil => exact absurd hl hi
    | cons p r =>
      refine ⟨p, i, by unfold Hold; rw [hl]; rfl, fun k hk => hw ⟨k, hk.lt, ?_⟩⟩
      intro e
      unfold Wait at hk
      rw [e] at hk
      cases hk
/-- Who does not wait is taken off the front alone. -/
theorem off_front {p : Int} {l : List Int} (hn : l.Nodup) (hw : p ∉ l.tail) : offQ p l = if l.head? = some p then l.tail else l := by
  cases l with
  | nil => rfl
  | cons a r =>
    have hr : offQ p r = r := List.filter_eq_self.2 fun x hx => by
      rw [decide_eq_true_eq]
      rintro rfl
      exact hw hx
    by_cases c : a = p
    · rw [if_pos (by rw [c]; rfl)]
      show offQ p (a :: r) = r
      unfold offQ at hr ⊢
      rw [List.filter_cons_of_neg (by simp [c]), hr]
    · rw [if_neg (by simpa using c)]
      unfold offQ at hr ⊢
      rw [List.filter_cons_of_pos (by simp [c]), hr]
end Go.Proofs.Ythlodfahajaneaa.LockMath
