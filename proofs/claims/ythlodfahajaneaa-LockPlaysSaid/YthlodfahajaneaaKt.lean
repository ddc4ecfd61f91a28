/- Somebody always moves: what is counted, over lists; the law. -/
import Derived.Test.YthlodfahajaneaaKr
import Derived.Test.YthlodfahajaneaaKi
set_option linter.unusedSimpArgs false
set_option linter.unusedVariables false
namespace Go.Proofs.Ythlodfahajaneaa
open Go Go.RowKit LockMath Go.Shelf
/-- How often it stands among the first k; among the first k but the front. -/
def cN (q : List Int) (p : Int) (k : Nat) : Nat := (q.take k).count p
def cT (q : List Int) (p : Int) (k : Nat) : Nat := ((q.take k).tail).count p
theorem take_more {q : List Int} {k : Nat} (hk : k < q.length) : q.take (k + 1) = q.take k ++ [q.getD k 0] := by
  rw [List.take_add_one, List.getD_eq_getElem?_getD, List.getElem?_eq_getElem hk]; rfl
theorem cN_succ {q : List Int} {p : Int} {k : Nat} (hk : k < q.length) : cN q p (k + 1) = cN q p k + (if q.getD k 0 = p then 1 else 0) := by
  unfold cN
  rw [take_more hk, List.count_append]
  congr 1
  generalize q.getD k 0 = x
  by_cases h : x = p
  · rw [if_pos h, h]; simp
  · rw [if_neg h]; simp [h]
theorem cT_succ {q : List Int} {p : Int} {k : Nat} (hk : k < q.length) : cT q p (k + 1) = cT q p k + (if q.getD k 0 = p ∧ 0 < k then 1 else 0) := by
  unfold cT
  rw [take_more hk]
  by_cases h0 : k = 0
  · subst h0; simp
  · have hne : q.take k ≠ [] := fun e => by
      have := congrArg List.length e
      rw [List.length_take, List.length_nil] at this
      omega
    rw [List.tail_append_of_ne_nil hne, List.count_append]
    congr 1
    generalize q.getD k 0 = x
    by_cases h : x = p
    · rw [if_pos ⟨h, by omega⟩, h]; simp
    · rw [if_neg (fun hh => h hh.1)]; simp [h]
theorem nodup_count {q : List Int} (hn : q.Nodup) (p : Int) : q.count p = if p ∈ q then 1 else 0 := by
  induction q with
  | nil => simp
  | cons a r ih =>
    have h := List.nodup_cons.1 hn
    rw [List.count_cons, ih h.2]
    by_cases ha : a = p
    · subst ha
      simp [h.1]
    · have h2 : ¬ p = a := fun e => ha e.symm
      simp [ha, h2]
theorem cN_le {q : List Int} (hn : q.Nodup) (p : Int) : cN q p q.length ≤ 1 := by
  unfold cN
  rw [List.take_length, nodup_count hn]
  split <;> omega
def wE (Q : List (List Int)) (p : Int) (i : Nat) : Nat := if Wait Q p i then 1 else 0
theorem cT_all {Q : List (List Int)} (hv : Inv Q) (p : Int) (i : Nat) : cT (qu Q i) p (qu Q i).length = wE Q p i := by
  unfold cT wE Wait
  rw [List.take_length, nodup_count]
  have := hv.once i
  cases hq : qu Q i with
  | nil => exact List.nodup_nil
  | cons a r => rw [hq] at this; exact (List.nodup_cons.1 this).2
/-- In how many of the first k queues it waits. -/
def tmL (Q : List (List Int)) (p : Int) : Nat → Nat
  | 0 => 0
  | k + 1 => tmL Q p k + wE Q p k
theorem tm_le {Q : List (List Int)} (hv : Inv Q) (p : Int) : ∀ k, tmL Q p k ≤ 1 ∧ (tmL Q p k = 1 ↔ ∃ i, i < k ∧ Wait Q p i)
  | 0 => ⟨Nat.zero_le _, ⟨fun h => (by cases h), fun ⟨i, h, _⟩ => (by omega)⟩⟩
  | k + 1 => by
    obtain ⟨h1, h2⟩ := tm_le hv p k
    show tmL Q p k + wE Q p k ≤ 1 ∧ (tmL Q p k + wE Q p k = 1 ↔ _)
    by_cases hw : Wait Q p k
    · have h3 : tmL Q p k = 0 := by
        rcases Nat.eq_zero_or_pos (tmL Q p k) with h | h
        · exact h
        · obtain ⟨i, hi, hw2⟩ := h2.1 (by omega)
          have := hv.one p i k hw2 hw
          omega
      have h4 : wE Q p k = 1 := if_pos hw
      exact ⟨by omega, ⟨fun _ => ⟨k, by omega, hw⟩, fun _ => by omega⟩⟩
    · have h4 : wE Q p k = 0 := if_neg hw
      refine ⟨by omega, ⟨fun h => ?_, fun ⟨i, hi, hw2⟩ => ?_⟩⟩
      · obtain ⟨i, hi, hw2⟩ := h2.1 (by omega)
        exact ⟨i, by omega, hw2⟩
      · have hik : i ≠ k := fun e => hw (e ▸ hw2)
        have := h2.2 ⟨i, by omega, hw2⟩
        omega
theorem tm_waits {Q : List (List Int)} (hv : Inv Q) (p : Int) : (tmL Q p Q.length == 1) = (waitsF Q p).isSome := by
  rw [Bool.eq_iff_iff, beq_iff_eq, (tm_le hv p Q.length).2]
  constructor
  · rintro ⟨i, _, hw⟩
    cases hc : waitsF Q p with
    | none => exact absurd hw (waits_none.1 hc i)
    | some j => rfl
  · intro h
    obtain ⟨j, hj⟩ := Option.isSome_iff_exists.1 h
    exact ⟨j, (waits_some hj).lt, waits_some hj⟩
def someB (Q : List (List Int)) (k : Nat) : Bool := (List.range k).any fun p => (waitsF Q (p : Int)).isSome
def goesB (Q : List (List Int)) (k : Nat) : Bool := (List.range k).any fun p => !(waitsF Q (p : Int)).isSome && decide (0 < (holdsL Q (p : Int)).length)
theorem some_succ (Q : List (List Int)) (k : Nat) : someB Q (k + 1) = (someB Q k || (waitsF Q (k : Int)).isSome) := by
  unfold someB
  rw [List.range_succ, List.any_append]; simp
theorem goes_succ (Q : List (List Int)) (k : Nat) : goesB Q (k + 1) = (goesB Q k || (!(waitsF Q (k : Int)).isSome && decide (0 < (holdsL Q (k : Int)).length))) := by
  unfold goesB
  rw [List.range_succ, List.any_append]; simp
theorem some_goes {Q : List (List Int)} (hn : Nm 8 Q) (h : someB Q 8 = true) : goesB Q 8 = true := by
  unfold someB at h
  rw [List.any_eq_true] at h
  obtain ⟨p, hp, hw⟩ := h
  obtain ⟨j, hj⟩ := Option.isSome_iff_exists.1 hw
  have hw := waits_some hj
  have hne : qu Q j ≠ [] := fun e => by unfold Wait at hw; rw [e] at hw; cases hw
  obtain ⟨x, i, h1, h2⟩ := hn.inv.moves hne
  have hr := hn.rng i x (mem_or.2 (.inl h1))
  obtain ⟨y, rfl⟩ := Int.eq_ofNat_of_zero_le hr.1
  unfold goesB
  rw [List.any_eq_true]
  refine ⟨y, List.mem_range.2 (by omega), ?_⟩
  rw [waits_none.2 h2]
  simp only [Option.isSome_none, Bool.not_false, Bool.true_and, decide_eq_true_eq]
  exact List.length_pos_of_mem (mem_holds.2 h1)
/-- What is held is below what is waited for; and rises. -/
theorem held_below {Q : List (List Int)} (hv : Inv Q) {p : Int} {v k : Nat} (hw : waitsF Q p = some v) (hk : k < (holdsL Q p).length) : (ni (holdsL Q p)).getD k 0 < (v : Int) := by
  rw [ni_get _ _ hk]
  have := hv.up p v _ (waits_some hw) (holds_lt hk).2
  omega
theorem held_rise {Q : List (List Int)} {p : Int} {k : Nat} (hk : k + 1 < (holdsL Q p).length) : (ni (holdsL Q p)).getD k 0 < (ni (holdsL Q p)).getD (k + 1) 0 := by
  rw [ni_get _ _ (by omega), ni_get _ _ hk, List.getD_eq_getElem?_getD, List.getD_eq_getElem?_getD, List.getElem?_eq_getElem (by omega), List.getElem?_eq_getElem hk]
  have := List.pairwise_iff_getElem.1 (holds_rise Q p) k (k + 1) (by omega) hk (by omega)
  simp only [Option.getD_some]
  omega
end Go.Proofs.Ythlodfahajaneaa
