/- What Want tells; steps; all who don't wait are freed until nobody is left. No program stands here. -/
import Derived.Test.YthlodfahajaneaaKm
set_option linter.unusedSimpArgs false
set_option linter.unusedVariables false
namespace Go.Proofs.Ythlodfahajaneaa.LockMath
/-- It holds a greater one. -/
def grB (Q : List (List Int)) (p : Int) (i : Nat) : Bool := (holdsL Q p).any fun j => decide (i < j)
theorem gr_iff {Q : List (List Int)} {p : Int} {i : Nat} : grB Q p i = true ↔ ∃ j, Hold Q p j ∧ i < j := by
  unfold grB
  rw [List.any_eq_true]
  constructor
  · rintro ⟨j, h1, h2⟩
    exact ⟨j, mem_holds.1 h1, of_decide_eq_true h2⟩
  · rintro ⟨j, h1, h2⟩
    exact ⟨j, mem_holds.2 h1, decide_eq_true h2⟩
theorem gr_last {Q : List (List Int)} {p : Int} {i k : Nat} (h : (holdsL Q p).length = k + 1) : grB Q p i = decide (i < (holdsL Q p).getD k 0) := by
  have hg : (holdsL Q p).getD k 0 = (holdsL Q p)[k]'(by omega) := by
    rw [List.getD_eq_getElem?_getD, List.getElem?_eq_getElem (by omega)]; rfl
  rw [hg]
  unfold grB
  cases hb : decide (i < (holdsL Q p)[k]'(by omega)) with
  | true =>
    rw [List.any_eq_true]
    exact ⟨_, List.getElem_mem (by omega), hb⟩
  | false =>
    rw [List.any_eq_false]
    intro j hj
    obtain ⟨m, hm, rfl⟩ := List.getElem_of_mem hj
    have hb := of_decide_eq_false hb
    rw [decide_eq_true_eq]
    rcases Nat.lt_or_ge m k with h1 | h1
    · have := List.pairwise_iff_getElem.1 (holds_rise Q p) m k hm (by omega) h1
      omega
    · obtain rfl : m = k := by omega
      exact hb
theorem gr_none {Q : List (List Int)} {p : Int} {i : Nat} (h : holdsL Q p = []) : grB Q p i = false := by unfold grB; rw [h]; rfl
/-- There are such a process and such a lock. -/
def okB (Q : List (List Int)) (n : Int) (p id : Int) : Bool := decide (0 ≤ p ∧ p < n ∧ 0 ≤ id ∧ id < (Q.length : Int))
def elseB (Q : List (List Int)) (p : Int) (i : Nat) : Bool := match waitsF Q p with
  | none => false
  | some j => decide (j ≠ i)
def wantE (Q : List (List Int)) (n p id : Int) : Int := if okB Q n p id then (if Hold Q p id.toNat then 0 else if elseB Q p id.toNat || grB Q p id.toNat then 6 else 0) else 2
def wantB (Q : List (List Int)) (n p id : Int) : Bool := if okB Q n p id then (if Hold Q p id.toNat then true else if elseB Q p id.toNat || grB Q p id.toNat then false else if (waitsF Q p).isSome then false else decide (qu Q id.toNat = [])) else false
def wantQ (Q : List (List Int)) (n p id : Int) : List (List Int) := if okB Q n p id then (if Hold Q p id.toNat then Q else if elseB Q p id.toNat || grB Q p id.toNat then Q else if (waitsF Q p).isSome then Q else Q.set id.toNat (qu Q id.toNat ++ [p])) else Q
def freeE (n p : Int) : Int := if 0 ≤ p ∧ p < n then 0 else 2
def freeQ' (Q : List (List Int)) (n p : Int) : List (List Int) := if 0 ≤ p ∧ p < n then freeQ Q p else Q
theorem want_len (Q : List (List Int)) (n p id : Int) : (wantQ Q n p id).length = Q.length := by
  unfold wantQ
  split
  · split
    · rfl
    · split
      · rfl
      · split
        · rfl
        · rw [List.length_set]
  · rfl
theorem ok_iff {Q : List (List Int)} {n p id : Int} : okB Q n p id = true ↔ 0 ≤ p ∧ p < n ∧ 0 ≤ id ∧ id < (Q.length : Int) := decide_eq_true_iff
/-- Each is a process. -/
def Rng (Q : List (List Int)) (n : Int) : Prop := ∀ i p, p ∈ qu Q i → 0 ≤ p ∧ p < n
theorem Rng.start (k : Nat) (n : Int) : Rng (List.replicate k []) n := fun i p h => by
  have e : qu (List.replicate k ([] : List Int)) i = [] := by
    unfold qu
    rw [List.getD_eq_getElem?_getD, List.getElem?_replicate]
    split <;> rfl
  rw [e] at h; cases h
theorem Rng.free {Q : List (List Int)} {n : Int} (h : Rng Q n) (p : Int) : Rng (freeQ Q p) n := fun i q hq => by
  rw [qu_free] at hq
  exact h i q (off_mem.1 hq).1
theorem Rng.want {Q : List (List Int)} {n : Int} (h : Rng Q n) (p id : Int) : Rng (wantQ Q n p id) n := by
  unfold wantQ
  split
  · rename_i hok
    split
    · exact h
    · split
      · exact h
      · split
        · exact h
        · intro i q hq
          rw [qu_set] at hq
          split at hq
          · rcases List.mem_append.1 hq with h1 | h1
            · exact h _ q h1
            · rw [List.mem_singleton] at h1
              subst h1
              have := ok_iff.1 hok
              omega
          · exact h i q hq
  · exact h
theorem Inv.wants {Q : List (List Int)} (h : Inv Q) (n p id : Int) : Inv (wantQ Q n p id) := by
  unfold wantQ
  split
  · rename_i hok
    split
    · exact h
    · rename_i hh
      split
      · exact h
      · rename_i hg
        split
        · exact h
        · rename_i hw
          have hok := ok_iff.1 hok
          refine h.want (by omega) ?_ fun j hj => ?_
          · rw [← waits_none]
            cases hx : waitsF Q p with
            | none => rfl
            | some j => rw [hx] at hw; exact absurd rfl hw
          · rw [Bool.or_eq_true, gr_iff] at hg
            rcases Nat.lt_trichotomy j id.toNat with h1 | h1 | h1
            · exact h1
            · subst h1
              exact absurd hj hh
            · exact absurd (.inr ⟨j, hj, h1⟩) hg
  · exact h
/-- Who asks again for what he has, or waits for, turns nothing. -/
theorem want_held {Q : List (List Int)} {n p : Int} {i : Nat} (hp : 0 ≤ p ∧ p < n) (h : Hold Q p i) : wantE Q n p (i : Int) = 0 ∧ wantB Q n p (i : Int) = true ∧ wantQ Q n p (i : Int) = Q := by
  have hok : okB Q n p (i : Int) = true := ok_iff.2 ⟨hp.1, hp.2, by omega, by have := h.lt; omega⟩
  have hh : Hold Q p ((i : Int)).toNat := by rw [Int.toNat_natCast]; exact h
  unfold wantE wantB wantQ
  rw [if_pos hok, if_pos hok, if_pos hok, if_pos hh, if_pos hh, if_pos hh]
  exact ⟨rfl, rfl, rfl⟩
theorem want_again {Q : List (List Int)} (hv : Inv Q) {n p : Int} {i : Nat} (hp : 0 ≤ p ∧ p < n) (h : waitsF Q p = some i) : wantE Q n p (i : Int) = 0 ∧ wantB Q n p (i : Int) = false ∧ wantQ Q n p (i : Int) = Q := by
  have hw := waits_some h
  have hok : okB Q n p (i : Int) = true := ok_iff.2 ⟨hp.1, hp.2, by omega, by have := hw.lt; omega⟩
  have hh : ¬ Hold Q p ((i : Int)).toNat := by
    rw [Int.toNat_natCast]
    intro hc
    exact absurd (hv.up p i i hw hc) (Nat.lt_irrefl _)
  have he : elseB Q p ((i : Int)).toNat = false := by
    rw [Int.toNat_natCast]
    unfold elseB
    rw [h]
    exact decide_eq_false (fun h => h rfl)
  have hg : grB Q p ((i : Int)).toNat = false := by
    rw [Int.toNat_natCast]
    cases hb : grB Q p i with
    | false => rfl
    | true =>
      obtain ⟨j, h1, h2⟩ := gr_iff.1 hb
      have := hv.up p i j hw h1
      omega
  unfold wantE wantB wantQ
  rw [if_pos hok, if_pos hok, if_pos hok, if_neg hh, if_neg hh, if_neg hh, he, hg, h]
  exact ⟨rfl, rfl, rfl⟩
theorem free_holds (Q : List (List Int)) (p : Int) : holdsL (freeQ Q p) p = [] := by
  cases hl : holdsL (freeQ Q p) p with
  | nil => rfl
  | cons i r =>
    exfalso
    have h : Hold (freeQ Q p) p i := mem_holds.1 (by rw [hl]; simp)
    have h2 := mem_or.2 (.inl h)
    rw [qu_free] at h2
    exact (off_mem.1 h2).2 rfl
/-! ### who is there, and who is left -/
def There (Q : List (List Int)) (p : Int) : Prop := ∃ i, i < Q.length ∧ p ∈ qu Q i
instance (Q : List (List Int)) (p : Int) : Decidable (There Q p) := by unfold There; infer_instance
def cntT (Q : List (List Int)) (m : Nat) : Nat := (List.range m).countP fun (p : Nat) => decide (There Q (p : Int))
theorem countP_less {l : List Nat} {f g : Nat → Bool} (h : ∀ x, f x = true → g x = true) {a : Nat} (ha : a ∈ l) (h1 : g a = true) (h2 : f a = false) : l.countP f + 1 ≤ l.countP g := by
  induction l with
  | nil => cases ha
  | cons x r ih =>
    rw [List.countP_cons, List.countP_cons]
    rcases List.mem_cons.1 ha with rfl | ha
    · have := List.countP_mono_left (l := r) (p := f) (q := g) (fun x _ hx => h x hx)
      rw [h1, h2]
      simp only [if_true]
      rw [if_neg (by decide)]
      omega
    · have := ih ha
      by_cases hf : f x = true
      · rw [if_pos hf, if_pos (h x hf)]; omega
      · rw [if_neg hf]; omega
theorem cnt_free {Q : List (List Int)} {m : Nat} {p : Int} (h0 : 0 ≤ p) (h1 : p < (m : Int)) (hp : There Q p) : cntT (freeQ Q p) m + 1 ≤ cntT Q m := by
  obtain ⟨k, rfl⟩ := Int.eq_ofNat_of_zero_le h0
  unfold cntT
  refine countP_less (a := k) (fun x hx => ?_) (List.mem_range.2 (by omega)) (decide_eq_true hp) ?_
  · have hx := of_decide_eq_true hx
    obtain ⟨i, hi, hm⟩ := hx
    rw [qu_free] at hm
    rw [free_len] at hi
    exact decide_eq_true ⟨i, hi, (off_mem.1 hm).1⟩
  · refine decide_eq_false ?_
    rintro ⟨i, hi, hm⟩
    rw [qu_free] at hm
    exact (off_mem.1 hm).2 rfl
theorem cnt_le (Q : List (List Int)) (m : Nat) : cntT Q m ≤ m := by
  have := List.countP_le_length (p := fun (p : Nat) => decide (There Q (p : Int))) (l := List.range m)
  rw [List.length_range] at this
  exact this
theorem cnt_zero {Q : List (List Int)} {m : Nat} (hr : Rng Q (m : Int)) (h : cntT Q m = 0) : ∀ i, qu Q i = [] := by
  intro i
  cases hl : qu Q i with
  | nil => rfl
  | cons p r =>
    exfalso
    have hm : p ∈ qu Q i := by rw [hl]; simp
    obtain ⟨h0, h1⟩ := hr i p hm
    obtain ⟨k, rfl⟩ := Int.eq_ofNat_of_zero_le h0
    have hi : i < Q.length := by
      rcases Nat.lt_or_ge i Q.length with h2 | h2
      · exact h2
      · rw [qu_out h2] at hl; cases hl
    have := List.countP_eq_zero.1 h k (List.mem_range.2 (by omega))
    exact this (decide_eq_true ⟨i, hi, hm⟩)
/-- One lock's story: whom it had, who is there, who was told. -/
structure Tale (o d q g : List Int) : Prop where
  all : o = d ++ q
  once : o.Nodup
  told : g = d ∨ g = d ++ q.take 1
def tell (g q : List Int) : List Int := match q.head? with
  | none => g
  | some p => if g = [] ∨ g.getLast? ≠ some p then g ++ [p] else g
theorem Tale.start {o : List Int} (h : o.Nodup) : Tale o [] o [] := ⟨rfl, h, .inl rfl⟩
theorem Tale.tell {o d q g : List Int} (h : Tale o d q g) : tell g q = d ++ q.take 1 := by
  unfold LockMath.tell
  cases q with
  | nil =>
    rcases h.told with e | e
    · rw [e]; simp
    · rw [e]; simp
  | cons p r =>
    have hn := h.once
    rw [h.all] at hn
    rcases h.told with e | e
    · have hp : p ∉ d := fun hd => (List.nodup_append.1 hn).2.2 p hd p (by simp) rfl
      have hc : g = [] ∨ g.getLast? ≠ some p := by
        refine .inr fun hl => hp ?_
        rw [← e]
        exact List.mem_of_getLast? hl
      show (if g = [] ∨ g.getLast? ≠ some p then g ++ [p] else g) = _
      rw [if_pos hc, e]; rfl
    · have hc : ¬ (g = [] ∨ g.getLast? ≠ some p) := by
        rw [e]
        rintro (h1 | h1)
        · simp at h1
        · exact h1 (by simp)
      show (if g = [] ∨ g.getLast? ≠ some p then g ++ [p] else g) = _
      rw [if_neg hc, e]
/-- One is freed who does not wait. -/
theorem Tale.free {o d q : List Int} {p : Int} (h : Tale o d q (d ++ q.take 1)) (hw : p ∉ q.tail) : ∃ d', Tale o d' (offQ p q) (d ++ q.take 1) := by
  have hq : q.Nodup := by
    have := h.once
    rw [h.all] at this
    exact (List.nodup_append.1 this).2.1
  rw [off_front hq hw]
  by_cases c : q.head? = some p
  · rw [if_pos c]
    cases q with
    | nil => cases c
    | cons a r => exact ⟨d ++ [a], ⟨by rw [h.all]; simp, h.once, .inl rfl⟩⟩
  · rw [if_neg c]
    exact ⟨d, h.all, h.once, .inr rfl⟩
theorem Tale.done {o d g : List Int} (h : Tale o d [] g) : g = o := by
  rw [h.all]
  rcases h.told with e | e <;> rw [e] <;> simp
end Go.Proofs.Ythlodfahajaneaa.LockMath
