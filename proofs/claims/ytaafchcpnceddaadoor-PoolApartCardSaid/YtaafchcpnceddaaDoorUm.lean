/- Numbers that are free, or taken, over rows of bits: taking, dropping, what is free. No program stands here. -/
import Derived.Test.YtaafchcpnceddaaDoorTakesMath
set_option linter.unusedSimpArgs false
set_option linter.unusedVariables false
namespace Go.Proofs.YtaafchcpnceddaaDoor.WordMath
/-- A row with bit i off. -/
def clrL (l : List Nat) (i : Nat) : List Nat := l.set (i / 64) (put (l.getD (i / 64) 0) (i % 64) 1 0)
theorem clrL_len (l : List Nat) (i : Nat) : (clrL l i).length = l.length := by simp [clrL]
theorem bitL_clr (l : List Nat) (i j : Nat) (hi : i / 64 < l.length) : bitL (clrL l i) j = if j = i then 0 else bitL l j := by
  unfold bitL clrL
  rw [getD_set]
  by_cases h : i / 64 = j / 64
  · rw [if_pos ⟨h, hi⟩]
    by_cases h2 : j = i
    · subst h2
      rw [if_pos rfl, bit_put_in _ _ _ _ _ (by decide) (Nat.le_refl _) (by omega), Nat.sub_self]; rfl
    · rw [if_neg h2, bit_put_out _ _ _ _ _ (by decide) (by omega), h]
  · rw [if_neg (fun hh => h hh.1), if_neg (by rintro rfl; exact h rfl)]
/-- All words are words. -/
def WdL (l : List Nat) : Prop := ∀ k, l.getD k 0 < 18446744073709551616
theorem wd_put {l : List Nat} (h : WdL l) (i v : Nat) (hv : v < 2) : WdL (l.set (i / 64) (put (l.getD (i / 64) 0) (i % 64) 1 v)) := fun k => by
  rw [getD_set]
  split
  · exact put_lt _ _ _ _ (by omega) (h _) (by omega)
  · exact h k
theorem wd_on {l : List Nat} (h : WdL l) (i : Nat) : WdL (onL l i) := wd_put h i 1 (by decide)
theorem wd_clr {l : List Nat} (h : WdL l) (i : Nat) : WdL (clrL l i) := wd_put h i 0 (by decide)
/-- Two words with the same bits are one. -/
theorem word_ext {a b : Nat} (ha : a < 18446744073709551616) (hb : b < 18446744073709551616) (h : ∀ j, j < 64 → bitN a j = bitN b j) : a = b := by
  refine Nat.eq_of_testBit_eq fun i => ?_
  by_cases hi : i < 64
  · have := h i hi
    rw [bitN_testBit, bitN_testBit] at this
    revert this
    cases a.testBit i <;> cases b.testBit i <;> simp
  · have hp : 18446744073709551616 ≤ 2 ^ i := by
      have : (2 : Nat) ^ 64 ≤ 2 ^ i := Nat.pow_le_pow_right (by decide) (by omega)
      simpa using this
    rw [Nat.testBit_lt_two_pow (Nat.lt_of_lt_of_le ha hp), Nat.testBit_lt_two_pow (Nat.lt_of_lt_of_le hb hp)]
/-- Two rows with the same bits are one. -/
theorem row_ext {l m : List Nat} (hn : l.length = m.length) (hl : WdL l) (hm : WdL m) (h : ∀ j, j < 64 * l.length → bitL l j = bitL m j) : l = m := by
  refine List.ext_getElem? fun k => ?_
  by_cases hk : k < l.length
  · have e : l.getD k 0 = m.getD k 0 := word_ext (hl k) (hm k) fun j hj => by
      have := h (64 * k + j) (by omega)
      rwa [bitL_at _ _ _ hj, bitL_at _ _ _ hj] at this
    rw [List.getD_eq_getElem?_getD, List.getD_eq_getElem?_getD, List.getElem?_eq_getElem hk, List.getElem?_eq_getElem (by omega)] at e
    rw [List.getElem?_eq_getElem hk, List.getElem?_eq_getElem (by omega)]
    exact congrArg some e
  · rw [List.getElem?_eq_none (by omega), List.getElem?_eq_none (by omega)]
/-- Several bits turned on, or off, one behind the other. -/
def onsL (l : List Nat) (is : List Nat) : List Nat := is.foldl onL l
def clrsL (l : List Nat) (is : List Nat) : List Nat := is.foldl clrL l
theorem onsL_len (is : List Nat) : ∀ l : List Nat, (onsL l is).length = l.length := by
  induction is with
  | nil => intro l; rfl
  | cons i r ih => intro l; exact (ih (onL l i)).trans (onL_len l i)
theorem clrsL_len (is : List Nat) : ∀ l : List Nat, (clrsL l is).length = l.length := by
  induction is with
  | nil => intro l; rfl
  | cons i r ih => intro l; exact (ih (clrL l i)).trans (clrL_len l i)
theorem wd_ons (is : List Nat) : ∀ {l : List Nat}, WdL l → WdL (onsL l is) := by
  induction is with
  | nil => intro l h; exact h
  | cons i r ih => intro l h; exact ih (wd_on h i)
theorem wd_clrs (is : List Nat) : ∀ {l : List Nat}, WdL l → WdL (clrsL l is) := by
  induction is with
  | nil => intro l h; exact h
  | cons i r ih => intro l h; exact ih (wd_clr h i)
theorem bitL_ons (is : List Nat) : ∀ (l : List Nat), (∀ i ∈ is, i / 64 < l.length) → ∀ j, bitL (onsL l is) j = if j ∈ is then 1 else bitL l j := by
  induction is with
  | nil => intro l _ j; simp [onsL]
  | cons i r ih =>
    intro l h j
    have h1 := ih (onL l i) (fun k hk => by rw [onL_len]; exact h k (by simp [hk])) j
    show bitL (onsL (onL l i) r) j = _
    rw [h1, bitL_on l i j (h i (by simp))]
    by_cases hr : j ∈ r
    · simp [hr]
    · by_cases hj : j = i
      · simp [hj]
      · simp [hr, hj]
theorem bitL_clrs (is : List Nat) : ∀ (l : List Nat), (∀ i ∈ is, i / 64 < l.length) → ∀ j, bitL (clrsL l is) j = if j ∈ is then 0 else bitL l j := by
  induction is with
  | nil => intro l _ j; simp [clrsL]
  | cons i r ih =>
    intro l h j
    have h1 := ih (clrL l i) (fun k hk => by rw [clrL_len]; exact h k (by simp [hk])) j
    show bitL (clrsL (clrL l i) r) j = _
    rw [h1, bitL_clr l i j (h i (by simp))]
    by_cases hr : j ∈ r
    · simp [hr]
    · by_cases hj : j = i
      · simp [hj]
      · simp [hr, hj]
/-- Those bits below n that are 0, rising; their number. -/
def freesL (l : List Nat) (n : Nat) : List Nat := (List.range n).filter fun i => bitL l i == 0
theorem frees_succ (l : List Nat) (n : Nat) : freesL l (n + 1) = if bitL l n = 0 then freesL l n ++ [n] else freesL l n := by
  unfold freesL
  rw [List.range_succ, List.filter_append]
  by_cases h : bitL l n = 0
  · rw [if_pos h]; simp [h]
  · rw [if_neg h]; simp [h]
theorem frees_len (l : List Nat) (n : Nat) : (freesL l n).length + cnt l n = n := by
  induction n with
  | zero => rfl
  | succ n ih =>
    rw [frees_succ]
    have h2 := bitL_lt l n
    simp only [cnt]
    split
    · rw [List.length_append, List.length_singleton]; omega
    · omega
theorem mem_frees {l : List Nat} {n i : Nat} : i ∈ freesL l n ↔ i < n ∧ bitL l i = 0 := by
  unfold freesL
  rw [List.mem_filter, List.mem_range, beq_iff_eq]
/-- What is taken: the first k of these. -/
def tookL (l : List Nat) (n k : Nat) : List Nat := (freesL l n).take k
theorem mem_took {l : List Nat} {n k i : Nat} (h : i ∈ tookL l n k) : i < n ∧ bitL l i = 0 := mem_frees.1 (List.mem_of_mem_take h)
theorem took_len {l : List Nat} {n k : Nat} (h : k ≤ (freesL l n).length) : (tookL l n k).length = k := by
  unfold tookL
  rw [List.length_take]
  omega
/-- Rising; and between one and the next nothing is free. -/
theorem frees_rise (l : List Nat) (n : Nat) : (freesL l n).Pairwise (· < ·) := List.Pairwise.filter _ (List.pairwise_lt_range (n := n))
theorem took_rise (l : List Nat) (n k : Nat) : (tookL l n k).Pairwise (· < ·) := (frees_rise l n).sublist (List.take_sublist _ _)
theorem frees_at (l : List Nat) (n : Nat) : ∀ (j i : Nat), (freesL l n)[j]? = some i → ∀ m, m < i → bitL l m = 0 → ∃ j', j' < j ∧ (freesL l n)[j']? = some m := by
  intro j i hj m hm h0
  have hi := (List.getElem?_eq_some_iff.1 hj)
  obtain ⟨hjl, hji⟩ := hi
  have him : i < n := (mem_frees.1 (List.mem_of_getElem? hj)).1
  have hmem : m ∈ freesL l n := mem_frees.2 ⟨by omega, h0⟩
  obtain ⟨j', hj'⟩ := List.getElem?_of_mem hmem
  refine ⟨j', ?_, hj'⟩
  rcases Nat.lt_or_ge j' j with hlt | hge
  · exact hlt
  · exfalso
    obtain ⟨h1, h2⟩ := List.getElem?_eq_some_iff.1 hj'
    rcases Nat.lt_or_eq_of_le hge with hgt | heq
    · have := List.pairwise_iff_getElem.1 (frees_rise l n) j j' hjl h1 hgt
      omega
    · subst heq
      omega
/-- How many are 1 behind bits that were 0, each once, were turned on. -/
theorem cnt_ons (is : List Nat) : ∀ (l : List Nat) (n : Nat), is.Nodup → (∀ i ∈ is, i / 64 < l.length ∧ i < n ∧ bitL l i = 0) → cnt (onsL l is) n = cnt l n + is.length := by
  induction is with
  | nil => intro l n _ _; rfl
  | cons i r ih =>
    intro l n hd h
    obtain ⟨h1, h2, h3⟩ := h i (by simp)
    rw [List.nodup_cons] at hd
    have h4 := ih (onL l i) n hd.2 (fun k hk => by
      obtain ⟨k1, k2, k3⟩ := h k (by simp [hk])
      refine ⟨by rw [onL_len]; exact k1, k2, ?_⟩
      rw [bitL_on l i k h1, if_neg (by rintro rfl; exact hd.1 hk)]
      exact k3)
    show cnt (onsL (onL l i) r) n = _
    rw [h4, cnt_on l i n h1 h2 h3, List.length_cons]
    omega
theorem took_nodup (l : List Nat) (n k : Nat) : (tookL l n k).Nodup := (took_rise l n k).imp (fun h => Nat.ne_of_lt h)
/-- What was taken is dropped again, in whatever order: the row is what it was. -/
theorem took_back {l : List Nat} {n k : Nat} (hl : WdL l) (hn : n ≤ 64 * l.length) (is : List Nat) (hp : ∀ i, i ∈ is ↔ i ∈ tookL l n k) : clrsL (onsL l (tookL l n k)) is = l := by
  have hb : ∀ i ∈ tookL l n k, i / 64 < l.length := fun i hi => by have := (mem_took hi).1; omega
  have hb2 : ∀ i ∈ is, i / 64 < (onsL l (tookL l n k)).length := fun i hi => by rw [onsL_len]; exact hb i ((hp i).1 hi)
  refine row_ext (by rw [clrsL_len, onsL_len]) (wd_clrs _ (wd_ons _ hl)) hl fun j _ => ?_
  rw [bitL_clrs is _ hb2, bitL_ons _ _ hb]
  by_cases h : j ∈ tookL l n k
  · rw [if_pos ((hp j).2 h), (mem_took h).2]
  · rw [if_neg (fun h2 => h ((hp j).1 h2)), if_neg h]
theorem cnt_took {l : List Nat} {n k : Nat} (hn : n ≤ 64 * l.length) (hk : k ≤ (freesL l n).length) : cnt (onsL l (tookL l n k)) n = cnt l n + k := by
  rw [cnt_ons _ _ _ (took_nodup l n k) (fun i hi => by
    obtain ⟨h1, h2⟩ := mem_took hi
    exact ⟨by omega, h1, h2⟩), took_len hk]
/-- Dropping: where each is 1 as it comes up (so none comes up twice), the row without them. -/
def dropB (l : List Nat) : List Nat → Bool
  | [] => true
  | i :: r => decide (bitL l i = 1) && dropB (clrL l i) r
theorem dropB_iff (is : List Nat) : ∀ (l : List Nat), (∀ i ∈ is, i / 64 < l.length) → (dropB l is = true ↔ is.Nodup ∧ ∀ i ∈ is, bitL l i = 1) := by
  induction is with
  | nil => intro l _; simp [dropB]
  | cons i r ih =>
    intro l h
    have hi := h i (by simp)
    have h1 := ih (clrL l i) (fun k hk => by rw [clrL_len]; exact h k (by simp [hk]))
    simp only [dropB, Bool.and_eq_true, decide_eq_true_eq, List.nodup_cons, h1]
    constructor
    · rintro ⟨h2, h3, h4⟩
      have hir : i ∉ r := fun hm => by
        have := h4 i hm
        rw [bitL_clr l i i hi, if_pos rfl] at this
        cases this
      refine ⟨⟨hir, h3⟩, fun k hk => ?_⟩
      rcases List.mem_cons.1 hk with rfl | hk2
      · exact h2
      · have := h4 k hk2
        rwa [bitL_clr l i k hi, if_neg (by rintro rfl; exact hir hk2)] at this
    · rintro ⟨⟨h2, h3⟩, h4⟩
      refine ⟨h4 i (by simp), h3, fun k hk => ?_⟩
      rw [bitL_clr l i k hi, if_neg (by rintro rfl; exact h2 hk)]
      exact h4 k (by simp [hk])
theorem drop_took {l : List Nat} {n k : Nat} (hn : n ≤ 64 * l.length) (is : List Nat) (hd : is.Nodup) (hp : ∀ i, i ∈ is ↔ i ∈ tookL l n k) : dropB (onsL l (tookL l n k)) is = true := by
  have hb : ∀ i ∈ tookL l n k, i / 64 < l.length := fun i hi => by have := (mem_took hi).1; omega
  refine (dropB_iff is _ fun i hi => by rw [onsL_len]; exact hb i ((hp i).1 hi)).2 ⟨hd, fun i hi => ?_⟩
  rw [bitL_ons _ _ hb, if_pos ((hp i).1 hi)]
/-- How many are 1 behind bits that were 1, each once, were turned off. -/
theorem cnt_clr (l : List Nat) (i m : Nat) (hi : i / 64 < l.length) (hm : i < m) (h0 : bitL l i = 1) : cnt (clrL l i) m + 1 = cnt l m := by
  induction m with
  | zero => omega
  | succ m ih =>
    simp only [cnt]
    by_cases h : i < m
    · have := ih h
      rw [bitL_clr _ _ _ hi, if_neg (by omega)]; omega
    · obtain rfl : m = i := by omega
      rw [bitL_clr _ _ _ hi, if_pos rfl, h0, cnt_congr _ l m fun j hj => by rw [bitL_clr _ _ _ hi, if_neg (by omega)]]
theorem cnt_clrs (is : List Nat) : ∀ (l : List Nat) (n : Nat), is.Nodup → (∀ i ∈ is, i / 64 < l.length ∧ i < n ∧ bitL l i = 1) → cnt (clrsL l is) n + is.length = cnt l n := by
  induction is with
  | nil => intro l n _ _; rfl
  | cons i r ih =>
    intro l n hd h
    obtain ⟨h1, h2, h3⟩ := h i (by simp)
    rw [List.nodup_cons] at hd
    have h4 := ih (clrL l i) n hd.2 (fun k hk => by
      obtain ⟨k1, k2, k3⟩ := h k (by simp [hk])
      refine ⟨by rw [clrL_len]; exact k1, k2, ?_⟩
      rw [bitL_clr l i k h1, if_neg (by rintro rfl; exact hd.1 hk)]
      exact k3)
    have h5 := cnt_clr l i n h1 h2 h3
    show cnt (clrsL (clrL l i) r) n + (r.length + 1) = _
    omega
/-- The words that differ, as far as both rows go. -/
def turnedL (a b : List Nat) : List Nat := (List.range (min a.length b.length)).filter fun i => a.getD i 0 != b.getD i 0
theorem turned_comm (a b : List Nat) : turnedL b a = turnedL a b := by
  unfold turnedL
  rw [Nat.min_comm]
  refine List.filter_congr fun i _ => ?_
  rw [Bool.eq_iff_iff, bne_iff_ne, bne_iff_ne]
  exact ne_comm
theorem turned_self (a : List Nat) : turnedL a a = [] := by
  unfold turnedL
  rw [List.filter_eq_nil_iff]
  intro i _
  simp
theorem mem_turned {a b : List Nat} {i : Nat} : i ∈ turnedL a b ↔ i < a.length ∧ i < b.length ∧ a.getD i 0 ≠ b.getD i 0 := by
  unfold turnedL
  rw [List.mem_filter, List.mem_range, bne_iff_ne, Nat.lt_min, and_assoc]
theorem turned_rise (a b : List Nat) : (turnedL a b).Pairwise (· < ·) := List.Pairwise.filter _ (List.pairwise_lt_range (n := min a.length b.length))
/-- Between two that are taken one behind the other, and ahead of the first one, nothing is free. -/
theorem took_gap {l : List Nat} {n k j i : Nat} (h : (tookL l n k)[j]? = some i) (m : Nat) (hm : m < i) (hlast : ∀ j' i', j' < j → (tookL l n k)[j']? = some i' → i' < m) : bitL l m = 1 := by
  have hj : j < (tookL l n k).length := (List.getElem?_eq_some_iff.1 h).1
  have htk : ∀ j', j' ≤ j → (tookL l n k)[j']? = (freesL l n)[j']? := fun j' hj' => by
    unfold tookL at hj ⊢
    rw [List.length_take] at hj
    rw [List.getElem?_take_of_lt (by omega)]
  rw [htk j (Nat.le_refl _)] at h
  have h2 := bitL_lt l m
  by_cases h0 : bitL l m = 0
  · obtain ⟨j', hlt, hj'⟩ := frees_at l n j i h m hm h0
    have := hlast j' m hlt (by rw [htk j' (by omega)]; exact hj')
    omega
  · omega
/-- The first k, one by one. -/
theorem took_succ {l : List Nat} {n k i : Nat} (h : (freesL l n)[k]? = some i) : tookL l n (k + 1) = tookL l n k ++ [i] := by
  unfold tookL
  rw [List.take_add_one, h]
  rfl
/-- Below i one more number is asked: what is taken of those below it. -/
theorem took_low (l : List Nat) (i k : Nat) : tookL l (i + 1) k = if bitL l i = 0 ∧ (tookL l i k).length < k then tookL l i k ++ [i] else tookL l i k := by
  unfold tookL
  rw [frees_succ]
  by_cases h : bitL l i = 0
  · rw [if_pos h, List.take_append, List.length_take]
    by_cases hk : (freesL l i).length < k
    · rw [if_pos ⟨h, by omega⟩, List.take_of_length_le (show [i].length ≤ k - (freesL l i).length by simp; omega)]
    · rw [if_neg (fun hh => by omega), show k - (freesL l i).length = 0 by omega]
      simp
  · rw [if_neg h, if_neg (fun hh => h hh.1)]
end Go.Proofs.YtaafchcpnceddaaDoor.WordMath
