/- Numbers that are held, list by list, over a row: nobody has a number that another one has. No program stands here. -/
import Derived.Test.YtaafchcpnceddaaDoorUm
set_option linter.unusedSimpArgs false
set_option linter.unusedVariables false
namespace Go.Proofs.YtaafchcpnceddaaDoor.WordMath
/-- The lists of H are what is taken of the n numbers: each number in one of them, once. -/
structure Held (n : Nat) (row : List Nat) (H : List (List Nat)) : Prop where
  big : n ≤ 64 * row.length
  wd : WdL row
  nd : H.flatten.Nodup
  mem : ∀ i, i ∈ H.flatten ↔ 1 ≤ i ∧ i ≤ n ∧ bitL row (i - 1) = 1
theorem bitL_zeros (k i : Nat) : bitL (List.replicate k 0) i = 0 := by
  have e : (List.replicate k 0).getD (i / 64) 0 = 0 := by
    rw [List.getD_eq_getElem?_getD, List.getElem?_replicate]
    split <;> rfl
  unfold bitL bitN
  rw [e, Nat.zero_div]
theorem Held.start (n k : Nat) (hn : n ≤ 64 * k) : Held n (List.replicate k 0) [] :=
  ⟨by rw [List.length_replicate]; exact hn, fun j => by
    rw [List.getD_eq_getElem?_getD, List.getElem?_replicate]
    split <;> decide, by simp, fun i => by
    rw [bitL_zeros]
    simp⟩
/-- Those bits below n that are 1. -/
def takensL (l : List Nat) (n : Nat) : List Nat := (List.range n).filter fun i => bitL l i == 1
theorem takens_len (l : List Nat) (n : Nat) : (takensL l n).length = cnt l n := by
  induction n with
  | zero => rfl
  | succ n ih =>
    have h2 := bitL_lt l n
    unfold takensL at ih ⊢
    rw [List.range_succ, List.filter_append, List.length_append, ih]
    simp only [cnt]
    by_cases h : bitL l n = 1
    · simp [h]
    · have h0 : bitL l n = 0 := by omega
      simp [h0]
theorem mem_takens {l : List Nat} {n i : Nat} : i ∈ takensL l n ↔ i < n ∧ bitL l i = 1 := by
  unfold takensL
  rw [List.mem_filter, List.mem_range, beq_iff_eq]
theorem succ_nodup {l : List Nat} (h : l.Nodup) : (l.map (· + 1)).Nodup := by
  refine List.Pairwise.map _ (fun a b hab => ?_) h
  omega
theorem mem_succ {l : List Nat} {i : Nat} : i ∈ l.map (· + 1) ↔ 1 ≤ i ∧ i - 1 ∈ l := by
  rw [List.mem_map]
  constructor
  · rintro ⟨a, ha, rfl⟩
    exact ⟨by omega, by simpa using ha⟩
  · rintro ⟨h1, h2⟩
    exact ⟨i - 1, h2, by omega⟩
theorem takens_nodup (l : List Nat) (n : Nat) : (takensL l n).Nodup := (List.Pairwise.filter _ (List.pairwise_lt_range (n := n))).imp (fun h => Nat.ne_of_lt h)
/-- How many are held: the row's own number. -/
theorem Held.count {n : Nat} {row : List Nat} {H : List (List Nat)} (h : Held n row H) : H.flatten.length = cnt row n := by
  have hp : H.flatten.Perm ((takensL row n).map (· + 1)) := (List.perm_ext_iff_of_nodup h.nd (succ_nodup (takens_nodup row n))).2 fun i => by
    rw [h.mem, mem_succ, mem_takens]
    constructor
    · rintro ⟨h1, h2, h3⟩
      exact ⟨h1, by omega, h3⟩
    · rintro ⟨h1, h2, h3⟩
      exact ⟨h1, by omega, h3⟩
  rw [hp.length_eq, List.length_map, takens_len]
theorem Held.free {n : Nat} {row : List Nat} {H : List (List Nat)} (h : Held n row H) : (freesL row n).length = n - H.flatten.length := by
  have := frees_len row n
  rw [h.count]
  omega
/-- Taking more. -/
theorem Held.take {n k : Nat} {row : List Nat} {H : List (List Nat)} (h : Held n row H) : Held n (onsL row (tookL row n k)) (H ++ [(tookL row n k).map (· + 1)]) := by
  have hbig := h.big
  have hb : ∀ i ∈ tookL row n k, i / 64 < row.length := fun i hi => by have := (mem_took hi).1; omega
  have hf : (H ++ [(tookL row n k).map (· + 1)]).flatten = H.flatten ++ (tookL row n k).map (· + 1) := by
    rw [List.flatten_append]
    simp
  refine ⟨by rw [onsL_len]; exact h.big, wd_ons _ h.wd, ?_, fun i => ?_⟩
  · rw [hf, List.nodup_append]
    refine ⟨h.nd, succ_nodup (took_nodup row n k), fun a ha b hb2 hab => ?_⟩
    subst hab
    have h1 := ((h.mem a).1 ha).2.2
    have h2 := (mem_took (mem_succ.1 hb2).2).2
    omega
  · rw [hf, List.mem_append, h.mem, mem_succ, bitL_ons _ _ hb]
    constructor
    · rintro (⟨h1, h2, h3⟩ | ⟨h1, h2⟩)
      · exact ⟨h1, h2, by split; rfl; exact h3⟩
      · have := (mem_took h2).1
        exact ⟨h1, by omega, by rw [if_pos h2]⟩
    · rintro ⟨h1, h2, h3⟩
      by_cases hi : i - 1 ∈ tookL row n k
      · exact .inr ⟨h1, hi⟩
      · rw [if_neg hi] at h3
        exact .inl ⟨h1, h2, h3⟩
/-- Nobody has them yet. -/
theorem Held.fresh {n k i : Nat} {row : List Nat} {H : List (List Nat)} (h : Held n row H) (hi : i ∈ (tookL row n k).map (· + 1)) : 1 ≤ i ∧ i ≤ n ∧ i ∉ H.flatten := by
  obtain ⟨h1, h2⟩ := mem_succ.1 hi
  obtain ⟨h3, h4⟩ := mem_took h2
  exact ⟨h1, by omega, fun hm => by
    have := ((h.mem i).1 hm).2.2
    omega⟩
/-- Dropping one of the lists. -/
theorem Held.drop {n k : Nat} {row : List Nat} {H : List (List Nat)} (h : Held n row H) (t : List Nat) (ht : H[k]? = some t) : Held n (clrsL row (t.map (· - 1))) (H.take k ++ H.drop (k + 1)) := by
  have hk := (List.getElem?_eq_some_iff.1 ht).1
  have hsplit : H = H.take k ++ t :: H.drop (k + 1) := by
    have e : H[k] = t := (List.getElem?_eq_some_iff.1 ht).2
    rw [← e, List.getElem_cons_drop, List.take_append_drop]
  have hfl : H.flatten = (H.take k).flatten ++ (t ++ (H.drop (k + 1)).flatten) := by
    conv => lhs; rw [hsplit]
    rw [List.flatten_append, List.flatten_cons]
  have hnd := h.nd
  rw [hfl, List.nodup_append, List.nodup_append] at hnd
  obtain ⟨n1, ⟨n2, n3, n23⟩, n123⟩ := hnd
  have hmem : ∀ i, i ∈ t → 1 ≤ i ∧ i ≤ n ∧ bitL row (i - 1) = 1 := fun i hi => (h.mem i).1 (by rw [hfl]; simp [hi])
  have hbig := h.big
  have hb : ∀ i ∈ t.map (· - 1), i / 64 < row.length := fun i hi => by
    obtain ⟨a, ha, rfl⟩ := List.mem_map.1 hi
    have := hmem a ha
    omega
  have hfe : (H.take k ++ H.drop (k + 1)).flatten = (H.take k).flatten ++ (H.drop (k + 1)).flatten := List.flatten_append
  have hpred : ∀ i, 1 ≤ i → (i - 1 ∈ t.map (· - 1) ↔ i ∈ t) := fun i h1 => by
    rw [List.mem_map]
    constructor
    · rintro ⟨a, ha, he⟩
      have := hmem a ha
      rwa [show i = a by omega]
    · intro hi
      exact ⟨i, hi, rfl⟩
  refine ⟨by rw [clrsL_len]; exact h.big, wd_clrs _ h.wd, ?_, fun i => ?_⟩
  · rw [hfe, List.nodup_append]
    exact ⟨n1, n3, fun a ha b hb2 => n123 a ha b (by simp [hb2])⟩
  · rw [hfe, bitL_clrs _ _ hb]
    constructor
    · intro hi
      have h0 : i ∈ H.flatten := by
        rw [hfl]
        rcases List.mem_append.1 hi with hi | hi
        · simp [hi]
        · simp [hi]
      obtain ⟨h1, h2, h3⟩ := (h.mem i).1 h0
      have hnt : i ∉ t := fun hit => by
        rcases List.mem_append.1 hi with hi | hi
        · exact n123 i hi i (by simp [hit]) rfl
        · exact n23 i hit i hi rfl
      exact ⟨h1, h2, by rw [if_neg (fun hh => hnt ((hpred i h1).1 hh))]; exact h3⟩
    · rintro ⟨h1, h2, h3⟩
      have hnt : i ∉ t := fun hit => by
        rw [if_pos ((hpred i h1).2 hit)] at h3
        cases h3
      rw [if_neg (fun hh => hnt ((hpred i h1).1 hh))] at h3
      have h0 := (h.mem i).2 ⟨h1, h2, h3⟩
      rw [hfl] at h0
      rcases List.mem_append.1 h0 with h0 | h0
      · exact List.mem_append.2 (.inl h0)
      · rcases List.mem_append.1 h0 with h0 | h0
        · exact absurd h0 hnt
        · exact List.mem_append.2 (.inr h0)
/-- It may be dropped: each of them is taken as it comes up. -/
theorem Held.drops {n k : Nat} {row : List Nat} {H : List (List Nat)} (h : Held n row H) (t : List Nat) (ht : H[k]? = some t) : dropB row (t.map (· - 1)) = true ∧ (∀ i ∈ t, 1 ≤ i ∧ i ≤ n) := by
  have htm : ∀ i, i ∈ t → i ∈ H.flatten := fun i hi => List.mem_flatten.2 ⟨t, List.mem_of_getElem? ht, hi⟩
  have hmem : ∀ i, i ∈ t → 1 ≤ i ∧ i ≤ n ∧ bitL row (i - 1) = 1 := fun i hi => (h.mem i).1 (htm i hi)
  have hbig := h.big
  have htn : t.Nodup := h.nd.sublist (List.sublist_flatten_of_mem (List.mem_of_getElem? ht))
  refine ⟨(dropB_iff _ row fun i hi => ?_).2 ⟨?_, fun i hi => ?_⟩, fun i hi => ⟨(hmem i hi).1, (hmem i hi).2.1⟩⟩
  · obtain ⟨a, ha, rfl⟩ := List.mem_map.1 hi
    have := hmem a ha
    omega
  · refine List.pairwise_map.2 ((List.pairwise_iff_forall_sublist.2 fun {a b} hab => ?_))
    have ha : a ∈ t := hab.subset (by simp)
    have hb : b ∈ t := hab.subset (by simp)
    have hne : a ≠ b := by
      have := List.pairwise_iff_forall_sublist.1 htn hab
      exact this
    have h1 := (hmem a ha).1
    have h2 := (hmem b hb).1
    omega
  · obtain ⟨a, ha, rfl⟩ := List.mem_map.1 hi
    exact (hmem a ha).2.2
end Go.Proofs.YtaafchcpnceddaaDoor.WordMath
