/- The list of all regions, region by region; where each begins. -/
import Derived.Test.YthimikdhdcjneaaGeoRef3
namespace Go.Proofs.Ythimikdhdcjneaa
theorem allL_length (P I B : Nat) : (allL P I B).length = 2 + I + P + B := by
  simp [allL, headL, inoL_length, slotL_length, blkL_length]
  omega
theorem inoL_get (i k : Nat) (h : k < i) : (inoL i).getD k sp0 = ⟨3, k + 1, 8⟩ := by simp [inoL, List.getD_eq_getElem?_getD, h]
theorem slotL_get (i k : Nat) (h : k < i) : (slotL i).getD k sp0 = ⟨4, k, 136⟩ := by simp [slotL, List.getD_eq_getElem?_getD, h]
theorem blkL_get (i k : Nat) (h : k < i) : (blkL i).getD k sp0 = ⟨5, k + 1, 32⟩ := by simp [blkL, List.getD_eq_getElem?_getD, h]
theorem getD_left {L M : List Sp} {k : Nat} (h : k < L.length) : (L ++ M).getD k sp0 = L.getD k sp0 := by simp [List.getD_eq_getElem?_getD, List.getElem?_append_left h]
theorem getD_right {L M : List Sp} {k : Nat} (h : L.length ≤ k) : (L ++ M).getD k sp0 = M.getD (k - L.length) sp0 := by simp [List.getD_eq_getElem?_getD, List.getElem?_append_right h]
theorem headL_length : headL.length = 2 := rfl
theorem all_0 (P I B : Nat) : (allL P I B).getD 0 sp0 = ⟨1, 0, 8⟩ := rfl
theorem all_1 (P I B : Nat) : (allL P I B).getD 1 sp0 = ⟨2, 0, 8⟩ := rfl
theorem all_ino (P I B k : Nat) (h : k < I) : (allL P I B).getD (2 + k) sp0 = ⟨3, k + 1, 8⟩ := by
  unfold allL
  rw [getD_left (by simp [headL_length, inoL_length, slotL_length]; omega), getD_left (by simp [headL_length, inoL_length]; omega), getD_right (by simp [headL_length]), headL_length, show 2 + k - 2 = k by omega, inoL_get I k h]
theorem all_slot (P I B k : Nat) (h : k < P) : (allL P I B).getD (2 + I + k) sp0 = ⟨4, k, 136⟩ := by
  unfold allL
  rw [getD_left (by simp [headL_length, inoL_length, slotL_length]; omega), getD_right (by simp [headL_length, inoL_length]), List.length_append, headL_length, inoL_length, show 2 + I + k - (2 + I) = k by omega, slotL_get P k h]
theorem all_blk (P I B k : Nat) (h : k < B) : (allL P I B).getD (2 + I + P + k) sp0 = ⟨5, k + 1, 32⟩ := by
  unfold allL
  rw [getD_right (by simp [headL_length, inoL_length, slotL_length]; omega), List.length_append, List.length_append, headL_length, inoL_length, slotL_length, show 2 + I + P + k - (2 + I + P) = k by omega, blkL_get B k h]
theorem off_1 (P I B : Nat) : offL (allL P I B) 1 = 8 := by
  rw [offL_step _ 0 (by rw [allL_length]; omega), all_0, offL_zero]
  rfl
theorem off_2 (P I B : Nat) : offL (allL P I B) 2 = 16 := by
  rw [offL_step _ 1 (by rw [allL_length]; omega), all_1, off_1]
  rfl
theorem off_ino (P I B k : Nat) (h : k ≤ I) : offL (allL P I B) (2 + k) = 16 + 8 * k := by
  induction k with
  | zero => exact off_2 P I B
  | succ k ih =>
    rw [show 2 + (k + 1) = (2 + k) + 1 by omega, offL_step _ _ (by rw [allL_length]; omega), all_ino P I B k (by omega), ih (by omega)]
    show _ + 8 = _
    omega
theorem off_slot (P I B k : Nat) (h : k ≤ P) : offL (allL P I B) (2 + I + k) = 16 + 8 * I + 136 * k := by
  induction k with
  | zero => exact off_ino P I B I (Nat.le_refl _)
  | succ k ih =>
    rw [show 2 + I + (k + 1) = (2 + I + k) + 1 by omega, offL_step _ _ (by rw [allL_length]; omega), all_slot P I B k (by omega), ih (by omega)]
    show _ + 136 = _
    omega
theorem off_blk (P I B k : Nat) (h : k ≤ B) : offL (allL P I B) (2 + I + P + k) = 16 + 8 * I + 136 * P + 32 * k := by
  induction k with
  | zero => exact off_slot P I B P (Nat.le_refl _)
  | succ k ih =>
    rw [show 2 + I + P + (k + 1) = (2 + I + P + k) + 1 by omega, offL_step _ _ (by rw [allL_length]; omega), all_blk P I B k (by omega), ih (by omega)]
    show _ + 32 = _
    omega
theorem off_all (P I B : Nat) : offL (allL P I B) (allL P I B).length = 16 + 8 * I + 136 * P + 32 * B := by rw [allL_length]; exact off_blk P I B B (Nat.le_refl _)
theorem few_all (P I B : Nat) (hP : P ≤ 8) (hI : I ≤ 64) (hB : B ≤ 255) : Few (allL P I B) := ⟨by rw [allL_length]; omega, by rw [off_all]; omega⟩
/-- Of which region each is. -/
theorem isr_all {P I B j k0 : Nat} {n0 : Int} (hj : j < 2 + I + P + B) (h : Isr ((allL P I B).getD j sp0) k0 n0) :
    (j = 0 ∧ k0 = 1) ∨ (j = 1 ∧ k0 = 2) ∨ (2 ≤ j ∧ j < 2 + I ∧ k0 = 3 ∧ n0 = (j : Int) - 1) ∨ (2 + I ≤ j ∧ j < 2 + I + P ∧ k0 = 4 ∧ n0 = (j : Int) - 2 - I) ∨ (2 + I + P ≤ j ∧ k0 = 5 ∧ n0 = (j : Int) - 1 - I - P) := by
  by_cases h0 : j = 0
  · subst h0; rw [all_0] at h; exact .inl ⟨rfl, h.1.symm⟩
  · by_cases h1 : j = 1
    · subst h1; rw [all_1] at h; exact .inr (.inl ⟨rfl, h.1.symm⟩)
    · by_cases h2 : j < 2 + I
      · obtain ⟨k, rfl⟩ : ∃ k, j = 2 + k := ⟨j - 2, by omega⟩
        rw [all_ino P I B k (by omega)] at h
        have h1 := h.1
        have h2 := h.2
        simp only at h1 h2
        exact .inr (.inr (.inl ⟨by omega, by omega, h1.symm, by omega⟩))
      · by_cases h3 : j < 2 + I + P
        · obtain ⟨k, rfl⟩ : ∃ k, j = 2 + I + k := ⟨j - 2 - I, by omega⟩
          rw [all_slot P I B k (by omega)] at h
          have h1 := h.1
          have h2 := h.2
          simp only at h1 h2
          exact .inr (.inr (.inr (.inl ⟨by omega, by omega, h1.symm, by omega⟩)))
        · obtain ⟨k, rfl⟩ : ∃ k, j = 2 + I + P + k := ⟨j - 2 - I - P, by omega⟩
          rw [all_blk P I B k (by omega)] at h
          have h1 := h.1
          have h2 := h.2
          simp only at h1 h2
          exact .inr (.inr (.inr (.inr ⟨by omega, h1.symm, by omega⟩)))
end Go.Proofs.Ythimikdhdcjneaa
