/- Taking the lowest bit that is 0, again and again: the arithmetic. No program stands here. -/
import Derived.Test.YtaafchcpnceddaaDoorBitMath
import Derived.Test.YtaafchcpnceddaaDoorPackMath
set_option linter.unusedSimpArgs false
set_option linter.unusedVariables false
namespace Go.Proofs.YtaafchcpnceddaaDoor.WordMath

/-- A row with bit i on. -/
def onL (l : List Nat) (i : Nat) : List Nat := l.set (i / 64) (put (l.getD (i / 64) 0) (i % 64) 1 1)
theorem onL_len (l : List Nat) (i : Nat) : (onL l i).length = l.length := by simp [onL]
theorem bitL_on (l : List Nat) (i j : Nat) (hi : i / 64 < l.length) : bitL (onL l i) j = if j = i then 1 else bitL l j := by
  unfold bitL onL
  rw [getD_set]
  by_cases h : i / 64 = j / 64
  · rw [if_pos ⟨h, hi⟩]
    by_cases h2 : j = i
    · subst h2
      rw [if_pos rfl, bit_put_in _ _ _ _ _ (by decide) (Nat.le_refl _) (by omega), Nat.sub_self]; rfl
    · rw [if_neg h2, bit_put_out _ _ _ _ _ (by decide) (by omega), h]
  · rw [if_neg (fun hh => h hh.1), if_neg (by rintro rfl; exact h rfl)]
theorem cnt_congr (l r : List Nat) (m : Nat) (h : ∀ j, j < m → bitL l j = bitL r j) : cnt l m = cnt r m := by
  induction m with
  | zero => rfl
  | succ m ih => simp only [cnt]; rw [ih fun j hj => h j (by omega), h m (by omega)]
theorem cnt_on (l : List Nat) (i m : Nat) (hi : i / 64 < l.length) (hm : i < m) (h0 : bitL l i = 0) : cnt (onL l i) m = cnt l m + 1 := by
  induction m with
  | zero => omega
  | succ m ih =>
    simp only [cnt]
    by_cases h : i < m
    · rw [ih h, bitL_on _ _ _ hi, if_neg (by omega)]; omega
    · obtain rfl : m = i := by omega
      rw [bitL_on _ _ _ hi, if_pos rfl, h0, cnt_congr _ l m fun j hj => by rw [bitL_on _ _ _ hi, if_neg (by omega)]]
theorem full_of_cnt (l : List Nat) (m : Nat) (h : cnt l m = m) : Full l m := by
  induction m with
  | zero => exact ⟨fun i hi => by omega⟩
  | succ m ih =>
    simp only [cnt] at h
    have h1 := cnt_le l m
    have h2 := bitL_lt l m
    have := ih (by omega)
    refine ⟨fun i hi => ?_⟩
    by_cases hlt : i < m
    · exact this.all i hlt
    · obtain rfl : i = m := by omega
      omega
theorem cnt_of_full (l : List Nat) (m : Nat) (h : Full l m) : cnt l m = m := by
  induction m with
  | zero => rfl
  | succ m ih => simp only [cnt]; rw [ih (h.less (by omega)), h.all m (by omega)]
theorem least_zero (l : List Nat) (m : Nat) (h : cnt l m < m) : ∃ r, r < m ∧ bitL l r = 0 ∧ Full l r := by
  induction m with
  | zero => omega
  | succ m ih =>
    by_cases hc : cnt l m < m
    · obtain ⟨r, h1, h2, h3⟩ := ih hc
      exact ⟨r, by omega, h2, h3⟩
    · have h1 := cnt_le l m
      have hf := full_of_cnt l m (by omega)
      simp only [cnt] at h
      exact ⟨m, by omega, by omega, hf⟩
theorem full_on (l : List Nat) (r : Nat) (hr : r / 64 < l.length) (h : Full l r) : Full (onL l r) (r + 1) := ⟨fun i hi => by
  rw [bitL_on _ _ _ hr]
  by_cases h1 : i = r
  · rw [if_pos h1]
  · rw [if_neg h1]; exact h.all i (by omega)⟩
theorem full_le (l : List Nat) (b r : Nat) (h : Full l b) (h0 : bitL l r = 0) : b ≤ r := by
  rcases Nat.lt_or_ge r b with h1 | h1
  · have := h.all r h1; omega
  · exact h1
end Go.Proofs.YtaafchcpnceddaaDoor.WordMath
