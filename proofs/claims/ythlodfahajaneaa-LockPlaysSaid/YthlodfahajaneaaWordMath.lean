/- Plain arithmetic of words: fields, bits, the document's bit by bit answers. No program stands here. -/
import Derived.WalkKit
set_option linter.unusedSimpArgs false
set_option linter.unusedVariables false
namespace Go.Proofs.Ythlodfahajaneaa.WordMath

/-- The value of the field of n bits from bit a on. -/
def fld (w a n : Nat) : Nat := w / 2 ^ a % 2 ^ n
/-- w with v in the field of n bits from bit a on. -/
def put (w a n v : Nat) : Nat := 2 ^ a * (2 ^ n * (w / 2 ^ (a + n)) + v) + w % 2 ^ a
def bitN (w i : Nat) : Nat := w / 2 ^ i % 2
/-- There is such a field. -/
def isFld (a n : Int) : Prop := 0 ≤ a ∧ 1 ≤ n ∧ n ≤ 64 - a

theorem fld_lt (w a n : Nat) : fld w a n < 2 ^ n := Nat.mod_lt _ (Nat.two_pow_pos _)
theorem pow_le64 {n : Nat} (h : n ≤ 64) : 2 ^ n ≤ 18446744073709551616 := by
  have := Nat.pow_le_pow_right (n := 2) (by decide) h
  simpa using this
theorem fld_lt64 (w a n : Nat) (h : n ≤ 64) : fld w a n < 18446744073709551616 := Nat.lt_of_lt_of_le (fld_lt w a n) (pow_le64 h)
theorem bitN_lt (w i : Nat) : bitN w i < 2 := Nat.mod_lt _ (by decide)
theorem bitN_testBit (w i : Nat) : bitN w i = (w.testBit i).toNat := by
  unfold bitN
  rw [Nat.testBit_eq_decide_div_mod_eq]
  have : w / 2 ^ i % 2 < 2 := Nat.mod_lt _ (by decide)
  by_cases h : w / 2 ^ i % 2 = 1
  · simp [h]
  · have h0 : w / 2 ^ i % 2 = 0 := by omega
    simp [h0]

theorem testBit_put (w a n v i : Nat) (hv : v < 2 ^ n) : (put w a n v).testBit i = if i < a then w.testBit i else if i < a + n then v.testBit (i - a) else w.testBit i := by
  unfold put
  rw [Nat.testBit_two_pow_mul_add _ (Nat.mod_lt _ (Nat.two_pow_pos _))]
  split
  · rename_i h
    rw [Nat.testBit_mod_two_pow]; simp [h]
  · rename_i h
    rw [Nat.testBit_two_pow_mul_add _ hv]
    split
    · rename_i h2
      rw [if_pos (by omega)]
    · rename_i h2
      rw [if_neg (by omega), Nat.testBit_div_two_pow]
      congr 1; omega

theorem put_lt (w a n v : Nat) (hv : v < 2 ^ n) (hw : w < 2 ^ 64) (han : a + n ≤ 64) : put w a n v < 18446744073709551616 := by
  have : put w a n v < 2 ^ 64 := by
    apply Nat.lt_pow_two_of_testBit
    intro i hi
    rw [testBit_put _ _ _ _ _ hv]
    have : w.testBit i = false := Nat.testBit_lt_two_pow (Nat.lt_of_lt_of_le hw (Nat.pow_le_pow_right (by decide) hi))
    rw [this]
    simp
    intro h1 h2; omega
  simpa using this

/-- The program's way. -/
theorem put_or (w a n v : Nat) (hv : v < 2 ^ n) (hw : w < 2 ^ 64) (han : a + n ≤ 64) :
    (w &&& (18446744073709551615 - (2 ^ n - 1) * 2 ^ a)) ||| (v * 2 ^ a) = put w a n v := by
  have hm : (2 ^ n - 1) * 2 ^ a < 2 ^ 64 := by
    have h1 : (2 ^ n - 1) * 2 ^ a < 2 ^ n * 2 ^ a := by
      apply Nat.mul_lt_mul_of_pos_right _ (Nat.two_pow_pos _)
      have := Nat.two_pow_pos n; omega
    rw [← Nat.pow_add] at h1
    exact Nat.lt_of_lt_of_le h1 (Nat.pow_le_pow_right (by decide) (by omega))
  apply Nat.eq_of_testBit_eq
  intro i
  have e : 18446744073709551615 - (2 ^ n - 1) * 2 ^ a = 2 ^ 64 - ((2 ^ n - 1) * 2 ^ a + 1) := by omega
  rw [testBit_put _ _ _ _ _ hv, Nat.testBit_or, Nat.testBit_and, e, Nat.testBit_two_pow_sub_succ hm, Nat.testBit_mul_two_pow, Nat.testBit_mul_two_pow, Nat.testBit_two_pow_sub_one]
  by_cases hi : i < 64
  · by_cases h1 : i < a
    · have : ¬ a ≤ i := by omega
      simp [h1, hi, this]
    · have h1' : a ≤ i := by omega
      by_cases h2 : i < a + n
      · have : i - a < n := by omega
        simp [h1, hi, h1', h2, this]
      · have h3 : ¬ i - a < n := by omega
        have : v.testBit (i - a) = false := Nat.testBit_lt_two_pow (Nat.lt_of_lt_of_le hv (Nat.pow_le_pow_right (by decide) (by omega)))
        simp [h1, hi, h1', h2, h3, this]
  · have hwi : w.testBit i = false := Nat.testBit_lt_two_pow (Nat.lt_of_lt_of_le hw (Nat.pow_le_pow_right (by decide) (by omega)))
    have h1 : ¬ i < a := by omega
    have h2 : ¬ i < a + n := by omega
    have : v.testBit (i - a) = false := Nat.testBit_lt_two_pow (Nat.lt_of_lt_of_le hv (Nat.pow_le_pow_right (by decide) (by omega)))
    simp [hwi, h1, h2, this]

theorem bit_lt_of (v n : Nat) (hv : v < 2 ^ 64) (h : ∀ j, n ≤ j → j < 64 → bitN v j = 0) : v < 2 ^ n := by
  apply Nat.lt_pow_two_of_testBit
  intro i hi
  by_cases h64 : i < 64
  · have := h i hi h64
    rw [bitN_testBit] at this
    cases hb : v.testBit i
    · rfl
    · rw [hb] at this; simp at this
  · exact Nat.testBit_lt_two_pow (Nat.lt_of_lt_of_le hv (Nat.pow_le_pow_right (by decide) (by omega)))
theorem bit_zero_of (v n j : Nat) (hv : v < 2 ^ n) (h : n ≤ j) : bitN v j = 0 := by
  rw [bitN_testBit, Nat.testBit_lt_two_pow (Nat.lt_of_lt_of_le hv (Nat.pow_le_pow_right (by decide) h))]
  rfl
/-- The bits of 'put', one by one. -/
theorem bit_put_in (w a n v i : Nat) (hv : v < 2 ^ n) (h1 : a ≤ i) (h2 : i < a + n) : bitN (put w a n v) i = bitN v (i - a) := by
  rw [bitN_testBit, bitN_testBit, testBit_put _ _ _ _ _ hv, if_neg (by omega), if_pos h2]
theorem bit_put_out (w a n v i : Nat) (hv : v < 2 ^ n) (h : i < a ∨ a + n ≤ i) : bitN (put w a n v) i = bitN w i := by
  rw [bitN_testBit, bitN_testBit, testBit_put _ _ _ _ _ hv]
  rcases h with h | h
  · rw [if_pos h]
  · rw [if_neg (by omega), if_neg (by omega)]
/-- One bit more, from above. -/
theorem down_step (p i : Nat) : 2 * (p / 2 ^ (i + 1)) + bitN p i = p / 2 ^ i := by
  unfold bitN
  rw [Nat.pow_succ, ← Nat.div_div_eq_div_mul]
  omega
theorem get_step (w a d i : Nat) : 2 * fld w (a + i + 1) d + bitN w (a + i) = fld w (a + i) (d + 1) := by
  unfold fld bitN
  rw [Nat.pow_succ 2 (a + i), ← Nat.div_div_eq_div_mul, Nat.pow_succ, Nat.mul_comm (2 ^ d) 2, Nat.mod_mul]
  omega
theorem fld_zero (w a : Nat) : fld w a 0 = 0 := by unfold fld; simp [Nat.mod_one]

theorem top_div : ∀ k : Fin 65, (18446744073709551615 : Nat) / 2 ^ (64 - k.val) = 2 ^ k.val - 1 := by decide +kernel
theorem top_div_int (n : Int) (h0 : 0 ≤ n) (h : n ≤ 64) : (18446744073709551615 : Int) / 2 ^ (64 - n).toNat = ((2 ^ n.toNat - 1 : Nat) : Int) := by
  obtain ⟨k, rfl⟩ := Int.eq_ofNat_of_zero_le h0
  have := top_div ⟨k, by omega⟩
  simp only at this
  have e : (64 - (k : Int)).toNat = 64 - k := by omega
  rw [e, Int.toNat_natCast, ← this]
  simp
end Go.Proofs.Ythlodfahajaneaa.WordMath
