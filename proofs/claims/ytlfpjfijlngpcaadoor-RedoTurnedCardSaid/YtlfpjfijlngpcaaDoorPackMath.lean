/- Texts in words: packing byte by byte, and reading back. No program stands here. -/
import Derived.Test.YtlfpjfijlngpcaaDoorWordMath
set_option linter.unusedSimpArgs false
set_option linter.unusedVariables false
namespace Go.Proofs.YtlfpjfijlngpcaaDoor.WordMath

/-- Byte k of a text. -/
def bt (s : List UInt8) (k : Nat) : Nat := (s.getD k 0).toNat
theorem bt_lt (s : List UInt8) (k : Nat) : bt s k < 256 := UInt8.toNat_lt _
/-- How many words a text of n bytes has. -/
def wn (n : Nat) : Nat := (n + 7) / 8
/-- The words behind the first k bytes. -/
def packTo (s : List UInt8) : Nat → List Nat
  | 0 => List.replicate (wn s.length) 0
  | k + 1 => (packTo s k).set (k / 8) (put ((packTo s k).getD (k / 8) 0) (8 * (k % 8)) 8 (bt s k))
/-- The words of a text. -/
def packL (s : List UInt8) : List Nat := packTo s s.length

theorem packTo_len (s : List UInt8) (k : Nat) : (packTo s k).length = wn s.length := by
  induction k with
  | zero => simp [packTo]
  | succ k ih => simp [packTo, ih]
theorem getD_rep (n i : Nat) : (List.replicate n 0).getD i 0 = 0 := by
  rw [List.getD_eq_getElem?_getD, List.getElem?_replicate]
  split <;> rfl
theorem getD_set (l : List Nat) (i j v : Nat) : (l.set i v).getD j 0 = if i = j ∧ i < l.length then v else l.getD j 0 := by
  simp only [List.getD_eq_getElem?_getD, List.getElem?_set]
  by_cases h : i = j
  · subst h
    by_cases h2 : i < l.length
    · simp [h2]
    · simp [h2]
  · simp [h]
theorem put_low (x a v : Nat) (hx : x < 2 ^ a) : put x a 8 v = 2 ^ a * v + x := by
  unfold put
  rw [Nat.div_eq_of_lt (Nat.lt_of_lt_of_le hx (Nat.pow_le_pow_right (by decide) (by omega))), Nat.mul_zero, Nat.zero_add, Nat.mod_eq_of_lt hx]
theorem or_low (x a v : Nat) (hx : x < 2 ^ a) : x ||| v * 2 ^ a = put x a 8 v := by
  rw [put_low _ _ _ hx, Nat.two_pow_add_eq_or_of_lt hx, Nat.or_comm, Nat.mul_comm]
/-- The words behind byte k have nothing from it on. -/
theorem pack_low (s : List UInt8) (k : Nat) (hk : k ≤ s.length) : ∀ i, k ≤ 8 * i + 7 → (packTo s k).getD i 0 < 2 ^ (8 * (k - 8 * i)) := by
  induction k with
  | zero => intro i _; rw [packTo, getD_rep]; exact Nat.two_pow_pos _
  | succ k ih =>
    intro i hi
    have ih := ih (by omega)
    simp only [packTo]
    rw [getD_set]
    split
    · rename_i h
      obtain ⟨rfl, _⟩ := h
      have h1 := ih (k / 8) (by omega)
      have e : 8 * (k - 8 * (k / 8)) = 8 * (k % 8) := by omega
      rw [e] at h1
      rw [put_low _ _ _ h1, show 8 * (k + 1 - 8 * (k / 8)) = 8 * (k % 8) + 8 by omega, Nat.pow_add]
      have hb := bt_lt s k
      have : 2 ^ (8 * (k % 8)) * bt s k ≤ 2 ^ (8 * (k % 8)) * 255 := Nat.mul_le_mul_left _ (by omega)
      omega
    · rename_i h
      have hl := packTo_len s k
      have hne : k / 8 ≠ i := by
        intro he; exact h ⟨he, by rw [hl]; unfold wn; omega⟩
      have h1 := ih i (by omega)
      exact Nat.lt_of_lt_of_le h1 (Nat.pow_le_pow_right (by decide) (by omega))
theorem pack_wd (s : List UInt8) (k : Nat) (hk : k ≤ s.length) : ∀ i, (packTo s k).getD i 0 < 18446744073709551616 := by
  induction k with
  | zero => intro i; rw [packTo, getD_rep]; decide
  | succ k ih =>
    intro i
    have ih := ih (by omega)
    simp only [packTo]
    rw [getD_set]
    split
    · have h1 := ih (k / 8)
      exact put_lt _ _ _ _ (by have := bt_lt s k; simpa using this) (by simpa using h1) (by omega)
    · exact ih i
theorem fld_put_same (w a n v : Nat) (hv : v < 2 ^ n) : fld (put w a n v) a n = v := by
  unfold fld put
  rw [Nat.mul_add_div (Nat.two_pow_pos a), Nat.div_eq_of_lt (Nat.mod_lt _ (Nat.two_pow_pos _)), Nat.add_zero, Nat.mul_add_mod, Nat.mod_eq_of_lt hv]
theorem fld_testBit (w a n i : Nat) : (fld w a n).testBit i = (decide (i < n) && w.testBit (a + i)) := by
  unfold fld
  rw [Nat.testBit_mod_two_pow, Nat.testBit_div_two_pow, Nat.add_comm]
theorem fld_put_other (w a n v b m : Nat) (hv : v < 2 ^ n) (h : b + m ≤ a ∨ a + n ≤ b) : fld (put w a n v) b m = fld w b m := by
  apply Nat.eq_of_testBit_eq
  intro i
  rw [fld_testBit, fld_testBit]
  by_cases hi : i < m
  · simp only [hi, decide_true, Bool.true_and]
    rw [testBit_put _ _ _ _ _ hv]
    split
    · rfl
    · rw [if_neg (by omega)]
  · simp [hi]
theorem pack_get (s : List UInt8) (k : Nat) (hk : k ≤ s.length) : ∀ j, j < k → fld ((packTo s k).getD (j / 8) 0) (8 * (j % 8)) 8 = bt s j := by
  induction k with
  | zero => intro j hj; omega
  | succ k ih =>
    intro j hj
    have ih := ih (by omega)
    simp only [packTo]
    have hb := bt_lt s k
    rw [getD_set]
    by_cases he : k / 8 = j / 8
    · rw [if_pos ⟨he, by rw [packTo_len]; unfold wn; omega⟩]
      by_cases hjk : j = k
      · subst hjk
        exact fld_put_same _ _ _ _ (by simpa using hb)
      · rw [fld_put_other _ _ _ _ _ _ (by simpa using hb) (by omega), he]
        exact ih j (by omega)
    · rw [if_neg (fun h => he h.1)]
      exact ih j (by omega)

/-- The first n bytes of words. -/
def textL (l : List Nat) (n : Nat) : List UInt8 := (List.range n).map fun k => UInt8.ofNat (fld (l.getD (k / 8) 0) (8 * (k % 8)) 8)
theorem textL_succ (l : List Nat) (n : Nat) : textL l (n + 1) = textL l n ++ [UInt8.ofNat (fld (l.getD (n / 8) 0) (8 * (n % 8)) 8)] := by
  unfold textL
  rw [List.range_succ, List.map_append]
  rfl
theorem textL_len (l : List Nat) (n : Nat) : (textL l n).length = n := by simp [textL]
theorem text_pack (s : List UInt8) : textL (packL s) s.length = s := by
  apply List.ext_getElem
  · simp [textL]
  · intro i h1 h2
    simp only [textL, List.getElem_map, List.getElem_range]
    have := pack_get s s.length (Nat.le_refl _) i h2
    unfold packL
    rw [this]
    unfold bt
    rw [List.getD_eq_getElem?_getD, List.getElem?_eq_getElem h2]
    simp
end Go.Proofs.YtlfpjfijlngpcaaDoor.WordMath
