/- Rows of bits in words: which bits there are, the lowest that is 0, how many are 1. No program stands here. -/
import Derived.Test.YtaafchcpnceddaaDoorPopMath
set_option linter.unusedSimpArgs false
set_option linter.unusedVariables false
namespace Go.Proofs.YtaafchcpnceddaaDoor.WordMath

/-- Bit i of a row. -/
def bitL (l : List Nat) (i : Nat) : Nat := bitN (l.getD (i / 64) 0) (i % 64)
theorem bitL_lt (l : List Nat) (i : Nat) : bitL l i < 2 := bitN_lt _ _
/-- How many numbers below n are those of bits of the row. -/
def lim (l : List Nat) (n : Int) : Nat := min n.toNat (64 * l.length)
/-- The lowest bit below m that is 0. -/
def lowest (l : List Nat) (m : Nat) : Option Nat := (List.range m).find? fun i => bitL l i == 0
/-- How many bits below m are 1. -/
def cnt (l : List Nat) : Nat → Nat
  | 0 => 0
  | m + 1 => cnt l m + bitL l m
/-- All bits below b are 1. -/
structure Full (l : List Nat) (b : Nat) : Prop where
  all : ∀ i, i < b → bitL l i = 1

theorem lowest_none {l : List Nat} {m : Nat} (h : Full l m) : lowest l m = none := by
  unfold lowest
  rw [List.find?_eq_none]
  intro i hi
  rw [List.mem_range] at hi
  rw [h.all i hi]
  decide
theorem lowest_some {l : List Nat} {m r : Nat} (hr : r < m) (h0 : bitL l r = 0) (h : Full l r) : lowest l m = some r := by
  unfold lowest
  rw [List.find?_range_eq_some]
  refine ⟨by simp [h0], by simpa using hr, ?_⟩
  intro j hj
  have := h.all j hj
  simp [this]
theorem cnt_le (l : List Nat) (m : Nat) : cnt l m ≤ m := by
  induction m with
  | zero => exact Nat.le_refl _
  | succ m ih => have := bitL_lt l m; simp only [cnt]; omega
theorem cnt_mono (l : List Nat) (a b : Nat) (h : a ≤ b) : cnt l a ≤ cnt l b := by
  obtain ⟨d, rfl⟩ : ∃ d, b = a + d := ⟨b - a, by omega⟩
  clear h
  induction d with
  | zero => exact Nat.le_refl _
  | succ d ih => rw [← Nat.add_assoc]; simp only [cnt]; omega
theorem bitL_at (l : List Nat) (k j : Nat) (hj : j < 64) : bitL l (64 * k + j) = bitN (l.getD k 0) j := by
  unfold bitL
  rw [show (64 * k + j) / 64 = k by omega, show (64 * k + j) % 64 = j by omega]
theorem cnt_word (l : List Nat) (k m : Nat) (hm : m ≤ 64) : cnt l (64 * k + m) = cnt l (64 * k) + popc (l.getD k 0) m := by
  induction m with
  | zero => rfl
  | succ m ih =>
    rw [← Nat.add_assoc]
    simp only [cnt, popc]
    rw [ih (by omega), bitL_at l k m (by omega)]
    omega

/-- Where a word is not all ones: its lowest 0. -/
theorem ctz_not (w : Nat) (hw : w < 18446744073709551616) (h : 18446744073709551615 - w ≠ 0) :
    Lib.ctz 64 (18446744073709551615 - w) < 64 ∧ bitN w (Lib.ctz 64 (18446744073709551615 - w)) = 0 ∧ ∀ j, j < Lib.ctz 64 (18446744073709551615 - w) → bitN w j = 1 := by
  have hx : 18446744073709551615 - w < 2 ^ 64 := by simp; omega
  obtain ⟨m, hm, hk⟩ := Lib.ctzFrom_spec 64 (18446744073709551615 - w) (by omega) hx
  have e : Lib.ctz 64 (18446744073709551615 - w) = Lib.ctzFrom 64 (18446744073709551615 - w) := by simp [Lib.ctz, h]
  rw [e]
  generalize Lib.ctzFrom 64 (18446744073709551615 - w) = t at *
  have ht : ∀ j, j < 64 → (18446744073709551615 - w).testBit j = !w.testBit j := by
    intro j hj
    rw [show 18446744073709551615 - w = 2 ^ 64 - (w + 1) by omega, Nat.testBit_two_pow_sub_succ (by simpa using hw)]
    simp [hj]
  refine ⟨hk, ?_, ?_⟩
  · have := ht t hk
    rw [hm, Nat.testBit_two_pow_mul] at this
    simp only [Nat.le_refl, decide_true, Bool.true_and, Nat.sub_self, Nat.testBit_zero] at this
    rw [bitN_testBit]
    have h1 : (2 * m + 1) % 2 = 1 := by omega
    rw [h1] at this
    cases hb : w.testBit t <;> rw [hb] at this <;> simp at this ⊢
  · intro j hj
    have := ht j (by omega)
    rw [hm, Nat.testBit_two_pow_mul] at this
    have hn : ¬ t ≤ j := by omega
    simp only [hn, decide_false, Bool.false_and] at this
    rw [bitN_testBit]
    cases hb : w.testBit j <;> rw [hb] at this <;> simp at this ⊢
theorem ctz_full (w : Nat) (h : 18446744073709551615 - w = 0) : Lib.ctz 64 (18446744073709551615 - w) = 64 := by
  rw [h]; rfl
theorem bits_full (w : Nat) (hw : w < 18446744073709551616) (h : 18446744073709551615 - w = 0) (j : Nat) (hj : j < 64) : bitN w j = 1 := by
  obtain rfl : w = 18446744073709551615 := by omega
  have : ∀ j : Fin 64, bitN 18446744073709551615 j.val = 1 := by decide +kernel
  exact this ⟨j, hj⟩
theorem Full.more {l : List Nat} {k t : Nat} (h : Full l (64 * k)) (ht : t ≤ 64) (hb : ∀ j, j < t → bitN (l.getD k 0) j = 1) : Full l (64 * k + t) := ⟨fun i hi => by
  by_cases h1 : i < 64 * k
  · exact h.all i h1
  · obtain ⟨j, rfl⟩ : ∃ j, i = 64 * k + j := ⟨i - 64 * k, by omega⟩
    rw [bitL_at _ _ _ (by omega)]
    exact hb j (by omega)⟩
theorem Full.less {l : List Nat} {a b : Nat} (h : Full l b) (hab : a ≤ b) : Full l a := ⟨fun i hi => h.all i (by omega)⟩
end Go.Proofs.YtaafchcpnceddaaDoor.WordMath
