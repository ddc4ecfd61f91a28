/- What the laws say, of lists and bits. -/
import Derived.Test.YtgdiiicaljidpaaQg
set_option linter.unusedSimpArgs false
set_option linter.unusedVariables false
set_option linter.unusedSimpArgs false
set_option linter.unusedVariables false
namespace Go.Proofs.Ytgdiiicaljidpaa
theorem and_split (q r s t : Nat) (hr : r < 8) (ht : t < 8) : (q * 8 + r) &&& (s * 8 + t) = (q &&& s) * 8 + (r &&& t) := by
  have h1 : r &&& t < 8 := Nat.lt_of_le_of_lt (and_le r t) hr
  refine Nat.eq_of_testBit_eq fun i => ?_
  rw [show q * 8 + r = 2 ^ 3 * q + r by omega, show s * 8 + t = 2 ^ 3 * s + t by omega, show (q &&& s) * 8 + (r &&& t) = 2 ^ 3 * (q &&& s) + (r &&& t) by omega]
  rw [Nat.testBit_and, Nat.testBit_two_pow_mul_add _ (by simpa using hr), Nat.testBit_two_pow_mul_add _ (by simpa using ht), Nat.testBit_two_pow_mul_add _ (by simpa using h1)]
  split
  · rw [Nat.testBit_and]
  · rw [Nat.testBit_and]
theorem and_off (m : Nat) (hm : m < 65536) : m &&& (65535 - m) = 0 := by
  refine Nat.eq_of_testBit_eq fun i => ?_
  rw [Nat.testBit_and, Nat.zero_testBit, show 65535 - m = 2 ^ 16 - (m + 1) by omega, Nat.testBit_two_pow_sub_succ (by simpa using hm)]
  cases m.testBit i <;> simp
/-- The bits of a list that was cut are the mode's. -/
theorem bits_cut {l : Ac} (h : mayB l = true) (m : Nat) : bitsN (cutA l m) = bitsN l &&& m := by
  have hm := mayB_iff.1 h
  have h1 := hm.ow
  have h2 := hm.gr
  have h3 := hm.ot
  have h4 := hm.ms
  have key : ∀ a b c : Nat, a ≤ 7 → b ≤ 7 → c ≤ 7 → (a &&& (m / 64 % 8)) % 8 * 64 + (b &&& (m / 8 % 8)) % 8 * 8 + (c &&& (m % 8)) % 8 = (a % 8 * 64 + b % 8 * 8 + c % 8) &&& m := by
    intro a b c ha hb hc
    have k1 := and_le a (m / 64 % 8)
    have k2 := and_le b (m / 8 % 8)
    have k3 := and_le c (m % 8)
    rw [Nat.mod_eq_of_lt (show a &&& (m / 64 % 8) < 8 by omega), Nat.mod_eq_of_lt (show b &&& (m / 8 % 8) < 8 by omega), Nat.mod_eq_of_lt (show c &&& (m % 8) < 8 by omega), Nat.mod_eq_of_lt (show a < 8 by omega), Nat.mod_eq_of_lt (show b < 8 by omega), Nat.mod_eq_of_lt (show c < 8 by omega)]
    have e3 := and_split (a * 8 + b) c (m / 8) (m % 8) (by omega) (Nat.mod_lt _ (by decide))
    have e2 := and_split a b (m / 64) (m / 8 % 8) (by omega) (Nat.mod_lt _ (by decide))
    rw [show m / 64 * 8 + m / 8 % 8 = m / 8 by omega] at e2
    rw [show m / 8 * 8 + m % 8 = m by omega, e2] at e3
    have e1 : a &&& (m / 64) = a &&& (m / 64 % 8) := by
      have e := and_split 0 a (m / 64 / 8) (m / 64 % 8) (by omega) (Nat.mod_lt _ (by decide))
      rw [show m / 64 / 8 * 8 + m / 64 % 8 = m / 64 by omega] at e
      simpa using e
    rw [e1] at e3
    rw [show a * 64 + b * 8 + c = (a * 8 + b) * 8 + c by omega, e3]
    omega
  obtain ⟨ow, gr, ot, us, gs, b, ms⟩ := l
  simp only at h1 h2 h3 h4
  cases b
  · exact key ow gr ot h1 h2 h3
  · exact key ow ms ot h1 h4 h3
theorem bits_of (b : Nat) : bitsN (ofA b) = b % 512 := by
  show b / 64 % 8 % 8 * 64 + b / 8 % 8 % 8 * 8 + b % 8 % 8 = b % 512
  omega
theorem bits_lt (x : Ac) : bitsN x < 65536 := by unfold bitsN; omega
/-- Nobody is granted more by the nine bits than the mode has. -/
theorem acc_less {x : At} (h : amayB x = true) (u m : Nat) (hm : m < 65536) : bitsN (accA x u m) &&& (65535 - m) = 0 := by
  have h0 := and_off m hm
  have hz : ∀ y : Nat, y &&& m &&& (65535 - m) = 0 := fun y => by rw [Nat.and_assoc, h0, Nat.and_zero]
  unfold accA
  split
  · rw [bits_cut (amay_parts h).2.2.1]
    exact hz _
  · have e : offW m u % 512 = offW m u &&& 511 := (Nat.and_two_pow_sub_one_eq_mod _ 9).symm
    rw [bits_of, e]
    unfold offW
    have e2 : m &&& (65535 - u) &&& 511 = (65535 - u) &&& 511 &&& m := by rw [Nat.and_comm m (65535 - u), Nat.and_assoc, Nat.and_comm m 511, ← Nat.and_assoc]
    rw [e2]
    exact hz _
theorem acc_plain {x : At} (h : x.hd = false) (u m : Nat) : bitsN (accA x u m) = offW m u &&& 511 := by
  unfold accA
  rw [h]
  show bitsN (ofA _) = _
  rw [bits_of]
  exact (Nat.and_two_pow_sub_one_eq_mod _ 9).symm
/-- What is begun, where it may be. -/
theorem new_yes {c : Cr} {x : At} {k : Nat} (h : begB c x k = true) (u m : Nat) : newA c u x k m = newX c u x k m := by
  unfold newA
  rw [h]
  rfl
theorem new_no {c : Cr} {x : At} {k : Nat} (h : begB c x k = false) (u m : Nat) : newA c u x k m = atZ := by
  unfold newA
  rw [h]
  rfl
theorem newX_ui (c : Cr) (u : Nat) (x : At) (k m : Nat) : (newX c u x k m).ui = c.ui := by
  unfold newX
  split
  · rfl
  · split <;> rfl
theorem newX_xs (c : Cr) (u : Nat) (x : At) (k m : Nat) : (newX c u x k m).xs = [] := by
  unfold newX
  split
  · rfl
  · split <;> rfl
theorem newX_ac (c : Cr) (u : Nat) (x : At) (k m : Nat) (hk : k = 1 ∨ k = 2) : (newX c u x k m).ac = accA x u m := by
  rcases hk with rfl | rfl <;> rfl
theorem newX_hd (c : Cr) (u : Nat) (x : At) (k m : Nat) (hk : k = 1 ∨ k = 2) (hx : x.hd = false) : (newX c u x k m).hd = false := by
  rcases hk with rfl | rfl
  · rfl
  · exact hx
theorem acc_hm {x : At} (h : x.hd = false) (u m : Nat) : (accA x u m).hm = false := by
  unfold accA
  rw [h]
  rfl
theorem beg_one (c : Cr) (x : At) : begB c x 1 = validB c x := by unfold begB; simp
theorem beg_two (c : Cr) (x : At) : begB c x 2 = validB c x := by unfold begB; simp
theorem beg_three (c : Cr) (x : At) : begB c x 3 = validB c x := by unfold begB; simp
theorem newN_yes {c : Cr} {x : At} {k : Nat} (h : begB c x k = true) : newN c x k = 0 := by unfold newN; rw [h]; rfl
theorem newN_no {c : Cr} {x : At} {k : Nat} (h : begB c x k = false) : newN c x k = 622 := by unfold newN; rw [h]; rfl
/- its bits -/
theorem file_bits : ∀ b < 8, ((decide (b &&& 2 = 0) = decide (offN b 2 &&& 2 = b &&& 2)) ∧ offN b 2 &&& 2 = 0 ∧ offN (offN b 2 ^^^ b) 2 = 0 ∧ offN (b ^^^ b) 2 = 0 ∧ offN b 2 < 8) := by decide
theorem dir_bits : ∀ b < 8, ∀ y < 8, ((b &&& 1) ||| (y &&& 2)) &&& 4 = 0 ∧ (((b &&& 1) ||| (y &&& 2)) ^^^ b) &&& 1 = 0 ∧ ((b &&& 1) ||| (y &&& 2)) &&& 2 = y &&& 2 ∧ (b &&& 1) ||| (y &&& 2) < 8 := by decide
end Go.Proofs.Ytgdiiicaljidpaa
