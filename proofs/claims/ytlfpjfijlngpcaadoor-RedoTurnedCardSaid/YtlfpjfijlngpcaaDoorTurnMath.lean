/- Words with bits turned, as numbers. No program stands here. -/
import Derived.Test.YtlfpjfijlngpcaaDoorSum3
set_option linter.unusedSimpArgs false
set_option linter.unusedVariables false
namespace Go.Proofs.YtlfpjfijlngpcaaDoor
open SumMath
theorem num_set {l : List Nat} (hl : Wd l) {j b : Nat} (hj : j < l.length) (hb : b < 64) :
    Wd (l.set j (l.getD j 0 ^^^ 2 ^ b)) ∧ num (l.set j (l.getD j 0 ^^^ 2 ^ b)) = num l ^^^ 2 ^ (64 * j + b) := by
  have hx : l.getD j 0 ^^^ 2 ^ b < 18446744073709551616 :=
    Nat.xor_lt_two_pow (n := 64) (by simpa using hl j) (Nat.pow_lt_pow_right (by decide) hb)
  have hw := hl.set j _ hx
  refine ⟨hw, ?_⟩
  apply Nat.eq_of_testBit_eq
  intro i
  rw [num_testBit hw.mem, Nat.testBit_xor, num_testBit hl.mem, Nat.testBit_two_pow]
  by_cases hi : i / 64 = j
  · subst hi
    have e : (l.set (i / 64) (l.getD (i / 64) 0 ^^^ 2 ^ b)).getD (i / 64) 0 = l.getD (i / 64) 0 ^^^ 2 ^ b := by
      rw [List.getD_eq_getElem?_getD, List.getElem?_set_self hj, Option.getD_some]
    rw [e, Nat.testBit_xor, Nat.testBit_two_pow]
    congr 1
    rw [decide_eq_decide]
    omega
  · have e : (l.set j (l.getD j 0 ^^^ 2 ^ b)).getD (i / 64) 0 = l.getD (i / 64) 0 := by
      rw [List.getD_eq_getElem?_getD, List.getElem?_set_ne (fun h => hi h.symm), ← List.getD_eq_getElem?_getD]
    rw [e]
    have : decide (64 * j + b = i) = false := by rw [decide_eq_false_iff_not]; omega
    rw [this, Bool.xor_false]
/-- y is x, with the first i bits of t turned, from bit k on. -/
structure Turned (x : List Nat) (k t i : Nat) (y : List Nat) : Prop where
  len : y.length = x.length
  wd : Wd y
  num : num y = num x ^^^ 2 ^ k * (t % 2 ^ i)
theorem Turned.zero {x : List Nat} (h : Wd x) (k t : Nat) : Turned x k t 0 x := ⟨rfl, h, by simp [Nat.mod_one]⟩
theorem mod_bit (t i : Nat) : t % 2 ^ (i + 1) = t % 2 ^ i ^^^ 2 ^ i * (t / 2 ^ i % 2) := by
  rw [← add_xor _ _ _ (Nat.mod_lt _ (Nat.two_pow_pos _)), Nat.pow_succ, Nat.mod_mul, Nat.add_comm]
theorem Turned.skip {x y : List Nat} {k t i : Nat} (h : Turned x k t i y) (hb : ¬ t / 2 ^ i % 2 = 1) : Turned x k t (i + 1) y := by
  refine ⟨h.len, h.wd, ?_⟩
  have h0 : t / 2 ^ i % 2 = 0 := by omega
  rw [mod_bit, h0, Nat.mul_zero, Nat.xor_zero]
  exact h.num
theorem Turned.turn {x y : List Nat} {k t i : Nat} (h : Turned x k t i y) (hb : t / 2 ^ i % 2 = 1) (hk : (k + i) / 64 < x.length) :
    Turned x k t (i + 1) (y.set ((k + i) / 64) (y.getD ((k + i) / 64) 0 ^^^ 2 ^ ((k + i) % 64))) := by
  obtain ⟨h1, h2⟩ := num_set h.wd (j := (k + i) / 64) (b := (k + i) % 64) (by rw [h.len]; exact hk) (Nat.mod_lt _ (by decide))
  refine ⟨by rw [List.length_set, h.len], h1, ?_⟩
  rw [h2, h.num, mod_bit, hb, Nat.mul_one, xor_mul_pow, ← Nat.pow_add, Nat.div_add_mod, Nat.xor_assoc]
theorem Turned.same {x y : List Nat} {k : Nat} (hx : Wd x) (h : Turned x k 0 32 y) : y = x := by
  refine num_inj h.wd.mem hx.mem h.len ?_
  rw [h.num]; simp
end Go.Proofs.YtlfpjfijlngpcaaDoor
