/- Blocks there and back: as words, and read again. -/
import Derived.Test.YtipghcpodhokbaaDoorDbMath
import Derived.Test.YtipghcpodhokbaaDoorSlo5
set_option linter.unusedSimpArgs false
set_option linter.unusedVariables false
namespace Go.Proofs.YtipghcpodhokbaaDoor
open WordMath
theorem list_ext_getD {l m : List Nat} (h : l.length = m.length) (he : ∀ i, i < l.length → l.getD i 0 = m.getD i 0) : l = m := by
  apply List.ext_getElem h
  intro i h1 h2
  have := he i h1
  simpa [List.getD_eq_getElem?_getD, List.getElem?_eq_getElem h1, List.getElem?_eq_getElem h2] using this
theorem slot_ext {L M : List Slt} (h : L.length = M.length) (he : ∀ i, i < L.length → L.getD i zS = M.getD i zS) : L = M := by
  apply List.ext_getElem h
  intro i h1 h2
  have := he i h1
  simpa [List.getD_eq_getElem?_getD, List.getElem?_eq_getElem h1, List.getElem?_eq_getElem h2] using this
theorem mayD_of {d : Dbl} {P I B : Int} (h : mayD d P I B = true) : GOK P I B ∧ 0 ≤ d.N ∧ d.N ≤ B ∧ ∀ k, k < d.L.length → okS (d.L.getD k zS) I = true := by
  unfold mayD okD at h
  simp only [Bool.and_eq_true, decide_eq_true_eq, List.all_eq_true] at h
  refine ⟨h.1, h.2.1.1, h.2.1.2, fun k hk => ?_⟩
  rw [List.getD_eq_getElem?_getD, List.getElem?_eq_getElem hk, Option.getD_some]
  exact h.2.2 _ (List.getElem_mem _)
theorem mayD_intro {d : Dbl} {P I B : Int} (hg : GOK P I B) (h0 : 0 ≤ d.N) (h1 : d.N ≤ B) (hs : ∀ k, k < d.L.length → okS (d.L.getD k zS) I = true) : mayD d P I B = true := by
  unfold mayD okD
  simp only [Bool.and_eq_true, decide_eq_true_eq, List.all_eq_true]
  refine ⟨hg, ⟨h0, h1⟩, fun x hx => ?_⟩
  obtain ⟨k, hk, rfl⟩ := List.getElem_of_mem hx
  have := hs k hk
  rwa [List.getD_eq_getElem?_getD, List.getElem?_eq_getElem hk, Option.getD_some] at this
theorem rdD_slot (l : List Nat) (k : Nat) (hk : k < 10) : (rdD l).L.getD k zS = rdS (rowK l k) := by
  rw [List.getD_eq_getElem?_getD, rdD_get, if_pos hk]; rfl
theorem rdD_length (l : List Nat) : (rdD l).L.length = 10 := by simp [rdD]
theorem dW_zero (d : Dbl) : (dW d).getD 0 0 = headN d.N := rfl
theorem dW_one (d : Dbl) : (dW d).getD 1 0 = 0 := rfl
theorem rdD_N (l : List Nat) : (rdD l).N = ((l.getD 0 0 % 256 : Nat) : Int) := rfl
/-- A block's words, read. -/
theorem read_dW {d : Dbl} {P I B : Int} (hL : d.L.length = 10) (hm : mayD d P I B = true) : badD (dW d) P I B = none ∧ rdD (dW d) = d := by
  obtain ⟨hg, h0, h1, hs⟩ := mayD_of hm
  have hI : I ≤ 64 := hg.2.1.2
  have hB : B ≤ 255 := hg.2.2.2
  have hh : ((dW d).getD 0 0 % 256 : Nat) = d.N.toNat := by
    show headN d.N % 256 = _
    unfold headN; omega
  have hN : ((d.N.toNat : Nat) : Int) = d.N := by omega
  have hr : ∀ k, k < 10 → rowK (dW d) k = slW (d.L.getD k zS) := fun k hk => rowK_dW d k (by omega)
  have hk2 : ∀ k, k < 10 → decOk (rowK (dW d) k) I = true ∧ rdS (rowK (dW d) k) = d.L.getD k zS := fun k hk => by
    rw [hr k hk]; exact decOk_slW (hs k (by omega)) hI
  constructor
  · unfold badD
    have hho : headOk (dW d) B = true := by
      unfold headOk
      rw [hh, hN]
      simp only [Bool.and_eq_true, decide_eq_true_eq]
      exact ⟨rfl, h1⟩
    rw [if_neg (by simpa using hg), if_neg (by rw [hho, dW_length hL]; simp), if_neg (by show ¬ (0 : Nat) ≠ 0; simp), frst_none fun k hk => (hk2 k hk).1]
  · have e1 : (rdD (dW d)).N = d.N := by
      show (((dW d).getD 0 0 % 256 : Nat) : Int) = d.N
      rw [hh, hN]
    have e2 : (rdD (dW d)).L = d.L := slot_ext (by rw [rdD_length, hL]) fun i hi => by
      rw [rdD_length] at hi
      rw [rdD_slot _ i hi]
      exact (hk2 i hi).2
    cases hd : rdD (dW d)
    cases d
    rw [hd] at e1 e2
    simp only at e1 e2
    rw [e1, e2]
/-- What words are read as, as words. -/
theorem dW_read {l : List Nat} {P I B : Int} (h : badD l P I B = none) : mayD (rdD l) P I B = true ∧ dW (rdD l) = l := by
  unfold badD at h
  split at h
  · cases h
  rename_i hg
  split at h
  · cases h
  rename_i h32
  split at h
  · cases h
  rename_i h1
  have hg : GOK P I B := by simpa using hg
  have h1 : l.getD 1 0 = 0 := by simpa using h1
  have h32' : l.length = 32 ∧ headOk l B = true := by
    constructor
    · exact Classical.byContradiction fun h => h32 (.inl h)
    · cases hh : headOk l B
      · exact absurd (.inr hh) h32
      · rfl
  obtain ⟨hlen, hho⟩ := h32'
  have hf : frst l I = none := by
    split at h
    · cases h
    · assumption
  have hk := frst_none_iff.1 hf
  unfold headOk at hho
  simp only [Bool.and_eq_true, decide_eq_true_eq] at hho
  refine ⟨mayD_intro hg (by rw [rdD_N]; omega) (by rw [rdD_N]; exact hho.2) fun k hk2 => ?_, ?_⟩
  · rw [rdD_length] at hk2
    rw [rdD_slot l k hk2]
    exact (decOk_of (hk k hk2)).2.1
  · refine list_ext_getD (by rw [dW_length (rdD_length l), hlen]) fun i hi => ?_
    rw [dW_length (rdD_length l)] at hi
    match i, hi with
    | 0, _ =>
      rw [dW_zero, rdD_N]
      exact hho.1.symm
    | 1, _ =>
      rw [dW_one]
      exact h1.symm
    | i + 2, hi =>
      obtain ⟨k, j, hj, hk2, rfl⟩ : ∃ k j, j < 3 ∧ k < 10 ∧ i = k * 3 + j := ⟨i / 3, i % 3, by omega, by omega, by omega⟩
      rw [show k * 3 + j + 2 = 2 + k * 3 + j by omega, ← rowK_get _ k j hj, ← rowK_get l k j hj, rowK_dW _ k (by rw [rdD_length]; exact hk2), rdD_slot l k hk2, (decOk_of (hk k hk2)).2.2]
end Go.Proofs.YtipghcpodhokbaaDoor
/- Words with bits turned, as numbers; a slot's words turned. No program stands here. -/
namespace Go.Proofs.YtipghcpodhokbaaDoor
open SumMath WordMath
theorem Wd.mem {l : List Nat} (h : Wd l) : ∀ x ∈ l, x < 18446744073709551616 := fun x hx => by
  obtain ⟨i, hi, rfl⟩ := List.getElem_of_mem hx
  have := h i
  rwa [List.getD_eq_getElem?_getD, List.getElem?_eq_getElem hi, Option.getD_some] at this
theorem Wd.of_mem {l : List Nat} (h : ∀ x ∈ l, x < 18446744073709551616) : Wd l := fun k => by
  rw [List.getD_eq_getElem?_getD]
  rcases Nat.lt_or_ge k l.length with hk | hk
  · rw [List.getElem?_eq_getElem hk, Option.getD_some]; exact h _ (List.getElem_mem hk)
  · rw [List.getElem?_eq_none hk]; decide
theorem num_set {l : List Nat} (hl : Wd l) {j b : Nat} (hj : j < l.length) (hb : b < 64) :
    Wd (l.set j (l.getD j 0 ^^^ 2 ^ b)) ∧ num (l.set j (l.getD j 0 ^^^ 2 ^ b)) = num l ^^^ 2 ^ (64 * j + b) := by
  have hx : l.getD j 0 ^^^ 2 ^ b < 18446744073709551616 :=
    Nat.xor_lt_two_pow (n := 64) (by simpa using hl j) (Nat.pow_lt_pow_right (by decide) hb)
  have hw := hl.set j _ hx
  refine ⟨hw, ?_⟩
  apply Nat.eq_of_testBit_eq
  intro i
  rw [num_testBit hw.mem, Nat.testBit_xor, num_testBit hl.mem, Nat.testBit_two_pow]
  by_cases hi : i / 64 = j
  · subst hi
    have e : (l.set (i / 64) (l.getD (i / 64) 0 ^^^ 2 ^ b)).getD (i / 64) 0 = l.getD (i / 64) 0 ^^^ 2 ^ b := by
      rw [List.getD_eq_getElem?_getD, List.getElem?_set_self hj, Option.getD_some]
    rw [e, Nat.testBit_xor, Nat.testBit_two_pow]
    congr 1
    rw [decide_eq_decide]
    omega
  · have e : (l.set j (l.getD j 0 ^^^ 2 ^ b)).getD (i / 64) 0 = l.getD (i / 64) 0 := by
      rw [List.getD_eq_getElem?_getD, List.getElem?_set_ne (fun h => hi h.symm), ← List.getD_eq_getElem?_getD]
    rw [e]
    have : decide (64 * j + b = i) = false := by rw [decide_eq_false_iff_not]; omega
    rw [this, Bool.xor_false]
/-- y is x, with the first i bits of t turned, from bit k on. -/
structure Turned (x : List Nat) (k t i : Nat) (y : List Nat) : Prop where
  len : y.length = x.length
  wd : Wd y
  num : num y = num x ^^^ 2 ^ k * (t % 2 ^ i)
theorem Turned.zero {x : List Nat} (h : Wd x) (k t : Nat) : Turned x k t 0 x := ⟨rfl, h, by simp [Nat.mod_one]⟩
theorem mod_bit (t i : Nat) : t % 2 ^ (i + 1) = t % 2 ^ i ^^^ 2 ^ i * (t / 2 ^ i % 2) := by
  rw [← add_xor _ _ _ (Nat.mod_lt _ (Nat.two_pow_pos _)), Nat.pow_succ, Nat.mod_mul, Nat.add_comm]
theorem Turned.skip {x y : List Nat} {k t i : Nat} (h : Turned x k t i y) (hb : ¬ t / 2 ^ i % 2 = 1) : Turned x k t (i + 1) y := by
  refine ⟨h.len, h.wd, ?_⟩
  have h0 : t / 2 ^ i % 2 = 0 := by omega
  rw [mod_bit, h0, Nat.mul_zero, Nat.xor_zero]
  exact h.num
theorem Turned.turn {x y : List Nat} {k t i : Nat} (h : Turned x k t i y) (hb : t / 2 ^ i % 2 = 1) (hk : (k + i) / 64 < x.length) :
    Turned x k t (i + 1) (y.set ((k + i) / 64) (y.getD ((k + i) / 64) 0 ^^^ 2 ^ ((k + i) % 64))) := by
  obtain ⟨h1, h2⟩ := num_set h.wd (j := (k + i) / 64) (b := (k + i) % 64) (by rw [h.len]; exact hk) (Nat.mod_lt _ (by decide))
  refine ⟨by rw [List.length_set, h.len], h1, ?_⟩
  rw [h2, h.num, mod_bit, hb, Nat.mul_one, xor_mul_pow, ← Nat.pow_add, Nat.div_add_mod, Nat.xor_assoc]
theorem Turned.same {x y : List Nat} {k : Nat} (hx : Wd x) (h : Turned x k 0 32 y) : y = x := by
  refine num_inj h.wd.mem hx.mem h.len ?_
  rw [h.num]; simp
/-- A slot's words turned: as they were if no bit is; else a slot no more, or the empty one. -/
theorem turned_slot {x : Slt} {P I B : Int} (hm : mayB x P I B = true) (hz : isZ x = false) {k t : Nat} {Y : List Nat} (hk : k ≤ 160) (ht : t < 4294967296) (h : Turned (slW x) k t 32 Y) :
    (t = 0 → decBad Y P I B = none ∧ decV Y P I B = x) ∧ (t ≠ 0 → decBad Y P I B = none → decV Y P I B = zS ∧ Y = [0, 0, 0]) := by
  unfold mayB at hm
  simp only [Bool.and_eq_true, decide_eq_true_eq] at hm
  obtain ⟨hg, hx⟩ := hm
  have hI : I ≤ 64 := hg.2.1.2
  have hf := okS_fit hx hI
  have hok := decOk_slW hx hI
  have hz' : ¬ isZ x = true := by rw [hz]; decide
  constructor
  · rintro rfl
    obtain rfl := h.same (slW_wd hf)
    have e1 : decBad (slW x) P I B = none := by unfold decBad; rw [if_neg (by simpa using hg), if_pos hok.1]
    exact ⟨e1, by unfold decV; rw [if_pos e1, hok.2]⟩
  · intro h0 hb
    have hd : decOk Y I = true := by
      unfold decBad at hb
      rw [if_neg (by simpa using hg)] at hb
      cases hd : decOk Y I
      · rw [hd] at hb; simp at hb
      · rfl
    obtain ⟨_, hy, hw⟩ := decOk_of hd
    have ev : decV Y P I B = rdS Y := by unfold decV; rw [if_pos hb]
    cases hzz : isZ (rdS Y) with
    | true =>
      have e := isZ_eq.1 hzz
      rw [ev, e]
      refine ⟨rfl, ?_⟩
      rw [← hw]
      unfold slW
      rw [if_pos hzz]
    | false =>
      refine absurd (slot_told hf hz' (okS_fit hy hI) (by rw [hzz]; decide) hk ht ?_) h0
      rw [hw, h.num, Nat.mod_eq_of_lt (by simpa using ht)]
end Go.Proofs.YtipghcpodhokbaaDoor
