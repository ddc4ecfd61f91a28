/- GeomApart: regions as plain numbers; the place of the first word of each. -/
import Derived.Test.YthimikdhdcjneaaLawWhat
namespace Go.Proofs.Ythimikdhdcjneaa
open Go.RowKit
/-- The region of a word, in numbers. -/
def WhatA (P I B a k n o : Nat) : Prop :=
  (k = 1 ∧ n = 0 ∧ o < 8 ∧ a = o) ∨ (k = 2 ∧ n = 0 ∧ o < 8 ∧ a = 8 + o) ∨ (k = 3 ∧ 1 ≤ n ∧ n ≤ I ∧ o < 8 ∧ a = 8 + 8 * n + o) ∨ (k = 4 ∧ n < P ∧ o < 136 ∧ a = 16 + 8 * I + 136 * n + o) ∨ (k = 5 ∧ 1 ≤ n ∧ n ≤ B ∧ o < 32 ∧ a + 16 = 8 * I + 136 * P + 32 * n + o)
theorem WhatOk.nums {P I B a k n o : Nat} (h : WhatOk P I B a k n o) : WhatA P I B a k n o := by
  obtain ⟨j, m, hj, hp, ho, rfl⟩ := h
  by_cases h0 : j = 0
  · subst h0
    rw [all_0] at hp
    injection hp with h1 h2 h3
    rw [offL_zero]
    exact .inl ⟨by omega, by omega, by omega, by omega⟩
  · by_cases h1 : j = 1
    · subst h1
      rw [all_1] at hp
      injection hp with h1 h2 h3
      rw [off_1]
      exact .inr (.inl ⟨by omega, by omega, by omega, by omega⟩)
    · by_cases h2 : j < 2 + I
      · obtain ⟨q, rfl⟩ : ∃ q, j = 2 + q := ⟨j - 2, by omega⟩
        rw [all_ino P I B q (by omega)] at hp
        injection hp with h1 h2 h3
        rw [off_ino P I B q (by omega)]
        exact .inr (.inr (.inl ⟨by omega, by omega, by omega, by omega, by omega⟩))
      · by_cases h3 : j < 2 + I + P
        · obtain ⟨q, rfl⟩ : ∃ q, j = 2 + I + q := ⟨j - 2 - I, by omega⟩
          rw [all_slot P I B q (by omega)] at hp
          injection hp with h1 h2 h3
          rw [off_slot P I B q (by omega)]
          exact .inr (.inr (.inr (.inl ⟨by omega, by omega, by omega, by omega⟩)))
        · obtain ⟨q, rfl⟩ : ∃ q, j = 2 + I + P + q := ⟨j - 2 - I - P, by omega⟩
          rw [all_blk P I B q (by omega)] at hp
          injection hp with h1 h2 h3
          rw [off_blk P I B q (by omega)]
          exact .inr (.inr (.inr (.inr ⟨by omega, by omega, by omega, by omega, by omega⟩)))
/-- Its first word is there. -/
def FirstA (P I B k n a : Nat) : Prop :=
  (k = 1 ∧ n = 0 ∧ a = 0) ∨ (k = 2 ∧ n = 0 ∧ a = 8) ∨ (k = 3 ∧ 1 ≤ n ∧ n ≤ I ∧ a = 8 + 8 * n) ∨ (k = 4 ∧ n < P ∧ a = 16 + 8 * I + 136 * n) ∨ (k = 5 ∧ 1 ≤ n ∧ n ≤ B ∧ a + 16 = 8 * I + 136 * P + 32 * n)
/-- The region of the word ahead; ahead of the first word there is none. -/
def Before (P I B a k n o : Nat) : Prop := (a = 0 ∧ k = 0 ∧ n = 0 ∧ o = 0) ∨ (1 ≤ a ∧ WhatA P I B (a - 1) k n o)
theorem next_ok {P I B a k n o k' n' o' : Nat} (hI : 1 ≤ I) (hP : 1 ≤ P) (_ : 1 ≤ B) (h : Before P I B a k n o) (h' : WhatA P I B a k' n' o') :
    (k' = k ∧ n' = n ∧ o' = o + 1) ∨ (o' = 0 ∧ a % 8 = 0 ∧ FirstA P I B k' n' a ∧ (k < k' ∨ (k' = k ∧ n < n'))) := by
  have hc : (a = 0 ∧ k = 0 ∧ n = 0 ∧ o = 0) ∨ (1 ≤ a ∧ k = 1 ∧ n = 0 ∧ o < 8 ∧ a = o + 1) ∨ (1 ≤ a ∧ k = 2 ∧ n = 0 ∧ o < 8 ∧ a = 8 + o + 1) ∨ (1 ≤ a ∧ k = 3 ∧ 1 ≤ n ∧ n ≤ I ∧ o < 8 ∧ a = 8 + 8 * n + o + 1) ∨ (1 ≤ a ∧ k = 4 ∧ n < P ∧ o < 136 ∧ a = 16 + 8 * I + 136 * n + o + 1) ∨ (1 ≤ a ∧ k = 5 ∧ 1 ≤ n ∧ n ≤ B ∧ o < 32 ∧ a + 16 = 8 * I + 136 * P + 32 * n + o + 1) := by
    rcases h with h | ⟨h0, h⟩
    · exact .inl h
    · rcases h with h | h | h | h | h
      · exact .inr (.inl (by omega))
      · exact .inr (.inr (.inl (by omega)))
      · exact .inr (.inr (.inr (.inl (by omega))))
      · exact .inr (.inr (.inr (.inr (.inl (by omega)))))
      · exact .inr (.inr (.inr (.inr (.inr (by omega)))))
  clear h
  rcases h' with ⟨rfl, rfl, h3, h4⟩ | ⟨rfl, rfl, h3, h4⟩ | ⟨rfl, h1, h2, h3, h4⟩ | ⟨rfl, h2, h3, h4⟩ | ⟨rfl, h1, h2, h3, h4⟩
  all_goals by_cases ho : o' = 0
  · exact .inr ⟨ho, by omega, .inl ⟨rfl, rfl, by omega⟩, by rcases hc with h | h | h | h | h | h <;> omega⟩
  · exact .inl (by rcases hc with h | h | h | h | h | h <;> omega)
  · exact .inr ⟨ho, by omega, .inr (.inl ⟨rfl, rfl, by omega⟩), by rcases hc with h | h | h | h | h | h <;> omega⟩
  · exact .inl (by rcases hc with h | h | h | h | h | h <;> omega)
  · exact .inr ⟨ho, by omega, .inr (.inr (.inl ⟨rfl, h1, h2, by omega⟩)), by rcases hc with h | h | h | h | h | h <;> omega⟩
  · exact .inl (by rcases hc with h | h | h | h | h | h <;> omega)
  · exact .inr ⟨ho, by omega, .inr (.inr (.inr (.inl ⟨rfl, h2, by omega⟩))), by rcases hc with h | h | h | h | h | h <;> omega⟩
  · exact .inl (by rcases hc with h | h | h | h | h | h <;> omega)
  · exact .inr ⟨ho, by omega, .inr (.inr (.inr (.inr ⟨rfl, h1, h2, by omega⟩))), by rcases hc with h | h | h | h | h | h <;> omega⟩
  · exact .inl (by rcases hc with h | h | h | h | h | h <;> omega)
theorem last_ok {P I B k n o : Nat} (hP : 1 ≤ P) (hB : 1 ≤ B) (h : WhatA P I B (8 * (2 + I + 17 * P + 4 * B) - 1) k n o) : k = 5 ∧ n = B ∧ o = 31 := by
  unfold WhatA at h
  omega
theorem WhatA.le {P I B a k n o : Nat} (h : WhatA P I B a k n o) : k ≤ 5 ∧ n ≤ I + P + B ∧ o ≤ 136 := by
  unfold WhatA at h
  omega
theorem first_calls (P I B k n a : Nat) (o : Int) (w : World) (h : GOK P I B) (hf : FirstA P I B k n a) : Calls Try.prog 18 #[gv P I B, reg k n o, .int .i64 (a : Nat)] w fun e w' => e = .returned (.bool true) ∧ Below w.heap.size w w' := by
  rcases hf with ⟨rfl, rfl, rfl⟩ | ⟨rfl, rfl, rfl⟩ | ⟨rfl, h1, h2, rfl⟩ | ⟨rfl, h1, rfl⟩ | ⟨rfl, h1, h2, ha⟩
  · go_enter Try.func18, Try.ntmps18
    go_wp2
    go_ret
    exact ⟨rfl, two_allocs _ _ _⟩
  · go_enter Try.func18, Try.ntmps18
    go_wp2
    go_ret
    exact ⟨rfl, two_allocs _ _ _⟩
  · have C := fun W => inode_in P I B (n : Nat) W h (by omega) (by omega)
    rw [ahead3, show (((2 : Nat) : Int) * 8 + ((n : Int) - 1) * 8) = ((8 + 8 * n : Nat) : Int) by omega] at C
    generalize 8 + 8 * n = a at *
    have H := Lib.hid C
    clear C
    go_enter Try.func18, Try.ntmps18
    go_wp2_with (fail)
    refine (H.out _).mono ?_
    rintro e w1 ⟨rfl, hb1⟩
    obtain ⟨_, _, bw1⟩ := later2 hb1
    go_wp2
    go_ret
    exact ⟨rfl, bw1⟩
  · have C := fun W => slot_in P I B (n : Nat) W h (by omega) (by omega)
    rw [ahead4, show (((2 + I : Nat) : Int) * 8 + (n : Int) * 136) = ((16 + 8 * I + 136 * n : Nat) : Int) by omega] at C
    generalize 16 + 8 * I + 136 * n = a at *
    have H := Lib.hid C
    clear C
    go_enter Try.func18, Try.ntmps18
    go_wp2_with (fail)
    refine (H.out _).mono ?_
    rintro e w1 ⟨rfl, hb1⟩
    obtain ⟨_, _, bw1⟩ := later2 hb1
    go_wp2
    go_ret
    exact ⟨rfl, bw1⟩
  · have C := fun W => block_in P I B (n : Nat) W h (by omega) (by omega)
    rw [ahead5, show (((2 + I + 17 * P : Nat) : Int) * 8 + ((n : Int) - 1) * 32) = (a : Int) by omega] at C
    clear ha
    have H := Lib.hid C
    clear C
    go_enter Try.func18, Try.ntmps18
    go_wp2_with (fail)
    refine (H.out _).mono ?_
    rintro e w1 ⟨rfl, hb1⟩
    obtain ⟨_, _, bw1⟩ := later2 hb1
    go_wp2
    go_ret
    exact ⟨rfl, bw1⟩
end Go.Proofs.Ythimikdhdcjneaa
