/- GeomWhat: whatever it is called with, it hands back true; nothing that was there has turned. -/
import Derived.Test.YthimikdhdcjneaaGeoAlive
namespace Go.Proofs.Ythimikdhdcjneaa
open Go.RowKit
/-- The region of a word. -/
def WhatOk (P I B a k n o : Nat) : Prop := ∃ i m, i < 2 + I + P + B ∧ (allL P I B).getD i sp0 = ⟨k, n, m⟩ ∧ o < m ∧ a = offL (allL P I B) i + o
def WhatAt (P I B a : Nat) (w : World) (e : Ending) (w' : World) : Prop := ∃ k n o : Nat, e = .returned (.tuple #[reg k n o, .int .i64 0]) ∧ WhatOk P I B a k n o ∧ Below w.heap.size w w'
theorem what_at (P I B a : Nat) (w : World) (h : GOK P I B) (ha : a < 8 * (2 + I + 17 * P + 4 * B)) : Calls Try.prog 16 #[gv P I B, .int .i64 (a : Nat)] w (WhatAt P I B a w) := by
  by_cases h5 : 2 + I + 17 * P ≤ a / 8
  · obtain ⟨o, rfl⟩ : ∃ o, a = (2 + I + 17 * P) * 8 + o := ⟨a - (2 + I + 17 * P) * 8, by omega⟩
    refine (what_in5 P I B _ w h ha (by unfold kindN; rw [if_pos h5]) _ rfl o (by omega) (by omega)).mono fun e w' ⟨he, hb⟩ => ⟨5, o / 32 + 1, o % 32, ?_, ⟨2 + I + P + o / 32, 32, by omega, all_blk P I B _ (by omega), by omega, ?_⟩, hb⟩
    · rw [he, show ((o / 32 + 1 : Nat) : Int) = 1 + (o : Int) / 32 by omega, show ((o % 32 : Nat) : Int) = (o : Int) % 32 by omega]; rfl
    · rw [off_blk P I B _ (by omega)]; omega
  · by_cases h4 : 2 + I ≤ a / 8
    · obtain ⟨o, rfl⟩ : ∃ o, a = (2 + I) * 8 + o := ⟨a - (2 + I) * 8, by omega⟩
      refine (what_in4 P I B _ w h ha (by unfold kindN; rw [if_neg h5, if_pos h4]) _ rfl o (by omega) (by omega)).mono fun e w' ⟨he, hb⟩ => ⟨4, o / 136, o % 136, ?_, ⟨2 + I + o / 136, 136, by omega, all_slot P I B _ (by omega), by omega, ?_⟩, hb⟩
      · rw [he, show ((o / 136 : Nat) : Int) = (o : Int) / 136 by omega, show ((o % 136 : Nat) : Int) = (o : Int) % 136 by omega]; rfl
      · rw [off_slot P I B _ (by omega)]; omega
    · by_cases h3 : 2 ≤ a / 8
      · obtain ⟨o, rfl⟩ : ∃ o, a = 2 * 8 + o := ⟨a - 2 * 8, by omega⟩
        refine (what_in3 P I B _ w h ha (by unfold kindN; rw [if_neg h5, if_neg h4, if_pos h3]) _ rfl o (by omega) (by omega)).mono fun e w' ⟨he, hb⟩ => ⟨3, o / 8 + 1, o % 8, ?_, ⟨2 + o / 8, 8, by omega, all_ino P I B _ (by omega), by omega, ?_⟩, hb⟩
        · rw [he, show ((o / 8 + 1 : Nat) : Int) = 1 + (o : Int) / 8 by omega, show ((o % 8 : Nat) : Int) = (o : Int) % 8 by omega]; rfl
        · rw [off_ino P I B _ (by omega)]; omega
      · by_cases h2 : 1 ≤ a / 8
        · obtain ⟨o, rfl⟩ : ∃ o, a = 1 * 8 + o := ⟨a - 1 * 8, by omega⟩
          refine (what_in2 P I B _ w h ha (by unfold kindN; rw [if_neg h5, if_neg h4, if_neg h3, if_pos h2]) _ rfl o (by omega) (by omega)).mono fun e w' ⟨he, hb⟩ => ⟨2, 0, o, ?_, ⟨1, 8, by omega, all_1 P I B, by omega, ?_⟩, hb⟩
          · rw [he, show (o : Int) / 8 = 0 by omega, show (o : Int) % 8 = o by omega]; rfl
          · rw [off_1]
        · refine (what_in1 P I B a w h ha (by unfold kindN; rw [if_neg h5, if_neg h4, if_neg h3, if_neg h2]) _ rfl a (by omega) (by omega)).mono fun e w' ⟨he, hb⟩ => ⟨1, 0, a, ?_, ⟨0, 8, by omega, all_0 P I B, by omega, ?_⟩, hb⟩
          · rw [he, show (a : Int) / 8 = 0 by omega, show (a : Int) % 8 = a by omega]; rfl
          · rw [offL_zero]; omega
theorem rwhat_at (P I B a k n o : Nat) (w : World) (h : GOK P I B) (ho : WhatOk P I B a k n o) : Calls Try.prog 17 #[gv P I B, .int .i64 (a : Nat)] w fun e w' => e = .returned (.tuple #[reg k n o, .bool true]) ∧ Below w.heap.size w w' := by
  obtain ⟨i, m, hi, hp, hom, rfl⟩ := ho
  have hP : P ≤ 8 := by have := h.1.2; omega
  have hI : I ≤ 64 := by have := h.2.1.2; omega
  have hB : B ≤ 255 := by have := h.2.2.2; omega
  exact rwhat_in P I B i _ w hP hI hB (few_all P I B hP hI hB) (by rw [allL_length]; exact hi) k n m hp o (by omega) (by omega) (by omega)
theorem rwhat_no (P I B : Nat) (a : Int) (w : World) (h : GOK P I B) (ha : a < 0 ∨ 8 * (2 + I + 17 * P + 4 * B : Nat) ≤ a) (ha2 : a ≤ 9223372036854775807) : Calls Try.prog 17 #[gv P I B, .int .i64 a] w fun e w' => e = .returned (.tuple #[reg 0 0 0, .bool false]) ∧ Below w.heap.size w w' := by
  have hP : P ≤ 8 := by have := h.1.2; omega
  have hI : I ≤ 64 := by have := h.2.1.2; omega
  have hB : B ≤ 255 := by have := h.2.2.2; omega
  exact rwhat_out P I B a w hP hI hB (few_all P I B hP hI hB) (by rw [off_all]; omega) ha2 (by rw [allL_length]; omega)
theorem lwhat_bad (P I B a : Int) (w : World) (h : ¬ GOK P I B) :
    Calls Try.prog 4 #[gv P I B, .int .i64 a] w fun e w' => e = .returned (.bool true) ∧ Below w.heap.size w w' := by
  have HG := Lib.hid h
  clear h
  go_enter Try.func4, Try.ntmps4
  go_wp2_with (fail)
  refine (what_bad P I B a _ HG.out).mono ?_
  rintro e w1 ⟨rfl, hb1⟩
  have x1 := Bx.later hb1 rfl
  have bw1 := below_alloc hb1
  clear hb1
  have hlt1 := x1.lt
  obtain ⟨b0, b1, b2⟩ := x1.cells
  go_wp2_with (fail)
  refine (may_no P I B _ HG.out).mono ?_
  rintro e w2 ⟨rfl, hb2⟩
  clear b0 b1 b2 hlt1
  have y2 := alloc_later hb2
  have x2 := x1.below (below_alloc hb2) x1.lt
  have bw2 := bw1.trans ((below_alloc hb2).mono bw1.size)
  clear hb2
  obtain ⟨r0, r1, r2⟩ := three_cells y2
  go_wp2_with (fail)
  refine (alive_calls _).mono ?_
  rintro e w3 ⟨rfl, hb3⟩
  go_wp2
  go_ret
  exact ⟨rfl, bw2.trans (hb3.mono bw2.size)⟩
theorem lwhat_out (P I B : Nat) (a : Int) (w : World) (h : GOK P I B) (ha : a < 0 ∨ 8 * (2 + I + 17 * P + 4 * B : Nat) ≤ a) (ha2 : a ≤ 9223372036854775807) :
    Calls Try.prog 4 #[gv P I B, .int .i64 a] w fun e w' => e = .returned (.bool true) ∧ Below w.heap.size w w' := by
  have HG := Lib.hid h
  have HA := Lib.hid ha
  clear h ha
  go_enter Try.func4, Try.ntmps4
  go_wp2_with (fail)
  refine (what_out P I B a _ HG.out HA.out).mono ?_
  rintro e w1 ⟨rfl, hb1⟩
  have x1 := Bx.later hb1 rfl
  have bw1 := below_alloc hb1
  clear hb1
  have hlt1 := x1.lt
  obtain ⟨b0, b1, b2⟩ := x1.cells
  go_wp2_with (fail)
  refine (may_yes P I B _ HG.out).mono ?_
  rintro e w2 ⟨rfl, hb2⟩
  clear b0 b1 b2 hlt1
  have y2 := alloc_later hb2
  have x2 := x1.below (below_alloc hb2) x1.lt
  have bw2 := bw1.trans ((below_alloc hb2).mono bw1.size)
  clear hb2
  obtain ⟨b0, b1, b2⟩ := x2.cells
  go_wp2_with (fail)
  refine (rwhat_no P I B a _ HG.out HA.out ha2).mono ?_
  rintro e w3 ⟨rfl, hb3⟩
  clear b0 b1 b2
  have y3 := (hb3.block _ (lt_of_cells y2)).trans y2
  have bw3 := bw2.trans (hb3.mono bw2.size)
  obtain ⟨r0, r1, r2⟩ := three_cells y3
  have hl3 := lt_of_cells y3
  go_wp2_with (fail)
  refine (alive_calls _).mono ?_
  rintro e w4 ⟨rfl, hb4⟩
  go_wp2
  go_ret
  exact ⟨rfl, bw3.trans ((below_alloc hb4).mono bw3.size)⟩
theorem lwhat_in (P I B a : Nat) (w : World) (h : GOK P I B) (ha : a < 8 * (2 + I + 17 * P + 4 * B)) :
    Calls Try.prog 4 #[gv P I B, .int .i64 (a : Nat)] w fun e w' => e = .returned (.bool true) ∧ Below w.heap.size w w' := by
  have HG := Lib.hid h
  have HA := Lib.hid ha
  clear h ha
  go_enter Try.func4, Try.ntmps4
  go_wp2_with (fail)
  refine (what_at P I B a _ HG.out HA.out).mono ?_
  rintro e w1 ⟨k, n, o, rfl, hok, hb1⟩
  have x1 := Bx.later hb1 rfl
  have bw1 := below_alloc hb1
  clear hb1
  have hlt1 := x1.lt
  obtain ⟨b0, b1, b2⟩ := x1.cells
  go_wp2_with (fail)
  refine (may_yes P I B _ HG.out).mono ?_
  rintro e w2 ⟨rfl, hb2⟩
  clear b0 b1 b2 hlt1
  have y2 := alloc_later hb2
  have x2 := x1.below (below_alloc hb2) x1.lt
  have bw2 := bw1.trans ((below_alloc hb2).mono bw1.size)
  clear hb2
  obtain ⟨b0, b1, b2⟩ := x2.cells
  go_wp2_with (fail)
  refine (rwhat_at P I B a k n o _ HG.out hok).mono ?_
  rintro e w3 ⟨rfl, hb3⟩
  clear b0 b1 b2
  have y3 := (hb3.block _ (lt_of_cells y2)).trans y2
  have bw3 := bw2.trans (hb3.mono bw2.size)
  obtain ⟨r0, r1, r2⟩ := three_cells y3
  have hl3 := lt_of_cells y3
  go_wp2_with (fail)
  refine (alive_calls _).mono ?_
  rintro e w4 ⟨rfl, hb4⟩
  go_wp2
  go_ret
  exact ⟨rfl, bw3.trans ((below_alloc hb4).mono bw3.size)⟩
theorem lwhat_calls (P I B a : Int) (w : World) (ha2 : a ≤ 9223372036854775807) :
    Calls Try.prog 4 #[gv P I B, .int .i64 a] w fun e w' => e = .returned (.bool true) ∧ Below w.heap.size w w' := by
  by_cases h : GOK P I B
  · obtain ⟨p, i, b, rfl, rfl, rfl⟩ : ∃ p i b : Nat, P = p ∧ I = i ∧ B = b := ⟨P.toNat, I.toNat, B.toNat, by have := h.1.1; omega, by have := h.2.1.1; omega, by have := h.2.2.1; omega⟩
    by_cases ha : a < 0 ∨ 8 * (2 + i + 17 * p + 4 * b : Nat) ≤ a
    · exact lwhat_out p i b a w h ha ha2
    · obtain ⟨q, rfl⟩ : ∃ q : Nat, a = q := ⟨a.toNat, by omega⟩
      exact lwhat_in p i b q w h (by omega)
  · exact lwhat_bad P I B a w h
end Go.Proofs.Ythimikdhdcjneaa
