/- GeomPlaces: whatever it is called with, it hands back true; nothing that was there has turned. -/
import Derived.Test.YthimikdhdcjneaaGeoAlive
namespace Go.Proofs.Ythimikdhdcjneaa
open Go.RowKit
/-- v, x are the place of a region, or say that there is none. -/
def PlacedOk (P I B k : Nat) (n v x : Int) : Prop :=
  ∃ i, i ≤ 2 + I + P + B ∧ NoneTo (allL P I B) k n i ∧ (i < 2 + I + P + B → Isr ((allL P I B).getD i sp0) k n) ∧ ((i < 2 + I + P + B ∧ v = (offL (allL P I B) i : Nat) ∧ x = 0) ∨ (i = 2 + I + P + B ∧ v = 0 ∧ x = 3))
theorem noneTo_of {P I B k i : Nat} {n : Int} (hi : i ≤ 2 + I + P + B) (h : ∀ j, j < i → ¬ ((j = 0 ∧ k = 1) ∨ (j = 1 ∧ k = 2) ∨ (2 ≤ j ∧ j < 2 + I ∧ k = 3 ∧ n = (j : Int) - 1) ∨ (2 + I ≤ j ∧ j < 2 + I + P ∧ k = 4 ∧ n = (j : Int) - 2 - I) ∨ (2 + I + P ≤ j ∧ k = 5 ∧ n = (j : Int) - 1 - I - P))) : NoneTo (allL P I B) k n i :=
  ⟨fun j hj he => h j hj (isr_all (by omega) he)⟩
def PlacesAt (P I B k : Nat) (n : Int) (w : World) (e : Ending) (w' : World) : Prop := ∃ v x : Int, e = .returned (.tuple #[.int .i64 v, .int .i64 x]) ∧ PlacedOk P I B k n v x ∧ Below w.heap.size w w'
theorem inode_at (P I B : Nat) (n : Int) (w : World) (h : GOK P I B) : Calls Try.prog 8 #[gv P I B, .int .i64 n] w (PlacesAt P I B 3 n w) := by
  have hI := h.2.1.1
  by_cases hn : 1 ≤ n ∧ n ≤ 1 + (I : Nat) - 1
  · refine (inode_in P I B n w h hn.1 hn.2).mono fun e w' ⟨he, hb⟩ => ⟨_, _, he, ?_, hb⟩
    obtain ⟨k, rfl⟩ : ∃ k : Nat, n = (k : Int) + 1 := ⟨(n - 1).toNat, by omega⟩
    refine ⟨2 + k, by omega, noneTo_of (by omega) (by intro j hj; omega), fun _ => ?_, .inl ⟨by omega, ?_, rfl⟩⟩
    · rw [all_ino P I B k (by omega)]; exact ⟨rfl, rfl⟩
    · rw [off_ino P I B k (by omega), ahead3]; omega
  · exact (inode_out P I B n w h (by omega)).mono fun e w' ⟨he, hb⟩ => ⟨_, _, he, ⟨_, Nat.le_refl _, noneTo_of (Nat.le_refl _) (by intro j hj; omega), fun h => absurd h (Nat.lt_irrefl _), .inr ⟨rfl, rfl, rfl⟩⟩, hb⟩
theorem slot_at (P I B : Nat) (n : Int) (w : World) (h : GOK P I B) : Calls Try.prog 9 #[gv P I B, .int .i64 n] w (PlacesAt P I B 4 n w) := by
  by_cases hn : 0 ≤ n ∧ n ≤ 0 + (P : Nat) - 1
  · refine (slot_in P I B n w h hn.1 hn.2).mono fun e w' ⟨he, hb⟩ => ⟨_, _, he, ?_, hb⟩
    obtain ⟨k, rfl⟩ : ∃ k : Nat, n = (k : Int) := ⟨n.toNat, by omega⟩
    refine ⟨2 + I + k, by omega, noneTo_of (by omega) (by intro j hj; omega), fun _ => ?_, .inl ⟨by omega, ?_, rfl⟩⟩
    · rw [all_slot P I B k (by omega)]; exact ⟨rfl, rfl⟩
    · rw [off_slot P I B k (by omega), ahead4]; omega
  · exact (slot_out P I B n w h (by omega)).mono fun e w' ⟨he, hb⟩ => ⟨_, _, he, ⟨_, Nat.le_refl _, noneTo_of (Nat.le_refl _) (by intro j hj; omega), fun h => absurd h (Nat.lt_irrefl _), .inr ⟨rfl, rfl, rfl⟩⟩, hb⟩
theorem block_at (P I B : Nat) (n : Int) (w : World) (h : GOK P I B) : Calls Try.prog 10 #[gv P I B, .int .i64 n] w (PlacesAt P I B 5 n w) := by
  by_cases hn : 1 ≤ n ∧ n ≤ 1 + (B : Nat) - 1
  · refine (block_in P I B n w h hn.1 hn.2).mono fun e w' ⟨he, hb⟩ => ⟨_, _, he, ?_, hb⟩
    obtain ⟨k, rfl⟩ : ∃ k : Nat, n = (k : Int) + 1 := ⟨(n - 1).toNat, by omega⟩
    refine ⟨2 + I + P + k, by omega, noneTo_of (by omega) (by intro j hj; omega), fun _ => ?_, .inl ⟨by omega, ?_, rfl⟩⟩
    · rw [all_blk P I B k (by omega)]; exact ⟨rfl, rfl⟩
    · rw [off_blk P I B k (by omega), ahead5]; omega
  · exact (block_out P I B n w h (by omega)).mono fun e w' ⟨he, hb⟩ => ⟨_, _, he, ⟨_, Nat.le_refl _, noneTo_of (Nat.le_refl _) (by intro j hj; omega), fun h => absurd h (Nat.lt_irrefl _), .inr ⟨rfl, rfl, rfl⟩⟩, hb⟩
theorem placed_calls (P I B k : Nat) (n v x : Int) (w : World) (h : GOK P I B) (hk : k ≤ 255) (hp : PlacedOk P I B k n v x) :
    Calls Try.prog 15 #[gv P I B, .int .u8 (k : Nat), .int .i64 n, .int .i64 v, .int .i64 x] w fun e w' => e = .returned (.bool true) ∧ Below w.heap.size w w' := by
  obtain ⟨i, hi, hno, his, hor⟩ := hp
  have hP : P ≤ 8 := by have := h.1.2; omega
  have hI : I ≤ 64 := by have := h.2.1.2; omega
  have hB : B ≤ 255 := by have := h.2.2.2; omega
  have C := fun W => rplace_calls P I B k n i W hP hI hB (few_all P I B hP hI hB) (by rw [allL_length]; exact hi) hno (by rw [allL_length]; exact his) hk
  rw [allL_length] at C
  rcases hor with ⟨hlt, rfl, rfl⟩ | ⟨rfl, rfl, rfl⟩
  · rw [if_pos hlt, decide_eq_true hlt] at C
    generalize offL (allL P I B) i = q at *
    have H := Lib.hid C
    clear C hno his hlt hi
    go_enter Try.func15, Try.ntmps15
    go_wp2_with (fail)
    refine (H.out _).mono ?_
    rintro e w1 ⟨rfl, hb1⟩
    go_wp2
    go_ret
    exact ⟨rfl, below_alloc hb1⟩
  · rw [if_neg (Nat.lt_irrefl _), decide_eq_false (Nat.lt_irrefl _)] at C
    have H := Lib.hid C
    clear C hno his hi
    go_enter Try.func15, Try.ntmps15
    go_wp2_with (fail)
    refine (H.out _).mono ?_
    rintro e w1 ⟨rfl, hb1⟩
    go_wp2
    go_ret
    exact ⟨rfl, below_alloc hb1⟩
theorem words_val (P I B : Nat) (w : World) (h : GOK P I B) : Calls Try.prog 14 #[gv P I B] w fun e w' => e = .returned (.int .i64 (8 * (2 + I + 17 * P + 4 * B : Nat))) ∧ Below w.heap.size w w' := by
  have hP : P ≤ 8 := by have := h.1.2; omega
  have hI : I ≤ 64 := by have := h.2.1.2; omega
  have hB : B ≤ 255 := by have := h.2.2.2; omega
  have C := words_calls P I B w hP hI hB (few_all P I B hP hI hB)
  rw [off_all] at C
  rw [show (8 * ((2 + I + 17 * P + 4 * B : Nat) : Int)) = ((16 + 8 * I + 136 * P + 32 * B : Nat) : Int) by omega]
  exact C
/-- Geometries: as naturals, where they may be. -/
theorem gok_nat {P I B : Int} (h : GOK P I B) : ∃ p i b : Nat, P = p ∧ I = i ∧ B = b := ⟨P.toNat, I.toNat, B.toNat, by have := h.1.1; omega, by have := h.2.1.1; omega, by have := h.2.2.1; omega⟩
set_option maxRecDepth 100000 in
theorem places_good (P I B : Nat) (n : Int) (w : World) (h : GOK P I B) :
    Calls Try.prog 3 #[gv P I B, .int .i64 n] w fun e w' => e = .returned (.bool true) ∧ Below w.heap.size w w' := by
  have hn : 2 + I + 17 * P + 4 * B ≤ 4096 := by unfold GOK at h; omega
  have C1 := fun W => lines_ok P I B W h
  have C2 := fun W => words_val P I B W h
  generalize 2 + I + 17 * P + 4 * B = m at *
  have H1 := Lib.hid C1
  have H2 := Lib.hid C2
  have HG := Lib.hid h
  clear C1 C2 h
  go_enter Try.func3, Try.ntmps3
  go_wp2_with (fail)
  refine (H1.out _).mono ?_
  rintro e w1 ⟨rfl, hb1⟩
  have x1 := Bx.later hb1 rfl
  have bw1 := below_alloc hb1
  clear hb1
  obtain ⟨b0, b1, b2⟩ := x1.cells
  go_wp2_with (fail)
  refine (inode_at P I B n _ HG.out).mono ?_
  rintro e w2 ⟨v2, y2, rfl, p2, hb2⟩
  clear b0 b1 b2
  have x2 := x1.below hb2 x1.lt
  have bw2 := bw1.trans (hb2.mono bw1.size)
  clear hb2
  obtain ⟨b0, b1, b2⟩ := x2.cells
  go_wp2_with (fail)
  refine (slot_at P I B n _ HG.out).mono ?_
  rintro e w3 ⟨v3, y3, rfl, p3, hb3⟩
  clear b0 b1 b2
  have x3 := x2.below hb3 x2.lt
  have bw3 := bw2.trans (hb3.mono bw2.size)
  clear hb3
  obtain ⟨b0, b1, b2⟩ := x3.cells
  go_wp2_with (fail)
  refine (block_at P I B n _ HG.out).mono ?_
  rintro e w4 ⟨v4, y4, rfl, p4, hb4⟩
  clear b0 b1 b2
  have x4 := x3.below hb4 x3.lt
  have bw4 := bw3.trans (hb4.mono bw3.size)
  clear hb4
  obtain ⟨b0, b1, b2⟩ := x4.cells
  go_wp2_with (fail)
  refine (may_yes P I B _ HG.out).mono ?_
  rintro e w5 ⟨rfl, hb5⟩
  clear b0 b1 b2
  have x5 := x4.below hb5 x4.lt
  have bw5 := bw4.trans (hb5.mono bw4.size)
  clear hb5
  obtain ⟨b0, b1, b2⟩ := x5.cells
  go_wp2_with (fail)
  refine (check_ok P I B _ HG.out).mono ?_
  rintro e w6 ⟨rfl, hb6⟩
  clear b0 b1 b2
  have x6 := x5.below hb6 x5.lt
  have bw6 := bw5.trans (hb6.mono bw5.size)
  clear hb6
  obtain ⟨b0, b1, b2⟩ := x6.cells
  go_wp2_with (fail)
  refine (H2.out _).mono ?_
  rintro e w7 ⟨rfl, hb7⟩
  clear b0 b1 b2
  have x7 := x6.below hb7 x6.lt
  have bw7 := bw6.trans (hb7.mono bw6.size)
  clear hb7
  obtain ⟨b0, b1, b2⟩ := x7.cells
  go_wp2_with (fail)
  refine (placed_calls P I B 3 n v2 y2 _ HG.out (by decide) p2).mono ?_
  rintro e w8 ⟨rfl, hb8⟩
  clear b0 b1 b2
  have x8 := x7.below hb8 x7.lt
  have bw8 := bw7.trans (hb8.mono bw7.size)
  clear hb8
  obtain ⟨b0, b1, b2⟩ := x8.cells
  go_wp2_with (fail)
  refine (placed_calls P I B 4 n v3 y3 _ HG.out (by decide) p3).mono ?_
  rintro e w9 ⟨rfl, hb9⟩
  clear b0 b1 b2
  have x9 := x8.below hb9 x8.lt
  have bw9 := bw8.trans (hb9.mono bw8.size)
  clear hb9
  obtain ⟨b0, b1, b2⟩ := x9.cells
  go_wp2_with (fail)
  refine (placed_calls P I B 5 n v4 y4 _ HG.out (by decide) p4).mono ?_
  rintro e w10 ⟨rfl, hb10⟩
  clear b0 b1 b2
  have x10 := x9.below hb10 x9.lt
  have bw10 := bw9.trans (hb10.mono bw9.size)
  clear hb10
  obtain ⟨b0, b1, b2⟩ := x10.cells
  go_wp2_with (fail)
  refine (alive_calls _).mono ?_
  rintro e w11 ⟨rfl, hb11⟩
  clear b0 b1 b2
  have x11 := x10.below hb11 x10.lt
  have bw11 := bw10.trans (hb11.mono bw10.size)
  clear hb11
  obtain ⟨b0, b1, b2⟩ := x11.cells
  go_wp2
  go_ret
  exact ⟨rfl, bw11⟩
set_option maxRecDepth 100000 in
theorem places_bad (P I B n : Int) (w : World) (h : ¬ GOK P I B) :
    Calls Try.prog 3 #[gv P I B, .int .i64 n] w fun e w' => e = .returned (.bool true) ∧ Below w.heap.size w w' := by
  have HG := Lib.hid h
  clear h
  go_enter Try.func3, Try.ntmps3
  go_wp2_with (fail)
  refine (lines_bad P I B _ HG.out).mono ?_
  rintro e w1 ⟨rfl, hb1⟩
  have x1 := Bx.later hb1 rfl
  have bw1 := below_alloc hb1
  clear hb1
  obtain ⟨b0, b1, b2⟩ := x1.cells
  go_wp2_with (fail)
  refine (inode_bad P I B n _ HG.out).mono ?_
  rintro e w2 ⟨rfl, hb2⟩
  clear b0 b1 b2
  have x2 := x1.below hb2 x1.lt
  have bw2 := bw1.trans (hb2.mono bw1.size)
  clear hb2
  obtain ⟨b0, b1, b2⟩ := x2.cells
  go_wp2_with (fail)
  refine (slot_bad P I B n _ HG.out).mono ?_
  rintro e w3 ⟨rfl, hb3⟩
  clear b0 b1 b2
  have x3 := x2.below hb3 x2.lt
  have bw3 := bw2.trans (hb3.mono bw2.size)
  clear hb3
  obtain ⟨b0, b1, b2⟩ := x3.cells
  go_wp2_with (fail)
  refine (block_bad P I B n _ HG.out).mono ?_
  rintro e w4 ⟨rfl, hb4⟩
  clear b0 b1 b2
  have x4 := x3.below hb4 x3.lt
  have bw4 := bw3.trans (hb4.mono bw3.size)
  clear hb4
  obtain ⟨b0, b1, b2⟩ := x4.cells
  go_wp2_with (fail)
  refine (may_no P I B _ HG.out).mono ?_
  rintro e w5 ⟨rfl, hb5⟩
  clear b0 b1 b2
  have x5 := x4.below hb5 x4.lt
  have bw5 := bw4.trans (hb5.mono bw4.size)
  clear hb5
  obtain ⟨b0, b1, b2⟩ := x5.cells
  go_wp2_with (fail)
  refine (check_bad P I B _ HG.out).mono ?_
  rintro e w6 ⟨rfl, hb6⟩
  clear b0 b1 b2
  have x6 := x5.below hb6 x5.lt
  have bw6 := bw5.trans (hb6.mono bw5.size)
  clear hb6
  obtain ⟨b0, b1, b2⟩ := x6.cells
  go_wp2_with (fail)
  refine (alive_calls _).mono ?_
  rintro e w7 ⟨rfl, hb7⟩
  clear b0 b1 b2
  have x7 := x6.below hb7 x6.lt
  have bw7 := bw6.trans (hb7.mono bw6.size)
  clear hb7
  obtain ⟨b0, b1, b2⟩ := x7.cells
  go_wp2
  go_ret
  exact ⟨rfl, bw7⟩
theorem places_calls (P I B n : Int) (w : World) :
    Calls Try.prog 3 #[gv P I B, .int .i64 n] w fun e w' => e = .returned (.bool true) ∧ Below w.heap.size w w' := by
  by_cases h : GOK P I B
  · obtain ⟨p, i, b, rfl, rfl, rfl⟩ := gok_nat h
    exact places_good p i b n w h
  · exact places_bad P I B n w h
end Go.Proofs.Ythimikdhdcjneaa
