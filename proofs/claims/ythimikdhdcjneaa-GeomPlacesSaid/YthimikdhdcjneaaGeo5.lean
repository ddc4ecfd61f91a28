/- Which region has a word: What. -/
import Derived.Test.YthimikdhdcjneaaGeo4
namespace Go.Proofs.Ythimikdhdcjneaa
open Go.RowKit Go.Sort
theorem below_drew {B : Nat} {a w : World} (h : Below B a w) : Below B a w.drew := ⟨h.os, h.tape, h.output, h.size, h.block⟩
theorem what_out (P I B : Nat) (a : Int) (w : World) (h : GOK P I B) (ha : a < 0 ∨ 8 * (2 + I + 17 * P + 4 * B : Nat) ≤ a) : Calls Try.prog 16 #[gv P I B, .int .i64 a] w fun e w' => e = .returned (.tuple #[reg 0 0 0, .int .i64 3]) ∧ Below w.heap.size w w' := by
  have C := fun W => lines_ok P I B W h
  have hn : 2 + I + 17 * P + 4 * B ≤ 4096 := by unfold GOK at h; omega
  generalize 2 + I + 17 * P + 4 * B = n at *
  have H := Lib.hid C
  clear h C
  go_enter Try.func16, Try.ntmps16
  go_wp2_with (fail)
  refine (H.out _).mono ?_
  rintro e w1 ⟨rfl, hb1⟩
  obtain ⟨_, hg, hbw⟩ := later2 hb1
  go_wp2_with (fail)
  refine (within_no _ _ _ _ (by omega)).mono ?_
  rintro e w' ⟨rfl, rfl⟩
  obtain ⟨⟨r0, r1, r2⟩, f0, f1, f2⟩ := three_own hg
  go_wp2
  exact bodyPost_ret (v := .tuple #[reg 0 0 0, .int .i64 3]) (by simp [results, Try.results16, go_sem, r0, r1, r2]) rfl ⟨rfl, below_set (below_set (below_set hbw (by omega) 0 _) (by omega) 1 _) (by omega) 2 _⟩
theorem ahead1 (P I B : Nat) : linesL P I B (ahead 1) = 0 := rfl
theorem what_in1 (P I B a : Nat) (w : World) (h : GOK P I B) (ha : a < 8 * (2 + I + 17 * P + 4 * B)) (hk : kindN P I (a / 8) = 1) (b : Nat) (hb : b = 0) (o : Int) (o0 : 0 ≤ o) (ho : (a : Int) = (b : Int) * 8 + o) :
    Calls Try.prog 16 #[gv P I B, .int .i64 (a : Nat)] w fun e w' => e = .returned (.tuple #[reg 1 (o / 8) (o % 8), .int .i64 0]) ∧ Below w.heap.size w w' := by
  have C := fun W => lines_ok P I B W h
  obtain ⟨⟨h1, h2⟩, ⟨h3, h4⟩, ⟨h5, h6⟩⟩ := h
  have C2 := fun W => kindOf_calls P I B (a / 8) W (by omega) (by omega) (by omega) (by omega)
  have e8 : ((a / 8 : Nat) : Int) = (a : Int) / 8 := by omega
  rw [e8, hk] at C2
  have C3 : ∀ W, Calls Try.prog 26 #[gv P I B, .int .u8 1] W fun e w' => e = .returned (.agg #[.int .i64 0, .int .i64 1, .int .i64 8]) ∧ Below W.heap.size W w' := fun W => rowOf_calls P I B 1 W (by omega)
  have C4 := fun W => begin_calls P I B 1 W (by omega) (by omega) (by omega) (by omega) (by omega)
  rw [ahead1, ← hb] at C4
  have hn : 2 + I + 17 * P + 4 * B ≤ 4096 := by omega
  generalize 2 + I + 17 * P + 4 * B = n at *
  have H := Lib.hid C
  have H2 := Lib.hid C2
  have H3 := Lib.hid C3
  have H4 := Lib.hid C4
  have HB := Lib.hid hb
  have hba : b * 8 ≤ a := by omega
  have HO := Lib.hid ho
  clear C C2 C3 C4 hk e8 hb ho
  go_enter Try.func16, Try.ntmps16
  go_wp2_with (fail)
  refine (H.out _).mono ?_
  rintro e w1 ⟨rfl, hb1⟩
  obtain ⟨x1, hg1, hbw1⟩ := later2 hb1
  clear hb1
  have x1 : Bx w1 w.heap.size P I B := x1
  go_wp2_with (fail)
  refine (within_yes _ _ _ _ (by omega) (by omega)).mono ?_
  rintro e w' ⟨rfl, rfl⟩
  obtain ⟨b0, b1, b2⟩ := x1.cells
  go_wp2_with (fail)
  refine (H2.out _).mono ?_
  rintro e w2 ⟨rfl, hb2⟩
  clear b0 b1 b2
  have x2 := x1.below hb2 x1.lt
  have hg2 := (hb2.block _ (lt_of_cells hg1)).trans hg1
  have hbw2 := hbw1.trans (hb2.mono hbw1.size)
  obtain ⟨b0, b1, b2⟩ := x2.cells
  clear x1 hg1 hbw1 hb2
  go_wp2_with (fail)
  refine (H3.out _).mono ?_
  rintro e w3 ⟨rfl, hb3⟩
  clear b0 b1 b2
  have x3 := x2.below hb3 x2.lt
  have hg3 := (hb3.block _ (lt_of_cells hg2)).trans hg2
  have hbw3 := hbw2.trans (hb3.mono hbw2.size)
  clear x2 hg2 hbw2 hb3
  have hlt3 := x3.lt
  obtain ⟨b0, b1, b2⟩ := x3.cells
  go_wp2_with (fail)
  refine (H4.out _).mono ?_
  rintro e w4 ⟨rfl, hb4⟩
  clear b0 b1 b2 hlt3
  have c4 := three_cells (alloc_later hb4)
  obtain ⟨c40, c41, c42⟩ := c4
  have hb4' := below_alloc hb4
  have hg4 := (hb4'.block _ (lt_of_cells hg3)).trans hg3
  have hbw4 := hbw3.trans (hb4'.mono hbw3.size)
  clear x3 hg3 hbw3 hb4 hb4'
  go_wp2_with (fail)
  obtain ⟨⟨r0, r1, r2⟩, f0, f1, f2⟩ := three_own hg4
  generalize he : (a : Int) - (b : Int) * 8 = o' at *
  have HE : Hid (o' = o) := Lib.hid (by have := HO.out; omega)
  have o0 : 0 ≤ o' := by have := HO.out; omega
  have o1 : o' ≤ 32768 := by omega
  have q0 : 0 ≤ o' / 8 := by omega
  have q1 : o' / 8 ≤ 32768 := by omega
  clear H H2 H3 H4 ha he
  have z0 : ((8 : Int) == 0) = false := by decide
  go_region
  go_wp2
  refine bodyPost_ret (v := .tuple #[reg 1 (o' / 8) (o' % 8), .int .i64 0]) (by simp [results, Try.results16, go_sem, r0, r1, r2]) rfl ⟨by rw [HE.out], below_drew (below_set (below_set (below_set hbw4 (by omega) 0 _) (by omega) 1 _) (by omega) 2 _)⟩
theorem what_in2 (P I B a : Nat) (w : World) (h : GOK P I B) (ha : a < 8 * (2 + I + 17 * P + 4 * B)) (hk : kindN P I (a / 8) = 2) (b : Nat) (hb : b = 1) (o : Int) (o0 : 0 ≤ o) (ho : (a : Int) = (b : Int) * 8 + o) :
    Calls Try.prog 16 #[gv P I B, .int .i64 (a : Nat)] w fun e w' => e = .returned (.tuple #[reg 2 (o / 8) (o % 8), .int .i64 0]) ∧ Below w.heap.size w w' := by
  have C := fun W => lines_ok P I B W h
  obtain ⟨⟨h1, h2⟩, ⟨h3, h4⟩, ⟨h5, h6⟩⟩ := h
  have C2 := fun W => kindOf_calls P I B (a / 8) W (by omega) (by omega) (by omega) (by omega)
  have e8 : ((a / 8 : Nat) : Int) = (a : Int) / 8 := by omega
  rw [e8, hk] at C2
  have C3 : ∀ W, Calls Try.prog 26 #[gv P I B, .int .u8 2] W fun e w' => e = .returned (.agg #[.int .i64 0, .int .i64 1, .int .i64 8]) ∧ Below W.heap.size W w' := fun W => rowOf_calls P I B 2 W (by omega)
  have C4 := fun W => begin_calls P I B 2 W (by omega) (by omega) (by omega) (by omega) (by omega)
  rw [ahead2, ← hb] at C4
  have hn : 2 + I + 17 * P + 4 * B ≤ 4096 := by omega
  generalize 2 + I + 17 * P + 4 * B = n at *
  have H := Lib.hid C
  have H2 := Lib.hid C2
  have H3 := Lib.hid C3
  have H4 := Lib.hid C4
  have HB := Lib.hid hb
  have hba : b * 8 ≤ a := by omega
  have HO := Lib.hid ho
  clear C C2 C3 C4 hk e8 hb ho
  go_enter Try.func16, Try.ntmps16
  go_wp2_with (fail)
  refine (H.out _).mono ?_
  rintro e w1 ⟨rfl, hb1⟩
  obtain ⟨x1, hg1, hbw1⟩ := later2 hb1
  clear hb1
  have x1 : Bx w1 w.heap.size P I B := x1
  go_wp2_with (fail)
  refine (within_yes _ _ _ _ (by omega) (by omega)).mono ?_
  rintro e w' ⟨rfl, rfl⟩
  obtain ⟨b0, b1, b2⟩ := x1.cells
  go_wp2_with (fail)
  refine (H2.out _).mono ?_
  rintro e w2 ⟨rfl, hb2⟩
  clear b0 b1 b2
  have x2 := x1.below hb2 x1.lt
  have hg2 := (hb2.block _ (lt_of_cells hg1)).trans hg1
  have hbw2 := hbw1.trans (hb2.mono hbw1.size)
  obtain ⟨b0, b1, b2⟩ := x2.cells
  clear x1 hg1 hbw1 hb2
  go_wp2_with (fail)
  refine (H3.out _).mono ?_
  rintro e w3 ⟨rfl, hb3⟩
  clear b0 b1 b2
  have x3 := x2.below hb3 x2.lt
  have hg3 := (hb3.block _ (lt_of_cells hg2)).trans hg2
  have hbw3 := hbw2.trans (hb3.mono hbw2.size)
  clear x2 hg2 hbw2 hb3
  have hlt3 := x3.lt
  obtain ⟨b0, b1, b2⟩ := x3.cells
  go_wp2_with (fail)
  refine (H4.out _).mono ?_
  rintro e w4 ⟨rfl, hb4⟩
  clear b0 b1 b2 hlt3
  have c4 := three_cells (alloc_later hb4)
  obtain ⟨c40, c41, c42⟩ := c4
  have hb4' := below_alloc hb4
  have hg4 := (hb4'.block _ (lt_of_cells hg3)).trans hg3
  have hbw4 := hbw3.trans (hb4'.mono hbw3.size)
  clear x3 hg3 hbw3 hb4 hb4'
  go_wp2_with (fail)
  obtain ⟨⟨r0, r1, r2⟩, f0, f1, f2⟩ := three_own hg4
  generalize he : (a : Int) - (b : Int) * 8 = o' at *
  have HE : Hid (o' = o) := Lib.hid (by have := HO.out; omega)
  have o0 : 0 ≤ o' := by have := HO.out; omega
  have o1 : o' ≤ 32768 := by omega
  have q0 : 0 ≤ o' / 8 := by omega
  have q1 : o' / 8 ≤ 32768 := by omega
  clear H H2 H3 H4 ha he
  have z0 : ((8 : Int) == 0) = false := by decide
  go_region
  go_wp2
  refine bodyPost_ret (v := .tuple #[reg 2 (o' / 8) (o' % 8), .int .i64 0]) (by simp [results, Try.results16, go_sem, r0, r1, r2]) rfl ⟨by rw [HE.out], below_drew (below_set (below_set (below_set hbw4 (by omega) 0 _) (by omega) 1 _) (by omega) 2 _)⟩
theorem what_in3 (P I B a : Nat) (w : World) (h : GOK P I B) (ha : a < 8 * (2 + I + 17 * P + 4 * B)) (hk : kindN P I (a / 8) = 3) (b : Nat) (hb : b = 2) (o : Int) (o0 : 0 ≤ o) (ho : (a : Int) = (b : Int) * 8 + o) :
    Calls Try.prog 16 #[gv P I B, .int .i64 (a : Nat)] w fun e w' => e = .returned (.tuple #[reg 3 (1 + o / 8) (o % 8), .int .i64 0]) ∧ Below w.heap.size w w' := by
  have C := fun W => lines_ok P I B W h
  obtain ⟨⟨h1, h2⟩, ⟨h3, h4⟩, ⟨h5, h6⟩⟩ := h
  have C2 := fun W => kindOf_calls P I B (a / 8) W (by omega) (by omega) (by omega) (by omega)
  have e8 : ((a / 8 : Nat) : Int) = (a : Int) / 8 := by omega
  rw [e8, hk] at C2
  have C3 : ∀ W, Calls Try.prog 26 #[gv P I B, .int .u8 3] W fun e w' => e = .returned (.agg #[.int .i64 1, .int .i64 (I : Nat), .int .i64 8]) ∧ Below W.heap.size W w' := fun W => rowOf_calls P I B 3 W (by omega)
  have C4 := fun W => begin_calls P I B 3 W (by omega) (by omega) (by omega) (by omega) (by omega)
  rw [ahead3, ← hb] at C4
  have hn : 2 + I + 17 * P + 4 * B ≤ 4096 := by omega
  generalize 2 + I + 17 * P + 4 * B = n at *
  have H := Lib.hid C
  have H2 := Lib.hid C2
  have H3 := Lib.hid C3
  have H4 := Lib.hid C4
  have HB := Lib.hid hb
  have hba : b * 8 ≤ a := by omega
  have HO := Lib.hid ho
  clear C C2 C3 C4 hk e8 hb ho
  go_enter Try.func16, Try.ntmps16
  go_wp2_with (fail)
  refine (H.out _).mono ?_
  rintro e w1 ⟨rfl, hb1⟩
  obtain ⟨x1, hg1, hbw1⟩ := later2 hb1
  clear hb1
  have x1 : Bx w1 w.heap.size P I B := x1
  go_wp2_with (fail)
  refine (within_yes _ _ _ _ (by omega) (by omega)).mono ?_
  rintro e w' ⟨rfl, rfl⟩
  obtain ⟨b0, b1, b2⟩ := x1.cells
  go_wp2_with (fail)
  refine (H2.out _).mono ?_
  rintro e w2 ⟨rfl, hb2⟩
  clear b0 b1 b2
  have x2 := x1.below hb2 x1.lt
  have hg2 := (hb2.block _ (lt_of_cells hg1)).trans hg1
  have hbw2 := hbw1.trans (hb2.mono hbw1.size)
  obtain ⟨b0, b1, b2⟩ := x2.cells
  clear x1 hg1 hbw1 hb2
  go_wp2_with (fail)
  refine (H3.out _).mono ?_
  rintro e w3 ⟨rfl, hb3⟩
  clear b0 b1 b2
  have x3 := x2.below hb3 x2.lt
  have hg3 := (hb3.block _ (lt_of_cells hg2)).trans hg2
  have hbw3 := hbw2.trans (hb3.mono hbw2.size)
  clear x2 hg2 hbw2 hb3
  have hlt3 := x3.lt
  obtain ⟨b0, b1, b2⟩ := x3.cells
  go_wp2_with (fail)
  refine (H4.out _).mono ?_
  rintro e w4 ⟨rfl, hb4⟩
  clear b0 b1 b2 hlt3
  have c4 := three_cells (alloc_later hb4)
  obtain ⟨c40, c41, c42⟩ := c4
  have hb4' := below_alloc hb4
  have hg4 := (hb4'.block _ (lt_of_cells hg3)).trans hg3
  have hbw4 := hbw3.trans (hb4'.mono hbw3.size)
  clear x3 hg3 hbw3 hb4 hb4'
  go_wp2_with (fail)
  obtain ⟨⟨r0, r1, r2⟩, f0, f1, f2⟩ := three_own hg4
  generalize he : (a : Int) - (b : Int) * 8 = o' at *
  have HE : Hid (o' = o) := Lib.hid (by have := HO.out; omega)
  have o0 : 0 ≤ o' := by have := HO.out; omega
  have o1 : o' ≤ 32768 := by omega
  have q0 : 0 ≤ o' / 8 := by omega
  have q1 : o' / 8 ≤ 32768 := by omega
  clear H H2 H3 H4 ha he
  have z0 : ((8 : Int) == 0) = false := by decide
  go_region
  go_wp2
  refine bodyPost_ret (v := .tuple #[reg 3 (1 + o' / 8) (o' % 8), .int .i64 0]) (by simp [results, Try.results16, go_sem, r0, r1, r2]) rfl ⟨by rw [HE.out], below_drew (below_set (below_set (below_set hbw4 (by omega) 0 _) (by omega) 1 _) (by omega) 2 _)⟩
theorem what_in4 (P I B a : Nat) (w : World) (h : GOK P I B) (ha : a < 8 * (2 + I + 17 * P + 4 * B)) (hk : kindN P I (a / 8) = 4) (b : Nat) (hb : b = 2 + I) (o : Int) (o0 : 0 ≤ o) (ho : (a : Int) = (b : Int) * 8 + o) :
    Calls Try.prog 16 #[gv P I B, .int .i64 (a : Nat)] w fun e w' => e = .returned (.tuple #[reg 4 (o / 136) (o % 136), .int .i64 0]) ∧ Below w.heap.size w w' := by
  have C := fun W => lines_ok P I B W h
  obtain ⟨⟨h1, h2⟩, ⟨h3, h4⟩, ⟨h5, h6⟩⟩ := h
  have C2 := fun W => kindOf_calls P I B (a / 8) W (by omega) (by omega) (by omega) (by omega)
  have e8 : ((a / 8 : Nat) : Int) = (a : Int) / 8 := by omega
  rw [e8, hk] at C2
  have C3 : ∀ W, Calls Try.prog 26 #[gv P I B, .int .u8 4] W fun e w' => e = .returned (.agg #[.int .i64 0, .int .i64 (P : Nat), .int .i64 136]) ∧ Below W.heap.size W w' := fun W => rowOf_calls P I B 4 W (by omega)
  have C4 := fun W => begin_calls P I B 4 W (by omega) (by omega) (by omega) (by omega) (by omega)
  rw [ahead4, ← hb] at C4
  have hn : 2 + I + 17 * P + 4 * B ≤ 4096 := by omega
  generalize 2 + I + 17 * P + 4 * B = n at *
  have H := Lib.hid C
  have H2 := Lib.hid C2
  have H3 := Lib.hid C3
  have H4 := Lib.hid C4
  have HB := Lib.hid hb
  have hba : b * 8 ≤ a := by omega
  have HO := Lib.hid ho
  clear C C2 C3 C4 hk e8 hb ho
  go_enter Try.func16, Try.ntmps16
  go_wp2_with (fail)
  refine (H.out _).mono ?_
  rintro e w1 ⟨rfl, hb1⟩
  obtain ⟨x1, hg1, hbw1⟩ := later2 hb1
  clear hb1
  have x1 : Bx w1 w.heap.size P I B := x1
  go_wp2_with (fail)
  refine (within_yes _ _ _ _ (by omega) (by omega)).mono ?_
  rintro e w' ⟨rfl, rfl⟩
  obtain ⟨b0, b1, b2⟩ := x1.cells
  go_wp2_with (fail)
  refine (H2.out _).mono ?_
  rintro e w2 ⟨rfl, hb2⟩
  clear b0 b1 b2
  have x2 := x1.below hb2 x1.lt
  have hg2 := (hb2.block _ (lt_of_cells hg1)).trans hg1
  have hbw2 := hbw1.trans (hb2.mono hbw1.size)
  obtain ⟨b0, b1, b2⟩ := x2.cells
  clear x1 hg1 hbw1 hb2
  go_wp2_with (fail)
  refine (H3.out _).mono ?_
  rintro e w3 ⟨rfl, hb3⟩
  clear b0 b1 b2
  have x3 := x2.below hb3 x2.lt
  have hg3 := (hb3.block _ (lt_of_cells hg2)).trans hg2
  have hbw3 := hbw2.trans (hb3.mono hbw2.size)
  clear x2 hg2 hbw2 hb3
  have hlt3 := x3.lt
  obtain ⟨b0, b1, b2⟩ := x3.cells
  go_wp2_with (fail)
  refine (H4.out _).mono ?_
  rintro e w4 ⟨rfl, hb4⟩
  clear b0 b1 b2 hlt3
  have c4 := three_cells (alloc_later hb4)
  obtain ⟨c40, c41, c42⟩ := c4
  have hb4' := below_alloc hb4
  have hg4 := (hb4'.block _ (lt_of_cells hg3)).trans hg3
  have hbw4 := hbw3.trans (hb4'.mono hbw3.size)
  clear x3 hg3 hbw3 hb4 hb4'
  go_wp2_with (fail)
  obtain ⟨⟨r0, r1, r2⟩, f0, f1, f2⟩ := three_own hg4
  generalize he : (a : Int) - (b : Int) * 8 = o' at *
  have HE : Hid (o' = o) := Lib.hid (by have := HO.out; omega)
  have o0 : 0 ≤ o' := by have := HO.out; omega
  have o1 : o' ≤ 32768 := by omega
  have q0 : 0 ≤ o' / 136 := by omega
  have q1 : o' / 136 ≤ 32768 := by omega
  clear H H2 H3 H4 ha he
  have z0 : ((136 : Int) == 0) = false := by decide
  go_region
  go_wp2
  refine bodyPost_ret (v := .tuple #[reg 4 (o' / 136) (o' % 136), .int .i64 0]) (by simp [results, Try.results16, go_sem, r0, r1, r2]) rfl ⟨by rw [HE.out], below_drew (below_set (below_set (below_set hbw4 (by omega) 0 _) (by omega) 1 _) (by omega) 2 _)⟩
theorem what_in5 (P I B a : Nat) (w : World) (h : GOK P I B) (ha : a < 8 * (2 + I + 17 * P + 4 * B)) (hk : kindN P I (a / 8) = 5) (b : Nat) (hb : b = 2 + I + 17 * P) (o : Int) (o0 : 0 ≤ o) (ho : (a : Int) = (b : Int) * 8 + o) :
    Calls Try.prog 16 #[gv P I B, .int .i64 (a : Nat)] w fun e w' => e = .returned (.tuple #[reg 5 (1 + o / 32) (o % 32), .int .i64 0]) ∧ Below w.heap.size w w' := by
  have C := fun W => lines_ok P I B W h
  obtain ⟨⟨h1, h2⟩, ⟨h3, h4⟩, ⟨h5, h6⟩⟩ := h
  have C2 := fun W => kindOf_calls P I B (a / 8) W (by omega) (by omega) (by omega) (by omega)
  have e8 : ((a / 8 : Nat) : Int) = (a : Int) / 8 := by omega
  rw [e8, hk] at C2
  have C3 : ∀ W, Calls Try.prog 26 #[gv P I B, .int .u8 5] W fun e w' => e = .returned (.agg #[.int .i64 1, .int .i64 (B : Nat), .int .i64 32]) ∧ Below W.heap.size W w' := fun W => rowOf_calls P I B 5 W (by omega)
  have C4 := fun W => begin_calls P I B 5 W (by omega) (by omega) (by omega) (by omega) (by omega)
  rw [ahead5, ← hb] at C4
  have hn : 2 + I + 17 * P + 4 * B ≤ 4096 := by omega
  generalize 2 + I + 17 * P + 4 * B = n at *
  have H := Lib.hid C
  have H2 := Lib.hid C2
  have H3 := Lib.hid C3
  have H4 := Lib.hid C4
  have HB := Lib.hid hb
  have hba : b * 8 ≤ a := by omega
  have HO := Lib.hid ho
  clear C C2 C3 C4 hk e8 hb ho
  go_enter Try.func16, Try.ntmps16
  go_wp2_with (fail)
  refine (H.out _).mono ?_
  rintro e w1 ⟨rfl, hb1⟩
  obtain ⟨x1, hg1, hbw1⟩ := later2 hb1
  clear hb1
  have x1 : Bx w1 w.heap.size P I B := x1
  go_wp2_with (fail)
  refine (within_yes _ _ _ _ (by omega) (by omega)).mono ?_
  rintro e w' ⟨rfl, rfl⟩
  obtain ⟨b0, b1, b2⟩ := x1.cells
  go_wp2_with (fail)
  refine (H2.out _).mono ?_
  rintro e w2 ⟨rfl, hb2⟩
  clear b0 b1 b2
  have x2 := x1.below hb2 x1.lt
  have hg2 := (hb2.block _ (lt_of_cells hg1)).trans hg1
  have hbw2 := hbw1.trans (hb2.mono hbw1.size)
  obtain ⟨b0, b1, b2⟩ := x2.cells
  clear x1 hg1 hbw1 hb2
  go_wp2_with (fail)
  refine (H3.out _).mono ?_
  rintro e w3 ⟨rfl, hb3⟩
  clear b0 b1 b2
  have x3 := x2.below hb3 x2.lt
  have hg3 := (hb3.block _ (lt_of_cells hg2)).trans hg2
  have hbw3 := hbw2.trans (hb3.mono hbw2.size)
  clear x2 hg2 hbw2 hb3
  have hlt3 := x3.lt
  obtain ⟨b0, b1, b2⟩ := x3.cells
  go_wp2_with (fail)
  refine (H4.out _).mono ?_
  rintro e w4 ⟨rfl, hb4⟩
  clear b0 b1 b2 hlt3
  have c4 := three_cells (alloc_later hb4)
  obtain ⟨c40, c41, c42⟩ := c4
  have hb4' := below_alloc hb4
  have hg4 := (hb4'.block _ (lt_of_cells hg3)).trans hg3
  have hbw4 := hbw3.trans (hb4'.mono hbw3.size)
  clear x3 hg3 hbw3 hb4 hb4'
  go_wp2_with (fail)
  obtain ⟨⟨r0, r1, r2⟩, f0, f1, f2⟩ := three_own hg4
  generalize he : (a : Int) - (b : Int) * 8 = o' at *
  have HE : Hid (o' = o) := Lib.hid (by have := HO.out; omega)
  have o0 : 0 ≤ o' := by have := HO.out; omega
  have o1 : o' ≤ 32768 := by omega
  have q0 : 0 ≤ o' / 32 := by omega
  have q1 : o' / 32 ≤ 32768 := by omega
  clear H H2 H3 H4 ha he
  have z0 : ((32 : Int) == 0) = false := by decide
  go_region
  go_wp2
  refine bodyPost_ret (v := .tuple #[reg 5 (1 + o' / 32) (o' % 32), .int .i64 0]) (by simp [results, Try.results16, go_sem, r0, r1, r2]) rfl ⟨by rw [HE.out], below_drew (below_set (below_set (below_set hbw4 (by omega) 0 _) (by omega) 1 _) (by omega) 2 _)⟩
end Go.Proofs.Ythimikdhdcjneaa
