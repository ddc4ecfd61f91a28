/- Where a region begins: place, Inode, Slot, Block. -/
import Derived.Test.YthimikdhdcjneaaGeo2
import Derived.Lib.QuietBelow
namespace Go.Proofs.Ythimikdhdcjneaa
open Go.RowKit Go.Sort
theorem ahead_le (P I B k : Nat) (hk : k ≤ 5) (hP : P ≤ 8) (hI : I ≤ 64) (_ : B ≤ 255) : linesL P I B (ahead k) ≤ 202 := by
  obtain rfl | rfl | rfl | rfl | rfl | rfl : k = 0 ∨ k = 1 ∨ k = 2 ∨ k = 3 ∨ k = 4 ∨ k = 5 := by omega
  all_goals (simp [ahead, linesL, linesK, rowC, rowW, List.range_succ]; try omega)
theorem place_bad (P I B : Int) (k : Nat) (n : Int) (w : World) (h : ¬ GOK P I B) : Calls Try.prog 21 #[gv P I B, .int .u8 (k : Nat), .int .i64 n] w fun e w' => e = .returned (.tuple #[.int .i64 0, .int .i64 2]) ∧ Below w.heap.size w w' := by
  have C1 := check_bad P I B (w.alloc (.cells #[.int .i64 P, .int .i64 I, .int .i64 B] 23)) h
  clear h
  go_enter Try.func21, Try.ntmps21
  go_wp2_with (fail)
  refine C1.mono ?_
  rintro e w1 ⟨rfl, hb1⟩
  go_wp2
  go_ret2
  exact ⟨rfl, below_alloc hb1⟩
theorem place3_in (P I B : Nat) (n : Int) (w : World) (h : GOK P I B) (n1 : 1 ≤ n) (n2 : n ≤ 1 + (I : Nat) - 1) :
    Calls Try.prog 21 #[gv P I B, .int .u8 3, .int .i64 n] w fun e w' => e = .returned (.tuple #[.int .i64 ((linesL P I B (ahead 3) : Nat) * 8 + (n - 1) * 8), .int .i64 0]) ∧ Below w.heap.size w w' := by
  have C1 := check_ok P I B (w.alloc (.cells #[.int .i64 (P : Nat), .int .i64 (I : Nat), .int .i64 (B : Nat)] 23)) h
  obtain ⟨⟨h1, h2⟩, ⟨h3, h4⟩, ⟨h5, h6⟩⟩ := h
  have C2 : ∀ W, Calls Try.prog 26 #[gv P I B, .int .u8 3] W fun e w' => e = .returned (.agg #[.int .i64 1, .int .i64 (I : Nat), .int .i64 8]) ∧ Below W.heap.size W w' := fun W => rowOf_calls P I B 3 W (by omega)
  have C4 := fun W => begin_calls P I B 3 W (by omega) (by omega) (by omega) (by omega) (by omega)
  have q5 := ahead_le P I B 3 (by omega) (by omega) (by omega) (by omega)
  generalize linesL P I B (ahead 3) = b at *
  have H1 := Lib.hid C1
  have H2 := Lib.hid C2
  have H4 := Lib.hid C4
  clear C1 C2 C4
  go_enter Try.func21, Try.ntmps21
  go_wp2_with (fail)
  refine H1.out.mono ?_
  rintro e w1 ⟨rfl, hb1⟩
  have x1 := Bx.later hb1 rfl
  obtain ⟨b0, b1, b2⟩ := x1.cells
  go_wp2_with (fail)
  refine (H2.out w1).mono ?_
  rintro e w2 ⟨rfl, hb2⟩
  clear b0 b1 b2
  have x2 := x1.below hb2 x1.lt
  have hbw2 := (below_alloc hb1).trans (hb2.mono (below_alloc hb1).size)
  go_wp2_with (fail)
  refine (within_yes _ _ _ _ (by omega) (by omega)).mono ?_
  rintro e w' ⟨rfl, rfl⟩
  go_wp2_with (fail)
  have x3 : Bx (w2.alloc (.cells #[.int .i64 1, .int .i64 (I : Nat), .int .i64 8] 53)) w.heap.size P I B := x2.below ((Below.refl _ _).alloc (Nat.le_refl _) _) x2.lt
  have c3 := three_cells (heap_alloc_new w2 (.cells #[.int .i64 1, .int .i64 (I : Nat), .int .i64 8] 53))
  have hbw3 : Below w.heap.size w (w2.alloc (.cells #[.int .i64 1, .int .i64 (I : Nat), .int .i64 8] 53)) := hbw2.alloc hbw2.size _
  generalize (w2.alloc (.cells #[.int .i64 1, .int .i64 (I : Nat), .int .i64 8] 53)) = w3 at *
  obtain ⟨c30, c31, c32⟩ := c3
  obtain ⟨b0, b1, b2⟩ := x3.cells
  have k0 := cell_regrown c30
  have k2 := cell_regrown c32
  have m0 := cell_regrown b0
  have m1 := cell_regrown b1
  have m2 := cell_regrown b2
  have cS : ∀ dq os, Calls Try.prog 27 #[gv P I B, .int .u8 3] (grow (redrawn w3 dq) os) fun e w'' => e = .returned (.int .i64 (b : Nat)) ∧ ∃ p : Regrown, w'' = grow (redrawn w3 p.d) p.os :=
    fun dq os => Calls.regrown_of (H4.out (grow (redrawn w3 dq) os))
  clear H4 H2 H1 c30 c31 c32 b0 b1 b2
  refine wp_region_quiet_below (by kernel_rfl) (by kernel_rfl) ?_
  repeat (first | go_big_quiet_step (exact cS _ _) | quiet_step (exact cS _ _))
  refine wpQuiet_nil ?_
  intro _ hw'
  obtain ⟨⟨dq, osq⟩, hw''⟩ := hw'
  subst hw''
  have hb4 := below_regrown w3 dq osq
  clear k0 k2 m0 m1 m2 cS
  go_wp2
  go_ret2
  exact ⟨rfl, hbw3.trans (hb4.mono hbw3.size)⟩
theorem place3_out (P I B : Nat) (n : Int) (w : World) (h : GOK P I B) (n1 : n < 1 ∨ 1 + (I : Nat) - 1 < n) :
    Calls Try.prog 21 #[gv P I B, .int .u8 3, .int .i64 n] w fun e w' => e = .returned (.tuple #[.int .i64 0, .int .i64 3]) ∧ Below w.heap.size w w' := by
  have C1 := check_ok P I B (w.alloc (.cells #[.int .i64 (P : Nat), .int .i64 (I : Nat), .int .i64 (B : Nat)] 23)) h
  obtain ⟨⟨h1, h2⟩, ⟨h3, h4⟩, ⟨h5, h6⟩⟩ := h
  have C2 : ∀ W, Calls Try.prog 26 #[gv P I B, .int .u8 3] W fun e w' => e = .returned (.agg #[.int .i64 1, .int .i64 (I : Nat), .int .i64 8]) ∧ Below W.heap.size W w' := fun W => rowOf_calls P I B 3 W (by omega)
  have H1 := Lib.hid C1
  have H2 := Lib.hid C2
  clear C1 C2
  go_enter Try.func21, Try.ntmps21
  go_wp2_with (fail)
  refine H1.out.mono ?_
  rintro e w1 ⟨rfl, hb1⟩
  have x1 := Bx.later hb1 rfl
  obtain ⟨b0, b1, b2⟩ := x1.cells
  go_wp2_with (fail)
  refine (H2.out w1).mono ?_
  rintro e w2 ⟨rfl, hb2⟩
  clear b0 b1 b2
  have x2 := x1.below hb2 x1.lt
  have hbw2 := (below_alloc hb1).trans (hb2.mono (below_alloc hb1).size)
  go_wp2_with (fail)
  refine (within_no _ _ _ _ (by omega)).mono ?_
  rintro e w' ⟨rfl, rfl⟩
  go_wp2
  go_ret2
  exact ⟨rfl, hbw2.alloc hbw2.size _⟩
theorem place4_in (P I B : Nat) (n : Int) (w : World) (h : GOK P I B) (n1 : 0 ≤ n) (n2 : n ≤ 0 + (P : Nat) - 1) :
    Calls Try.prog 21 #[gv P I B, .int .u8 4, .int .i64 n] w fun e w' => e = .returned (.tuple #[.int .i64 ((linesL P I B (ahead 4) : Nat) * 8 + n * 136), .int .i64 0]) ∧ Below w.heap.size w w' := by
  have C1 := check_ok P I B (w.alloc (.cells #[.int .i64 (P : Nat), .int .i64 (I : Nat), .int .i64 (B : Nat)] 23)) h
  obtain ⟨⟨h1, h2⟩, ⟨h3, h4⟩, ⟨h5, h6⟩⟩ := h
  have C2 : ∀ W, Calls Try.prog 26 #[gv P I B, .int .u8 4] W fun e w' => e = .returned (.agg #[.int .i64 0, .int .i64 (P : Nat), .int .i64 136]) ∧ Below W.heap.size W w' := fun W => rowOf_calls P I B 4 W (by omega)
  have C4 := fun W => begin_calls P I B 4 W (by omega) (by omega) (by omega) (by omega) (by omega)
  have q5 := ahead_le P I B 4 (by omega) (by omega) (by omega) (by omega)
  generalize linesL P I B (ahead 4) = b at *
  have H1 := Lib.hid C1
  have H2 := Lib.hid C2
  have H4 := Lib.hid C4
  clear C1 C2 C4
  go_enter Try.func21, Try.ntmps21
  go_wp2_with (fail)
  refine H1.out.mono ?_
  rintro e w1 ⟨rfl, hb1⟩
  have x1 := Bx.later hb1 rfl
  obtain ⟨b0, b1, b2⟩ := x1.cells
  go_wp2_with (fail)
  refine (H2.out w1).mono ?_
  rintro e w2 ⟨rfl, hb2⟩
  clear b0 b1 b2
  have x2 := x1.below hb2 x1.lt
  have hbw2 := (below_alloc hb1).trans (hb2.mono (below_alloc hb1).size)
  go_wp2_with (fail)
  refine (within_yes _ _ _ _ (by omega) (by omega)).mono ?_
  rintro e w' ⟨rfl, rfl⟩
  go_wp2_with (fail)
  have x3 : Bx (w2.alloc (.cells #[.int .i64 0, .int .i64 (P : Nat), .int .i64 136] 53)) w.heap.size P I B := x2.below ((Below.refl _ _).alloc (Nat.le_refl _) _) x2.lt
  have c3 := three_cells (heap_alloc_new w2 (.cells #[.int .i64 0, .int .i64 (P : Nat), .int .i64 136] 53))
  have hbw3 : Below w.heap.size w (w2.alloc (.cells #[.int .i64 0, .int .i64 (P : Nat), .int .i64 136] 53)) := hbw2.alloc hbw2.size _
  generalize (w2.alloc (.cells #[.int .i64 0, .int .i64 (P : Nat), .int .i64 136] 53)) = w3 at *
  obtain ⟨c30, c31, c32⟩ := c3
  obtain ⟨b0, b1, b2⟩ := x3.cells
  have k0 := cell_regrown c30
  have k2 := cell_regrown c32
  have m0 := cell_regrown b0
  have m1 := cell_regrown b1
  have m2 := cell_regrown b2
  have cS : ∀ dq os, Calls Try.prog 27 #[gv P I B, .int .u8 4] (grow (redrawn w3 dq) os) fun e w'' => e = .returned (.int .i64 (b : Nat)) ∧ ∃ p : Regrown, w'' = grow (redrawn w3 p.d) p.os :=
    fun dq os => Calls.regrown_of (H4.out (grow (redrawn w3 dq) os))
  clear H4 H2 H1 c30 c31 c32 b0 b1 b2
  refine wp_region_quiet_below (by kernel_rfl) (by kernel_rfl) ?_
  repeat (first | go_big_quiet_step (exact cS _ _) | quiet_step (exact cS _ _))
  refine wpQuiet_nil ?_
  intro _ hw'
  obtain ⟨⟨dq, osq⟩, hw''⟩ := hw'
  subst hw''
  have hb4 := below_regrown w3 dq osq
  clear k0 k2 m0 m1 m2 cS
  go_wp2
  go_ret2
  exact ⟨rfl, hbw3.trans (hb4.mono hbw3.size)⟩
theorem place4_out (P I B : Nat) (n : Int) (w : World) (h : GOK P I B) (n1 : n < 0 ∨ 0 + (P : Nat) - 1 < n) :
    Calls Try.prog 21 #[gv P I B, .int .u8 4, .int .i64 n] w fun e w' => e = .returned (.tuple #[.int .i64 0, .int .i64 3]) ∧ Below w.heap.size w w' := by
  have C1 := check_ok P I B (w.alloc (.cells #[.int .i64 (P : Nat), .int .i64 (I : Nat), .int .i64 (B : Nat)] 23)) h
  obtain ⟨⟨h1, h2⟩, ⟨h3, h4⟩, ⟨h5, h6⟩⟩ := h
  have C2 : ∀ W, Calls Try.prog 26 #[gv P I B, .int .u8 4] W fun e w' => e = .returned (.agg #[.int .i64 0, .int .i64 (P : Nat), .int .i64 136]) ∧ Below W.heap.size W w' := fun W => rowOf_calls P I B 4 W (by omega)
  have H1 := Lib.hid C1
  have H2 := Lib.hid C2
  clear C1 C2
  go_enter Try.func21, Try.ntmps21
  go_wp2_with (fail)
  refine H1.out.mono ?_
  rintro e w1 ⟨rfl, hb1⟩
  have x1 := Bx.later hb1 rfl
  obtain ⟨b0, b1, b2⟩ := x1.cells
  go_wp2_with (fail)
  refine (H2.out w1).mono ?_
  rintro e w2 ⟨rfl, hb2⟩
  clear b0 b1 b2
  have x2 := x1.below hb2 x1.lt
  have hbw2 := (below_alloc hb1).trans (hb2.mono (below_alloc hb1).size)
  go_wp2_with (fail)
  refine (within_no _ _ _ _ (by omega)).mono ?_
  rintro e w' ⟨rfl, rfl⟩
  go_wp2
  go_ret2
  exact ⟨rfl, hbw2.alloc hbw2.size _⟩
theorem place5_in (P I B : Nat) (n : Int) (w : World) (h : GOK P I B) (n1 : 1 ≤ n) (n2 : n ≤ 1 + (B : Nat) - 1) :
    Calls Try.prog 21 #[gv P I B, .int .u8 5, .int .i64 n] w fun e w' => e = .returned (.tuple #[.int .i64 ((linesL P I B (ahead 5) : Nat) * 8 + (n - 1) * 32), .int .i64 0]) ∧ Below w.heap.size w w' := by
  have C1 := check_ok P I B (w.alloc (.cells #[.int .i64 (P : Nat), .int .i64 (I : Nat), .int .i64 (B : Nat)] 23)) h
  obtain ⟨⟨h1, h2⟩, ⟨h3, h4⟩, ⟨h5, h6⟩⟩ := h
  have C2 : ∀ W, Calls Try.prog 26 #[gv P I B, .int .u8 5] W fun e w' => e = .returned (.agg #[.int .i64 1, .int .i64 (B : Nat), .int .i64 32]) ∧ Below W.heap.size W w' := fun W => rowOf_calls P I B 5 W (by omega)
  have C4 := fun W => begin_calls P I B 5 W (by omega) (by omega) (by omega) (by omega) (by omega)
  have q5 := ahead_le P I B 5 (by omega) (by omega) (by omega) (by omega)
  generalize linesL P I B (ahead 5) = b at *
  have H1 := Lib.hid C1
  have H2 := Lib.hid C2
  have H4 := Lib.hid C4
  clear C1 C2 C4
  go_enter Try.func21, Try.ntmps21
  go_wp2_with (fail)
  refine H1.out.mono ?_
  rintro e w1 ⟨rfl, hb1⟩
  have x1 := Bx.later hb1 rfl
  obtain ⟨b0, b1, b2⟩ := x1.cells
  go_wp2_with (fail)
  refine (H2.out w1).mono ?_
  rintro e w2 ⟨rfl, hb2⟩
  clear b0 b1 b2
  have x2 := x1.below hb2 x1.lt
  have hbw2 := (below_alloc hb1).trans (hb2.mono (below_alloc hb1).size)
  go_wp2_with (fail)
  refine (within_yes _ _ _ _ (by omega) (by omega)).mono ?_
  rintro e w' ⟨rfl, rfl⟩
  go_wp2_with (fail)
  have x3 : Bx (w2.alloc (.cells #[.int .i64 1, .int .i64 (B : Nat), .int .i64 32] 53)) w.heap.size P I B := x2.below ((Below.refl _ _).alloc (Nat.le_refl _) _) x2.lt
  have c3 := three_cells (heap_alloc_new w2 (.cells #[.int .i64 1, .int .i64 (B : Nat), .int .i64 32] 53))
  have hbw3 : Below w.heap.size w (w2.alloc (.cells #[.int .i64 1, .int .i64 (B : Nat), .int .i64 32] 53)) := hbw2.alloc hbw2.size _
  generalize (w2.alloc (.cells #[.int .i64 1, .int .i64 (B : Nat), .int .i64 32] 53)) = w3 at *
  obtain ⟨c30, c31, c32⟩ := c3
  obtain ⟨b0, b1, b2⟩ := x3.cells
  have k0 := cell_regrown c30
  have k2 := cell_regrown c32
  have m0 := cell_regrown b0
  have m1 := cell_regrown b1
  have m2 := cell_regrown b2
  have cS : ∀ dq os, Calls Try.prog 27 #[gv P I B, .int .u8 5] (grow (redrawn w3 dq) os) fun e w'' => e = .returned (.int .i64 (b : Nat)) ∧ ∃ p : Regrown, w'' = grow (redrawn w3 p.d) p.os :=
    fun dq os => Calls.regrown_of (H4.out (grow (redrawn w3 dq) os))
  clear H4 H2 H1 c30 c31 c32 b0 b1 b2
  refine wp_region_quiet_below (by kernel_rfl) (by kernel_rfl) ?_
  repeat (first | go_big_quiet_step (exact cS _ _) | quiet_step (exact cS _ _))
  refine wpQuiet_nil ?_
  intro _ hw'
  obtain ⟨⟨dq, osq⟩, hw''⟩ := hw'
  subst hw''
  have hb4 := below_regrown w3 dq osq
  clear k0 k2 m0 m1 m2 cS
  go_wp2
  go_ret2
  exact ⟨rfl, hbw3.trans (hb4.mono hbw3.size)⟩
theorem place5_out (P I B : Nat) (n : Int) (w : World) (h : GOK P I B) (n1 : n < 1 ∨ 1 + (B : Nat) - 1 < n) :
    Calls Try.prog 21 #[gv P I B, .int .u8 5, .int .i64 n] w fun e w' => e = .returned (.tuple #[.int .i64 0, .int .i64 3]) ∧ Below w.heap.size w w' := by
  have C1 := check_ok P I B (w.alloc (.cells #[.int .i64 (P : Nat), .int .i64 (I : Nat), .int .i64 (B : Nat)] 23)) h
  obtain ⟨⟨h1, h2⟩, ⟨h3, h4⟩, ⟨h5, h6⟩⟩ := h
  have C2 : ∀ W, Calls Try.prog 26 #[gv P I B, .int .u8 5] W fun e w' => e = .returned (.agg #[.int .i64 1, .int .i64 (B : Nat), .int .i64 32]) ∧ Below W.heap.size W w' := fun W => rowOf_calls P I B 5 W (by omega)
  have H1 := Lib.hid C1
  have H2 := Lib.hid C2
  clear C1 C2
  go_enter Try.func21, Try.ntmps21
  go_wp2_with (fail)
  refine H1.out.mono ?_
  rintro e w1 ⟨rfl, hb1⟩
  have x1 := Bx.later hb1 rfl
  obtain ⟨b0, b1, b2⟩ := x1.cells
  go_wp2_with (fail)
  refine (H2.out w1).mono ?_
  rintro e w2 ⟨rfl, hb2⟩
  clear b0 b1 b2
  have x2 := x1.below hb2 x1.lt
  have hbw2 := (below_alloc hb1).trans (hb2.mono (below_alloc hb1).size)
  go_wp2_with (fail)
  refine (within_no _ _ _ _ (by omega)).mono ?_
  rintro e w' ⟨rfl, rfl⟩
  go_wp2
  go_ret2
  exact ⟨rfl, hbw2.alloc hbw2.size _⟩
theorem inode_in (P I B : Nat) (n : Int) (w : World) (h : GOK P I B) (n1 : 1 ≤ n) (n2 : n ≤ 1 + (I : Nat) - 1) :
    Calls Try.prog 8 #[gv P I B, .int .i64 n] w fun e w' => e = .returned (.tuple #[.int .i64 ((linesL P I B (ahead 3) : Nat) * 8 + (n - 1) * 8), .int .i64 0]) ∧ Below w.heap.size w w' := by
  have C := Lib.hid (place3_in P I B n (w.alloc (.cells #[.int .i64 (P : Nat), .int .i64 (I : Nat), .int .i64 (B : Nat)] 23)) h n1 n2)
  generalize ((linesL P I B (ahead 3) : Nat) : Int) * 8 + (n - 1) * 8 = v at *
  clear n1 n2 h
  go_enter Try.func8, Try.ntmps8
  go_wp2_with (fail)
  refine C.out.mono ?_
  rintro e w1 ⟨rfl, hb1⟩
  go_wp2
  go_ret2
  exact ⟨rfl, below_alloc hb1⟩
theorem inode_out (P I B : Nat) (n : Int) (w : World) (h : GOK P I B) (n1 : n < 1 ∨ 1 + (I : Nat) - 1 < n) :
    Calls Try.prog 8 #[gv P I B, .int .i64 n] w fun e w' => e = .returned (.tuple #[.int .i64 0, .int .i64 3]) ∧ Below w.heap.size w w' := by
  have C := Lib.hid (place3_out P I B n (w.alloc (.cells #[.int .i64 (P : Nat), .int .i64 (I : Nat), .int .i64 (B : Nat)] 23)) h n1)
  clear n1 h
  go_enter Try.func8, Try.ntmps8
  go_wp2_with (fail)
  refine C.out.mono ?_
  rintro e w1 ⟨rfl, hb1⟩
  go_wp2
  go_ret2
  exact ⟨rfl, below_alloc hb1⟩
theorem inode_bad (P I B : Int) (n : Int) (w : World) (h : ¬ GOK P I B)  :
    Calls Try.prog 8 #[gv P I B, .int .i64 n] w fun e w' => e = .returned (.tuple #[.int .i64 0, .int .i64 2]) ∧ Below w.heap.size w w' := by
  have C := Lib.hid (place_bad P I B 3 n (w.alloc (.cells #[.int .i64 P, .int .i64 I, .int .i64 B] 23)) h)
  clear h
  go_enter Try.func8, Try.ntmps8
  go_wp2_with (fail)
  refine C.out.mono ?_
  rintro e w1 ⟨rfl, hb1⟩
  go_wp2
  go_ret2
  exact ⟨rfl, below_alloc hb1⟩
theorem slot_in (P I B : Nat) (n : Int) (w : World) (h : GOK P I B) (n1 : 0 ≤ n) (n2 : n ≤ 0 + (P : Nat) - 1) :
    Calls Try.prog 9 #[gv P I B, .int .i64 n] w fun e w' => e = .returned (.tuple #[.int .i64 ((linesL P I B (ahead 4) : Nat) * 8 + n * 136), .int .i64 0]) ∧ Below w.heap.size w w' := by
  have C := Lib.hid (place4_in P I B n (w.alloc (.cells #[.int .i64 (P : Nat), .int .i64 (I : Nat), .int .i64 (B : Nat)] 23)) h n1 n2)
  generalize ((linesL P I B (ahead 4) : Nat) : Int) * 8 + n * 136 = v at *
  clear n1 n2 h
  go_enter Try.func9, Try.ntmps9
  go_wp2_with (fail)
  refine C.out.mono ?_
  rintro e w1 ⟨rfl, hb1⟩
  go_wp2
  go_ret2
  exact ⟨rfl, below_alloc hb1⟩
theorem slot_out (P I B : Nat) (n : Int) (w : World) (h : GOK P I B) (n1 : n < 0 ∨ 0 + (P : Nat) - 1 < n) :
    Calls Try.prog 9 #[gv P I B, .int .i64 n] w fun e w' => e = .returned (.tuple #[.int .i64 0, .int .i64 3]) ∧ Below w.heap.size w w' := by
  have C := Lib.hid (place4_out P I B n (w.alloc (.cells #[.int .i64 (P : Nat), .int .i64 (I : Nat), .int .i64 (B : Nat)] 23)) h n1)
  clear n1 h
  go_enter Try.func9, Try.ntmps9
  go_wp2_with (fail)
  refine C.out.mono ?_
  rintro e w1 ⟨rfl, hb1⟩
  go_wp2
  go_ret2
  exact ⟨rfl, below_alloc hb1⟩
theorem slot_bad (P I B : Int) (n : Int) (w : World) (h : ¬ GOK P I B)  :
    Calls Try.prog 9 #[gv P I B, .int .i64 n] w fun e w' => e = .returned (.tuple #[.int .i64 0, .int .i64 2]) ∧ Below w.heap.size w w' := by
  have C := Lib.hid (place_bad P I B 4 n (w.alloc (.cells #[.int .i64 P, .int .i64 I, .int .i64 B] 23)) h)
  clear h
  go_enter Try.func9, Try.ntmps9
  go_wp2_with (fail)
  refine C.out.mono ?_
  rintro e w1 ⟨rfl, hb1⟩
  go_wp2
  go_ret2
  exact ⟨rfl, below_alloc hb1⟩
theorem block_in (P I B : Nat) (n : Int) (w : World) (h : GOK P I B) (n1 : 1 ≤ n) (n2 : n ≤ 1 + (B : Nat) - 1) :
    Calls Try.prog 10 #[gv P I B, .int .i64 n] w fun e w' => e = .returned (.tuple #[.int .i64 ((linesL P I B (ahead 5) : Nat) * 8 + (n - 1) * 32), .int .i64 0]) ∧ Below w.heap.size w w' := by
  have C := Lib.hid (place5_in P I B n (w.alloc (.cells #[.int .i64 (P : Nat), .int .i64 (I : Nat), .int .i64 (B : Nat)] 23)) h n1 n2)
  generalize ((linesL P I B (ahead 5) : Nat) : Int) * 8 + (n - 1) * 32 = v at *
  clear n1 n2 h
  go_enter Try.func10, Try.ntmps10
  go_wp2_with (fail)
  refine C.out.mono ?_
  rintro e w1 ⟨rfl, hb1⟩
  go_wp2
  go_ret2
  exact ⟨rfl, below_alloc hb1⟩
theorem block_out (P I B : Nat) (n : Int) (w : World) (h : GOK P I B) (n1 : n < 1 ∨ 1 + (B : Nat) - 1 < n) :
    Calls Try.prog 10 #[gv P I B, .int .i64 n] w fun e w' => e = .returned (.tuple #[.int .i64 0, .int .i64 3]) ∧ Below w.heap.size w w' := by
  have C := Lib.hid (place5_out P I B n (w.alloc (.cells #[.int .i64 (P : Nat), .int .i64 (I : Nat), .int .i64 (B : Nat)] 23)) h n1)
  clear n1 h
  go_enter Try.func10, Try.ntmps10
  go_wp2_with (fail)
  refine C.out.mono ?_
  rintro e w1 ⟨rfl, hb1⟩
  go_wp2
  go_ret2
  exact ⟨rfl, below_alloc hb1⟩
theorem block_bad (P I B : Int) (n : Int) (w : World) (h : ¬ GOK P I B)  :
    Calls Try.prog 10 #[gv P I B, .int .i64 n] w fun e w' => e = .returned (.tuple #[.int .i64 0, .int .i64 2]) ∧ Below w.heap.size w w' := by
  have C := Lib.hid (place_bad P I B 5 n (w.alloc (.cells #[.int .i64 P, .int .i64 I, .int .i64 B] 23)) h)
  clear h
  go_enter Try.func10, Try.ntmps10
  go_wp2_with (fail)
  refine C.out.mono ?_
  rintro e w1 ⟨rfl, hb1⟩
  go_wp2
  go_ret2
  exact ⟨rfl, below_alloc hb1⟩
end Go.Proofs.Ythimikdhdcjneaa
