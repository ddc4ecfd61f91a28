/- The document's May: numbers that have no room. -/
import Derived.Test.YtppnicdhahgigaaDoorIEq
import Derived.Test.YtppnicdhahgigaaDoorGeoMay
namespace Go.Proofs.YtppnicdhahgigaaDoor
open Go.RowKit
set_option maxRecDepth 100000 in
theorem rmay_n0 (x : Ino) (P I B : Int) (w : World)  (n : ¬ 0 ≤ x.L) : Calls Tryd.prog 8 #[x.v, gv P I B] w fun e w' => e = .returned (.bool false) ∧ Below w.heap.size w w' := by
  have g : decide (0 ≤ x.L) = false := decide_eq_false n
  go_enter Tryd.func8, Tryd.ntmps8
  go_wp2_with (fail)
  refine wp_loop_rounds 5 ?_
  rw [rounds_succ]
  go_wp2_with (fail)
  rw [rounds_succ]
  go_wp2_with (fail)
  rw [rounds_succ]
  go_wp2_with (fail)
  rw [rounds_succ]
  go_wp2_with (fail)
  rw [rounds_succ]
  go_wp2_with (fail)
  go_ret
  exact ⟨rfl, ((Below.refl w.heap.size w).alloc (Nat.le_refl _) (.cells x.c 25)).alloc (by simp) (.cells #[.int .i64 P, .int .i64 I, .int .i64 B] 27)⟩
set_option maxRecDepth 100000 in
theorem rmay_n1 (x : Ino) (P I B : Int) (w : World) (h0 : 0 ≤ x.L) (n : ¬ x.L < 256) : Calls Tryd.prog 8 #[x.v, gv P I B] w fun e w' => e = .returned (.bool false) ∧ Below w.heap.size w w' := by
  have g : decide (x.L < 256) = false := decide_eq_false n
  go_enter Tryd.func8, Tryd.ntmps8
  go_wp2_with (fail)
  refine wp_loop_rounds 5 ?_
  rw [rounds_succ]
  go_wp2_with (fail)
  rw [rounds_succ]
  go_wp2_with (fail)
  rw [rounds_succ]
  go_wp2_with (fail)
  rw [rounds_succ]
  go_wp2_with (fail)
  rw [rounds_succ]
  go_wp2_with (fail)
  go_ret
  exact ⟨rfl, ((Below.refl w.heap.size w).alloc (Nat.le_refl _) (.cells x.c 25)).alloc (by simp) (.cells #[.int .i64 P, .int .i64 I, .int .i64 B] 27)⟩
set_option maxRecDepth 100000 in
theorem rmay_n2 (x : Ino) (P I B : Int) (w : World) (h0 : 0 ≤ x.L) (h1 : x.L < 256) (n : ¬ 0 ≤ x.A) : Calls Tryd.prog 8 #[x.v, gv P I B] w fun e w' => e = .returned (.bool false) ∧ Below w.heap.size w w' := by
  have g : decide (0 ≤ x.A) = false := decide_eq_false n
  go_enter Tryd.func8, Tryd.ntmps8
  go_wp2_with (fail)
  refine wp_loop_rounds 5 ?_
  rw [rounds_succ]
  go_wp2_with (fail)
  rw [rounds_succ]
  go_wp2_with (fail)
  rw [rounds_succ]
  go_wp2_with (fail)
  rw [rounds_succ]
  go_wp2_with (fail)
  rw [rounds_succ]
  go_wp2_with (fail)
  go_ret
  exact ⟨rfl, ((Below.refl w.heap.size w).alloc (Nat.le_refl _) (.cells x.c 25)).alloc (by simp) (.cells #[.int .i64 P, .int .i64 I, .int .i64 B] 27)⟩
set_option maxRecDepth 100000 in
theorem rmay_n3 (x : Ino) (P I B : Int) (w : World) (h0 : 0 ≤ x.L) (h1 : x.L < 256) (h2 : 0 ≤ x.A) (n : ¬ 0 ≤ x.M) : Calls Tryd.prog 8 #[x.v, gv P I B] w fun e w' => e = .returned (.bool false) ∧ Below w.heap.size w w' := by
  have g : decide (0 ≤ x.M) = false := decide_eq_false n
  go_enter Tryd.func8, Tryd.ntmps8
  go_wp2_with (fail)
  refine wp_loop_rounds 5 ?_
  rw [rounds_succ]
  go_wp2_with (fail)
  rw [rounds_succ]
  go_wp2_with (fail)
  rw [rounds_succ]
  go_wp2_with (fail)
  rw [rounds_succ]
  go_wp2_with (fail)
  rw [rounds_succ]
  go_wp2_with (fail)
  go_ret
  exact ⟨rfl, ((Below.refl w.heap.size w).alloc (Nat.le_refl _) (.cells x.c 25)).alloc (by simp) (.cells #[.int .i64 P, .int .i64 I, .int .i64 B] 27)⟩
set_option maxRecDepth 100000 in
theorem rmay_n4 (x : Ino) (P I B : Int) (w : World) (h0 : 0 ≤ x.L) (h1 : x.L < 256) (h2 : 0 ≤ x.A) (h3 : 0 ≤ x.M) (n : ¬ 0 ≤ x.P) : Calls Tryd.prog 8 #[x.v, gv P I B] w fun e w' => e = .returned (.bool false) ∧ Below w.heap.size w w' := by
  have g : decide (0 ≤ x.P) = false := decide_eq_false n
  go_enter Tryd.func8, Tryd.ntmps8
  go_wp2_with (fail)
  refine wp_loop_rounds 5 ?_
  rw [rounds_succ]
  go_wp2_with (fail)
  rw [rounds_succ]
  go_wp2_with (fail)
  rw [rounds_succ]
  go_wp2_with (fail)
  rw [rounds_succ]
  go_wp2_with (fail)
  rw [rounds_succ]
  go_wp2_with (fail)
  go_ret
  exact ⟨rfl, ((Below.refl w.heap.size w).alloc (Nat.le_refl _) (.cells x.c 25)).alloc (by simp) (.cells #[.int .i64 P, .int .i64 I, .int .i64 B] 27)⟩
set_option maxRecDepth 100000 in
theorem rmay_n5 (x : Ino) (P I B : Int) (w : World) (h0 : 0 ≤ x.L) (h1 : x.L < 256) (h2 : 0 ≤ x.A) (h3 : 0 ≤ x.M) (h4 : 0 ≤ x.P) (n : ¬ 0 ≤ x.S) : Calls Tryd.prog 8 #[x.v, gv P I B] w fun e w' => e = .returned (.bool false) ∧ Below w.heap.size w w' := by
  have g : decide (0 ≤ x.S) = false := decide_eq_false n
  go_enter Tryd.func8, Tryd.ntmps8
  go_wp2_with (fail)
  refine wp_loop_rounds 5 ?_
  rw [rounds_succ]
  go_wp2_with (fail)
  rw [rounds_succ]
  go_wp2_with (fail)
  rw [rounds_succ]
  go_wp2_with (fail)
  rw [rounds_succ]
  go_wp2_with (fail)
  rw [rounds_succ]
  go_wp2_with (fail)
  go_ret
  exact ⟨rfl, ((Below.refl w.heap.size w).alloc (Nat.le_refl _) (.cells x.c 25)).alloc (by simp) (.cells #[.int .i64 P, .int .i64 I, .int .i64 B] 27)⟩
set_option maxRecDepth 100000 in
theorem rmay_n6 (x : Ino) (P I B : Int) (w : World) (h0 : 0 ≤ x.L) (h1 : x.L < 256) (h2 : 0 ≤ x.A) (h3 : 0 ≤ x.M) (h4 : 0 ≤ x.P) (h5 : 0 ≤ x.S) (n : ¬ 0 ≤ x.T) : Calls Tryd.prog 8 #[x.v, gv P I B] w fun e w' => e = .returned (.bool false) ∧ Below w.heap.size w w' := by
  have g : decide (0 ≤ x.T) = false := decide_eq_false n
  go_enter Tryd.func8, Tryd.ntmps8
  go_wp2_with (fail)
  refine wp_loop_rounds 5 ?_
  rw [rounds_succ]
  go_wp2_with (fail)
  rw [rounds_succ]
  go_wp2_with (fail)
  rw [rounds_succ]
  go_wp2_with (fail)
  rw [rounds_succ]
  go_wp2_with (fail)
  rw [rounds_succ]
  go_wp2_with (fail)
  go_ret
  exact ⟨rfl, ((Below.refl w.heap.size w).alloc (Nat.le_refl _) (.cells x.c 25)).alloc (by simp) (.cells #[.int .i64 P, .int .i64 I, .int .i64 B] 27)⟩
set_option maxRecDepth 100000 in
theorem rmay_n7 (x : Ino) (P I B : Int) (w : World) (h0 : 0 ≤ x.L) (h1 : x.L < 256) (h2 : 0 ≤ x.A) (h3 : 0 ≤ x.M) (h4 : 0 ≤ x.P) (h5 : 0 ≤ x.S) (h6 : 0 ≤ x.T) (n : ¬ 0 ≤ x.C) : Calls Tryd.prog 8 #[x.v, gv P I B] w fun e w' => e = .returned (.bool false) ∧ Below w.heap.size w w' := by
  have g : decide (0 ≤ x.C) = false := decide_eq_false n
  go_enter Tryd.func8, Tryd.ntmps8
  go_wp2_with (fail)
  refine wp_loop_rounds 5 ?_
  rw [rounds_succ]
  go_wp2_with (fail)
  rw [rounds_succ]
  go_wp2_with (fail)
  rw [rounds_succ]
  go_wp2_with (fail)
  rw [rounds_succ]
  go_wp2_with (fail)
  rw [rounds_succ]
  go_wp2_with (fail)
  go_ret
  exact ⟨rfl, ((Below.refl w.heap.size w).alloc (Nat.le_refl _) (.cells x.c 25)).alloc (by simp) (.cells #[.int .i64 P, .int .i64 I, .int .i64 B] 27)⟩
set_option maxRecDepth 100000 in
theorem rmay_n8 (x : Ino) (P I B : Int) (w : World) (h0 : 0 ≤ x.L) (h1 : x.L < 256) (h2 : 0 ≤ x.A) (h3 : 0 ≤ x.M) (h4 : 0 ≤ x.P) (h5 : 0 ≤ x.S) (h6 : 0 ≤ x.T) (h7 : 0 ≤ x.C) (n : ¬ 0 ≤ x.H0) : Calls Tryd.prog 8 #[x.v, gv P I B] w fun e w' => e = .returned (.bool false) ∧ Below w.heap.size w w' := by
  have g : decide (0 ≤ x.H0) = false := decide_eq_false n
  go_enter Tryd.func8, Tryd.ntmps8
  go_wp2_with (fail)
  refine wp_loop_rounds 5 ?_
  rw [rounds_succ]
  go_wp2_with (fail)
  rw [rounds_succ]
  go_wp2_with (fail)
  rw [rounds_succ]
  go_wp2_with (fail)
  rw [rounds_succ]
  go_wp2_with (fail)
  rw [rounds_succ]
  go_wp2_with (fail)
  go_ret
  exact ⟨rfl, ((Below.refl w.heap.size w).alloc (Nat.le_refl _) (.cells x.c 25)).alloc (by simp) (.cells #[.int .i64 P, .int .i64 I, .int .i64 B] 27)⟩
set_option maxRecDepth 100000 in
theorem rmay_n9 (x : Ino) (P I B : Int) (w : World) (h0 : 0 ≤ x.L) (h1 : x.L < 256) (h2 : 0 ≤ x.A) (h3 : 0 ≤ x.M) (h4 : 0 ≤ x.P) (h5 : 0 ≤ x.S) (h6 : 0 ≤ x.T) (h7 : 0 ≤ x.C) (h8 : 0 ≤ x.H0) (n : ¬ x.H0 < 256) : Calls Tryd.prog 8 #[x.v, gv P I B] w fun e w' => e = .returned (.bool false) ∧ Below w.heap.size w w' := by
  have g : decide (x.H0 < 256) = false := decide_eq_false n
  go_enter Tryd.func8, Tryd.ntmps8
  go_wp2_with (fail)
  refine wp_loop_rounds 5 ?_
  rw [rounds_succ]
  go_wp2_with (fail)
  rw [rounds_succ]
  go_wp2_with (fail)
  rw [rounds_succ]
  go_wp2_with (fail)
  rw [rounds_succ]
  go_wp2_with (fail)
  rw [rounds_succ]
  go_wp2_with (fail)
  go_ret
  exact ⟨rfl, ((Below.refl w.heap.size w).alloc (Nat.le_refl _) (.cells x.c 25)).alloc (by simp) (.cells #[.int .i64 P, .int .i64 I, .int .i64 B] 27)⟩
set_option maxRecDepth 100000 in
theorem rmay_n10 (x : Ino) (P I B : Int) (w : World) (h0 : 0 ≤ x.L) (h1 : x.L < 256) (h2 : 0 ≤ x.A) (h3 : 0 ≤ x.M) (h4 : 0 ≤ x.P) (h5 : 0 ≤ x.S) (h6 : 0 ≤ x.T) (h7 : 0 ≤ x.C) (h8 : 0 ≤ x.H0) (h9 : x.H0 < 256) (n : ¬ 0 ≤ x.H1) : Calls Tryd.prog 8 #[x.v, gv P I B] w fun e w' => e = .returned (.bool false) ∧ Below w.heap.size w w' := by
  have g : decide (0 ≤ x.H1) = false := decide_eq_false n
  go_enter Tryd.func8, Tryd.ntmps8
  go_wp2_with (fail)
  refine wp_loop_rounds 5 ?_
  rw [rounds_succ]
  go_wp2_with (fail)
  rw [rounds_succ]
  go_wp2_with (fail)
  rw [rounds_succ]
  go_wp2_with (fail)
  rw [rounds_succ]
  go_wp2_with (fail)
  rw [rounds_succ]
  go_wp2_with (fail)
  go_ret
  exact ⟨rfl, ((Below.refl w.heap.size w).alloc (Nat.le_refl _) (.cells x.c 25)).alloc (by simp) (.cells #[.int .i64 P, .int .i64 I, .int .i64 B] 27)⟩
set_option maxRecDepth 100000 in
theorem rmay_n11 (x : Ino) (P I B : Int) (w : World) (h0 : 0 ≤ x.L) (h1 : x.L < 256) (h2 : 0 ≤ x.A) (h3 : 0 ≤ x.M) (h4 : 0 ≤ x.P) (h5 : 0 ≤ x.S) (h6 : 0 ≤ x.T) (h7 : 0 ≤ x.C) (h8 : 0 ≤ x.H0) (h9 : x.H0 < 256) (h10 : 0 ≤ x.H1) (n : ¬ x.H1 < 256) : Calls Tryd.prog 8 #[x.v, gv P I B] w fun e w' => e = .returned (.bool false) ∧ Below w.heap.size w w' := by
  have g : decide (x.H1 < 256) = false := decide_eq_false n
  go_enter Tryd.func8, Tryd.ntmps8
  go_wp2_with (fail)
  refine wp_loop_rounds 5 ?_
  rw [rounds_succ]
  go_wp2_with (fail)
  rw [rounds_succ]
  go_wp2_with (fail)
  rw [rounds_succ]
  go_wp2_with (fail)
  rw [rounds_succ]
  go_wp2_with (fail)
  rw [rounds_succ]
  go_wp2_with (fail)
  go_ret
  exact ⟨rfl, ((Below.refl w.heap.size w).alloc (Nat.le_refl _) (.cells x.c 25)).alloc (by simp) (.cells #[.int .i64 P, .int .i64 I, .int .i64 B] 27)⟩
set_option maxRecDepth 100000 in
theorem rmay_n12 (x : Ino) (P I B : Int) (w : World) (h0 : 0 ≤ x.L) (h1 : x.L < 256) (h2 : 0 ≤ x.A) (h3 : 0 ≤ x.M) (h4 : 0 ≤ x.P) (h5 : 0 ≤ x.S) (h6 : 0 ≤ x.T) (h7 : 0 ≤ x.C) (h8 : 0 ≤ x.H0) (h9 : x.H0 < 256) (h10 : 0 ≤ x.H1) (h11 : x.H1 < 256) (n : ¬ 0 ≤ x.H2) : Calls Tryd.prog 8 #[x.v, gv P I B] w fun e w' => e = .returned (.bool false) ∧ Below w.heap.size w w' := by
  have g : decide (0 ≤ x.H2) = false := decide_eq_false n
  go_enter Tryd.func8, Tryd.ntmps8
  go_wp2_with (fail)
  refine wp_loop_rounds 5 ?_
  rw [rounds_succ]
  go_wp2_with (fail)
  rw [rounds_succ]
  go_wp2_with (fail)
  rw [rounds_succ]
  go_wp2_with (fail)
  rw [rounds_succ]
  go_wp2_with (fail)
  rw [rounds_succ]
  go_wp2_with (fail)
  go_ret
  exact ⟨rfl, ((Below.refl w.heap.size w).alloc (Nat.le_refl _) (.cells x.c 25)).alloc (by simp) (.cells #[.int .i64 P, .int .i64 I, .int .i64 B] 27)⟩
set_option maxRecDepth 100000 in
theorem rmay_n13 (x : Ino) (P I B : Int) (w : World) (h0 : 0 ≤ x.L) (h1 : x.L < 256) (h2 : 0 ≤ x.A) (h3 : 0 ≤ x.M) (h4 : 0 ≤ x.P) (h5 : 0 ≤ x.S) (h6 : 0 ≤ x.T) (h7 : 0 ≤ x.C) (h8 : 0 ≤ x.H0) (h9 : x.H0 < 256) (h10 : 0 ≤ x.H1) (h11 : x.H1 < 256) (h12 : 0 ≤ x.H2) (n : ¬ x.H2 < 256) : Calls Tryd.prog 8 #[x.v, gv P I B] w fun e w' => e = .returned (.bool false) ∧ Below w.heap.size w w' := by
  have g : decide (x.H2 < 256) = false := decide_eq_false n
  go_enter Tryd.func8, Tryd.ntmps8
  go_wp2_with (fail)
  refine wp_loop_rounds 5 ?_
  rw [rounds_succ]
  go_wp2_with (fail)
  rw [rounds_succ]
  go_wp2_with (fail)
  rw [rounds_succ]
  go_wp2_with (fail)
  rw [rounds_succ]
  go_wp2_with (fail)
  rw [rounds_succ]
  go_wp2_with (fail)
  go_ret
  exact ⟨rfl, ((Below.refl w.heap.size w).alloc (Nat.le_refl _) (.cells x.c 25)).alloc (by simp) (.cells #[.int .i64 P, .int .i64 I, .int .i64 B] 27)⟩
set_option maxRecDepth 100000 in
theorem rmay_n14 (x : Ino) (P I B : Int) (w : World) (h0 : 0 ≤ x.L) (h1 : x.L < 256) (h2 : 0 ≤ x.A) (h3 : 0 ≤ x.M) (h4 : 0 ≤ x.P) (h5 : 0 ≤ x.S) (h6 : 0 ≤ x.T) (h7 : 0 ≤ x.C) (h8 : 0 ≤ x.H0) (h9 : x.H0 < 256) (h10 : 0 ≤ x.H1) (h11 : x.H1 < 256) (h12 : 0 ≤ x.H2) (h13 : x.H2 < 256) (n : ¬ 0 ≤ x.H3) : Calls Tryd.prog 8 #[x.v, gv P I B] w fun e w' => e = .returned (.bool false) ∧ Below w.heap.size w w' := by
  have g : decide (0 ≤ x.H3) = false := decide_eq_false n
  go_enter Tryd.func8, Tryd.ntmps8
  go_wp2_with (fail)
  refine wp_loop_rounds 5 ?_
  rw [rounds_succ]
  go_wp2_with (fail)
  rw [rounds_succ]
  go_wp2_with (fail)
  rw [rounds_succ]
  go_wp2_with (fail)
  rw [rounds_succ]
  go_wp2_with (fail)
  rw [rounds_succ]
  go_wp2_with (fail)
  go_ret
  exact ⟨rfl, ((Below.refl w.heap.size w).alloc (Nat.le_refl _) (.cells x.c 25)).alloc (by simp) (.cells #[.int .i64 P, .int .i64 I, .int .i64 B] 27)⟩
set_option maxRecDepth 100000 in
theorem rmay_n15 (x : Ino) (P I B : Int) (w : World) (h0 : 0 ≤ x.L) (h1 : x.L < 256) (h2 : 0 ≤ x.A) (h3 : 0 ≤ x.M) (h4 : 0 ≤ x.P) (h5 : 0 ≤ x.S) (h6 : 0 ≤ x.T) (h7 : 0 ≤ x.C) (h8 : 0 ≤ x.H0) (h9 : x.H0 < 256) (h10 : 0 ≤ x.H1) (h11 : x.H1 < 256) (h12 : 0 ≤ x.H2) (h13 : x.H2 < 256) (h14 : 0 ≤ x.H3) (n : ¬ x.H3 < 256) : Calls Tryd.prog 8 #[x.v, gv P I B] w fun e w' => e = .returned (.bool false) ∧ Below w.heap.size w w' := by
  have g : decide (x.H3 < 256) = false := decide_eq_false n
  go_enter Tryd.func8, Tryd.ntmps8
  go_wp2_with (fail)
  refine wp_loop_rounds 5 ?_
  rw [rounds_succ]
  go_wp2_with (fail)
  rw [rounds_succ]
  go_wp2_with (fail)
  rw [rounds_succ]
  go_wp2_with (fail)
  rw [rounds_succ]
  go_wp2_with (fail)
  rw [rounds_succ]
  go_wp2_with (fail)
  go_ret
  exact ⟨rfl, ((Below.refl w.heap.size w).alloc (Nat.le_refl _) (.cells x.c 25)).alloc (by simp) (.cells #[.int .i64 P, .int .i64 I, .int .i64 B] 27)⟩
/-- All have room. -/
structure Rm (x : Ino) : Prop where
  h0 : 0 ≤ x.L
  h1 : x.L < 256
  h2 : 0 ≤ x.A
  h3 : 0 ≤ x.M
  h4 : 0 ≤ x.P
  h5 : 0 ≤ x.S
  h6 : 0 ≤ x.T
  h7 : 0 ≤ x.C
  h8 : 0 ≤ x.H0
  h9 : x.H0 < 256
  h10 : 0 ≤ x.H1
  h11 : x.H1 < 256
  h12 : 0 ≤ x.H2
  h13 : x.H2 < 256
  h14 : 0 ≤ x.H3
  h15 : x.H3 < 256
set_option maxRecDepth 100000 in
theorem rmay_kd (x : Ino) (P I B : Int) (w : World) (hx : Rm x) (hk : x.K = 2) (n : ¬ x.M = 0) : Calls Tryd.prog 8 #[x.v, gv P I B] w fun e w' => e = .returned (.bool false) ∧ Below w.heap.size w w' := by
  obtain ⟨h0, h1, h2, h3, h4, h5, h6, h7, h8, h9, h10, h11, h12, h13, h14, h15⟩ := hx
  have g1 : (x.K == 2) = true := by rw [beq_iff_eq]; exact hk
  have g2 : (x.M != 0) = true := by rw [bne_iff_ne]; exact n
  have g3 : (x.K != 2) = false := by unfold bne; rw [g1]; rfl
  clear n hk
  go_enter Tryd.func8, Tryd.ntmps8
  go_wp2_with (fail)
  refine wp_loop_rounds 5 ?_
  rw [rounds_succ]
  go_wp2_with (fail)
  rw [rounds_succ]
  go_wp2_with (fail)
  rw [rounds_succ]
  go_wp2_with (fail)
  rw [rounds_succ]
  go_wp2_with (fail)
  rw [rounds_succ]
  go_wp2_with (fail)
  go_ret
  exact ⟨rfl, ((Below.refl w.heap.size w).alloc (Nat.le_refl _) (.cells x.c 25)).alloc (by simp) (.cells #[.int .i64 P, .int .i64 I, .int .i64 B] 27)⟩
set_option maxRecDepth 100000 in
theorem rmay_ko (x : Ino) (P I B : Int) (w : World) (hx : Rm x) (hk : ¬ x.K = 2) (n : (x.H0 == 0 && (x.H1 == 0 && (x.H2 == 0 && x.H3 == 0))) = false) : Calls Tryd.prog 8 #[x.v, gv P I B] w fun e w' => e = .returned (.bool false) ∧ Below w.heap.size w w' := by
  obtain ⟨h0, h1, h2, h3, h4, h5, h6, h7, h8, h9, h10, h11, h12, h13, h14, h15⟩ := hx
  have g1 : (x.K == 2) = false := by rw [beq_eq_false_iff_ne]; exact hk
  have g3 : (x.K != 2) = true := by unfold bne; rw [g1]; rfl
  have e4 : ∀ W : World, (Op.equalIn 10000 23 (.agg #[.int .i64 x.H0, .int .i64 x.H1, .int .i64 x.H2, .int .i64 x.H3]) (.agg #[.int .i64 0, .int .i64 0, .int .i64 0, .int .i64 0])).run Tryd.prog W = .ok false W := fun W => (eq4 _ _ _ _ _ _ _ _ W).trans (by rw [n])
  clear n hk
  go_enter Tryd.func8, Tryd.ntmps8
  go_wp2_with (fail)
  refine wp_loop_rounds 5 ?_
  rw [rounds_succ]
  go_wp2_with (fail)
  rw [rounds_succ]
  go_wp2_with (fail)
  rw [rounds_succ]
  go_wp2_with (fail)
  rw [rounds_succ]
  go_wp2_with (fail)
  rw [rounds_succ]
  go_wp2_with (fail)
  go_ret
  exact ⟨rfl, ((Below.refl w.heap.size w).alloc (Nat.le_refl _) (.cells x.c 25)).alloc (by simp) (.cells #[.int .i64 P, .int .i64 I, .int .i64 B] 27)⟩
theorem rmay_room (x : Ino) (P I B : Int) (w : World) (n : ¬ Rm x) : Calls Tryd.prog 8 #[x.v, gv P I B] w fun e w' => e = .returned (.bool false) ∧ Below w.heap.size w w' := by
  by_cases h0 : 0 ≤ x.L
  case neg => exact rmay_n0 x P I B w  h0
  by_cases h1 : x.L < 256
  case neg => exact rmay_n1 x P I B w h0 h1
  by_cases h2 : 0 ≤ x.A
  case neg => exact rmay_n2 x P I B w h0 h1 h2
  by_cases h3 : 0 ≤ x.M
  case neg => exact rmay_n3 x P I B w h0 h1 h2 h3
  by_cases h4 : 0 ≤ x.P
  case neg => exact rmay_n4 x P I B w h0 h1 h2 h3 h4
  by_cases h5 : 0 ≤ x.S
  case neg => exact rmay_n5 x P I B w h0 h1 h2 h3 h4 h5
  by_cases h6 : 0 ≤ x.T
  case neg => exact rmay_n6 x P I B w h0 h1 h2 h3 h4 h5 h6
  by_cases h7 : 0 ≤ x.C
  case neg => exact rmay_n7 x P I B w h0 h1 h2 h3 h4 h5 h6 h7
  by_cases h8 : 0 ≤ x.H0
  case neg => exact rmay_n8 x P I B w h0 h1 h2 h3 h4 h5 h6 h7 h8
  by_cases h9 : x.H0 < 256
  case neg => exact rmay_n9 x P I B w h0 h1 h2 h3 h4 h5 h6 h7 h8 h9
  by_cases h10 : 0 ≤ x.H1
  case neg => exact rmay_n10 x P I B w h0 h1 h2 h3 h4 h5 h6 h7 h8 h9 h10
  by_cases h11 : x.H1 < 256
  case neg => exact rmay_n11 x P I B w h0 h1 h2 h3 h4 h5 h6 h7 h8 h9 h10 h11
  by_cases h12 : 0 ≤ x.H2
  case neg => exact rmay_n12 x P I B w h0 h1 h2 h3 h4 h5 h6 h7 h8 h9 h10 h11 h12
  by_cases h13 : x.H2 < 256
  case neg => exact rmay_n13 x P I B w h0 h1 h2 h3 h4 h5 h6 h7 h8 h9 h10 h11 h12 h13
  by_cases h14 : 0 ≤ x.H3
  case neg => exact rmay_n14 x P I B w h0 h1 h2 h3 h4 h5 h6 h7 h8 h9 h10 h11 h12 h13 h14
  by_cases h15 : x.H3 < 256
  case neg => exact rmay_n15 x P I B w h0 h1 h2 h3 h4 h5 h6 h7 h8 h9 h10 h11 h12 h13 h14 h15
  exact absurd ⟨h0, h1, h2, h3, h4, h5, h6, h7, h8, h9, h10, h11, h12, h13, h14, h15⟩ n
end Go.Proofs.YtppnicdhahgigaaDoor
