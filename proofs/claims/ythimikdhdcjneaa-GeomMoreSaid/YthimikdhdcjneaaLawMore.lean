/- GeomMore: whatever it is called with, it hands back true; nothing that was there has turned. -/
import Derived.Test.YthimikdhdcjneaaGeoAlive
import Derived.Deep.DeepCutAuto
import Derived.Deep.CutBlock
import Derived.Deep.LoopGhost
namespace Go.Proofs.Ythimikdhdcjneaa
open Go.RowKit
theorem block_first (P I B : Nat) (w : World) (h : GOK P I B) : Calls Try.prog 10 #[gv P I B, .int .i64 1] w fun e w' => e = .returned (.tuple #[.int .i64 (8 * (2 + I + 17 * P : Nat)), .int .i64 0]) ∧ Below w.heap.size w w' := by
  have hB := h.2.2.1
  have C := block_in P I B 1 w h (by omega) (by omega)
  rw [ahead5, show (((2 + I + 17 * P : Nat) : Int) * 8 + (1 - 1) * 32) = 8 * (2 + I + 17 * P : Nat) by omega] at C
  exact C
theorem inode_last (P I B j : Nat) (w : World) (h : GOK P I B) (h1 : 1 ≤ j) (h2 : j ≤ I) : Calls Try.prog 8 #[gv P I B, .int .i64 (j : Nat)] w fun e w' => e = .returned (.tuple #[.int .i64 (8 * (1 + j : Nat)), .int .i64 0]) ∧ Below w.heap.size w w' := by
  have C := inode_in P I B j w h (by omega) (by omega)
  rw [ahead3, show (((2 : Nat) : Int) * 8 + ((j : Int) - 1) * 8) = 8 * (1 + j : Nat) by omega] at C
  exact C
theorem more_same (P I B P' I' : Nat) (n a c y : Int) (w : World) (n0 : 0 ≤ n) (n1 : n ≤ 10000) (a0 : 0 ≤ a) (a1 : a ≤ 100000) (_ : 0 ≤ c) (_ : c ≤ 100000) (y0 : 0 ≤ y) (y1 : y ≤ 100)
    (CL : Hid (∀ W, Calls Try.prog 7 #[gv P' I' B] W fun e w' => e = .returned (.tuple #[.int .i64 (n + y), .int .i64 0]) ∧ Below W.heap.size W w'))
    (CA : Hid (∀ W, Calls Try.prog 10 #[gv P I B, .int .i64 1] W fun e w' => e = .returned (.tuple #[.int .i64 a, .int .i64 0]) ∧ Below W.heap.size W w'))
    (CB : Hid (∀ W, Calls Try.prog 10 #[gv P' I' B, .int .i64 1] W fun e w' => e = .returned (.tuple #[.int .i64 (a + 8 * y), .int .i64 0]) ∧ Below W.heap.size W w'))
    (CC : Hid (∀ W, Calls Try.prog 8 #[gv P' I' B, .int .i64 (I : Nat)] W fun e w' => e = .returned (.tuple #[.int .i64 c, .int .i64 0]) ∧ Below W.heap.size W w'))
    (CD : Hid (∀ W, Calls Try.prog 8 #[gv P I B, .int .i64 (I : Nat)] W fun e w' => e = .returned (.tuple #[.int .i64 c, .int .i64 0]) ∧ Below W.heap.size W w')) :
    Calls Try.prog 19 #[gv P I B, gv P' I' B, .int .i64 n, .int .i64 y] w fun e w' => e = .returned (.bool true) ∧ Below w.heap.size w w' := by
  go_enter Try.func19, Try.ntmps19
  go_wp2_with (fail)
  refine (CL.out _).mono ?_
  rintro e w1 ⟨rfl, hb1⟩
  obtain ⟨g1, x1, bw1⟩ := later2 hb1
  have g1 : Bx w1 w.heap.size P I B := g1
  have x1 : Bx w1 (w.heap.size + 1) P' I' B := x1
  clear hb1
  obtain ⟨b0, b1, b2⟩ := g1.cells
  obtain ⟨b3, b4, b5⟩ := x1.cells
  go_wp2_with (fail)
  refine (CA.out _).mono ?_
  rintro e w2 ⟨rfl, hb2⟩
  clear b0 b1 b2 b3 b4 b5
  have g2 := g1.below hb2 g1.lt
  have x2 := x1.below hb2 x1.lt
  have bw2 := bw1.trans (hb2.mono bw1.size)
  clear hb2
  obtain ⟨b0, b1, b2⟩ := g2.cells
  obtain ⟨b3, b4, b5⟩ := x2.cells
  go_wp2_with (fail)
  refine (CB.out _).mono ?_
  rintro e w3 ⟨rfl, hb3⟩
  clear b0 b1 b2 b3 b4 b5
  have g3 := g2.below hb3 g2.lt
  have x3 := x2.below hb3 x2.lt
  have bw3 := bw2.trans (hb3.mono bw2.size)
  clear hb3
  obtain ⟨b0, b1, b2⟩ := g3.cells
  obtain ⟨b3, b4, b5⟩ := x3.cells
  go_wp2_with (fail)
  refine (CC.out _).mono ?_
  rintro e w4 ⟨rfl, hb4⟩
  clear b0 b1 b2 b3 b4 b5
  have g4 := g3.below hb4 g3.lt
  have x4 := x3.below hb4 x3.lt
  have bw4 := bw3.trans (hb4.mono bw3.size)
  clear hb4
  obtain ⟨b0, b1, b2⟩ := g4.cells
  obtain ⟨b3, b4, b5⟩ := x4.cells
  go_wp2_with (fail)
  refine (CD.out _).mono ?_
  rintro e w5 ⟨rfl, hb5⟩
  clear b0 b1 b2 b3 b4 b5
  have g5 := g4.below hb5 g4.lt
  have x5 := x4.below hb5 x4.lt
  have bw5 := bw4.trans (hb5.mono bw4.size)
  clear hb5
  obtain ⟨b0, b1, b2⟩ := g5.cells
  obtain ⟨b3, b4, b5⟩ := x5.cells
  go_wp2
  go_ret
  exact ⟨rfl, bw5⟩
theorem more_diff (P I B B' : Nat) (n a c y : Int) (w : World) (hne : ((B' : Int) != (B : Int)) = true) (n0 : 0 ≤ n) (n1 : n ≤ 10000) (a0 : 0 ≤ a) (a1 : a ≤ 100000) (_ : 0 ≤ c) (_ : c ≤ 100000) (y0 : 0 ≤ y) (y1 : y ≤ 100)
    (CL : Hid (∀ W, Calls Try.prog 7 #[gv P I B'] W fun e w' => e = .returned (.tuple #[.int .i64 (n + y), .int .i64 0]) ∧ Below W.heap.size W w'))
    (CA : Hid (∀ W, Calls Try.prog 10 #[gv P I B, .int .i64 1] W fun e w' => e = .returned (.tuple #[.int .i64 a, .int .i64 0]) ∧ Below W.heap.size W w'))
    (CB : Hid (∀ W, Calls Try.prog 10 #[gv P I B', .int .i64 1] W fun e w' => e = .returned (.tuple #[.int .i64 a, .int .i64 0]) ∧ Below W.heap.size W w'))
    (CC : Hid (∀ W, Calls Try.prog 8 #[gv P I B', .int .i64 (I : Nat)] W fun e w' => e = .returned (.tuple #[.int .i64 c, .int .i64 0]) ∧ Below W.heap.size W w'))
    (CD : Hid (∀ W, Calls Try.prog 8 #[gv P I B, .int .i64 (I : Nat)] W fun e w' => e = .returned (.tuple #[.int .i64 c, .int .i64 0]) ∧ Below W.heap.size W w')) :
    Calls Try.prog 19 #[gv P I B, gv P I B', .int .i64 n, .int .i64 y] w fun e w' => e = .returned (.bool true) ∧ Below w.heap.size w w' := by
  go_enter Try.func19, Try.ntmps19
  go_wp2_with (fail)
  refine (CL.out _).mono ?_
  rintro e w1 ⟨rfl, hb1⟩
  obtain ⟨g1, x1, bw1⟩ := later2 hb1
  have g1 : Bx w1 w.heap.size P I B := g1
  have x1 : Bx w1 (w.heap.size + 1) P I B' := x1
  clear hb1
  obtain ⟨b0, b1, b2⟩ := g1.cells
  obtain ⟨b3, b4, b5⟩ := x1.cells
  go_wp2_with (fail)
  refine (CA.out _).mono ?_
  rintro e w2 ⟨rfl, hb2⟩
  clear b0 b1 b2 b3 b4 b5
  have g2 := g1.below hb2 g1.lt
  have x2 := x1.below hb2 x1.lt
  have bw2 := bw1.trans (hb2.mono bw1.size)
  clear hb2
  obtain ⟨b0, b1, b2⟩ := g2.cells
  obtain ⟨b3, b4, b5⟩ := x2.cells
  go_wp2_with (fail)
  refine (CB.out _).mono ?_
  rintro e w3 ⟨rfl, hb3⟩
  clear b0 b1 b2 b3 b4 b5
  have g3 := g2.below hb3 g2.lt
  have x3 := x2.below hb3 x2.lt
  have bw3 := bw2.trans (hb3.mono bw2.size)
  clear hb3
  obtain ⟨b0, b1, b2⟩ := g3.cells
  obtain ⟨b3, b4, b5⟩ := x3.cells
  go_wp2_with (fail)
  refine (CC.out _).mono ?_
  rintro e w4 ⟨rfl, hb4⟩
  clear b0 b1 b2 b3 b4 b5
  have g4 := g3.below hb4 g3.lt
  have x4 := x3.below hb4 x3.lt
  have bw4 := bw3.trans (hb4.mono bw3.size)
  clear hb4
  obtain ⟨b0, b1, b2⟩ := g4.cells
  obtain ⟨b3, b4, b5⟩ := x4.cells
  go_wp2_with (fail)
  refine (CD.out _).mono ?_
  rintro e w5 ⟨rfl, hb5⟩
  clear b0 b1 b2 b3 b4 b5
  have g5 := g4.below hb5 g4.lt
  have x5 := x4.below hb5 x4.lt
  have bw5 := bw4.trans (hb5.mono bw4.size)
  clear hb5
  obtain ⟨b0, b1, b2⟩ := g5.cells
  obtain ⟨b3, b4, b5⟩ := x5.cells
  go_wp2
  go_ret
  exact ⟨rfl, bw5⟩
theorem more_none (P I B P' I' B' n y : Int) (w : World) (h : ¬ GOK P' I' B') : Calls Try.prog 19 #[gv P I B, gv P' I' B', .int .i64 n, .int .i64 y] w fun e w' => e = .returned (.bool true) ∧ Below w.heap.size w w' := by
  have HG := Lib.hid h
  clear h
  go_enter Try.func19, Try.ntmps19
  go_wp2_with (fail)
  refine (lines_bad P' I' B' _ HG.out).mono ?_
  rintro e w1 ⟨rfl, hb1⟩
  obtain ⟨_, x1, bw1⟩ := later2 hb1
  have x1 : Bx w1 (w.heap.size + 1) P' I' B' := x1
  obtain ⟨b0, b1, b2⟩ := x1.cells
  go_wp2_with (fail)
  refine (may_no P' I' B' _ HG.out).mono ?_
  rintro e w2 ⟨rfl, hb2⟩
  go_wp2
  go_ret
  exact ⟨rfl, bw1.trans (hb2.mono bw1.size)⟩
/-- The geometry that came in, and three more, each in a block of its own. -/
structure Three (w wx : World) (a b c : Nat) (P I B P1 I1 B1 P2 I2 B2 P3 I3 B3 : Int) : Prop where
  g : Bx wx w.heap.size P I B
  xa : Bx wx a P1 I1 B1
  xb : Bx wx b P2 I2 B2
  xc : Bx wx c P3 I3 B3
  ab : a ≠ b
  ac : a ≠ c
  bc : b ≠ c
  ga : w.heap.size < a
  gb : w.heap.size < b
  gc : w.heap.size < c
  below : Below w.heap.size w wx
/-- Three such blocks. -/
structure Laid3 (w wx : World) (n : Nat) (P I B : Int) : Prop where
  g : Bx wx w.heap.size P I B
  x0 : Bx wx n P I B
  x1 : Bx wx (n + 1) P I B
  x2 : Bx wx (n + 1 + 1) P I B
  lt : w.heap.size < n
  below : Below w.heap.size w wx
theorem three_alloc {w w1 : World} {P I B : Int} (h : Bx w1 w.heap.size P I B) (hb : Below w.heap.size w w1) :
    Laid3 w (((w1.alloc (.cells #[.int .i64 P, .int .i64 I, .int .i64 B] 23)).alloc (.cells #[.int .i64 P, .int .i64 I, .int .i64 B] 23)).alloc (.cells #[.int .i64 P, .int .i64 I, .int .i64 B] 23)).drew w1.heap.size P I B := by
  have h1 := h.lt
  have e : ∀ k : Nat, (((w1.alloc (.cells #[.int .i64 P, .int .i64 I, .int .i64 B] 23)).alloc (.cells #[.int .i64 P, .int .i64 I, .int .i64 B] 23)).alloc (.cells #[.int .i64 P, .int .i64 I, .int .i64 B] 23)).drew.heap[k]? = (((w1.alloc (.cells #[.int .i64 P, .int .i64 I, .int .i64 B] 23)).alloc (.cells #[.int .i64 P, .int .i64 I, .int .i64 B] 23)).alloc (.cells #[.int .i64 P, .int .i64 I, .int .i64 B] 23)).heap[k]? := fun _ => rfl
  refine ⟨?_, ?_, ?_, ?_, h1, below_drew (((hb.alloc hb.size _).alloc (by simp; omega) _).alloc (by simp; omega) _)⟩
  · exact (e _).trans ((Below.heap_alloc _ _ _ (by simp; omega)).trans ((Below.heap_alloc _ _ _ (by simp; omega)).trans ((Below.heap_alloc _ _ _ h1).trans h)))
  · exact (e _).trans ((Below.heap_alloc _ _ _ (by simp; omega)).trans ((Below.heap_alloc _ _ _ (by simp)).trans (heap_alloc_new w1 _)))
  · refine (e _).trans ((Below.heap_alloc _ _ _ (by simp)).trans ?_)
    have := heap_alloc_new (w1.alloc (.cells #[.int .i64 P, .int .i64 I, .int .i64 B] 23)) (.cells #[.int .i64 P, .int .i64 I, .int .i64 B] 23)
    rwa [World.size_alloc] at this
  · refine (e _).trans ?_
    have := heap_alloc_new ((w1.alloc (.cells #[.int .i64 P, .int .i64 I, .int .i64 B] 23)).alloc (.cells #[.int .i64 P, .int .i64 I, .int .i64 B] 23)) (.cells #[.int .i64 P, .int .i64 I, .int .i64 B] 23)
    rwa [World.size_alloc, World.size_alloc] at this
theorem Laid3.any {w wx : World} {n : Nat} {P I B : Int} (h : Laid3 w wx n P I B) (a : Nat) (ha : a = n ∨ a = n + 1 ∨ a = n + 1 + 1) : Bx wx a P I B := by
  rcases ha with rfl | rfl | rfl
  · exact h.x0
  · exact h.x1
  · exact h.x2
theorem Bx.set1 {w : World} {b : Nat} {P I B : Int} (h : Bx w b P I B) (v : Int) : Bx (w.setCell ⟨b, 1, none⟩ (.int .i64 v)) b P v B := by
  unfold Bx
  rw [heap_setCell_same _ _ _ _ _ _ h]
  rfl
theorem Bx.set0 {w : World} {b : Nat} {P I B : Int} (h : Bx w b P I B) (v : Int) : Bx (w.setCell ⟨b, 0, none⟩ (.int .i64 v)) b v I B := by
  unfold Bx
  rw [heap_setCell_same _ _ _ _ _ _ h]
  rfl
theorem Bx.set2 {w : World} {b : Nat} {P I B : Int} (h : Bx w b P I B) (v : Int) : Bx (w.setCell ⟨b, 2, none⟩ (.int .i64 v)) b P I v := by
  unfold Bx
  rw [heap_setCell_same _ _ _ _ _ _ h]
  rfl
theorem Bx.other {w : World} {b g i : Nat} {P I B : Int} {v : Value} (h : Bx w b P I B) (hne : b ≠ g) : Bx (w.setCell ⟨g, i, none⟩ v) b P I B := (Below.heap_setCell w ⟨g, i, none⟩ v b hne).trans h
section
variable {w wx : World} {a b c : Nat} {P I B P1 I1 B1 P2 I2 B2 P3 I3 B3 v : Int}
theorem Three.setA (h : Three w wx a b c P I B P1 I1 B1 P2 I2 B2 P3 I3 B3) : Three w (wx.setCell ⟨a, 1, none⟩ (.int .i64 v)) a b c P I B P1 v B1 P2 I2 B2 P3 I3 B3 :=
  ⟨h.g.other (Nat.ne_of_lt h.ga), h.xa.set1 v, h.xb.other (Ne.symm h.ab), h.xc.other (Ne.symm h.ac), h.ab, h.ac, h.bc, h.ga, h.gb, h.gc, below_set h.below (Nat.le_of_lt h.ga) _ _⟩
theorem Three.setB (h : Three w wx a b c P I B P1 I1 B1 P2 I2 B2 P3 I3 B3) : Three w (wx.setCell ⟨b, 0, none⟩ (.int .i64 v)) a b c P I B P1 I1 B1 v I2 B2 P3 I3 B3 :=
  ⟨h.g.other (Nat.ne_of_lt h.gb), h.xa.other h.ab, h.xb.set0 v, h.xc.other (Ne.symm h.bc), h.ab, h.ac, h.bc, h.ga, h.gb, h.gc, below_set h.below (Nat.le_of_lt h.gb) _ _⟩
theorem Three.setC (h : Three w wx a b c P I B P1 I1 B1 P2 I2 B2 P3 I3 B3) : Three w (wx.setCell ⟨c, 2, none⟩ (.int .i64 v)) a b c P I B P1 I1 B1 P2 I2 B2 P3 I3 v :=
  ⟨h.g.other (Nat.ne_of_lt h.gc), h.xa.other h.ac, h.xb.other h.bc, h.xc.set2 v, h.ab, h.ac, h.bc, h.ga, h.gb, h.gc, below_set h.below (Nat.le_of_lt h.gc) _ _⟩
theorem Three.pass {w' : World} (h : Three w wx a b c P I B P1 I1 B1 P2 I2 B2 P3 I3 B3) (hb : Below wx.heap.size wx w') : Three w w' a b c P I B P1 I1 B1 P2 I2 B2 P3 I3 B3 :=
  ⟨h.g.below hb h.g.lt, h.xa.below hb h.xa.lt, h.xb.below hb h.xb.lt, h.xc.below hb h.xc.lt, h.ab, h.ac, h.bc, h.ga, h.gb, h.gc, h.below.trans (hb.mono h.below.size)⟩
end
theorem step_i (P I B : Nat) (w : World) (h : GOK P I B) : Calls Try.prog 19 #[gv P I B, gv P ((I : Int) + 1) B, .int .i64 ((2 + I + 17 * P + 4 * B : Nat)), .int .i64 1] w fun e w' => e = .returned (.bool true) ∧ Below w.heap.size w w' := by
  by_cases hx : GOK P ((I : Int) + 1) B
  · have hx' : GOK P (I + 1 : Nat) B := hx
    have g := h
    obtain ⟨⟨_, _⟩, ⟨_, _⟩, ⟨_, _⟩⟩ := g
    exact more_same P I B P (I + 1) ((2 + I + 17 * P + 4 * B : Nat)) (8 * (2 + I + 17 * P : Nat)) (8 * (1 + I : Nat)) 1 w (by omega) (by omega) (by omega) (by omega) (by omega) (by omega) (by omega) (by omega)
      (Lib.hid fun W => by
        have C := lines_ok P (I + 1) B W hx'
        rw [show ((2 + (I + 1) + 17 * P + 4 * B : Nat) : Int) = ((2 + I + 17 * P + 4 * B : Nat) : Int) + 1 by omega] at C
        exact C)
      (Lib.hid fun W => block_first P I B W h)
      (Lib.hid fun W => by
        have C := block_first P (I + 1) B W hx'
        rw [show (8 * ((2 + (I + 1) + 17 * P : Nat) : Int)) = 8 * ((2 + I + 17 * P : Nat) : Int) + 8 * 1 by omega] at C
        exact C)
      (Lib.hid fun W => inode_last P (I + 1) B I W hx' (by omega) (by omega))
      (Lib.hid fun W => inode_last P I B I W h (by omega) (by omega))
  · exact more_none P I B P (I + 1) B _ _ w hx
theorem step_p (P I B : Nat) (w : World) (h : GOK P I B) : Calls Try.prog 19 #[gv P I B, gv ((P : Int) + 1) I B, .int .i64 ((2 + I + 17 * P + 4 * B : Nat)), .int .i64 17] w fun e w' => e = .returned (.bool true) ∧ Below w.heap.size w w' := by
  by_cases hx : GOK ((P : Int) + 1) I B
  · have hx' : GOK (P + 1 : Nat) I B := hx
    have g := h
    obtain ⟨⟨_, _⟩, ⟨_, _⟩, ⟨_, _⟩⟩ := g
    exact more_same P I B (P + 1) I ((2 + I + 17 * P + 4 * B : Nat)) (8 * (2 + I + 17 * P : Nat)) (8 * (1 + I : Nat)) 17 w (by omega) (by omega) (by omega) (by omega) (by omega) (by omega) (by omega) (by omega)
      (Lib.hid fun W => by
        have C := lines_ok (P + 1) I B W hx'
        rw [show ((2 + I + 17 * (P + 1) + 4 * B : Nat) : Int) = ((2 + I + 17 * P + 4 * B : Nat) : Int) + 17 by omega] at C
        exact C)
      (Lib.hid fun W => block_first P I B W h)
      (Lib.hid fun W => by
        have C := block_first (P + 1) I B W hx'
        rw [show (8 * ((2 + I + 17 * (P + 1) : Nat) : Int)) = 8 * ((2 + I + 17 * P : Nat) : Int) + 8 * 17 by omega] at C
        exact C)
      (Lib.hid fun W => inode_last (P + 1) I B I W hx' (by omega) (by omega))
      (Lib.hid fun W => inode_last P I B I W h (by omega) (by omega))
  · exact more_none P I B (P + 1) I B _ _ w hx
theorem step_b (P I B : Nat) (w : World) (h : GOK P I B) : Calls Try.prog 19 #[gv P I B, gv P I ((B : Int) + 1), .int .i64 ((2 + I + 17 * P + 4 * B : Nat)), .int .i64 4] w fun e w' => e = .returned (.bool true) ∧ Below w.heap.size w w' := by
  by_cases hx : GOK P I ((B : Int) + 1)
  · have hx' : GOK P I (B + 1 : Nat) := hx
    have g := h
    obtain ⟨⟨_, _⟩, ⟨_, _⟩, ⟨_, _⟩⟩ := g
    exact more_diff P I B (B + 1) ((2 + I + 17 * P + 4 * B : Nat)) (8 * (2 + I + 17 * P : Nat)) (8 * (1 + I : Nat)) 4 w (by rw [bne_iff_ne]; omega) (by omega) (by omega) (by omega) (by omega) (by omega) (by omega) (by omega) (by omega)
      (Lib.hid fun W => by
        have C := lines_ok P I (B + 1) W hx'
        rw [show ((2 + I + 17 * P + 4 * (B + 1) : Nat) : Int) = ((2 + I + 17 * P + 4 * B : Nat) : Int) + 4 by omega] at C
        exact C)
      (Lib.hid fun W => block_first P I B W h)
      (Lib.hid fun W => by
        have C := block_first P I (B + 1) W hx'
        exact C)
      (Lib.hid fun W => inode_last P I (B + 1) I W hx' (by omega) (by omega))
      (Lib.hid fun W => inode_last P I B I W h (by omega) (by omega))
  · exact more_none P I B P I (B + 1) _ _ w hx
theorem more_bad (P I B : Int) (w : World) (h : ¬ GOK P I B) : Calls Try.prog 6 #[gv P I B] w fun e w' => e = .returned (.bool true) ∧ Below w.heap.size w w' := by
  have HG := Lib.hid h
  clear h
  go_enter Try.func6, Try.ntmps6
  go_wp2_with (fail)
  refine (lines_bad P I B _ HG.out).mono ?_
  rintro e w1 ⟨rfl, hb1⟩
  have bw1 := below_alloc hb1
  go_wp2_with (fail)
  refine (alive_calls _).mono ?_
  rintro e w2 ⟨rfl, hb2⟩
  go_wp2
  go_ret
  exact ⟨rfl, bw1.trans (hb2.mono bw1.size)⟩
set_option maxHeartbeats 4000000 in
theorem more_good (P I B : Nat) (w : World) (h : GOK P I B) : Calls Try.prog 6 #[gv P I B] w fun e w' => e = .returned (.bool true) ∧ Below w.heap.size w w' := by
  have hn : 2 + I + 17 * P + 4 * B ≤ 4096 := by unfold GOK at h; omega
  have C1 := fun W => lines_ok P I B W h
  have CI := fun W => step_i P I B W h
  have CP := fun W => step_p P I B W h
  have CB := fun W => step_b P I B W h
  obtain ⟨⟨h1, h2⟩, ⟨h3, h4⟩, ⟨h5, h6⟩⟩ := id h
  generalize 2 + I + 17 * P + 4 * B = m at *
  have H1 := Lib.hid C1
  have HI := Lib.hid CI
  have HP := Lib.hid CP
  have HB := Lib.hid CB
  clear C1 CI CP CB h
  go_enter Try.func6, Try.ntmps6
  go_wp2_with (fail)
  refine (H1.out _).mono ?_
  rintro e w1 ⟨rfl, hb1⟩
  have x1 := Bx.later hb1 rfl
  have bw1 := below_alloc hb1
  clear hb1
  obtain ⟨b0, b1, b2⟩ := x1.cells
  have hlt1 := x1.lt
  have hlt2 : w.heap.size < w1.heap.size + 1 := by omega
  have hlt3 : w.heap.size < w1.heap.size + 1 + 1 := by omega
  go_upto_region 4 with (fail)
  go_cut [5, 6, 7] (fun p q r wx => ∃ a b c : Nat, p = .pointer (some ⟨a, 0, none⟩) ∧ q = .pointer (some ⟨b, 0, none⟩) ∧ r = .pointer (some ⟨c, 0, none⟩) ∧ Three w wx a b c P I B P I B P I B P I B)
  case first =>
    have K1 := three_alloc x1 bw1
    clear x1
    go_region
    all_goals
      go_wp2
      go_meet
      exact ⟨_, _, _, rfl, rfl, rfl, ⟨K1.g, K1.any _ (by omega), K1.any _ (by omega), K1.any _ (by omega), by omega, by omega, by omega, by have := K1.lt; omega, by have := K1.lt; omega, by have := K1.lt; omega, K1.below⟩⟩
  case rest =>
    obtain ⟨a, b, c, rfl, rfl, rfl, h3⟩ := hcut
    clear b0 b1 b2 hlt1 hlt2 hlt3 x1 bw1
    have f5 : wc.frozen? ⟨a, 1, none⟩ = false := frozen_of_row wc a 1 _ _ h3.xa
    obtain ⟨b0, b1, b2⟩ := h3.xa.cells
    go_upto_region 6 with (fail)
    have h4 := h3.setA (v := (I : Int) + 1)
    clear f5 b0 b1 b2
    generalize wc.setCell ⟨a, 1, none⟩ (.int .i64 ((I : Int) + 1)) = w4 at *
    have f5 : w4.frozen? ⟨b, 0, none⟩ = false := frozen_of_row w4 b 0 _ _ h4.xb
    obtain ⟨b0, b1, b2⟩ := h4.xb.cells
    go_upto_region 7 with (fail)
    have h5 := h4.setB (v := (P : Int) + 1)
    clear f5 b0 b1 b2
    generalize w4.setCell ⟨b, 0, none⟩ (.int .i64 ((P : Int) + 1)) = w5 at *
    have f5 : w5.frozen? ⟨c, 2, none⟩ = false := frozen_of_row w5 c 2 _ _ h5.xc
    obtain ⟨b0, b1, b2⟩ := h5.xc.cells
    go_upto_region 8 with (fail)
    have h6 := h5.setC (v := (B : Int) + 1)
    clear f5 b0 b1 b2
    generalize w5.setCell ⟨c, 2, none⟩ (.int .i64 ((B : Int) + 1)) = w6 at *
    obtain ⟨b0, b1, b2⟩ := h6.g.cells
    obtain ⟨b3, b4, b5⟩ := h6.xa.cells
    go_wp2_with (fail)
    refine (HI.out _).mono ?_
    rintro e w7 ⟨rfl, hb7⟩
    clear b0 b1 b2 b3 b4 b5
    have h7 := h6.pass hb7
    clear hb7
    obtain ⟨b0, b1, b2⟩ := h7.g.cells
    obtain ⟨b3, b4, b5⟩ := h7.xb.cells
    go_wp2_with (fail)
    refine (HP.out _).mono ?_
    rintro e w8 ⟨rfl, hb8⟩
    clear b0 b1 b2 b3 b4 b5
    have h8 := h7.pass hb8
    clear hb8
    obtain ⟨b0, b1, b2⟩ := h8.g.cells
    obtain ⟨b3, b4, b5⟩ := h8.xc.cells
    go_wp2_with (fail)
    refine (HB.out _).mono ?_
    rintro e w9 ⟨rfl, hb9⟩
    clear b0 b1 b2 b3 b4 b5
    have h9 := h8.pass hb9
    clear hb9
    go_wp2_with (fail)
    refine (alive_calls _).mono ?_
    rintro e w10 ⟨rfl, hb10⟩
    go_wp2
    go_ret
    exact ⟨rfl, h9.below.trans (hb10.mono h9.below.size)⟩
theorem more_calls_law (P I B : Int) (w : World) : Calls Try.prog 6 #[gv P I B] w fun e w' => e = .returned (.bool true) ∧ Below w.heap.size w w' := by
  by_cases h : GOK P I B
  · obtain ⟨p, i, b, rfl, rfl, rfl⟩ : ∃ p i b : Nat, P = p ∧ I = i ∧ B = b := ⟨P.toNat, I.toNat, B.toNat, by have := h.1.1; omega, by have := h.2.1.1; omega, by have := h.2.2.1; omega⟩
    exact more_good p i b w h
  · exact more_bad P I B w h
end Go.Proofs.Ythimikdhdcjneaa
