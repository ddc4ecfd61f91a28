/- Which region has a word: kindOf, What. -/
import Derived.Test.YthimikdhdcjneaaGeo3
namespace Go.Proofs.Ythimikdhdcjneaa
open Go.RowKit Go.Sort
theorem ahead2 (P I B : Nat) : linesL P I B (ahead 2) = 1 := by simp [ahead, linesL, linesK, rowC, rowW]
theorem ahead3 (P I B : Nat) : linesL P I B (ahead 3) = 2 := by simp [ahead, linesL, linesK, rowC, rowW, List.range_succ]
theorem ahead4 (P I B : Nat) : linesL P I B (ahead 4) = 2 + I := by simp [ahead, linesL, linesK, rowC, rowW, List.range_succ]; omega
theorem ahead5 (P I B : Nat) : linesL P I B (ahead 5) = 2 + I + 17 * P := by simp [ahead, linesL, linesK, rowC, rowW, List.range_succ]; omega
/-- The kind of the region that has a line. -/
def kindN (P I l : Nat) : Nat := if 2 + I + 17 * P ≤ l then 5 else if 2 + I ≤ l then 4 else if 2 ≤ l then 3 else if 1 ≤ l then 2 else 1
theorem kindOf_calls (P I B l : Nat) (w : World) (hP : P ≤ 8) (hI : I ≤ 64) (hB : B ≤ 255) (hl : l ≤ 4096) :
    Calls Try.prog 25 #[gv P I B, .int .i64 (l : Nat)] w fun e w' => e = .returned (.int .u8 (kindN P I l : Nat)) ∧ Below w.heap.size w w' := by
  have C5 := fun W => begin_calls P I B 5 W (by omega) (by omega) (by omega) (by omega) (by omega)
  have C4 := fun W => begin_calls P I B 4 W (by omega) (by omega) (by omega) (by omega) (by omega)
  have C3 := fun W => begin_calls P I B 3 W (by omega) (by omega) (by omega) (by omega) (by omega)
  have C2 := fun W => begin_calls P I B 2 W (by omega) (by omega) (by omega) (by omega) (by omega)
  rw [ahead5] at C5
  rw [ahead4] at C4
  rw [ahead3] at C3
  rw [ahead2] at C2
  have H5 := Lib.hid C5
  have H4 := Lib.hid C4
  have H3 := Lib.hid C3
  have H2 := Lib.hid C2
  clear C5 C4 C3 C2
  by_cases h5 : 2 + I + 17 * P ≤ l
  · have HK : Hid (kindN P I l = 5) := Lib.hid (by unfold kindN; rw [if_pos h5])
    generalize 2 + I + 17 * P = s5 at *
    go_enter Try.func25, Try.ntmps25
    go_wp2_with (fail)
    refine (H5.out _).mono ?_
    rintro e w1 ⟨rfl, hb1⟩
    go_wp2
    go_ret
    exact ⟨by rw [HK.out]; rfl, below_alloc hb1⟩
  · by_cases h4 : 2 + I ≤ l
    · have HK : Hid (kindN P I l = 4) := Lib.hid (by unfold kindN; rw [if_neg h5, if_pos h4])
      generalize 2 + I + 17 * P = s5 at *
      generalize 2 + I = s4 at *
      go_enter Try.func25, Try.ntmps25
      go_wp2_with (fail)
      refine (H5.out _).mono ?_
      rintro e w1 ⟨rfl, hb1⟩
      have x1 := Bx.later hb1 rfl
      have bw1 := below_alloc hb1
      clear hb1
      obtain ⟨b0, b1, b2⟩ := x1.cells
      go_wp2_with (fail)
      refine (H4.out _).mono ?_
      rintro e w2 ⟨rfl, hb2⟩
      clear b0 b1 b2
      have x2 := x1.below hb2 x1.lt
      have bw2 := bw1.trans (hb2.mono bw1.size)
      clear hb2
      go_wp2
      go_ret
      exact ⟨by rw [HK.out]; rfl, bw2⟩
    · by_cases h3 : 2 ≤ l
      · have HK : Hid (kindN P I l = 3) := Lib.hid (by unfold kindN; rw [if_neg h5, if_neg h4, if_pos h3])
        generalize 2 + I + 17 * P = s5 at *
        generalize 2 + I = s4 at *
        go_enter Try.func25, Try.ntmps25
        go_wp2_with (fail)
        refine (H5.out _).mono ?_
        rintro e w1 ⟨rfl, hb1⟩
        have x1 := Bx.later hb1 rfl
        have bw1 := below_alloc hb1
        clear hb1
        obtain ⟨b0, b1, b2⟩ := x1.cells
        go_wp2_with (fail)
        refine (H4.out _).mono ?_
        rintro e w2 ⟨rfl, hb2⟩
        clear b0 b1 b2
        have x2 := x1.below hb2 x1.lt
        have bw2 := bw1.trans (hb2.mono bw1.size)
        clear hb2
        obtain ⟨b0, b1, b2⟩ := x2.cells
        go_wp2_with (fail)
        refine (H3.out _).mono ?_
        rintro e w3 ⟨rfl, hb3⟩
        clear b0 b1 b2
        have x3 := x2.below hb3 x2.lt
        have bw3 := bw2.trans (hb3.mono bw2.size)
        clear hb3
        go_wp2
        go_ret
        exact ⟨by rw [HK.out]; rfl, bw3⟩
      · by_cases h2 : 1 ≤ l
        · have HK : Hid (kindN P I l = 2) := Lib.hid (by unfold kindN; rw [if_neg h5, if_neg h4, if_neg h3, if_pos h2])
          generalize 2 + I + 17 * P = s5 at *
          generalize 2 + I = s4 at *
          go_enter Try.func25, Try.ntmps25
          go_wp2_with (fail)
          refine (H5.out _).mono ?_
          rintro e w1 ⟨rfl, hb1⟩
          have x1 := Bx.later hb1 rfl
          have bw1 := below_alloc hb1
          clear hb1
          obtain ⟨b0, b1, b2⟩ := x1.cells
          go_wp2_with (fail)
          refine (H4.out _).mono ?_
          rintro e w2 ⟨rfl, hb2⟩
          clear b0 b1 b2
          have x2 := x1.below hb2 x1.lt
          have bw2 := bw1.trans (hb2.mono bw1.size)
          clear hb2
          obtain ⟨b0, b1, b2⟩ := x2.cells
          go_wp2_with (fail)
          refine (H3.out _).mono ?_
          rintro e w3 ⟨rfl, hb3⟩
          clear b0 b1 b2
          have x3 := x2.below hb3 x2.lt
          have bw3 := bw2.trans (hb3.mono bw2.size)
          clear hb3
          obtain ⟨b0, b1, b2⟩ := x3.cells
          go_wp2_with (fail)
          refine (H2.out _).mono ?_
          rintro e w4 ⟨rfl, hb4⟩
          clear b0 b1 b2
          have x4 := x3.below hb4 x3.lt
          have bw4 := bw3.trans (hb4.mono bw3.size)
          clear hb4
          go_wp2
          go_ret
          exact ⟨by rw [HK.out]; rfl, bw4⟩
        · have HK : Hid (kindN P I l = 1) := Lib.hid (by unfold kindN; rw [if_neg h5, if_neg h4, if_neg h3, if_neg h2])
          generalize 2 + I + 17 * P = s5 at *
          generalize 2 + I = s4 at *
          go_enter Try.func25, Try.ntmps25
          go_wp2_with (fail)
          refine (H5.out _).mono ?_
          rintro e w1 ⟨rfl, hb1⟩
          have x1 := Bx.later hb1 rfl
          have bw1 := below_alloc hb1
          clear hb1
          obtain ⟨b0, b1, b2⟩ := x1.cells
          go_wp2_with (fail)
          refine (H4.out _).mono ?_
          rintro e w2 ⟨rfl, hb2⟩
          clear b0 b1 b2
          have x2 := x1.below hb2 x1.lt
          have bw2 := bw1.trans (hb2.mono bw1.size)
          clear hb2
          obtain ⟨b0, b1, b2⟩ := x2.cells
          go_wp2_with (fail)
          refine (H3.out _).mono ?_
          rintro e w3 ⟨rfl, hb3⟩
          clear b0 b1 b2
          have x3 := x2.below hb3 x2.lt
          have bw3 := bw2.trans (hb3.mono bw2.size)
          clear hb3
          obtain ⟨b0, b1, b2⟩ := x3.cells
          go_wp2_with (fail)
          refine (H2.out _).mono ?_
          rintro e w4 ⟨rfl, hb4⟩
          clear b0 b1 b2
          have x4 := x3.below hb4 x3.lt
          have bw4 := bw3.trans (hb4.mono bw3.size)
          clear hb4
          go_wp2
          go_ret
          exact ⟨by rw [HK.out]; rfl, bw4⟩

/-- The region of a word: its kind, number, offset. -/
def whatK (P I at_ : Nat) : Nat := kindN P I (at_ / 8)
def whatO (P I B at_ : Nat) : Nat := at_ - linesL P I B (ahead (whatK P I at_)) * 8
def whatN (P I B at_ : Nat) : Nat := rowF (whatK P I at_) + whatO P I B at_ / rowW (whatK P I at_)
def whatF (P I B at_ : Nat) : Nat := whatO P I B at_ % rowW (whatK P I at_)
/-- A region as a value. -/
abbrev reg (k n o : Int) : Value := .agg #[.int .u8 k, .int .i64 n, .int .i64 o]
/-- A block of three cells is there, and may be written. -/
theorem three_own {w : World} {g : Nat} {x y z : Value} {t : TypeId} (h : w.heap[g]? = some (.cells #[x, y, z] t (0, 0))) :
    (w.cell? ⟨g, 0, none⟩ = some x ∧ w.cell? ⟨g, 1, none⟩ = some y ∧ w.cell? ⟨g, 2, none⟩ = some z) ∧ w.frozen? ⟨g, 0, none⟩ = false ∧ w.frozen? ⟨g, 1, none⟩ = false ∧ w.frozen? ⟨g, 2, none⟩ = false :=
  ⟨three_cells h, frozen_of_row w g 0 _ _ h, frozen_of_row w g 1 _ _ h, frozen_of_row w g 2 _ _ h⟩
/-- Two blocks that were laid ahead of a call. -/
theorem later2 {w w1 : World} {o o' : Obj} (hb : Below ((w.alloc o).alloc o').heap.size ((w.alloc o).alloc o') w1) : w1.heap[w.heap.size]? = some o ∧ w1.heap[w.heap.size + 1]? = some o' ∧ Below w.heap.size w w1 := by
  refine ⟨(hb.block _ (by simp; omega)).trans ((Below.heap_alloc _ _ _ (by simp)).trans (heap_alloc_new w o)), (hb.block _ (by simp)).trans ?_, (two_allocs w o o').trans (hb.mono (by simp; omega))⟩
  have := heap_alloc_new (w.alloc o) o'
  rwa [World.size_alloc] at this
theorem below_set {B : Nat} {a w : World} (h : Below B a w) {g : Nat} (hg : B ≤ g) (i : Nat) (v : Value) : Below B a (w.setCell ⟨g, i, none⟩ v) := h.setCell (p := ⟨g, i, none⟩) hg v
theorem what_bad (P I B a : Int) (w : World) (h : ¬ GOK P I B) : Calls Try.prog 16 #[gv P I B, .int .i64 a] w fun e w' => e = .returned (.tuple #[reg 0 0 0, .int .i64 2]) ∧ Below w.heap.size w w' := by
  have C := fun W => Lib.hid (lines_bad P I B W h)
  have H := Lib.hid C
  clear h C
  go_enter Try.func16, Try.ntmps16
  go_wp2_with (fail)
  refine (H.out _).out.mono ?_
  rintro e w1 ⟨rfl, hb1⟩
  obtain ⟨_, hg, hbw⟩ := later2 hb1
  obtain ⟨⟨r0, r1, r2⟩, f0, f1, f2⟩ := three_own hg
  go_wp2
  exact bodyPost_ret (v := .tuple #[reg 0 0 0, .int .i64 2]) (by simp [results, Try.results16, go_sem, r0, r1, r2]) rfl ⟨rfl, below_set (below_set (below_set hbw (by omega) 0 _) (by omega) 1 _) (by omega) 2 _⟩
end Go.Proofs.Ythimikdhdcjneaa
