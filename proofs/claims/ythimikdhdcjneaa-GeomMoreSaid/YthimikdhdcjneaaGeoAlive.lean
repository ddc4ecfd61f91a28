/- The law's own example. -/
import Derived.Test.YthimikdhdcjneaaGeoMath
namespace Go.Proofs.Ythimikdhdcjneaa
open Go.RowKit
theorem gok : GOK (1 : Nat) (2 : Nat) (4 : Nat) := by unfold GOK; omega
theorem lines_ex (w : World) : Calls Try.prog 7 #[gv 1 2 4] w fun e w' => e = .returned (.tuple #[.int .i64 37, .int .i64 0]) ∧ Below w.heap.size w w' := lines_ok 1 2 4 w gok
theorem block_ex (w : World) : Calls Try.prog 10 #[gv 1 2 4, .int .i64 1] w fun e w' => e = .returned (.tuple #[.int .i64 168, .int .i64 0]) ∧ Below w.heap.size w w' := by
  have h := block_in 1 2 4 1 w gok (by decide) (by decide)
  rw [ahead5] at h
  exact h
theorem what_ex (w : World) : Calls Try.prog 16 #[gv 1 2 4, .int .i64 295] w fun e w' => e = .returned (.tuple #[reg 5 4 31, .int .i64 0]) ∧ Below w.heap.size w w' :=
  what_in5 1 2 4 295 w gok (by decide) (by decide) 21 rfl 127 (by decide) (by decide)
theorem what_ex2 (w : World) : Calls Try.prog 16 #[gv 1 2 4, .int .i64 296] w fun e w' => e = .returned (.tuple #[reg 0 0 0, .int .i64 3]) ∧ Below w.heap.size w w' :=
  what_out 1 2 4 296 w gok (.inr (by decide))
theorem check_ex (w : World) : Calls Try.prog 12 #[gv 0 0 0] w fun e w' => e = .returned (.int .i64 2) ∧ Below w.heap.size w w' := check_bad 0 0 0 w (by unfold GOK; omega)
theorem alive_calls (w : World) : Calls Try.prog 13 #[] w fun e w' => e = .returned (.bool true) ∧ Below w.heap.size w w' := by
  go_enter Try.func13, Try.ntmps13
  go_wp2_with (fail)
  refine (lines_ex _).mono ?_
  rintro e w1 ⟨rfl, hb1⟩
  have x1 := Bx.later hb1 rfl
  have bw1 := below_alloc hb1
  obtain ⟨b0, b1, b2⟩ := x1.cells
  go_wp2_with (fail)
  refine (block_ex _).mono ?_
  rintro e w2 ⟨rfl, hb2⟩
  clear b0 b1 b2
  have x2 := x1.below hb2 x1.lt
  have bw2 := bw1.trans (hb2.mono bw1.size)
  obtain ⟨b0, b1, b2⟩ := x2.cells
  go_wp2_with (fail)
  refine (what_ex _).mono ?_
  rintro e w3 ⟨rfl, hb3⟩
  clear b0 b1 b2
  have x3 := x2.below hb3 x2.lt
  have bw3 := bw2.trans (hb3.mono bw2.size)
  obtain ⟨b0, b1, b2⟩ := x3.cells
  have hlt3 := x3.lt
  go_wp2_with (fail)
  refine (what_ex2 _).mono ?_
  rintro e w4 ⟨rfl, hb4⟩
  clear b0 b1 b2 hlt3
  obtain ⟨r0, r1, r2⟩ := three_cells (alloc_later hb4)
  have bw4 := bw3.trans ((below_alloc hb4).mono bw3.size)
  have hlt4 : w3.heap.size < w4.heap.size := lt_of_cells (alloc_later hb4)
  go_wp2_with (fail)
  refine (check_ex _).mono ?_
  rintro e w5 ⟨rfl, hb5⟩
  go_wp2
  go_ret
  have bw4' := bw4.alloc bw4.size (.cells #[.int .u8 0, .int .i64 0, .int .i64 0] 35)
  exact ⟨rfl, bw4'.trans (hb5.mono bw4'.size)⟩
end Go.Proofs.Ythimikdhdcjneaa
