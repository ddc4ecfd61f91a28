/- What no table answers. -/
import Derived.Test.YthlodfahajaneaaKp
set_option linter.unusedSimpArgs false
set_option linter.unusedVariables false
namespace Go.Proofs.Ythlodfahajaneaa
open Go Go.RowKit LockMath Go.Shelf
set_option maxRecDepth 100000 in
theorem nil_law (w : World) (p id : Int) : Calls Try.prog 7 #[.int .i64 p, .int .i64 id] w fun e w' => e = .returned (.bool true) ∧ Below w.heap.size w w' := by
  go_enter Try.func7, Try.ntmps7
  go_wp2_with (fail)
  refine (want_nil w p id).mono ?_
  rintro e w' ⟨rfl, rfl⟩
  go_wp2_with (fail)
  refine (holder_nil w id).mono ?_
  rintro e w' ⟨rfl, rfl⟩
  rw [show two none = .tuple #[.int .i64 0, .bool false] from rfl]
  go_wp2_with (fail)
  refine (waits_nil w p).mono ?_
  rintro e w' ⟨rfl, rfl⟩
  rw [show twoN none = .tuple #[.int .i64 0, .bool false] from rfl]
  go_wp2_with (fail)
  refine (free_nil w p).mono ?_
  rintro e w1 ⟨rfl, hb1⟩
  replace hb1 := Lib.hid hb1
  go_wp2_with (fail)
  refine (holds_nil w1 p).mono ?_
  rintro e w2 ⟨R, c, rfl, _, hb2⟩
  replace hb2 := Lib.hid (hb1.out.trans (hb2.mono hb1.out.size))
  clear hb1
  rw [show ([] : List Int).length = 0 from rfl]
  go_wp2_with (fail)
  refine (queue_nil w2 id).mono ?_
  rintro e w3 ⟨R, c, rfl, _, hb3⟩
  replace hb3 := Lib.hid (hb2.out.trans (hb3.mono hb2.out.size))
  clear hb2
  rw [show ([] : List Int).length = 0 from rfl]
  go_wp2_with (fail)
  refine (alive_calls w3).mono ?_
  rintro e w4 ⟨rfl, hb4⟩
  replace hb4 := Lib.hid (hb3.out.trans (hb4.mono hb3.out.size))
  clear hb3
  go_wp2_with (fail)
  go_ret
  exact ⟨rfl, hb4.out⟩
end Go.Proofs.Ythlodfahajaneaa
