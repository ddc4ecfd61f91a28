/- Records and faults and rows of four, compared. -/
import Derived.Test.YtppnicdhahgigaaDoorIno1
import Derived.Laws.StructEq
import Derived.StillTactics
namespace Go.Proofs.YtppnicdhahgigaaDoor
open Go.RowKit
set_option maxRecDepth 100000 in
theorem eq4_in (d : Nat) (a0 a1 a2 a3 b0 b1 b2 b3 : Int) (w : World) :
    (Op.equalIn (d + 2) 23 (.agg #[.int .i64 a0, .int .i64 a1, .int .i64 a2, .int .i64 a3]) (.agg #[.int .i64 b0, .int .i64 b1, .int .i64 b2, .int .i64 b3])).run Tryd.prog w = .ok (a0 == b0 && (a1 == b1 && (a2 == b2 && a3 == b3))) w := by
  have u3 := Tryd.underlying3
  have a3' := Tryd.isAgg3
  have z3 := Tryd.sizeOf3
  rw [show d + 2 = (d + 1) + 1 from rfl, Op.equalIn]
  simp only [Sem.run_bind, run_underlying Tryd.underlying23, Result.andThen_ok]
  simp only [Std.Legacy.Range.forIn_eq_forIn_range', Std.Legacy.Range.size, Nat.sub_zero, Nat.add_sub_cancel, Nat.div_one, List.range'_succ, List.range'_zero, List.forIn_cons, List.forIn_nil]
  go_simp
  by_cases h0 : a0 = b0 <;> by_cases h1 : a1 = b1 <;> by_cases h2 : a2 = b2 <;> by_cases h3 : a3 = b3 <;> simp [h0, h1, h2, h3]
@[go_sem] theorem eq4 (a0 a1 a2 a3 b0 b1 b2 b3 : Int) (w : World) :
    (Op.equalIn 10000 23 (.agg #[.int .i64 a0, .int .i64 a1, .int .i64 a2, .int .i64 a3]) (.agg #[.int .i64 b0, .int .i64 b1, .int .i64 b2, .int .i64 b3])).run Tryd.prog w = .ok (a0 == b0 && (a1 == b1 && (a2 == b2 && a3 == b3))) w := eq4_in 9998 ..
set_option maxRecDepth 100000 in
@[go_sem] theorem eqF (k n k' n' : Int) (w : World) : (Op.equalIn 10000 51 (.agg #[.int .i64 k, .int .i64 n]) (.agg #[.int .i64 k', .int .i64 n'])).run Tryd.prog w = .ok (k == k' && n == n') w := by
  have u3 := Tryd.underlying3
  have a3 := Tryd.isAgg3
  have z3 := Tryd.sizeOf3
  have u4 := Tryd.underlying29
  have a4 := Tryd.isAgg29
  have z4 := Tryd.sizeOf29
  have hS : Tryd.prog.underlying 51 = some (.struct (Tryd.prog.fieldsOf 51)) := by kernel_rfl
  have hp : Tryd.prog.stoodInHeld 51 = false := by kernel_rfl
  rw [show (10000 : Nat) = 9999 + 1 from rfl, run_equalIn_agg w 9999 51 _ _ hS hp]
  simp only [Program.fieldsOf, Tryd.underlying51]
  go_simp
  by_cases h1 : k = k' <;> by_cases h2 : n = n' <;> simp [h1, h2]
set_option maxRecDepth 100000 in
set_option maxHeartbeats 1000000 in
theorem eqI (x : Ino) (w : World) : (Op.equalIn 10000 25 x.v x.v).run Tryd.prog w = .ok true w := by
  obtain ⟨K, L, G, S, A, M, H0, H1, H2, H3, P, T, C⟩ := x
  show (Op.equalIn 10000 25 (.agg #[.int .u8 K, .int .i64 L, .int .u32 G, .int .i64 S, .int .i64 A, .int .i64 M, .int .i64 H0, .int .i64 H1, .int .i64 H2, .int .i64 H3, .int .i64 P, .int .i64 T, .int .i64 C]) (.agg #[.int .u8 K, .int .i64 L, .int .u32 G, .int .i64 S, .int .i64 A, .int .i64 M, .int .i64 H0, .int .i64 H1, .int .i64 H2, .int .i64 H3, .int .i64 P, .int .i64 T, .int .i64 C])).run Tryd.prog w = .ok true w
  have u1 := Tryd.underlying5
  have a1 := Tryd.isAgg5
  have z1 := Tryd.sizeOf5
  have u2 := Tryd.underlying22
  have a2 := Tryd.isAgg22
  have z2 := Tryd.sizeOf22
  have u3 := Tryd.underlying3
  have a3 := Tryd.isAgg3
  have z3 := Tryd.sizeOf3
  have u4 := Tryd.underlying2
  have a4 := Tryd.isAgg2
  have z4 := Tryd.sizeOf2
  have a5 := Tryd.isAgg23
  have z5 := Tryd.sizeOf23
  have e4 := fun w => eq4_in 9997 H0 H1 H2 H3 H0 H1 H2 H3 w
  have hS : Tryd.prog.underlying 25 = some (.struct (Tryd.prog.fieldsOf 25)) := by kernel_rfl
  have hp : Tryd.prog.stoodInHeld 25 = false := by kernel_rfl
  rw [show (10000 : Nat) = 9999 + 1 from rfl, run_equalIn_agg w 9999 25 _ _ hS hp]
  simp only [Program.fieldsOf, Tryd.underlying25]
  go_simp
end Go.Proofs.YtppnicdhahgigaaDoor
