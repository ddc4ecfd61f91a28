/- The block that words have, as entry reads it. -/
import Derived.Test.YtipghcpodhokbaaDoorSlo8
set_option linter.unusedSimpArgs false
set_option linter.unusedVariables false
namespace Go.Proofs.YtipghcpodhokbaaDoor
open Go.RowKit WordMath SumMath
theorem list10 {α : Type} {L : List α} (h : L.length = 10) : ∃ a b c d e f g i j k, L = [a, b, c, d, e, f, g, i, j, k] := by
  match L, h with
  | [a, b, c, d, e, f, g, i, j, k], _ => exact ⟨a, b, c, d, e, f, g, i, j, k, rfl⟩
set_option maxRecDepth 100000 in
theorem run_build_db (n : Int) (L : List Slt) (hL : L.length = 10) (w : World) : (Instr.build 26 #[(0, .int .i64 n), (1, .agg (slcs L).toArray)]).run Tryd.prog w = .ok (.agg (Dbl.c ⟨n, L⟩)) w := by
  obtain ⟨x0, x1, x2, x3, x4, x5, x6, x7, x8, x9, rfl⟩ := list10 hL
  kernel_rfl
/-- An operation that hands back a value, and leaves the world. -/
theorem wpList_val {P : Program} {w : World} {ops : Array Oper} {rest : List Oper} {o : Oper} {a : Act} {Q : Exit → Act → World → Prop} (hgd : o.guard = none) (v : Value) (hrun : (execOp a.eval o).run P w = .ok (.value v) w)
    (h : wpList P ops Q rest (a.put o.dst v) w) : wpList P ops Q (o :: rest) a w :=
  wpList_plain hgd fun _ hK => by
    unfold Oper.wp
    rw [hrun]
    exact hK _ _ h
theorem run_build_op {a : Act} {o : Oper} {x y : Operand} (ho : o.op = .build 26 #[(0, x), (1, y)]) (n : Int) (L : List Slt) (hL : L.length = 10) (hx : a.eval x = .int .i64 n) (hy : a.eval y = .agg (slcs L).toArray) (w : World) :
    (execOp a.eval o).run Tryd.prog w = .ok (.value (.agg (Dbl.c ⟨n, L⟩))) w := by
  unfold execOp
  rw [ho]
  simp [hx, hy, run_build_db n L hL w]
/-- What Read tells. -/
def errD (o : Option (Nat × Int)) : Value := match o with
  | none => .nilIface
  | some (k, n) => misV (k : Nat) n blockT
/-- A geometry's block, a directory's block behind it. -/
structure Re (w0 w : World) (P I B : Int) : Prop where
  on : On w0 w
  geo : Gb w w0.heap.size P I B
  res : Db w (w0.heap.size + 1) zD
theorem Re.on' {w0 w w' : World} {P I B : Int} (h : Re w0 w P I B) (hb : On w w') : Re w0 w' P I B := ⟨h.on.trans hb, Ob.on h.geo hb, Ob.on h.res hb⟩
/-! ### Read -/
theorem zD_cells : zD.c = #[.int .i64 0, .int .i64 0, .int .u8 0, .string ⟨#[]⟩, .int .i64 0, .int .u8 0, .string ⟨#[]⟩, .int .i64 0, .int .u8 0, .string ⟨#[]⟩, .int .i64 0, .int .u8 0, .string ⟨#[]⟩, .int .i64 0, .int .u8 0, .string ⟨#[]⟩, .int .i64 0, .int .u8 0, .string ⟨#[]⟩, .int .i64 0, .int .u8 0, .string ⟨#[]⟩, .int .i64 0, .int .u8 0, .string ⟨#[]⟩, .int .i64 0, .int .u8 0, .string ⟨#[]⟩, .int .i64 0, .int .u8 0, .string ⟨#[]⟩] := rfl
theorem Re.new (w : World) (P I B : Int) : Re w ((w.alloc (.cells #[.int .i64 P, .int .i64 I, .int .i64 B] 28)).alloc (.cells #[.int .i64 0, .int .i64 0, .int .u8 0, .string ⟨#[]⟩, .int .i64 0, .int .u8 0, .string ⟨#[]⟩, .int .i64 0, .int .u8 0, .string ⟨#[]⟩, .int .i64 0, .int .u8 0, .string ⟨#[]⟩, .int .i64 0, .int .u8 0, .string ⟨#[]⟩, .int .i64 0, .int .u8 0, .string ⟨#[]⟩, .int .i64 0, .int .u8 0, .string ⟨#[]⟩, .int .i64 0, .int .u8 0, .string ⟨#[]⟩, .int .i64 0, .int .u8 0, .string ⟨#[]⟩, .int .i64 0, .int .u8 0, .string ⟨#[]⟩] 26)) P I B := by
  rw [← zD_cells]
  refine ⟨on_two _ _ _, (Ob.new w _).alloc _, ?_⟩
  have h := Ob.new (w.alloc (.cells #[.int .i64 P, .int .i64 I, .int .i64 B] 28)) (.cells zD.c 26)
  rw [World.size_alloc] at h
  exact h
set_option maxRecDepth 100000 in
set_option maxHeartbeats 2000000 in
theorem readD_geom (A : Option Addr) (n c : Nat) (P I B : Int) (w : World) (hg : ¬ GOK P I B) :
    Calls Tryd.prog 22 #[.slice A n c, gv P I B] w fun e w' => e = .returned (.tuple #[zD.v, misV 0 2 blockT]) ∧ On w w' := by
  have R0 := Lib.hid (Re.new w P I B)
  have HG := Lib.hid hg
  clear hg
  go_enter Tryd.func22, Tryd.ntmps22
  go_upto_region 1 with (fail)
  generalize (w.alloc (.cells #[.int .i64 P, .int .i64 I, .int .i64 B] 28)).alloc (.cells #[.int .i64 0, .int .i64 0, .int .u8 0, .string ⟨#[]⟩, .int .i64 0, .int .u8 0, .string ⟨#[]⟩, .int .i64 0, .int .u8 0, .string ⟨#[]⟩, .int .i64 0, .int .u8 0, .string ⟨#[]⟩, .int .i64 0, .int .u8 0, .string ⟨#[]⟩, .int .i64 0, .int .u8 0, .string ⟨#[]⟩, .int .i64 0, .int .u8 0, .string ⟨#[]⟩, .int .i64 0, .int .u8 0, .string ⟨#[]⟩, .int .i64 0, .int .u8 0, .string ⟨#[]⟩, .int .i64 0, .int .u8 0, .string ⟨#[]⟩] 26) = W at *
  obtain ⟨g0, g1, g2⟩ := Gb.cells R0.out.geo
  have hlg := Ob.lt R0.out.geo
  go_wp2_with (fail)
  refine (check_bad P I B _ HG.out).mono ?_
  rintro e w1 ⟨rfl, hb⟩
  have R1 := Lib.hid (R0.out.on' hb)
  clear R0 g0 g1 g2 hlg hb
  go_wp2_with (first
    | (go_at_call 38; refine (noBlock_calls _ _ _).mono ?_; rintro e wy ⟨rfl, rfl⟩)
    | (refine wpList_store_row rfl 26 (.tmp 4) (.tmp 16) rfl (w.heap.size + 1) zD.c rfl rfl 26 _ R1.out.res (by kernel_rfl) rfl (Dbl.one _) ?_))
  have q8 : Db (w1.setRow (w.heap.size + 1) zD.c) (w.heap.size + 1) zD := setRow_heap w1 (w.heap.size + 1) _ zD.c 26 (0, 0) R1.out.res
  have q9 : On w (w1.setRow (w.heap.size + 1) zD.c) := below_setRow R1.out.on (show w.heap.size ≤ w.heap.size + 1 by omega) _
  exact bodyPost_ret (results_row_tmp rfl _ _ (w.heap.size + 1) zD.c (misV 0 2 blockT) rfl rfl (run_loadVar_row (P := Tryd.prog) _ (w.heap.size + 1) 26 26 _ (0, 0) _ q8 Tryd.underlying26 rfl (by kernel_rfl))) rfl ⟨rfl, q9⟩
set_option maxRecDepth 100000 in
set_option maxHeartbeats 2000000 in
theorem readD_len (A : Option Addr) (n c : Nat) (P I B : Int) (w : World) (hg : GOK P I B) (hn : n ≠ 32) :
    Calls Tryd.prog 22 #[.slice A n c, gv P I B] w fun e w' => e = .returned (.tuple #[zD.v, misV 0 7 blockT]) ∧ On w w' := by
  have R0 := Lib.hid (Re.new w P I B)
  have HG := Lib.hid hg
  have hne : ((n : Int) == 32) = false := by rw [beq_eq_false_iff_ne]; omega
  have hne2 : ((n : Int) != 32) = true := by unfold bne; rw [hne]; rfl
  clear hg hn
  go_enter Tryd.func22, Tryd.ntmps22
  go_upto_region 1 with (fail)
  generalize (w.alloc (.cells #[.int .i64 P, .int .i64 I, .int .i64 B] 28)).alloc (.cells #[.int .i64 0, .int .i64 0, .int .u8 0, .string ⟨#[]⟩, .int .i64 0, .int .u8 0, .string ⟨#[]⟩, .int .i64 0, .int .u8 0, .string ⟨#[]⟩, .int .i64 0, .int .u8 0, .string ⟨#[]⟩, .int .i64 0, .int .u8 0, .string ⟨#[]⟩, .int .i64 0, .int .u8 0, .string ⟨#[]⟩, .int .i64 0, .int .u8 0, .string ⟨#[]⟩, .int .i64 0, .int .u8 0, .string ⟨#[]⟩, .int .i64 0, .int .u8 0, .string ⟨#[]⟩, .int .i64 0, .int .u8 0, .string ⟨#[]⟩] 26) = W at *
  obtain ⟨g0, g1, g2⟩ := Gb.cells R0.out.geo
  have hlg := Ob.lt R0.out.geo
  go_wp2_with (fail)
  refine (check_ok P I B _ HG.out).mono ?_
  rintro e w1 ⟨rfl, hb⟩
  have R1 := Lib.hid (R0.out.on' hb)
  clear R0 g0 g1 g2 hlg hb
  go_wp2_with (first
    | (go_at_call 38; refine (noBlock_calls _ _ _).mono ?_; rintro e wy ⟨rfl, rfl⟩)
    | (refine wpList_store_row rfl 26 (.tmp 4) (.tmp 22) rfl (w.heap.size + 1) zD.c rfl rfl 26 _ R1.out.res (by kernel_rfl) rfl (Dbl.one _) ?_))
  have q8 : Db (w1.setRow (w.heap.size + 1) zD.c) (w.heap.size + 1) zD := setRow_heap w1 (w.heap.size + 1) _ zD.c 26 (0, 0) R1.out.res
  have q9 : On w (w1.setRow (w.heap.size + 1) zD.c) := below_setRow R1.out.on (show w.heap.size ≤ w.heap.size + 1 by omega) _
  exact bodyPost_ret (results_row_tmp rfl _ _ (w.heap.size + 1) zD.c (misV 0 7 blockT) rfl rfl (run_loadVar_row (P := Tryd.prog) _ (w.heap.size + 1) 26 26 _ (0, 0) _ q8 Tryd.underlying26 rfl (by kernel_rfl))) rfl ⟨rfl, q9⟩
set_option maxRecDepth 100000 in
set_option maxHeartbeats 2000000 in
theorem readD_next (b off c : Nat) (P I B : Int) (w : World) (hg : GOK P I B) (l0 : Nat) (h0 : l0 < 18446744073709551616) (hc0 : ∀ W, On w W → W.cell? ⟨b, off, none⟩ = some (.int .u64 (l0 : Nat))) (n : Nat) (hn : fld l0 0 8 = n) (hx : nextB n P I B = false) :
    Calls Tryd.prog 22 #[.slice (some ⟨b, off, none⟩) 32 c, gv P I B] w fun e w' => e = .returned (.tuple #[zD.v, misV 0 7 blockT]) ∧ On w w' := by
  have R0 := Lib.hid (Re.new w P I B)
  have HG := Lib.hid hg
  have HC0 := Lib.hid hc0
  have n1 : n < 256 := by rw [← hn]; exact fld_lt _ _ _
  have wn : IntKind.i64.wrap (n : Int) = (n : Int) := by rw [IntKind.wrap_i64] <;> omega
  have HN := Lib.hid (fun W => eget_ok l0 0 8 0 8 W rfl rfl h0 (by decide) (by decide))
  rw [hn] at HN
  have HX := Lib.hid hx
  clear hg hc0 hn hx
  go_enter Tryd.func22, Tryd.ntmps22
  go_upto_region 1 with (fail)
  generalize (w.alloc (.cells #[.int .i64 P, .int .i64 I, .int .i64 B] 28)).alloc (.cells #[.int .i64 0, .int .i64 0, .int .u8 0, .string ⟨#[]⟩, .int .i64 0, .int .u8 0, .string ⟨#[]⟩, .int .i64 0, .int .u8 0, .string ⟨#[]⟩, .int .i64 0, .int .u8 0, .string ⟨#[]⟩, .int .i64 0, .int .u8 0, .string ⟨#[]⟩, .int .i64 0, .int .u8 0, .string ⟨#[]⟩, .int .i64 0, .int .u8 0, .string ⟨#[]⟩, .int .i64 0, .int .u8 0, .string ⟨#[]⟩, .int .i64 0, .int .u8 0, .string ⟨#[]⟩, .int .i64 0, .int .u8 0, .string ⟨#[]⟩] 26) = W at *
  obtain ⟨g0, g1, g2⟩ := Gb.cells R0.out.geo
  have hlg := Ob.lt R0.out.geo
  go_wp2_with (fail)
  refine (check_ok P I B _ HG.out).mono ?_
  rintro e w1 ⟨rfl, hb⟩
  have R1 := Lib.hid (R0.out.on' hb)
  clear R0 g0 g1 g2 hlg hb
  have c0 := HC0.out w1 R1.out.on
  go_wp2_with (fail)
  refine (HN.out _).mono ?_
  rintro e w2 ⟨rfl, rfl⟩
  clear c0
  obtain ⟨g0, g1, g2⟩ := Gb.cells R1.out.geo
  have hlg := Ob.lt R1.out.geo
  go_wp2_with (fail)
  refine (head_bad n P I B _ HX.out).mono ?_
  rintro e w2 ⟨rfl, hb⟩
  have R2 := Lib.hid (R1.out.on' hb)
  clear R1 g0 g1 g2 hlg hb HN
  go_wp2_with (first
    | (go_at_call 38; refine (noBlock_calls _ _ _).mono ?_; rintro e wy ⟨rfl, rfl⟩)
    | (refine wpList_store_row rfl 26 (.tmp 4) (.tmp 44) rfl (w.heap.size + 1) zD.c rfl rfl 26 _ R2.out.res (by kernel_rfl) rfl (Dbl.one _) ?_))
  have q8 : Db (w2.setRow (w.heap.size + 1) zD.c) (w.heap.size + 1) zD := setRow_heap w2 (w.heap.size + 1) _ zD.c 26 (0, 0) R2.out.res
  have q9 : On w (w2.setRow (w.heap.size + 1) zD.c) := below_setRow R2.out.on (show w.heap.size ≤ w.heap.size + 1 by omega) _
  exact bodyPost_ret (results_row_tmp rfl _ _ (w.heap.size + 1) zD.c (misV 0 7 blockT) rfl rfl (run_loadVar_row (P := Tryd.prog) _ (w.heap.size + 1) 26 26 _ (0, 0) _ q8 Tryd.underlying26 rfl (by kernel_rfl))) rfl ⟨rfl, q9⟩
set_option maxRecDepth 100000 in
set_option maxHeartbeats 2000000 in
theorem readD_head (b off c : Nat) (P I B : Int) (w : World) (hg : GOK P I B) (l0 : Nat) (h0 : l0 < 18446744073709551616) (hc0 : ∀ W, On w W → W.cell? ⟨b, off, none⟩ = some (.int .u64 (l0 : Nat))) (n : Nat) (hn : fld l0 0 8 = n) (hx : nextB n P I B = true) (h : Nat) (hh : headN n = h) (hne : h ≠ l0) :
    Calls Tryd.prog 22 #[.slice (some ⟨b, off, none⟩) 32 c, gv P I B] w fun e w' => e = .returned (.tuple #[zD.v, misV 0 7 blockT]) ∧ On w w' := by
  have R0 := Lib.hid (Re.new w P I B)
  have HG := Lib.hid hg
  have HC0 := Lib.hid hc0
  have n1 : n < 256 := by rw [← hn]; exact fld_lt _ _ _
  have wn : IntKind.i64.wrap (n : Int) = (n : Int) := by rw [IntKind.wrap_i64] <;> omega
  have HN := Lib.hid (fun W => eget_ok l0 0 8 0 8 W rfl rfl h0 (by decide) (by decide))
  rw [hn] at HN
  have HX := Lib.hid hx
  have hne2 : ((h : Int) != (l0 : Int)) = true := by rw [bne_iff_ne]; omega
  have HH := Lib.hid hh
  clear hg hc0 hn hx hh hne
  go_enter Tryd.func22, Tryd.ntmps22
  go_upto_region 1 with (fail)
  generalize (w.alloc (.cells #[.int .i64 P, .int .i64 I, .int .i64 B] 28)).alloc (.cells #[.int .i64 0, .int .i64 0, .int .u8 0, .string ⟨#[]⟩, .int .i64 0, .int .u8 0, .string ⟨#[]⟩, .int .i64 0, .int .u8 0, .string ⟨#[]⟩, .int .i64 0, .int .u8 0, .string ⟨#[]⟩, .int .i64 0, .int .u8 0, .string ⟨#[]⟩, .int .i64 0, .int .u8 0, .string ⟨#[]⟩, .int .i64 0, .int .u8 0, .string ⟨#[]⟩, .int .i64 0, .int .u8 0, .string ⟨#[]⟩, .int .i64 0, .int .u8 0, .string ⟨#[]⟩, .int .i64 0, .int .u8 0, .string ⟨#[]⟩] 26) = W at *
  obtain ⟨g0, g1, g2⟩ := Gb.cells R0.out.geo
  have hlg := Ob.lt R0.out.geo
  go_wp2_with (fail)
  refine (check_ok P I B _ HG.out).mono ?_
  rintro e w1 ⟨rfl, hb⟩
  have R1 := Lib.hid (R0.out.on' hb)
  clear R0 g0 g1 g2 hlg hb
  have c0 := HC0.out w1 R1.out.on
  go_wp2_with (fail)
  refine (HN.out _).mono ?_
  rintro e w2 ⟨rfl, rfl⟩
  clear c0
  obtain ⟨g0, g1, g2⟩ := Gb.cells R1.out.geo
  have hlg := Ob.lt R1.out.geo
  go_wp2_with (fail)
  refine (head_ok n P I B _ HX.out).mono ?_
  rw [HH.out]
  rintro e w2 ⟨rfl, hb⟩
  have R2 := Lib.hid (R1.out.on' hb)
  clear R1 g0 g1 g2 hlg hb HN
  have c0 := HC0.out w2 R2.out.on
  go_wp2_with (first
    | (go_at_call 38; refine (noBlock_calls _ _ _).mono ?_; rintro e wy ⟨rfl, rfl⟩)
    | (refine wpList_store_row rfl 26 (.tmp 4) (.tmp 44) rfl (w.heap.size + 1) zD.c rfl rfl 26 _ R2.out.res (by kernel_rfl) rfl (Dbl.one _) ?_))
  have q8 : Db (w2.setRow (w.heap.size + 1) zD.c) (w.heap.size + 1) zD := setRow_heap w2 (w.heap.size + 1) _ zD.c 26 (0, 0) R2.out.res
  have q9 : On w (w2.setRow (w.heap.size + 1) zD.c) := below_setRow R2.out.on (show w.heap.size ≤ w.heap.size + 1 by omega) _
  exact bodyPost_ret (results_row_tmp rfl _ _ (w.heap.size + 1) zD.c (misV 0 7 blockT) rfl rfl (run_loadVar_row (P := Tryd.prog) _ (w.heap.size + 1) 26 26 _ (0, 0) _ q8 Tryd.underlying26 rfl (by kernel_rfl))) rfl ⟨rfl, q9⟩
set_option maxRecDepth 100000 in
set_option maxHeartbeats 2000000 in
theorem readD_rest (b off c : Nat) (P I B : Int) (w : World) (hg : GOK P I B) (l0 : Nat) (h0 : l0 < 18446744073709551616) (hc0 : ∀ W, On w W → W.cell? ⟨b, off, none⟩ = some (.int .u64 (l0 : Nat))) (n : Nat) (hn : fld l0 0 8 = n) (hx : nextB n P I B = true) (hh : headN n = l0) (l1 : Nat) (hc1 : ∀ W, On w W → W.cell? ⟨b, off + 1, none⟩ = some (.int .u64 (l1 : Nat))) (hz : l1 ≠ 0) :
    Calls Tryd.prog 22 #[.slice (some ⟨b, off, none⟩) 32 c, gv P I B] w fun e w' => e = .returned (.tuple #[zD.v, misV 1 7 blockT]) ∧ On w w' := by
  have R0 := Lib.hid (Re.new w P I B)
  have HG := Lib.hid hg
  have HC0 := Lib.hid hc0
  have n1 : n < 256 := by rw [← hn]; exact fld_lt _ _ _
  have wn : IntKind.i64.wrap (n : Int) = (n : Int) := by rw [IntKind.wrap_i64] <;> omega
  have HN := Lib.hid (fun W => eget_ok l0 0 8 0 8 W rfl rfl h0 (by decide) (by decide))
  rw [hn] at HN
  have HX := Lib.hid hx
  have HH := Lib.hid hh
  have HC1 := Lib.hid hc1
  have hne3 : ((l1 : Int) == 0) = false := by rw [beq_eq_false_iff_ne]; omega
  have hne4 : ((l1 : Int) != 0) = true := by unfold bne; rw [hne3]; rfl
  clear hg hc0 hn hx hh hc1 hz
  go_enter Tryd.func22, Tryd.ntmps22
  go_upto_region 1 with (fail)
  generalize (w.alloc (.cells #[.int .i64 P, .int .i64 I, .int .i64 B] 28)).alloc (.cells #[.int .i64 0, .int .i64 0, .int .u8 0, .string ⟨#[]⟩, .int .i64 0, .int .u8 0, .string ⟨#[]⟩, .int .i64 0, .int .u8 0, .string ⟨#[]⟩, .int .i64 0, .int .u8 0, .string ⟨#[]⟩, .int .i64 0, .int .u8 0, .string ⟨#[]⟩, .int .i64 0, .int .u8 0, .string ⟨#[]⟩, .int .i64 0, .int .u8 0, .string ⟨#[]⟩, .int .i64 0, .int .u8 0, .string ⟨#[]⟩, .int .i64 0, .int .u8 0, .string ⟨#[]⟩, .int .i64 0, .int .u8 0, .string ⟨#[]⟩] 26) = W at *
  obtain ⟨g0, g1, g2⟩ := Gb.cells R0.out.geo
  have hlg := Ob.lt R0.out.geo
  go_wp2_with (fail)
  refine (check_ok P I B _ HG.out).mono ?_
  rintro e w1 ⟨rfl, hb⟩
  have R1 := Lib.hid (R0.out.on' hb)
  clear R0 g0 g1 g2 hlg hb
  have c0 := HC0.out w1 R1.out.on
  go_wp2_with (fail)
  refine (HN.out _).mono ?_
  rintro e w2 ⟨rfl, rfl⟩
  clear c0
  obtain ⟨g0, g1, g2⟩ := Gb.cells R1.out.geo
  have hlg := Ob.lt R1.out.geo
  go_wp2_with (fail)
  refine (head_ok n P I B _ HX.out).mono ?_
  rw [HH.out]
  rintro e w2 ⟨rfl, hb⟩
  have R2 := Lib.hid (R1.out.on' hb)
  clear R1 g0 g1 g2 hlg hb HN
  have c0 := HC0.out w2 R2.out.on
  have c1 := HC1.out w2 R2.out.on
  go_wp2_with (first
    | (go_at_call 38; refine (noBlock_calls _ _ _).mono ?_; rintro e wy ⟨rfl, rfl⟩)
    | (refine wpList_store_row rfl 26 (.tmp 4) (.tmp 50) rfl (w.heap.size + 1) zD.c rfl rfl 26 _ R2.out.res (by kernel_rfl) rfl (Dbl.one _) ?_))
  have q8 : Db (w2.setRow (w.heap.size + 1) zD.c) (w.heap.size + 1) zD := setRow_heap w2 (w.heap.size + 1) _ zD.c 26 (0, 0) R2.out.res
  have q9 : On w (w2.setRow (w.heap.size + 1) zD.c) := below_setRow R2.out.on (show w.heap.size ≤ w.heap.size + 1 by omega) _
  exact bodyPost_ret (results_row_tmp rfl _ _ (w.heap.size + 1) zD.c (misV 1 7 blockT) rfl rfl (run_loadVar_row (P := Tryd.prog) _ (w.heap.size + 1) 26 26 _ (0, 0) _ q8 Tryd.underlying26 rfl (by kernel_rfl))) rfl ⟨rfl, q9⟩
set_option maxRecDepth 100000 in
set_option maxHeartbeats 2000000 in
theorem readD_bad (b off c : Nat) (P I B : Int) (w : World) (hg : GOK P I B) (l0 : Nat) (h0 : l0 < 18446744073709551616) (hc0 : ∀ W, On w W → W.cell? ⟨b, off, none⟩ = some (.int .u64 (l0 : Nat))) (n : Nat) (hn : fld l0 0 8 = n) (hx : nextB n P I B = true) (hh : headN n = l0) (l1 : Nat) (hc1 : ∀ W, On w W → W.cell? ⟨b, off + 1, none⟩ = some (.int .u64 (l1 : Nat))) (hz : l1 = 0) (L : List Slt) (hL : L.length = 10) (vk vn : Int) (hs : ∀ W, On w W → Calls Tryd.prog 40 #[.slice (some ⟨b, off, none⟩) 32 c, gv P I B] W fun e w' => e = .returned (.tuple #[slv L, misV vk vn blockT]) ∧ On W w') :
    Calls Tryd.prog 22 #[.slice (some ⟨b, off, none⟩) 32 c, gv P I B] w fun e w' => e = .returned (.tuple #[zD.v, misV vk vn blockT]) ∧ On w w' := by
  have R0 := Lib.hid (Re.new w P I B)
  have HG := Lib.hid hg
  have HC0 := Lib.hid hc0
  have n1 : n < 256 := by rw [← hn]; exact fld_lt _ _ _
  have wn : IntKind.i64.wrap (n : Int) = (n : Int) := by rw [IntKind.wrap_i64] <;> omega
  have HN := Lib.hid (fun W => eget_ok l0 0 8 0 8 W rfl rfl h0 (by decide) (by decide))
  rw [hn] at HN
  have HX := Lib.hid hx
  have HH := Lib.hid hh
  have HC1 := Lib.hid hc1
  have hne3 : ((l1 : Int) == 0) = true := by rw [beq_iff_eq]; omega
  have hne4 : ((l1 : Int) != 0) = false := by unfold bne; rw [hne3]; rfl
  have HS := Lib.hid hs
  have HSZ := Lib.hid (slcs_size hL)
  have HLL := Lib.hid hL
  clear hg hc0 hn hx hh hc1 hz hL hs
  go_enter Tryd.func22, Tryd.ntmps22
  go_upto_region 1 with (fail)
  generalize (w.alloc (.cells #[.int .i64 P, .int .i64 I, .int .i64 B] 28)).alloc (.cells #[.int .i64 0, .int .i64 0, .int .u8 0, .string ⟨#[]⟩, .int .i64 0, .int .u8 0, .string ⟨#[]⟩, .int .i64 0, .int .u8 0, .string ⟨#[]⟩, .int .i64 0, .int .u8 0, .string ⟨#[]⟩, .int .i64 0, .int .u8 0, .string ⟨#[]⟩, .int .i64 0, .int .u8 0, .string ⟨#[]⟩, .int .i64 0, .int .u8 0, .string ⟨#[]⟩, .int .i64 0, .int .u8 0, .string ⟨#[]⟩, .int .i64 0, .int .u8 0, .string ⟨#[]⟩, .int .i64 0, .int .u8 0, .string ⟨#[]⟩] 26) = W at *
  obtain ⟨g0, g1, g2⟩ := Gb.cells R0.out.geo
  have hlg := Ob.lt R0.out.geo
  go_wp2_with (fail)
  refine (check_ok P I B _ HG.out).mono ?_
  rintro e w1 ⟨rfl, hb⟩
  have R1 := Lib.hid (R0.out.on' hb)
  clear R0 g0 g1 g2 hlg hb
  have c0 := HC0.out w1 R1.out.on
  go_wp2_with (fail)
  refine (HN.out _).mono ?_
  rintro e w2 ⟨rfl, rfl⟩
  clear c0
  obtain ⟨g0, g1, g2⟩ := Gb.cells R1.out.geo
  have hlg := Ob.lt R1.out.geo
  go_wp2_with (fail)
  refine (head_ok n P I B _ HX.out).mono ?_
  rw [HH.out]
  rintro e w2 ⟨rfl, hb⟩
  have R2 := Lib.hid (R1.out.on' hb)
  clear R1 g0 g1 g2 hlg hb HN
  have c0 := HC0.out w2 R2.out.on
  have c1 := HC1.out w2 R2.out.on
  obtain ⟨g0, g1, g2⟩ := Gb.cells R2.out.geo
  have hlg := Ob.lt R2.out.geo
  go_wp2_with (fail)
  refine (HS.out _ R2.out.on).mono ?_
  rintro e w3 ⟨rfl, hb⟩
  have R3 := Lib.hid (R2.out.on' (hb.trans (on_alloc w3 (.cells #[.int .i64 0, .int .u8 0, .string ⟨#[]⟩, .int .i64 0, .int .u8 0, .string ⟨#[]⟩, .int .i64 0, .int .u8 0, .string ⟨#[]⟩, .int .i64 0, .int .u8 0, .string ⟨#[]⟩, .int .i64 0, .int .u8 0, .string ⟨#[]⟩, .int .i64 0, .int .u8 0, .string ⟨#[]⟩, .int .i64 0, .int .u8 0, .string ⟨#[]⟩, .int .i64 0, .int .u8 0, .string ⟨#[]⟩, .int .i64 0, .int .u8 0, .string ⟨#[]⟩, .int .i64 0, .int .u8 0, .string ⟨#[]⟩] 24))))
  have ha : Ob (w3.alloc (.cells #[.int .i64 0, .int .u8 0, .string ⟨#[]⟩, .int .i64 0, .int .u8 0, .string ⟨#[]⟩, .int .i64 0, .int .u8 0, .string ⟨#[]⟩, .int .i64 0, .int .u8 0, .string ⟨#[]⟩, .int .i64 0, .int .u8 0, .string ⟨#[]⟩, .int .i64 0, .int .u8 0, .string ⟨#[]⟩, .int .i64 0, .int .u8 0, .string ⟨#[]⟩, .int .i64 0, .int .u8 0, .string ⟨#[]⟩, .int .i64 0, .int .u8 0, .string ⟨#[]⟩, .int .i64 0, .int .u8 0, .string ⟨#[]⟩] 24)) w3.heap.size (.cells #[.int .i64 0, .int .u8 0, .string ⟨#[]⟩, .int .i64 0, .int .u8 0, .string ⟨#[]⟩, .int .i64 0, .int .u8 0, .string ⟨#[]⟩, .int .i64 0, .int .u8 0, .string ⟨#[]⟩, .int .i64 0, .int .u8 0, .string ⟨#[]⟩, .int .i64 0, .int .u8 0, .string ⟨#[]⟩, .int .i64 0, .int .u8 0, .string ⟨#[]⟩, .int .i64 0, .int .u8 0, .string ⟨#[]⟩, .int .i64 0, .int .u8 0, .string ⟨#[]⟩, .int .i64 0, .int .u8 0, .string ⟨#[]⟩] 24 (0, 0)) := Ob.new _ _
  have HA := Lib.hid ha
  have hlt3 : w.heap.size + 1 < w3.heap.size := Nat.lt_of_lt_of_le (Ob.lt R2.out.res) (Below.size hb)
  clear R2 g0 g1 g2 hlg hb HS c0 c1 ha
  go_upto_region 13 with (refine wpList_store_row rfl 24 (.tmp 10) (.tmp 56) rfl w3.heap.size (slcs L).toArray rfl rfl 24 _ HA.out (by rw [HSZ.out]; kernel_rfl) (by rw [HSZ.out]; rfl) (slcs_all _) ?_)
  have hA4 := setRow_heap _ w3.heap.size _ (slcs L).toArray 24 (0, 0) HA.out
  have R4 : Re w ((w3.alloc (.cells #[.int .i64 0, .int .u8 0, .string ⟨#[]⟩, .int .i64 0, .int .u8 0, .string ⟨#[]⟩, .int .i64 0, .int .u8 0, .string ⟨#[]⟩, .int .i64 0, .int .u8 0, .string ⟨#[]⟩, .int .i64 0, .int .u8 0, .string ⟨#[]⟩, .int .i64 0, .int .u8 0, .string ⟨#[]⟩, .int .i64 0, .int .u8 0, .string ⟨#[]⟩, .int .i64 0, .int .u8 0, .string ⟨#[]⟩, .int .i64 0, .int .u8 0, .string ⟨#[]⟩, .int .i64 0, .int .u8 0, .string ⟨#[]⟩] 24)).setRow w3.heap.size (slcs L).toArray) P I B := by
    have hb := below_setRow (Below.refl w3.heap.size (w3.alloc (.cells #[.int .i64 0, .int .u8 0, .string ⟨#[]⟩, .int .i64 0, .int .u8 0, .string ⟨#[]⟩, .int .i64 0, .int .u8 0, .string ⟨#[]⟩, .int .i64 0, .int .u8 0, .string ⟨#[]⟩, .int .i64 0, .int .u8 0, .string ⟨#[]⟩, .int .i64 0, .int .u8 0, .string ⟨#[]⟩, .int .i64 0, .int .u8 0, .string ⟨#[]⟩, .int .i64 0, .int .u8 0, .string ⟨#[]⟩, .int .i64 0, .int .u8 0, .string ⟨#[]⟩, .int .i64 0, .int .u8 0, .string ⟨#[]⟩] 24))) (Nat.le_refl _) (slcs L).toArray
    exact ⟨Below.trans R3.out.on (hb.mono (by omega)), Ob.below R3.out.geo hb (by omega), Ob.below R3.out.res hb (by omega)⟩
  have HR4 := Lib.hid R4
  clear hA4 R4 R3 HA
  generalize (w3.alloc (.cells #[.int .i64 0, .int .u8 0, .string ⟨#[]⟩, .int .i64 0, .int .u8 0, .string ⟨#[]⟩, .int .i64 0, .int .u8 0, .string ⟨#[]⟩, .int .i64 0, .int .u8 0, .string ⟨#[]⟩, .int .i64 0, .int .u8 0, .string ⟨#[]⟩, .int .i64 0, .int .u8 0, .string ⟨#[]⟩, .int .i64 0, .int .u8 0, .string ⟨#[]⟩, .int .i64 0, .int .u8 0, .string ⟨#[]⟩, .int .i64 0, .int .u8 0, .string ⟨#[]⟩, .int .i64 0, .int .u8 0, .string ⟨#[]⟩] 24)).setRow w3.heap.size (slcs L).toArray = w4 at *
  go_wp2_with (first
    | (refine wpList_store_row rfl 26 (.tmp 4) (.tmp 60) rfl (w.heap.size + 1) zD.c rfl rfl 26 _ HR4.out.res (by kernel_rfl) rfl (Dbl.one _) ?_))
  have q8 : Db (w4.setRow (w.heap.size + 1) zD.c) (w.heap.size + 1) zD := setRow_heap w4 (w.heap.size + 1) _ zD.c 26 (0, 0) HR4.out.res
  have q9 : On w (w4.setRow (w.heap.size + 1) zD.c) := below_setRow HR4.out.on (show w.heap.size ≤ w.heap.size + 1 by omega) _
  exact bodyPost_ret (results_row_tmp rfl _ _ (w.heap.size + 1) zD.c (misV vk vn blockT) rfl rfl (run_loadVar_row (P := Tryd.prog) _ (w.heap.size + 1) 26 26 _ (0, 0) _ q8 Tryd.underlying26 rfl (by kernel_rfl))) rfl ⟨rfl, q9⟩
set_option maxRecDepth 100000 in
set_option maxHeartbeats 2000000 in
theorem readD_ok (b off c : Nat) (P I B : Int) (w : World) (hg : GOK P I B) (l0 : Nat) (h0 : l0 < 18446744073709551616) (hc0 : ∀ W, On w W → W.cell? ⟨b, off, none⟩ = some (.int .u64 (l0 : Nat))) (n : Nat) (hn : fld l0 0 8 = n) (hx : nextB n P I B = true) (hh : headN n = l0) (l1 : Nat) (hc1 : ∀ W, On w W → W.cell? ⟨b, off + 1, none⟩ = some (.int .u64 (l1 : Nat))) (hz : l1 = 0) (L : List Slt) (hL : L.length = 10) (hs : ∀ W, On w W → Calls Tryd.prog 40 #[.slice (some ⟨b, off, none⟩) 32 c, gv P I B] W fun e w' => e = .returned (.tuple #[slv L, .nilIface]) ∧ On W w') :
    Calls Tryd.prog 22 #[.slice (some ⟨b, off, none⟩) 32 c, gv P I B] w fun e w' => e = .returned (.tuple #[Dbl.v ⟨n, L⟩, .nilIface]) ∧ On w w' := by
  have R0 := Lib.hid (Re.new w P I B)
  have HG := Lib.hid hg
  have HC0 := Lib.hid hc0
  have n1 : n < 256 := by rw [← hn]; exact fld_lt _ _ _
  have wn : IntKind.i64.wrap (n : Int) = (n : Int) := by rw [IntKind.wrap_i64] <;> omega
  have HN := Lib.hid (fun W => eget_ok l0 0 8 0 8 W rfl rfl h0 (by decide) (by decide))
  rw [hn] at HN
  have HX := Lib.hid hx
  have HH := Lib.hid hh
  have HC1 := Lib.hid hc1
  have hne3 : ((l1 : Int) == 0) = true := by rw [beq_iff_eq]; omega
  have hne4 : ((l1 : Int) != 0) = false := by unfold bne; rw [hne3]; rfl
  have HS := Lib.hid hs
  have HSZ := Lib.hid (slcs_size hL)
  have HLL := Lib.hid hL
  clear hg hc0 hn hx hh hc1 hz hL hs
  go_enter Tryd.func22, Tryd.ntmps22
  go_upto_region 1 with (fail)
  generalize (w.alloc (.cells #[.int .i64 P, .int .i64 I, .int .i64 B] 28)).alloc (.cells #[.int .i64 0, .int .i64 0, .int .u8 0, .string ⟨#[]⟩, .int .i64 0, .int .u8 0, .string ⟨#[]⟩, .int .i64 0, .int .u8 0, .string ⟨#[]⟩, .int .i64 0, .int .u8 0, .string ⟨#[]⟩, .int .i64 0, .int .u8 0, .string ⟨#[]⟩, .int .i64 0, .int .u8 0, .string ⟨#[]⟩, .int .i64 0, .int .u8 0, .string ⟨#[]⟩, .int .i64 0, .int .u8 0, .string ⟨#[]⟩, .int .i64 0, .int .u8 0, .string ⟨#[]⟩, .int .i64 0, .int .u8 0, .string ⟨#[]⟩] 26) = W at *
  obtain ⟨g0, g1, g2⟩ := Gb.cells R0.out.geo
  have hlg := Ob.lt R0.out.geo
  go_wp2_with (fail)
  refine (check_ok P I B _ HG.out).mono ?_
  rintro e w1 ⟨rfl, hb⟩
  have R1 := Lib.hid (R0.out.on' hb)
  clear R0 g0 g1 g2 hlg hb
  have c0 := HC0.out w1 R1.out.on
  go_wp2_with (fail)
  refine (HN.out _).mono ?_
  rintro e w2 ⟨rfl, rfl⟩
  clear c0
  obtain ⟨g0, g1, g2⟩ := Gb.cells R1.out.geo
  have hlg := Ob.lt R1.out.geo
  go_wp2_with (fail)
  refine (head_ok n P I B _ HX.out).mono ?_
  rw [HH.out]
  rintro e w2 ⟨rfl, hb⟩
  have R2 := Lib.hid (R1.out.on' hb)
  clear R1 g0 g1 g2 hlg hb HN
  have c0 := HC0.out w2 R2.out.on
  have c1 := HC1.out w2 R2.out.on
  obtain ⟨g0, g1, g2⟩ := Gb.cells R2.out.geo
  have hlg := Ob.lt R2.out.geo
  go_wp2_with (fail)
  refine (HS.out _ R2.out.on).mono ?_
  rintro e w3 ⟨rfl, hb⟩
  have R3 := Lib.hid (R2.out.on' (hb.trans (on_alloc w3 (.cells #[.int .i64 0, .int .u8 0, .string ⟨#[]⟩, .int .i64 0, .int .u8 0, .string ⟨#[]⟩, .int .i64 0, .int .u8 0, .string ⟨#[]⟩, .int .i64 0, .int .u8 0, .string ⟨#[]⟩, .int .i64 0, .int .u8 0, .string ⟨#[]⟩, .int .i64 0, .int .u8 0, .string ⟨#[]⟩, .int .i64 0, .int .u8 0, .string ⟨#[]⟩, .int .i64 0, .int .u8 0, .string ⟨#[]⟩, .int .i64 0, .int .u8 0, .string ⟨#[]⟩, .int .i64 0, .int .u8 0, .string ⟨#[]⟩] 24))))
  have ha : Ob (w3.alloc (.cells #[.int .i64 0, .int .u8 0, .string ⟨#[]⟩, .int .i64 0, .int .u8 0, .string ⟨#[]⟩, .int .i64 0, .int .u8 0, .string ⟨#[]⟩, .int .i64 0, .int .u8 0, .string ⟨#[]⟩, .int .i64 0, .int .u8 0, .string ⟨#[]⟩, .int .i64 0, .int .u8 0, .string ⟨#[]⟩, .int .i64 0, .int .u8 0, .string ⟨#[]⟩, .int .i64 0, .int .u8 0, .string ⟨#[]⟩, .int .i64 0, .int .u8 0, .string ⟨#[]⟩, .int .i64 0, .int .u8 0, .string ⟨#[]⟩] 24)) w3.heap.size (.cells #[.int .i64 0, .int .u8 0, .string ⟨#[]⟩, .int .i64 0, .int .u8 0, .string ⟨#[]⟩, .int .i64 0, .int .u8 0, .string ⟨#[]⟩, .int .i64 0, .int .u8 0, .string ⟨#[]⟩, .int .i64 0, .int .u8 0, .string ⟨#[]⟩, .int .i64 0, .int .u8 0, .string ⟨#[]⟩, .int .i64 0, .int .u8 0, .string ⟨#[]⟩, .int .i64 0, .int .u8 0, .string ⟨#[]⟩, .int .i64 0, .int .u8 0, .string ⟨#[]⟩, .int .i64 0, .int .u8 0, .string ⟨#[]⟩] 24 (0, 0)) := Ob.new _ _
  have HA := Lib.hid ha
  have hlt3 : w.heap.size + 1 < w3.heap.size := Nat.lt_of_lt_of_le (Ob.lt R2.out.res) (Below.size hb)
  clear R2 g0 g1 g2 hlg hb HS c0 c1 ha
  go_upto_region 13 with (refine wpList_store_row rfl 24 (.tmp 10) (.tmp 56) rfl w3.heap.size (slcs L).toArray rfl rfl 24 _ HA.out (by rw [HSZ.out]; kernel_rfl) (by rw [HSZ.out]; rfl) (slcs_all _) ?_)
  have hA4 := setRow_heap _ w3.heap.size _ (slcs L).toArray 24 (0, 0) HA.out
  have R4 : Re w ((w3.alloc (.cells #[.int .i64 0, .int .u8 0, .string ⟨#[]⟩, .int .i64 0, .int .u8 0, .string ⟨#[]⟩, .int .i64 0, .int .u8 0, .string ⟨#[]⟩, .int .i64 0, .int .u8 0, .string ⟨#[]⟩, .int .i64 0, .int .u8 0, .string ⟨#[]⟩, .int .i64 0, .int .u8 0, .string ⟨#[]⟩, .int .i64 0, .int .u8 0, .string ⟨#[]⟩, .int .i64 0, .int .u8 0, .string ⟨#[]⟩, .int .i64 0, .int .u8 0, .string ⟨#[]⟩, .int .i64 0, .int .u8 0, .string ⟨#[]⟩] 24)).setRow w3.heap.size (slcs L).toArray) P I B := by
    have hb := below_setRow (Below.refl w3.heap.size (w3.alloc (.cells #[.int .i64 0, .int .u8 0, .string ⟨#[]⟩, .int .i64 0, .int .u8 0, .string ⟨#[]⟩, .int .i64 0, .int .u8 0, .string ⟨#[]⟩, .int .i64 0, .int .u8 0, .string ⟨#[]⟩, .int .i64 0, .int .u8 0, .string ⟨#[]⟩, .int .i64 0, .int .u8 0, .string ⟨#[]⟩, .int .i64 0, .int .u8 0, .string ⟨#[]⟩, .int .i64 0, .int .u8 0, .string ⟨#[]⟩, .int .i64 0, .int .u8 0, .string ⟨#[]⟩, .int .i64 0, .int .u8 0, .string ⟨#[]⟩] 24))) (Nat.le_refl _) (slcs L).toArray
    exact ⟨Below.trans R3.out.on (hb.mono (by omega)), Ob.below R3.out.geo hb (by omega), Ob.below R3.out.res hb (by omega)⟩
  have HR4 := Lib.hid R4
  have HA4 := Lib.hid (show Ar ((w3.alloc (.cells #[.int .i64 0, .int .u8 0, .string ⟨#[]⟩, .int .i64 0, .int .u8 0, .string ⟨#[]⟩, .int .i64 0, .int .u8 0, .string ⟨#[]⟩, .int .i64 0, .int .u8 0, .string ⟨#[]⟩, .int .i64 0, .int .u8 0, .string ⟨#[]⟩, .int .i64 0, .int .u8 0, .string ⟨#[]⟩, .int .i64 0, .int .u8 0, .string ⟨#[]⟩, .int .i64 0, .int .u8 0, .string ⟨#[]⟩, .int .i64 0, .int .u8 0, .string ⟨#[]⟩, .int .i64 0, .int .u8 0, .string ⟨#[]⟩] 24)).setRow w3.heap.size (slcs L).toArray) w3.heap.size L from hA4)
  clear hA4 R4 R3 HA
  generalize (w3.alloc (.cells #[.int .i64 0, .int .u8 0, .string ⟨#[]⟩, .int .i64 0, .int .u8 0, .string ⟨#[]⟩, .int .i64 0, .int .u8 0, .string ⟨#[]⟩, .int .i64 0, .int .u8 0, .string ⟨#[]⟩, .int .i64 0, .int .u8 0, .string ⟨#[]⟩, .int .i64 0, .int .u8 0, .string ⟨#[]⟩, .int .i64 0, .int .u8 0, .string ⟨#[]⟩, .int .i64 0, .int .u8 0, .string ⟨#[]⟩, .int .i64 0, .int .u8 0, .string ⟨#[]⟩, .int .i64 0, .int .u8 0, .string ⟨#[]⟩] 24)).setRow w3.heap.size (slcs L).toArray = w4 at *
  have hdz := Dbl.size (b := ⟨n, L⟩) HLL.out
  have HDZ := Lib.hid hdz
  clear hdz
  go_wp2_with (first
    | (refine wpList_load_row rfl 24 (.tmp 10) rfl w3.heap.size rfl 24 (slcs L).toArray (0, 0) _ HA4.out Tryd.underlying24 rfl (by rw [HSZ.out]; kernel_rfl) ?_)
    | (refine wpList_val rfl (.agg (Dbl.c ⟨n, L⟩)) (run_build_op rfl n L HLL.out rfl rfl _) ?_)
    | (refine wpList_store_row rfl 26 (.tmp 4) (.tmp 64) rfl (w.heap.size + 1) (Dbl.c ⟨n, L⟩) rfl rfl 26 _ HR4.out.res (by rw [HDZ.out]; kernel_rfl) (by rw [HDZ.out]; rfl) (Dbl.one _) ?_))
  have q8 : Db (w4.setRow (w.heap.size + 1) (Dbl.c ⟨n, L⟩)) (w.heap.size + 1) ⟨n, L⟩ := setRow_heap w4 (w.heap.size + 1) _ (Dbl.c ⟨n, L⟩) 26 (0, 0) HR4.out.res
  have q9 : On w (w4.setRow (w.heap.size + 1) (Dbl.c ⟨n, L⟩)) := below_setRow HR4.out.on (show w.heap.size ≤ w.heap.size + 1 by omega) _
  exact bodyPost_ret (results_row_tmp rfl _ _ (w.heap.size + 1) (Dbl.c ⟨n, L⟩) .nilIface rfl rfl (run_loadVar_row (P := Tryd.prog) _ (w.heap.size + 1) 26 26 _ (0, 0) _ q8 Tryd.underlying26 rfl (by rw [HDZ.out]; kernel_rfl))) rfl ⟨rfl, q9⟩
end Go.Proofs.YtipghcpodhokbaaDoor
/- What Read hands back, of any words. -/
namespace Go.Proofs.YtipghcpodhokbaaDoor
open Go.RowKit WordMath SumMath
theorem fld_mod (w : Nat) : fld w 0 8 = w % 256 := by unfold fld; simp
theorem rdD_length (l : List Nat) : (rdD l).L.length = 10 := by simp [rdD]
theorem slR_length (l : List Nat) (I : Int) : (slR l I).length = 10 := by
  unfold slR
  split
  · exact rdD_length l
  · simp [zL]
theorem nextB_mod {l0 : Nat} {P I B : Int} (hg : GOK P I B) : nextB ((l0 % 256 : Nat) : Int) P I B = decide (((l0 % 256 : Nat) : Int) ≤ B) := by
  unfold nextB
  rw [decide_eq_true hg, Bool.true_and, decide_eq_decide]
  omega
theorem badD_none {l : List Nat} {P I B : Int} : badD l P I B = none ↔ GOK P I B ∧ l.length = 32 ∧ headOk l B = true ∧ l.getD 1 0 = 0 ∧ frst l I = none := by
  unfold badD
  by_cases hg : GOK P I B
  · by_cases h32 : l.length = 32
    · cases hh : headOk l B with
      | false => simp [hg, h32]
      | true =>
        by_cases h1 : l.getD 1 0 = 0
        · rw [if_neg (by simpa using hg), if_neg (by simp [h32]), if_neg (by simpa using h1)]
          cases hf : frst l I with
          | none => exact ⟨fun _ => ⟨hg, h32, rfl, h1, rfl⟩, fun _ => rfl⟩
          | some k => exact ⟨fun h => (by cases h), fun h => (by cases h.2.2.2.2)⟩
        · rw [if_neg (by simpa using hg), if_neg (by simp [h32]), if_pos h1]
          exact ⟨fun h => (by cases h), fun h => absurd h.2.2.2.1 h1⟩
    · rw [if_neg (by simpa using hg), if_pos (.inl h32)]
      simp [h32]
  · rw [if_pos hg]
    simp [hg]
theorem readD_calls (A : Option Addr) (l : List Nat) (c : Nat) (P I B : Int) (w : World) (hr : Row w A l) (hl : Wd l) (hcap : l.length ≤ c) (hT : TabAt w) (hE : ErrAt w) :
    Calls Tryd.prog 22 #[.slice A l.length c, gv P I B] w fun e w' => e = .returned (.tuple #[(decD l P I B).v, errD (badD l P I B)]) ∧ On w w' := by
  by_cases hg : GOK P I B
  · by_cases h32 : l.length = 32
    · have hr0 := hr
      obtain ⟨⟨b, off, sp⟩, rfl, hbl, hcs⟩ := hr (by rw [h32]; decide)
      have c0 := hcs 0 (by rw [h32]; decide)
      obtain rfl : sp = none := spot_none (w := w) (b := b) (off := off) c0
      have hcell : ∀ j, j < 32 → ∀ W, On w W → W.cell? ⟨b, off + j, none⟩ = some (.int .u64 ((l.getD j 0 : Nat) : Int)) := fun j hj W hW => by
        have h := hcs j (by rw [h32]; exact hj)
        rw [Addr.add_mid] at h
        exact (Below.cell hW (p := ⟨b, off + j, none⟩) hbl).trans h
      have hc0 := hcell 0 (by decide)
      have hc1 := hcell 1 (by decide)
      have hmod := fld_mod (l.getD 0 0)
      rw [h32]
      have hcap2 : 32 ≤ c := by omega
      cases hx : decide (((l.getD 0 0 % 256 : Nat) : Int) ≤ B) with
      | false =>
        have hho : headOk l B = false := by unfold headOk; rw [hx, Bool.and_false]
        have e1 : badD l P I B = some (0, 7) := by unfold badD; rw [if_neg (by simpa using hg), if_pos (.inr hho)]
        have e2 : decD l P I B = zD := by unfold decD; rw [e1]; rfl
        rw [e1, e2]
        exact readD_next b off c P I B w hg _ (hl 0) hc0 _ hmod (by rw [nextB_mod hg]; exact hx)
      | true =>
        by_cases hh : headN ((l.getD 0 0 % 256 : Nat) : Int) = l.getD 0 0
        · have hho : headOk l B = true := by unfold headOk; rw [hx, decide_eq_true hh.symm]; rfl
          by_cases h1 : l.getD 1 0 = 0
          · have hs : ∀ W, On w W → Calls Tryd.prog 40 #[.slice (some ⟨b, off, none⟩) 32 c, gv P I B] W fun e w' => e = .returned (.tuple #[slv (slR l I), slE l I]) ∧ On W w' :=
              fun W hW => slots_go b off c l P I B W hg (hr0.below hW) h32 hl hcap2 (hT.below hW) (hE.below hW) _ rfl _ rfl
            cases hf : frst l I with
            | none =>
              have e1 : badD l P I B = none := badD_none.2 ⟨hg, h32, hho, h1, hf⟩
              have e2 : decD l P I B = rdD l := by unfold decD; rw [if_pos e1]
              have e3 : slR l I = (rdD l).L := by unfold slR; rw [if_pos hf]
              have e4 : slE l I = .nilIface := by unfold slE; rw [hf]
              rw [e3, e4] at hs
              rw [e1, e2]
              exact readD_ok b off c P I B w hg _ (hl 0) hc0 _ hmod (by rw [nextB_mod hg]; exact hx) hh _ hc1 h1 _ (rdD_length l) hs
            | some k =>
              have e1 : badD l P I B = some (2 + k * 3, 7) := by unfold badD; rw [if_neg (by simpa using hg), if_neg (by simp [h32, hho]), if_neg (by simpa using h1), hf]
              have e2 : decD l P I B = zD := by unfold decD; rw [e1]; rfl
              have e4 : slE l I = misV (2 + (k : Int) * 3) 7 blockT := by unfold slE; rw [hf]
              have e5 : errD (some (2 + k * 3, 7)) = misV (2 + (k : Int) * 3) 7 blockT := by
                show misV ((2 + k * 3 : Nat) : Int) 7 blockT = _
                rw [Int.natCast_add, Int.natCast_mul]
                rfl
              rw [e4] at hs
              rw [e1, e2, e5]
              exact readD_bad b off c P I B w hg _ (hl 0) hc0 _ hmod (by rw [nextB_mod hg]; exact hx) hh _ hc1 h1 _ (slR_length l I) _ _ hs
          · have e1 : badD l P I B = some (1, 7) := by unfold badD; rw [if_neg (by simpa using hg), if_neg (by simp [h32, hho]), if_pos h1]
            have e2 : decD l P I B = zD := by unfold decD; rw [e1]; rfl
            rw [e1, e2]
            exact readD_rest b off c P I B w hg _ (hl 0) hc0 _ hmod (by rw [nextB_mod hg]; exact hx) hh _ hc1 h1
        · have hho : headOk l B = false := by unfold headOk; rw [decide_eq_false (fun h => hh h.symm)]; rfl
          have e1 : badD l P I B = some (0, 7) := by unfold badD; rw [if_neg (by simpa using hg), if_pos (.inr hho)]
          have e2 : decD l P I B = zD := by unfold decD; rw [e1]; rfl
          rw [e1, e2]
          exact readD_head b off c P I B w hg _ (hl 0) hc0 _ hmod (by rw [nextB_mod hg]; exact hx) _ rfl hh
    · have e1 : badD l P I B = some (0, 7) := by unfold badD; rw [if_neg (by simpa using hg), if_pos (.inl h32)]
      have e2 : decD l P I B = zD := by unfold decD; rw [e1]; rfl
      rw [e1, e2]
      exact readD_len A l.length c P I B w hg h32
  · have e1 : badD l P I B = some (0, 2) := by unfold badD; rw [if_pos hg]
    have e2 : decD l P I B = zD := by unfold decD; rw [e1]; rfl
    rw [e1, e2]
    exact readD_geom A l.length c P I B w hg
end Go.Proofs.YtipghcpodhokbaaDoor
