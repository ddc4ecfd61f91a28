/- The document's own reading of a block. -/
import Derived.Test.YtipghcpodhokbaaDoorSRef5
import Derived.Test.YtipghcpodhokbaaDoorStp3
set_option linter.unusedSimpArgs false
set_option linter.unusedVariables false
namespace Go.Proofs.YtipghcpodhokbaaDoor
open Go.RowKit WordMath SumMath
theorem run_iaddr0 {a : Act} {o : Oper} {u : World} {x : Operand} (ho : o.op = .indexAddr 31 x (.const (.int .i64 0))) (b off n c : Nat) (h1 : a.eval x = .slice (some ⟨b, off, none⟩) n c) (hn : 0 < n) : (execOp a.eval o).run Tryd.prog u = .ok (.value (.pointer (some ⟨b, off, none⟩))) u := by
  have e0 : a.eval (.const (.int .i64 0)) = .int .i64 0 := rfl
  unfold execOp
  rw [ho]
  simp only [h1, e0]
  simp [go_sem, hn]
theorem two_one (k n : Int) : (#[.int .i64 k, .int .i64 n] : Array Value).all (·.oneCell') = true := by rw [← Array.all_toList]; rfl
theorem results_row_row {P : Program} {fn : Func} {p q : Tmp} {tp tq : TypeId} (h : fn.results = #[.cell p tp, .cell q tq]) (tmps : Array Value) (w : World) (g : Nat) (cs : Array Value) (g' : Nat) (cs' : Array Value)
    (hp : tmps.getD p undef = .pointer (some ⟨g, 0, none⟩)) (hq : tmps.getD q undef = .pointer (some ⟨g', 0, none⟩))
    (hl : (loadVar tp ⟨g, 0, none⟩).run P w = .ok (.agg cs) w) (hl' : (loadVar tq ⟨g', 0, none⟩).run P w = .ok (.agg cs') w) :
    (results fn tmps).run P w = .ok (.tuple #[.agg cs, .agg cs']) w := by
  have hp' : tmps[p]?.getD undef = .pointer (some ⟨g, 0, none⟩) := by simpa using hp
  have hq' : tmps[q]?.getD undef = .pointer (some ⟨g', 0, none⟩) := by simpa using hq
  simp [results, h, hp', hq', asAddr, Result.andThen, hl, hl']
/-- A geometry's block; the results': a directory's block, a fault. -/
structure Rr (w0 w : World) (P I B : Int) : Prop where
  on : On w0 w
  geo : Gb w w0.heap.size P I B
  res : Db w (w0.heap.size + 1) zD
  flt : Ob w (w0.heap.size + 1 + 1) (.cells #[.int .i64 0, .int .i64 0] 54 (0, 0))
theorem Rr.on' {w0 w w' : World} {P I B : Int} (h : Rr w0 w P I B) (hb : On w w') : Rr w0 w' P I B := ⟨h.on.trans hb, Ob.on h.geo hb, Ob.on h.res hb, Ob.on h.flt hb⟩
theorem Rr.flt2 {w0 w : World} {P I B : Int} (h : Rr w0 w P I B) (d : Dbl) : (w.setRow (w0.heap.size + 1) d.c).heap[w0.heap.size + 1 + 1]? = some (.cells #[.int .i64 0, .int .i64 0] 54 (0, 0)) :=
  (setRow_other w (w0.heap.size + 1) (w0.heap.size + 1 + 1) _ (by omega)).trans h.flt
theorem Rr.fin {w0 w : World} {P I B : Int} (h : Rr w0 w P I B) (d : Dbl) (k n : Int) : Db ((w.setRow (w0.heap.size + 1) d.c).setRow (w0.heap.size + 1 + 1) #[.int .i64 k, .int .i64 n]) (w0.heap.size + 1) d ∧
    Ob ((w.setRow (w0.heap.size + 1) d.c).setRow (w0.heap.size + 1 + 1) #[.int .i64 k, .int .i64 n]) (w0.heap.size + 1 + 1) (.cells #[.int .i64 k, .int .i64 n] 54 (0, 0)) ∧
    On w0 ((w.setRow (w0.heap.size + 1) d.c).setRow (w0.heap.size + 1 + 1) #[.int .i64 k, .int .i64 n]) :=
  ⟨(setRow_other _ (w0.heap.size + 1 + 1) (w0.heap.size + 1) _ (by omega)).trans (setRow_heap w (w0.heap.size + 1) _ d.c 26 (0, 0) h.res), setRow_heap _ (w0.heap.size + 1 + 1) _ _ 54 (0, 0) (h.flt2 d),
    below_setRow (below_setRow h.on (show w0.heap.size ≤ w0.heap.size + 1 by omega) _) (show w0.heap.size ≤ w0.heap.size + 1 + 1 by omega) _⟩
theorem Rr.new (w : World) (P I B : Int) : Rr w (((w.alloc (.cells #[.int .i64 P, .int .i64 I, .int .i64 B] 28)).alloc (.cells #[.int .i64 0, .int .i64 0, .int .u8 0, .string ⟨#[]⟩, .int .i64 0, .int .u8 0, .string ⟨#[]⟩, .int .i64 0, .int .u8 0, .string ⟨#[]⟩, .int .i64 0, .int .u8 0, .string ⟨#[]⟩, .int .i64 0, .int .u8 0, .string ⟨#[]⟩, .int .i64 0, .int .u8 0, .string ⟨#[]⟩, .int .i64 0, .int .u8 0, .string ⟨#[]⟩, .int .i64 0, .int .u8 0, .string ⟨#[]⟩, .int .i64 0, .int .u8 0, .string ⟨#[]⟩, .int .i64 0, .int .u8 0, .string ⟨#[]⟩] 26)).alloc (.cells #[.int .i64 0, .int .i64 0] 54)) P I B := by
  rw [← zD_cells]
  refine ⟨(on_two _ _ _).trans (on_alloc _ _), ((Ob.new w _).alloc _).alloc _, ?_, ?_⟩
  · have h := Ob.new (w.alloc (.cells #[.int .i64 P, .int .i64 I, .int .i64 B] 28)) (.cells zD.c 26)
    rw [World.size_alloc] at h
    exact h.alloc _
  · have h := Ob.new ((w.alloc (.cells #[.int .i64 P, .int .i64 I, .int .i64 B] 28)).alloc (.cells zD.c 26)) (.cells #[.int .i64 0, .int .i64 0] 54)
    rw [World.size_alloc, World.size_alloc] at h
    exact h
set_option maxRecDepth 100000 in
set_option maxHeartbeats 4000000 in
theorem rread_geom (A : Option Addr) (n c : Nat) (P I B : Int) (w : World) (hg : ¬ GOK P I B) :
    Calls Tryd.prog 24 #[.slice A n c, gv P I B] w fun e w' => e = .returned (.tuple #[zD.v, .agg #[.int .i64 0, .int .i64 2]]) ∧ On w w' := by
  have R0 := Lib.hid (Rr.new w P I B)
  have HG := Lib.hid hg
  clear hg
  go_enter Tryd.func24, Tryd.ntmps24
  go_upto_region 1 with (fail)
  generalize ((w.alloc (.cells #[.int .i64 P, .int .i64 I, .int .i64 B] 28)).alloc (.cells #[.int .i64 0, .int .i64 0, .int .u8 0, .string ⟨#[]⟩, .int .i64 0, .int .u8 0, .string ⟨#[]⟩, .int .i64 0, .int .u8 0, .string ⟨#[]⟩, .int .i64 0, .int .u8 0, .string ⟨#[]⟩, .int .i64 0, .int .u8 0, .string ⟨#[]⟩, .int .i64 0, .int .u8 0, .string ⟨#[]⟩, .int .i64 0, .int .u8 0, .string ⟨#[]⟩, .int .i64 0, .int .u8 0, .string ⟨#[]⟩, .int .i64 0, .int .u8 0, .string ⟨#[]⟩, .int .i64 0, .int .u8 0, .string ⟨#[]⟩] 26)).alloc (.cells #[.int .i64 0, .int .i64 0] 54) = W at *
  obtain ⟨g0, g1, g2⟩ := Gb.cells R0.out.geo
  have hlg := Ob.lt R0.out.geo
  go_wp2_with (fail)
  refine (may_no P I B _ HG.out).mono ?_
  rintro e w1 ⟨rfl, hb⟩
  have R1 := Lib.hid (R0.out.on' hb)
  clear R0 g0 g1 g2 hlg hb
  go_wp2_with (first
    | (refine wpList_store_row rfl 26 (.tmp 4) (.tmp 13) rfl (w.heap.size + 1) zD.c rfl rfl 26 _ R1.out.res (by kernel_rfl) rfl (Dbl.one _) ?_)
    | (refine wpList_store_row rfl 54 (.tmp 5) (.tmp 14) rfl (w.heap.size + 1 + 1) #[.int .i64 0, .int .i64 2] rfl rfl 54 _ (R1.out.flt2 zD) (by kernel_rfl) rfl (two_one _ _) ?_))
  obtain ⟨q1, q2, q3⟩ := R1.out.fin zD 0 2
  exact bodyPost_ret (results_row_row rfl _ _ (w.heap.size + 1) zD.c (w.heap.size + 1 + 1) #[.int .i64 0, .int .i64 2] rfl rfl (run_loadVar_row (P := Tryd.prog) _ (w.heap.size + 1) 26 26 _ (0, 0) _ q1 Tryd.underlying26 rfl (by kernel_rfl)) (run_loadVar_row (P := Tryd.prog) _ (w.heap.size + 1 + 1) 54 54 _ (0, 0) _ q2 Tryd.underlying54 rfl (by kernel_rfl))) rfl ⟨rfl, q3⟩
set_option maxRecDepth 100000 in
set_option maxHeartbeats 4000000 in
theorem rread_len (A : Option Addr) (n c : Nat) (P I B : Int) (w : World) (hg : GOK P I B) (hn : n ≠ 32) :
    Calls Tryd.prog 24 #[.slice A n c, gv P I B] w fun e w' => e = .returned (.tuple #[zD.v, .agg #[.int .i64 0, .int .i64 7]]) ∧ On w w' := by
  have R0 := Lib.hid (Rr.new w P I B)
  have HG := Lib.hid hg
  have hne : ¬ (n : Int) = 32 := by omega
  clear hg hn
  go_enter Tryd.func24, Tryd.ntmps24
  go_upto_region 1 with (fail)
  generalize ((w.alloc (.cells #[.int .i64 P, .int .i64 I, .int .i64 B] 28)).alloc (.cells #[.int .i64 0, .int .i64 0, .int .u8 0, .string ⟨#[]⟩, .int .i64 0, .int .u8 0, .string ⟨#[]⟩, .int .i64 0, .int .u8 0, .string ⟨#[]⟩, .int .i64 0, .int .u8 0, .string ⟨#[]⟩, .int .i64 0, .int .u8 0, .string ⟨#[]⟩, .int .i64 0, .int .u8 0, .string ⟨#[]⟩, .int .i64 0, .int .u8 0, .string ⟨#[]⟩, .int .i64 0, .int .u8 0, .string ⟨#[]⟩, .int .i64 0, .int .u8 0, .string ⟨#[]⟩, .int .i64 0, .int .u8 0, .string ⟨#[]⟩] 26)).alloc (.cells #[.int .i64 0, .int .i64 0] 54) = W at *
  obtain ⟨g0, g1, g2⟩ := Gb.cells R0.out.geo
  have hlg := Ob.lt R0.out.geo
  go_wp2_with (fail)
  refine (may_yes P I B _ HG.out).mono ?_
  rintro e w1 ⟨rfl, hb⟩
  have R1 := Lib.hid (R0.out.on' hb)
  clear R0 g0 g1 g2 hlg hb
  go_upto_region 3 with (fail)
  refine wp_region4 [.val (.slice A n c), .val (.int .i64 (n : Nat)), .val (.bool true), .val (.bool true), .any, .any, .any, .any, .any, .any, .any, .any, .val (.bool true), .val (.bool true), .any, .any, .any, .any, .any, .any, .any, .any, .any, .any, .val (.bool true)] (by kernel_rfl) (by kernel_rfl) (by kernel_rfl) ?steps ?rest
  case steps =>
    refine ⟨?s0, ?s1, ?s2, ?s3, ?s4, ?s5, ?s6, ?s7, ?s8, ?s9, ?s10, ?s11, ?s12, ?s13, ?s14, ?s15, ?s16, ?s17, ?s18, ?s19, ?s20, ?s21, ?s22, ?s23, ?s24, trivial⟩
    case s0 =>
      exact st4_val _ rfl (.inl rfl) fun a u hb hA hd => by
        have q0 := ev_of (show a.eval (.tmp 0) = .slice A n c from hA.eval 0 rfl)
        unfold execOp
        simp [go_sem, q0]
    case s1 =>
      exact st4_val _ rfl (.inl rfl) fun a u hb hA hd => run_len rfl _ n c (hd 0 15 rfl rfl _ rfl)
    case s2 =>
      exact st4_val _ rfl (.inl rfl) fun a u hb hA hd => by
        have q0 := ev_of (hd 1 16 rfl rfl _ rfl)
        unfold execOp
        simp [go_sem, q0, hne]
    case s3 => exact st4_move 2 17 rfl (.inl rfl) rfl rfl rfl
    case s4 => exact st4_skip 3 18 true rfl rfl rfl rfl rfl
    case s5 => exact st4_skip 3 18 true rfl rfl rfl rfl rfl
    case s6 => exact st4_skip 3 18 true rfl rfl rfl rfl rfl
    case s7 => exact st4_skip 3 18 true rfl rfl rfl rfl rfl
    case s8 => exact st4_skip 3 18 true rfl rfl rfl rfl rfl
    case s9 => exact st4_skip 3 18 true rfl rfl rfl rfl rfl
    case s10 => exact st4_skip 3 18 true rfl rfl rfl rfl rfl
    case s11 => exact st4_skip 3 18 true rfl rfl rfl rfl rfl
    case s12 => exact st4_val _ rfl (.inl rfl) fun a u hb hA hd => (run_pickT rfl (hd 3 18 rfl rfl _ rfl)).trans rfl
    case s13 => exact st4_move 12 27 rfl (.inl rfl) rfl rfl rfl
    case s14 => exact st4_skip 13 28 true rfl rfl rfl rfl rfl
    case s15 => exact st4_skip 13 28 true rfl rfl rfl rfl rfl
    case s16 => exact st4_skip 13 28 true rfl rfl rfl rfl rfl
    case s17 => exact st4_skip 13 28 true rfl rfl rfl rfl rfl
    case s18 => exact st4_skip 13 28 true rfl rfl rfl rfl rfl
    case s19 => exact st4_skip 13 28 true rfl rfl rfl rfl rfl
    case s20 => exact st4_skip 13 28 true rfl rfl rfl rfl rfl
    case s21 => exact st4_skip 13 28 true rfl rfl rfl rfl rfl
    case s22 => exact st4_skip 13 28 true rfl rfl rfl rfl rfl
    case s23 => exact st4_skip 13 28 true rfl rfl rfl rfl rfl
    case s24 => exact st4_val _ rfl (.inl rfl) fun a u hb hA hd => (run_pickT rfl (hd 13 28 rfl rfl _ rfl)).trans rfl
  case rest =>
    intro vs u hb hR
    have e24 : vs 24 = .bool true := hR 24 (by decide)
    have R2 := Lib.hid (R1.out.on' hb)
    simp only [putsFrom, Act.put, List.setIfInBounds_toArray, List.set_cons_succ, List.set_cons_zero, e24]
    generalize vs 0 = z0
    generalize vs 1 = z1
    generalize vs 2 = z2
    generalize vs 3 = z3
    generalize vs 4 = z4
    generalize vs 5 = z5
    generalize vs 6 = z6
    generalize vs 7 = z7
    generalize vs 8 = z8
    generalize vs 9 = z9
    generalize vs 10 = z10
    generalize vs 11 = z11
    generalize vs 12 = z12
    generalize vs 13 = z13
    generalize vs 14 = z14
    generalize vs 15 = z15
    generalize vs 16 = z16
    generalize vs 17 = z17
    generalize vs 18 = z18
    generalize vs 19 = z19
    generalize vs 20 = z20
    generalize vs 21 = z21
    generalize vs 22 = z22
    generalize vs 23 = z23
    clear hR e24 hb R1
    go_wp2_with (first
      | (refine wpList_store_row rfl 26 (.tmp 4) (.tmp 40) rfl (w.heap.size + 1) zD.c rfl rfl 26 _ R2.out.res (by kernel_rfl) rfl (Dbl.one _) ?_)
      | (refine wpList_store_row rfl 54 (.tmp 5) (.tmp 41) rfl (w.heap.size + 1 + 1) #[.int .i64 0, .int .i64 7] rfl rfl 54 _ (R2.out.flt2 zD) (by kernel_rfl) rfl (two_one _ _) ?_))
    obtain ⟨q1, q2, q3⟩ := R2.out.fin zD 0 7
    exact bodyPost_ret (results_row_row rfl _ _ (w.heap.size + 1) zD.c (w.heap.size + 1 + 1) #[.int .i64 0, .int .i64 7] rfl rfl (run_loadVar_row (P := Tryd.prog) _ (w.heap.size + 1) 26 26 _ (0, 0) _ q1 Tryd.underlying26 rfl (by kernel_rfl)) (run_loadVar_row (P := Tryd.prog) _ (w.heap.size + 1 + 1) 54 54 _ (0, 0) _ q2 Tryd.underlying54 rfl (by kernel_rfl))) rfl ⟨rfl, q3⟩
set_option maxRecDepth 100000 in
set_option maxHeartbeats 4000000 in
theorem rread_big (b off c : Nat) (P I B : Int) (w : World) (hg : GOK P I B) (l0 : Nat) (h0 : l0 < 18446744073709551616) (hc0 : ∀ W, On w W → W.cell? ⟨b, off, none⟩ = some (.int .u64 (l0 : Nat))) (m : Nat) (hm : l0 % 4294967296 = m) (hbig : B < (m : Int)) :
    Calls Tryd.prog 24 #[.slice (some ⟨b, off, none⟩) 32 c, gv P I B] w fun e w' => e = .returned (.tuple #[zD.v, .agg #[.int .i64 0, .int .i64 7]]) ∧ On w w' := by
  have R0 := Lib.hid (Rr.new w P I B)
  have HG := Lib.hid hg
  have HC0 := Lib.hid hc0
  have hB1 : B ≤ 255 := hg.2.2.2
  have hB0 : 4 ≤ B := hg.2.2.1
  have wB : IntKind.u64.wrap B = B := by rw [IntKind.wrap_u64]; omega
  have hm32 : (l0 : Int).tmod 4294967296 = (m : Int) := by rw [Int.tmod_eq_emod_of_nonneg (by omega)]; omega
  have hgt := hbig
  clear hg hc0 hm hbig
  go_enter Tryd.func24, Tryd.ntmps24
  go_upto_region 1 with (fail)
  generalize ((w.alloc (.cells #[.int .i64 P, .int .i64 I, .int .i64 B] 28)).alloc (.cells #[.int .i64 0, .int .i64 0, .int .u8 0, .string ⟨#[]⟩, .int .i64 0, .int .u8 0, .string ⟨#[]⟩, .int .i64 0, .int .u8 0, .string ⟨#[]⟩, .int .i64 0, .int .u8 0, .string ⟨#[]⟩, .int .i64 0, .int .u8 0, .string ⟨#[]⟩, .int .i64 0, .int .u8 0, .string ⟨#[]⟩, .int .i64 0, .int .u8 0, .string ⟨#[]⟩, .int .i64 0, .int .u8 0, .string ⟨#[]⟩, .int .i64 0, .int .u8 0, .string ⟨#[]⟩, .int .i64 0, .int .u8 0, .string ⟨#[]⟩] 26)).alloc (.cells #[.int .i64 0, .int .i64 0] 54) = W at *
  obtain ⟨g0, g1, g2⟩ := Gb.cells R0.out.geo
  have hlg := Ob.lt R0.out.geo
  go_wp2_with (fail)
  refine (may_yes P I B _ HG.out).mono ?_
  rintro e w1 ⟨rfl, hb⟩
  have R1 := Lib.hid (R0.out.on' hb)
  clear R0 g0 g1 g2 hlg hb
  go_upto_region 3 with (fail)
  refine wp_region4 [.val (.slice (some ⟨b, off, none⟩) 32 c), .val (.int .i64 (32 : Nat)), .val (.bool false), .val (.bool false), .val (.slice (some ⟨b, off, none⟩) 32 c), .val (.pointer (some ⟨b, off, none⟩)), .val (.int .u64 (l0 : Nat)), .val (.int .u64 (m : Nat)), .val (.pointer (some ⟨w.heap.size, 2, none⟩)), .val (.int .i64 B), .val (.int .u64 B), .val (.bool true), .val (.bool true), .val (.bool true), .any, .any, .any, .any, .any, .any, .any, .any, .any, .any, .val (.bool true)] (by kernel_rfl) (by kernel_rfl) (by kernel_rfl) ?steps ?rest
  case steps =>
    refine ⟨?s0, ?s1, ?s2, ?s3, ?s4, ?s5, ?s6, ?s7, ?s8, ?s9, ?s10, ?s11, ?s12, ?s13, ?s14, ?s15, ?s16, ?s17, ?s18, ?s19, ?s20, ?s21, ?s22, ?s23, ?s24, trivial⟩
    case s0 =>
      exact st4_val _ rfl (.inl rfl) fun a u hb hA hd => by
        have q0 := ev_of (show a.eval (.tmp 0) = .slice (some ⟨b, off, none⟩) 32 c from hA.eval 0 rfl)
        unfold execOp
        simp [go_sem, q0]
    case s1 =>
      exact st4_val _ rfl (.inl rfl) fun a u hb hA hd => run_len rfl _ 32 c (hd 0 15 rfl rfl _ rfl)
    case s2 =>
      exact st4_val _ rfl (.inl rfl) fun a u hb hA hd => by
        have q0 := ev_of (hd 1 16 rfl rfl _ rfl)
        unfold execOp
        simp [go_sem, q0]
    case s3 => exact st4_move 2 17 rfl (.inl rfl) rfl rfl rfl
    case s4 =>
      exact st4_val _ rfl (.inr ⟨3, 18, false, rfl, rfl, rfl, rfl⟩) fun a u hb hA hd => by
        have q0 := ev_of (show a.eval (.tmp 0) = .slice (some ⟨b, off, none⟩) 32 c from hA.eval 0 rfl)
        unfold execOp
        simp [go_sem, q0]
    case s5 =>
      exact st4_val _ rfl (.inr ⟨3, 18, false, rfl, rfl, rfl, rfl⟩) fun a u hb hA hd => run_iaddr0 rfl b off 32 c (hd 4 19 rfl rfl _ rfl) (by decide)
    case s6 =>
      exact st4_val _ rfl (.inr ⟨3, 18, false, rfl, rfl, rfl, rfl⟩) fun a u hb hA hd => run_load64 rfl ⟨b, off, none⟩ _ (hd 5 20 rfl rfl _ rfl) (HC0.out u (R1.out.on.trans hb))
    case s7 =>
      exact st4_val _ rfl (.inr ⟨3, 18, false, rfl, rfl, rfl, rfl⟩) fun a u hb hA hd => by
        have q0 := ev_of (hd 6 21 rfl rfl _ rfl)
        unfold execOp
        simp [go_sem, q0, hm32]
    case s8 =>
      exact st4_val _ rfl (.inr ⟨3, 18, false, rfl, rfl, rfl, rfl⟩) fun a u hb hA hd => by
        have q0 := ev_of (show a.eval (.tmp 3) = .pointer (some ⟨w.heap.size, 0, none⟩) from hA.eval 3 rfl)
        unfold execOp
        simp [go_sem, q0]
    case s9 =>
      exact st4_val _ rfl (.inr ⟨3, 18, false, rfl, rfl, rfl, rfl⟩) fun a u hb hA hd => by
        have q0 := ev_of (hd 8 23 rfl rfl _ rfl)
        have hc := (Gb.cells (Ob.on R1.out.geo hb)).2.2
        unfold execOp
        simp [go_sem, q0, hc]
    case s10 =>
      exact st4_val _ rfl (.inr ⟨3, 18, false, rfl, rfl, rfl, rfl⟩) fun a u hb hA hd => by
        have q0 := ev_of (hd 9 24 rfl rfl _ rfl)
        unfold execOp
        simp [go_sem, q0, wB]
    case s11 =>
      exact st4_val _ rfl (.inr ⟨3, 18, false, rfl, rfl, rfl, rfl⟩) fun a u hb hA hd => by
        have q0 := ev_of (hd 7 22 rfl rfl _ rfl)
        have q1 := ev_of (hd 10 25 rfl rfl _ rfl)
        unfold execOp
        simp [go_sem, q0, q1, hgt]
    case s12 => exact st4_val _ rfl (.inl rfl) fun a u hb hA hd => (run_pickF rfl (hd 3 18 rfl rfl _ rfl)).trans (by rw [hd 11 26 rfl rfl _ rfl])
    case s13 => exact st4_move 12 27 rfl (.inl rfl) rfl rfl rfl
    case s14 => exact st4_skip 13 28 true rfl rfl rfl rfl rfl
    case s15 => exact st4_skip 13 28 true rfl rfl rfl rfl rfl
    case s16 => exact st4_skip 13 28 true rfl rfl rfl rfl rfl
    case s17 => exact st4_skip 13 28 true rfl rfl rfl rfl rfl
    case s18 => exact st4_skip 13 28 true rfl rfl rfl rfl rfl
    case s19 => exact st4_skip 13 28 true rfl rfl rfl rfl rfl
    case s20 => exact st4_skip 13 28 true rfl rfl rfl rfl rfl
    case s21 => exact st4_skip 13 28 true rfl rfl rfl rfl rfl
    case s22 => exact st4_skip 13 28 true rfl rfl rfl rfl rfl
    case s23 => exact st4_skip 13 28 true rfl rfl rfl rfl rfl
    case s24 => exact st4_val _ rfl (.inl rfl) fun a u hb hA hd => (run_pickT rfl (hd 13 28 rfl rfl _ rfl)).trans rfl
  case rest =>
    intro vs u hb hR
    have e24 : vs 24 = .bool true := hR 24 (by decide)
    have R2 := Lib.hid (R1.out.on' hb)
    simp only [putsFrom, Act.put, List.setIfInBounds_toArray, List.set_cons_succ, List.set_cons_zero, e24]
    generalize vs 0 = z0
    generalize vs 1 = z1
    generalize vs 2 = z2
    generalize vs 3 = z3
    generalize vs 4 = z4
    generalize vs 5 = z5
    generalize vs 6 = z6
    generalize vs 7 = z7
    generalize vs 8 = z8
    generalize vs 9 = z9
    generalize vs 10 = z10
    generalize vs 11 = z11
    generalize vs 12 = z12
    generalize vs 13 = z13
    generalize vs 14 = z14
    generalize vs 15 = z15
    generalize vs 16 = z16
    generalize vs 17 = z17
    generalize vs 18 = z18
    generalize vs 19 = z19
    generalize vs 20 = z20
    generalize vs 21 = z21
    generalize vs 22 = z22
    generalize vs 23 = z23
    clear hR e24 hb R1
    go_wp2_with (first
      | (refine wpList_store_row rfl 26 (.tmp 4) (.tmp 40) rfl (w.heap.size + 1) zD.c rfl rfl 26 _ R2.out.res (by kernel_rfl) rfl (Dbl.one _) ?_)
      | (refine wpList_store_row rfl 54 (.tmp 5) (.tmp 41) rfl (w.heap.size + 1 + 1) #[.int .i64 0, .int .i64 7] rfl rfl 54 _ (R2.out.flt2 zD) (by kernel_rfl) rfl (two_one _ _) ?_))
    obtain ⟨q1, q2, q3⟩ := R2.out.fin zD 0 7
    exact bodyPost_ret (results_row_row rfl _ _ (w.heap.size + 1) zD.c (w.heap.size + 1 + 1) #[.int .i64 0, .int .i64 7] rfl rfl (run_loadVar_row (P := Tryd.prog) _ (w.heap.size + 1) 26 26 _ (0, 0) _ q1 Tryd.underlying26 rfl (by kernel_rfl)) (run_loadVar_row (P := Tryd.prog) _ (w.heap.size + 1 + 1) 54 54 _ (0, 0) _ q2 Tryd.underlying54 rfl (by kernel_rfl))) rfl ⟨rfl, q3⟩
set_option maxRecDepth 100000 in
set_option maxHeartbeats 4000000 in
theorem rread_head (b off c : Nat) (P I B : Int) (w : World) (hg : GOK P I B) (l0 : Nat) (h0 : l0 < 18446744073709551616) (hc0 : ∀ W, On w W → W.cell? ⟨b, off, none⟩ = some (.int .u64 (l0 : Nat))) (m : Nat) (hm : l0 % 4294967296 = m) (hbig : (m : Int) ≤ B) (n : Nat) (hn : l0 % 256 = n) (h : Nat) (hh : headN n = h) (hneq : h ≠ l0) :
    Calls Tryd.prog 24 #[.slice (some ⟨b, off, none⟩) 32 c, gv P I B] w fun e w' => e = .returned (.tuple #[zD.v, .agg #[.int .i64 0, .int .i64 7]]) ∧ On w w' := by
  have R0 := Lib.hid (Rr.new w P I B)
  have HG := Lib.hid hg
  have HC0 := Lib.hid hc0
  have hB1 : B ≤ 255 := hg.2.2.2
  have hB0 : 4 ≤ B := hg.2.2.1
  have wB : IntKind.u64.wrap B = B := by rw [IntKind.wrap_u64]; omega
  have hm32 : (l0 : Int).tmod 4294967296 = (m : Int) := by rw [Int.tmod_eq_emod_of_nonneg (by omega)]; omega
  have hgt : ¬ B < (m : Int) := by omega
  have n1 : n < 256 := by omega
  have hm8 : (l0 : Int).tmod 256 = (n : Int) := by rw [Int.tmod_eq_emod_of_nonneg (by omega)]; omega
  have wn : IntKind.i64.wrap (n : Int) = (n : Int) := by rw [IntKind.wrap_i64] <;> omega
  have HH := Lib.hid (fun W => rhead_calls n W n1)
  rw [hh] at HH
  have hne : ¬ (l0 : Int) = (h : Int) := by omega
  clear hg hc0 hm hbig hn hh hneq
  go_enter Tryd.func24, Tryd.ntmps24
  go_upto_region 1 with (fail)
  generalize ((w.alloc (.cells #[.int .i64 P, .int .i64 I, .int .i64 B] 28)).alloc (.cells #[.int .i64 0, .int .i64 0, .int .u8 0, .string ⟨#[]⟩, .int .i64 0, .int .u8 0, .string ⟨#[]⟩, .int .i64 0, .int .u8 0, .string ⟨#[]⟩, .int .i64 0, .int .u8 0, .string ⟨#[]⟩, .int .i64 0, .int .u8 0, .string ⟨#[]⟩, .int .i64 0, .int .u8 0, .string ⟨#[]⟩, .int .i64 0, .int .u8 0, .string ⟨#[]⟩, .int .i64 0, .int .u8 0, .string ⟨#[]⟩, .int .i64 0, .int .u8 0, .string ⟨#[]⟩, .int .i64 0, .int .u8 0, .string ⟨#[]⟩] 26)).alloc (.cells #[.int .i64 0, .int .i64 0] 54) = W at *
  obtain ⟨g0, g1, g2⟩ := Gb.cells R0.out.geo
  have hlg := Ob.lt R0.out.geo
  go_wp2_with (fail)
  refine (may_yes P I B _ HG.out).mono ?_
  rintro e w1 ⟨rfl, hb⟩
  have R1 := Lib.hid (R0.out.on' hb)
  clear R0 g0 g1 g2 hlg hb
  go_upto_region 3 with (fail)
  refine wp_region4 [.val (.slice (some ⟨b, off, none⟩) 32 c), .val (.int .i64 (32 : Nat)), .val (.bool false), .val (.bool false), .val (.slice (some ⟨b, off, none⟩) 32 c), .val (.pointer (some ⟨b, off, none⟩)), .val (.int .u64 (l0 : Nat)), .val (.int .u64 (m : Nat)), .val (.pointer (some ⟨w.heap.size, 2, none⟩)), .val (.int .i64 B), .val (.int .u64 B), .val (.bool false), .val (.bool false), .val (.bool false), .val (.slice (some ⟨b, off, none⟩) 32 c), .val (.pointer (some ⟨b, off, none⟩)), .val (.int .u64 (l0 : Nat)), .val (.slice (some ⟨b, off, none⟩) 32 c), .val (.pointer (some ⟨b, off, none⟩)), .val (.int .u64 (l0 : Nat)), .val (.int .u64 (n : Nat)), .val (.int .i64 (n : Nat)), .val (.int .u64 (h : Nat)), .val (.bool true), .val (.bool true)] (by kernel_rfl) (by kernel_rfl) (by kernel_rfl) ?steps ?rest
  case steps =>
    refine ⟨?s0, ?s1, ?s2, ?s3, ?s4, ?s5, ?s6, ?s7, ?s8, ?s9, ?s10, ?s11, ?s12, ?s13, ?s14, ?s15, ?s16, ?s17, ?s18, ?s19, ?s20, ?s21, ?s22, ?s23, ?s24, trivial⟩
    case s0 =>
      exact st4_val _ rfl (.inl rfl) fun a u hb hA hd => by
        have q0 := ev_of (show a.eval (.tmp 0) = .slice (some ⟨b, off, none⟩) 32 c from hA.eval 0 rfl)
        unfold execOp
        simp [go_sem, q0]
    case s1 =>
      exact st4_val _ rfl (.inl rfl) fun a u hb hA hd => run_len rfl _ 32 c (hd 0 15 rfl rfl _ rfl)
    case s2 =>
      exact st4_val _ rfl (.inl rfl) fun a u hb hA hd => by
        have q0 := ev_of (hd 1 16 rfl rfl _ rfl)
        unfold execOp
        simp [go_sem, q0]
    case s3 => exact st4_move 2 17 rfl (.inl rfl) rfl rfl rfl
    case s4 =>
      exact st4_val _ rfl (.inr ⟨3, 18, false, rfl, rfl, rfl, rfl⟩) fun a u hb hA hd => by
        have q0 := ev_of (show a.eval (.tmp 0) = .slice (some ⟨b, off, none⟩) 32 c from hA.eval 0 rfl)
        unfold execOp
        simp [go_sem, q0]
    case s5 =>
      exact st4_val _ rfl (.inr ⟨3, 18, false, rfl, rfl, rfl, rfl⟩) fun a u hb hA hd => run_iaddr0 rfl b off 32 c (hd 4 19 rfl rfl _ rfl) (by decide)
    case s6 =>
      exact st4_val _ rfl (.inr ⟨3, 18, false, rfl, rfl, rfl, rfl⟩) fun a u hb hA hd => run_load64 rfl ⟨b, off, none⟩ _ (hd 5 20 rfl rfl _ rfl) (HC0.out u (R1.out.on.trans hb))
    case s7 =>
      exact st4_val _ rfl (.inr ⟨3, 18, false, rfl, rfl, rfl, rfl⟩) fun a u hb hA hd => by
        have q0 := ev_of (hd 6 21 rfl rfl _ rfl)
        unfold execOp
        simp [go_sem, q0, hm32]
    case s8 =>
      exact st4_val _ rfl (.inr ⟨3, 18, false, rfl, rfl, rfl, rfl⟩) fun a u hb hA hd => by
        have q0 := ev_of (show a.eval (.tmp 3) = .pointer (some ⟨w.heap.size, 0, none⟩) from hA.eval 3 rfl)
        unfold execOp
        simp [go_sem, q0]
    case s9 =>
      exact st4_val _ rfl (.inr ⟨3, 18, false, rfl, rfl, rfl, rfl⟩) fun a u hb hA hd => by
        have q0 := ev_of (hd 8 23 rfl rfl _ rfl)
        have hc := (Gb.cells (Ob.on R1.out.geo hb)).2.2
        unfold execOp
        simp [go_sem, q0, hc]
    case s10 =>
      exact st4_val _ rfl (.inr ⟨3, 18, false, rfl, rfl, rfl, rfl⟩) fun a u hb hA hd => by
        have q0 := ev_of (hd 9 24 rfl rfl _ rfl)
        unfold execOp
        simp [go_sem, q0, wB]
    case s11 =>
      exact st4_val _ rfl (.inr ⟨3, 18, false, rfl, rfl, rfl, rfl⟩) fun a u hb hA hd => by
        have q0 := ev_of (hd 7 22 rfl rfl _ rfl)
        have q1 := ev_of (hd 10 25 rfl rfl _ rfl)
        unfold execOp
        simp [go_sem, q0, q1, hgt]
    case s12 => exact st4_val _ rfl (.inl rfl) fun a u hb hA hd => (run_pickF rfl (hd 3 18 rfl rfl _ rfl)).trans (by rw [hd 11 26 rfl rfl _ rfl])
    case s13 => exact st4_move 12 27 rfl (.inl rfl) rfl rfl rfl
    case s14 =>
      exact st4_val _ rfl (.inr ⟨13, 28, false, rfl, rfl, rfl, rfl⟩) fun a u hb hA hd => by
        have q0 := ev_of (show a.eval (.tmp 0) = .slice (some ⟨b, off, none⟩) 32 c from hA.eval 0 rfl)
        unfold execOp
        simp [go_sem, q0]
    case s15 =>
      exact st4_val _ rfl (.inr ⟨13, 28, false, rfl, rfl, rfl, rfl⟩) fun a u hb hA hd => run_iaddr0 rfl b off 32 c (hd 14 29 rfl rfl _ rfl) (by decide)
    case s16 =>
      exact st4_val _ rfl (.inr ⟨13, 28, false, rfl, rfl, rfl, rfl⟩) fun a u hb hA hd => run_load64 rfl ⟨b, off, none⟩ _ (hd 15 30 rfl rfl _ rfl) (HC0.out u (R1.out.on.trans hb))
    case s17 =>
      exact st4_val _ rfl (.inr ⟨13, 28, false, rfl, rfl, rfl, rfl⟩) fun a u hb hA hd => by
        have q0 := ev_of (show a.eval (.tmp 0) = .slice (some ⟨b, off, none⟩) 32 c from hA.eval 0 rfl)
        unfold execOp
        simp [go_sem, q0]
    case s18 =>
      exact st4_val _ rfl (.inr ⟨13, 28, false, rfl, rfl, rfl, rfl⟩) fun a u hb hA hd => run_iaddr0 rfl b off 32 c (hd 17 32 rfl rfl _ rfl) (by decide)
    case s19 =>
      exact st4_val _ rfl (.inr ⟨13, 28, false, rfl, rfl, rfl, rfl⟩) fun a u hb hA hd => run_load64 rfl ⟨b, off, none⟩ _ (hd 18 33 rfl rfl _ rfl) (HC0.out u (R1.out.on.trans hb))
    case s20 =>
      exact st4_val _ rfl (.inr ⟨13, 28, false, rfl, rfl, rfl, rfl⟩) fun a u hb hA hd => by
        have q0 := ev_of (hd 19 34 rfl rfl _ rfl)
        unfold execOp
        simp [go_sem, q0, hm8]
    case s21 =>
      exact st4_val _ rfl (.inr ⟨13, 28, false, rfl, rfl, rfl, rfl⟩) fun a u hb hA hd => by
        have q0 := ev_of (hd 20 35 rfl rfl _ rfl)
        unfold execOp
        simp [go_sem, q0, wn]
    case s22 =>
      refine st4_call _ rfl (.inr ⟨13, 28, false, rfl, rfl, rfl, rfl⟩) 18 #[.int .i64 (n : Nat)] fun a u hb hA hd => ⟨?_, (HH.out u).mono fun _ _ ⟨he, hw⟩ => ⟨he, hw ▸ On.refl _⟩⟩
      have q0 := ev_of (hd 21 36 rfl rfl _ rfl)
      unfold execOp
      simp [go_sem, q0]
    case s23 =>
      exact st4_val _ rfl (.inr ⟨13, 28, false, rfl, rfl, rfl, rfl⟩) fun a u hb hA hd => by
        have q0 := ev_of (hd 16 31 rfl rfl _ rfl)
        have q1 := ev_of (hd 22 37 rfl rfl _ rfl)
        unfold execOp
        simp [go_sem, q0, q1, hne]
    case s24 => exact st4_val _ rfl (.inl rfl) fun a u hb hA hd => (run_pickF rfl (hd 13 28 rfl rfl _ rfl)).trans (by rw [hd 23 38 rfl rfl _ rfl])
  case rest =>
    intro vs u hb hR
    have e24 : vs 24 = .bool true := hR 24 (by decide)
    have R2 := Lib.hid (R1.out.on' hb)
    simp only [putsFrom, Act.put, List.setIfInBounds_toArray, List.set_cons_succ, List.set_cons_zero, e24]
    generalize vs 0 = z0
    generalize vs 1 = z1
    generalize vs 2 = z2
    generalize vs 3 = z3
    generalize vs 4 = z4
    generalize vs 5 = z5
    generalize vs 6 = z6
    generalize vs 7 = z7
    generalize vs 8 = z8
    generalize vs 9 = z9
    generalize vs 10 = z10
    generalize vs 11 = z11
    generalize vs 12 = z12
    generalize vs 13 = z13
    generalize vs 14 = z14
    generalize vs 15 = z15
    generalize vs 16 = z16
    generalize vs 17 = z17
    generalize vs 18 = z18
    generalize vs 19 = z19
    generalize vs 20 = z20
    generalize vs 21 = z21
    generalize vs 22 = z22
    generalize vs 23 = z23
    clear hR e24 hb R1
    go_wp2_with (first
      | (refine wpList_store_row rfl 26 (.tmp 4) (.tmp 40) rfl (w.heap.size + 1) zD.c rfl rfl 26 _ R2.out.res (by kernel_rfl) rfl (Dbl.one _) ?_)
      | (refine wpList_store_row rfl 54 (.tmp 5) (.tmp 41) rfl (w.heap.size + 1 + 1) #[.int .i64 0, .int .i64 7] rfl rfl 54 _ (R2.out.flt2 zD) (by kernel_rfl) rfl (two_one _ _) ?_))
    obtain ⟨q1, q2, q3⟩ := R2.out.fin zD 0 7
    exact bodyPost_ret (results_row_row rfl _ _ (w.heap.size + 1) zD.c (w.heap.size + 1 + 1) #[.int .i64 0, .int .i64 7] rfl rfl (run_loadVar_row (P := Tryd.prog) _ (w.heap.size + 1) 26 26 _ (0, 0) _ q1 Tryd.underlying26 rfl (by kernel_rfl)) (run_loadVar_row (P := Tryd.prog) _ (w.heap.size + 1 + 1) 54 54 _ (0, 0) _ q2 Tryd.underlying54 rfl (by kernel_rfl))) rfl ⟨rfl, q3⟩
set_option maxRecDepth 100000 in
set_option maxHeartbeats 4000000 in
theorem rread_rest (b off c : Nat) (P I B : Int) (w : World) (hg : GOK P I B) (l0 : Nat) (h0 : l0 < 18446744073709551616) (hc0 : ∀ W, On w W → W.cell? ⟨b, off, none⟩ = some (.int .u64 (l0 : Nat))) (m : Nat) (hm : l0 % 4294967296 = m) (hbig : (m : Int) ≤ B) (n : Nat) (hn : l0 % 256 = n) (hh : headN n = l0) (l1 : Nat) (hc1 : ∀ W, On w W → W.cell? ⟨b, off + 1, none⟩ = some (.int .u64 (l1 : Nat))) (hz : l1 ≠ 0) :
    Calls Tryd.prog 24 #[.slice (some ⟨b, off, none⟩) 32 c, gv P I B] w fun e w' => e = .returned (.tuple #[zD.v, .agg #[.int .i64 1, .int .i64 7]]) ∧ On w w' := by
  have R0 := Lib.hid (Rr.new w P I B)
  have HG := Lib.hid hg
  have HC0 := Lib.hid hc0
  have hB1 : B ≤ 255 := hg.2.2.2
  have hB0 : 4 ≤ B := hg.2.2.1
  have wB : IntKind.u64.wrap B = B := by rw [IntKind.wrap_u64]; omega
  have hm32 : (l0 : Int).tmod 4294967296 = (m : Int) := by rw [Int.tmod_eq_emod_of_nonneg (by omega)]; omega
  have hgt : ¬ B < (m : Int) := by omega
  have n1 : n < 256 := by omega
  have hm8 : (l0 : Int).tmod 256 = (n : Int) := by rw [Int.tmod_eq_emod_of_nonneg (by omega)]; omega
  have wn : IntKind.i64.wrap (n : Int) = (n : Int) := by rw [IntKind.wrap_i64] <;> omega
  have HH := Lib.hid (fun W => rhead_calls n W n1)
  rw [hh] at HH
  have hne : (l0 : Int) = (l0 : Int) := rfl
  have HC1 := Lib.hid hc1
  have hz2 : ((l1 : Int) == 0) = false := by rw [beq_eq_false_iff_ne]; omega
  have hz3 : ((l1 : Int) != 0) = true := by unfold bne; rw [hz2]; rfl
  clear hg hc0 hm hbig hn hh hc1 hz hne
  go_enter Tryd.func24, Tryd.ntmps24
  go_upto_region 1 with (fail)
  generalize ((w.alloc (.cells #[.int .i64 P, .int .i64 I, .int .i64 B] 28)).alloc (.cells #[.int .i64 0, .int .i64 0, .int .u8 0, .string ⟨#[]⟩, .int .i64 0, .int .u8 0, .string ⟨#[]⟩, .int .i64 0, .int .u8 0, .string ⟨#[]⟩, .int .i64 0, .int .u8 0, .string ⟨#[]⟩, .int .i64 0, .int .u8 0, .string ⟨#[]⟩, .int .i64 0, .int .u8 0, .string ⟨#[]⟩, .int .i64 0, .int .u8 0, .string ⟨#[]⟩, .int .i64 0, .int .u8 0, .string ⟨#[]⟩, .int .i64 0, .int .u8 0, .string ⟨#[]⟩, .int .i64 0, .int .u8 0, .string ⟨#[]⟩] 26)).alloc (.cells #[.int .i64 0, .int .i64 0] 54) = W at *
  obtain ⟨g0, g1, g2⟩ := Gb.cells R0.out.geo
  have hlg := Ob.lt R0.out.geo
  go_wp2_with (fail)
  refine (may_yes P I B _ HG.out).mono ?_
  rintro e w1 ⟨rfl, hb⟩
  have R1 := Lib.hid (R0.out.on' hb)
  clear R0 g0 g1 g2 hlg hb
  go_upto_region 3 with (fail)
  refine wp_region4 [.val (.slice (some ⟨b, off, none⟩) 32 c), .val (.int .i64 (32 : Nat)), .val (.bool false), .val (.bool false), .val (.slice (some ⟨b, off, none⟩) 32 c), .val (.pointer (some ⟨b, off, none⟩)), .val (.int .u64 (l0 : Nat)), .val (.int .u64 (m : Nat)), .val (.pointer (some ⟨w.heap.size, 2, none⟩)), .val (.int .i64 B), .val (.int .u64 B), .val (.bool false), .val (.bool false), .val (.bool false), .val (.slice (some ⟨b, off, none⟩) 32 c), .val (.pointer (some ⟨b, off, none⟩)), .val (.int .u64 (l0 : Nat)), .val (.slice (some ⟨b, off, none⟩) 32 c), .val (.pointer (some ⟨b, off, none⟩)), .val (.int .u64 (l0 : Nat)), .val (.int .u64 (n : Nat)), .val (.int .i64 (n : Nat)), .val (.int .u64 (l0 : Nat)), .val (.bool false), .val (.bool false)] (by kernel_rfl) (by kernel_rfl) (by kernel_rfl) ?steps ?rest
  case steps =>
    refine ⟨?s0, ?s1, ?s2, ?s3, ?s4, ?s5, ?s6, ?s7, ?s8, ?s9, ?s10, ?s11, ?s12, ?s13, ?s14, ?s15, ?s16, ?s17, ?s18, ?s19, ?s20, ?s21, ?s22, ?s23, ?s24, trivial⟩
    case s0 =>
      exact st4_val _ rfl (.inl rfl) fun a u hb hA hd => by
        have q0 := ev_of (show a.eval (.tmp 0) = .slice (some ⟨b, off, none⟩) 32 c from hA.eval 0 rfl)
        unfold execOp
        simp [go_sem, q0]
    case s1 =>
      exact st4_val _ rfl (.inl rfl) fun a u hb hA hd => run_len rfl _ 32 c (hd 0 15 rfl rfl _ rfl)
    case s2 =>
      exact st4_val _ rfl (.inl rfl) fun a u hb hA hd => by
        have q0 := ev_of (hd 1 16 rfl rfl _ rfl)
        unfold execOp
        simp [go_sem, q0]
    case s3 => exact st4_move 2 17 rfl (.inl rfl) rfl rfl rfl
    case s4 =>
      exact st4_val _ rfl (.inr ⟨3, 18, false, rfl, rfl, rfl, rfl⟩) fun a u hb hA hd => by
        have q0 := ev_of (show a.eval (.tmp 0) = .slice (some ⟨b, off, none⟩) 32 c from hA.eval 0 rfl)
        unfold execOp
        simp [go_sem, q0]
    case s5 =>
      exact st4_val _ rfl (.inr ⟨3, 18, false, rfl, rfl, rfl, rfl⟩) fun a u hb hA hd => run_iaddr0 rfl b off 32 c (hd 4 19 rfl rfl _ rfl) (by decide)
    case s6 =>
      exact st4_val _ rfl (.inr ⟨3, 18, false, rfl, rfl, rfl, rfl⟩) fun a u hb hA hd => run_load64 rfl ⟨b, off, none⟩ _ (hd 5 20 rfl rfl _ rfl) (HC0.out u (R1.out.on.trans hb))
    case s7 =>
      exact st4_val _ rfl (.inr ⟨3, 18, false, rfl, rfl, rfl, rfl⟩) fun a u hb hA hd => by
        have q0 := ev_of (hd 6 21 rfl rfl _ rfl)
        unfold execOp
        simp [go_sem, q0, hm32]
    case s8 =>
      exact st4_val _ rfl (.inr ⟨3, 18, false, rfl, rfl, rfl, rfl⟩) fun a u hb hA hd => by
        have q0 := ev_of (show a.eval (.tmp 3) = .pointer (some ⟨w.heap.size, 0, none⟩) from hA.eval 3 rfl)
        unfold execOp
        simp [go_sem, q0]
    case s9 =>
      exact st4_val _ rfl (.inr ⟨3, 18, false, rfl, rfl, rfl, rfl⟩) fun a u hb hA hd => by
        have q0 := ev_of (hd 8 23 rfl rfl _ rfl)
        have hc := (Gb.cells (Ob.on R1.out.geo hb)).2.2
        unfold execOp
        simp [go_sem, q0, hc]
    case s10 =>
      exact st4_val _ rfl (.inr ⟨3, 18, false, rfl, rfl, rfl, rfl⟩) fun a u hb hA hd => by
        have q0 := ev_of (hd 9 24 rfl rfl _ rfl)
        unfold execOp
        simp [go_sem, q0, wB]
    case s11 =>
      exact st4_val _ rfl (.inr ⟨3, 18, false, rfl, rfl, rfl, rfl⟩) fun a u hb hA hd => by
        have q0 := ev_of (hd 7 22 rfl rfl _ rfl)
        have q1 := ev_of (hd 10 25 rfl rfl _ rfl)
        unfold execOp
        simp [go_sem, q0, q1, hgt]
    case s12 => exact st4_val _ rfl (.inl rfl) fun a u hb hA hd => (run_pickF rfl (hd 3 18 rfl rfl _ rfl)).trans (by rw [hd 11 26 rfl rfl _ rfl])
    case s13 => exact st4_move 12 27 rfl (.inl rfl) rfl rfl rfl
    case s14 =>
      exact st4_val _ rfl (.inr ⟨13, 28, false, rfl, rfl, rfl, rfl⟩) fun a u hb hA hd => by
        have q0 := ev_of (show a.eval (.tmp 0) = .slice (some ⟨b, off, none⟩) 32 c from hA.eval 0 rfl)
        unfold execOp
        simp [go_sem, q0]
    case s15 =>
      exact st4_val _ rfl (.inr ⟨13, 28, false, rfl, rfl, rfl, rfl⟩) fun a u hb hA hd => run_iaddr0 rfl b off 32 c (hd 14 29 rfl rfl _ rfl) (by decide)
    case s16 =>
      exact st4_val _ rfl (.inr ⟨13, 28, false, rfl, rfl, rfl, rfl⟩) fun a u hb hA hd => run_load64 rfl ⟨b, off, none⟩ _ (hd 15 30 rfl rfl _ rfl) (HC0.out u (R1.out.on.trans hb))
    case s17 =>
      exact st4_val _ rfl (.inr ⟨13, 28, false, rfl, rfl, rfl, rfl⟩) fun a u hb hA hd => by
        have q0 := ev_of (show a.eval (.tmp 0) = .slice (some ⟨b, off, none⟩) 32 c from hA.eval 0 rfl)
        unfold execOp
        simp [go_sem, q0]
    case s18 =>
      exact st4_val _ rfl (.inr ⟨13, 28, false, rfl, rfl, rfl, rfl⟩) fun a u hb hA hd => run_iaddr0 rfl b off 32 c (hd 17 32 rfl rfl _ rfl) (by decide)
    case s19 =>
      exact st4_val _ rfl (.inr ⟨13, 28, false, rfl, rfl, rfl, rfl⟩) fun a u hb hA hd => run_load64 rfl ⟨b, off, none⟩ _ (hd 18 33 rfl rfl _ rfl) (HC0.out u (R1.out.on.trans hb))
    case s20 =>
      exact st4_val _ rfl (.inr ⟨13, 28, false, rfl, rfl, rfl, rfl⟩) fun a u hb hA hd => by
        have q0 := ev_of (hd 19 34 rfl rfl _ rfl)
        unfold execOp
        simp [go_sem, q0, hm8]
    case s21 =>
      exact st4_val _ rfl (.inr ⟨13, 28, false, rfl, rfl, rfl, rfl⟩) fun a u hb hA hd => by
        have q0 := ev_of (hd 20 35 rfl rfl _ rfl)
        unfold execOp
        simp [go_sem, q0, wn]
    case s22 =>
      refine st4_call _ rfl (.inr ⟨13, 28, false, rfl, rfl, rfl, rfl⟩) 18 #[.int .i64 (n : Nat)] fun a u hb hA hd => ⟨?_, (HH.out u).mono fun _ _ ⟨he, hw⟩ => ⟨he, hw ▸ On.refl _⟩⟩
      have q0 := ev_of (hd 21 36 rfl rfl _ rfl)
      unfold execOp
      simp [go_sem, q0]
    case s23 =>
      exact st4_val _ rfl (.inr ⟨13, 28, false, rfl, rfl, rfl, rfl⟩) fun a u hb hA hd => by
        have q0 := ev_of (hd 16 31 rfl rfl _ rfl)
        have q1 := ev_of (hd 22 37 rfl rfl _ rfl)
        unfold execOp
        simp [go_sem, q0, q1]
    case s24 => exact st4_val _ rfl (.inl rfl) fun a u hb hA hd => (run_pickF rfl (hd 13 28 rfl rfl _ rfl)).trans (by rw [hd 23 38 rfl rfl _ rfl])
  case rest =>
    intro vs u hb hR
    have e24 : vs 24 = .bool false := hR 24 (by decide)
    have R2 := Lib.hid (R1.out.on' hb)
    simp only [putsFrom, Act.put, List.setIfInBounds_toArray, List.set_cons_succ, List.set_cons_zero, e24]
    generalize vs 0 = z0
    generalize vs 1 = z1
    generalize vs 2 = z2
    generalize vs 3 = z3
    generalize vs 4 = z4
    generalize vs 5 = z5
    generalize vs 6 = z6
    generalize vs 7 = z7
    generalize vs 8 = z8
    generalize vs 9 = z9
    generalize vs 10 = z10
    generalize vs 11 = z11
    generalize vs 12 = z12
    generalize vs 13 = z13
    generalize vs 14 = z14
    generalize vs 15 = z15
    generalize vs 16 = z16
    generalize vs 17 = z17
    generalize vs 18 = z18
    generalize vs 19 = z19
    generalize vs 20 = z20
    generalize vs 21 = z21
    generalize vs 22 = z22
    generalize vs 23 = z23
    clear hR e24 hb R1
    have c1 := HC1.out u R2.out.on
    go_wp2_with (first
      | (refine wpList_store_row rfl 26 (.tmp 4) (.tmp 46) rfl (w.heap.size + 1) zD.c rfl rfl 26 _ R2.out.res (by kernel_rfl) rfl (Dbl.one _) ?_)
      | (refine wpList_store_row rfl 54 (.tmp 5) (.tmp 47) rfl (w.heap.size + 1 + 1) #[.int .i64 1, .int .i64 7] rfl rfl 54 _ (R2.out.flt2 zD) (by kernel_rfl) rfl (two_one _ _) ?_))
    obtain ⟨q1, q2, q3⟩ := R2.out.fin zD 1 7
    exact bodyPost_ret (results_row_row rfl _ _ (w.heap.size + 1) zD.c (w.heap.size + 1 + 1) #[.int .i64 1, .int .i64 7] rfl rfl (run_loadVar_row (P := Tryd.prog) _ (w.heap.size + 1) 26 26 _ (0, 0) _ q1 Tryd.underlying26 rfl (by kernel_rfl)) (run_loadVar_row (P := Tryd.prog) _ (w.heap.size + 1 + 1) 54 54 _ (0, 0) _ q2 Tryd.underlying54 rfl (by kernel_rfl))) rfl ⟨rfl, q3⟩
end Go.Proofs.YtipghcpodhokbaaDoor
