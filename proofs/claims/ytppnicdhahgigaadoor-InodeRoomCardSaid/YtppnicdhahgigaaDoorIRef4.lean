/- The document's Decode, over any words; its May. -/
import Derived.Test.YtppnicdhahgigaaDoorStp3
import Derived.Test.YtppnicdhahgigaaDoorInoMath3
import Derived.Test.YtppnicdhahgigaaDoorIRef3
namespace Go.Proofs.YtppnicdhahgigaaDoor
open Go.RowKit WordMath SumMath
theorem rdec_calls (A : Option Addr) (l : List Nat) (c : Nat) (P I B : Int) (w : World) (hr : Row w A l) (hl : Wd l) (hcap : l.length ≤ c) :
    Calls Tryd.prog 18 #[.slice A l.length c, gv P I B] w fun e w' => e = .returned (.tuple #[(decI l P I B).v, fV (decBad l P I B)]) ∧ Below w.heap.size w w' := by
  by_cases hg : GOK P I B
  · by_cases h8 : l.length = 8
    · by_cases ho : isSealed l
      · have e1 : decBad l P I B = if fst7 (fitL l I B) = 7 then none else some (fst7 (fitL l I B), 7) := by
          unfold decBad; rw [if_neg (by simpa using hg), if_neg (by simpa using h8), if_neg (by simpa using ho)]
        have e2 : decI l P I B = if fst7 (fitL l I B) = 7 then rdL l else zI := by
          unfold decI; rw [e1]; split <;> rename_i h <;> split at h <;> first | rfl | cases h
          all_goals simp_all
        rw [e1, e2, h8]
        exact rdec_rest A l c P I B w hg h8 hr hl (by omega) (openB_yes ho)
      · have e1 : decBad l P I B = some (7, 7) := by
          unfold decBad; rw [if_neg (by simpa using hg), if_neg (by simpa using h8), if_pos ho]
        have e2 : decI l P I B = zI := by unfold decI; rw [e1]
        rw [e1, e2, h8]
        exact rdec_seal A l c P I B w hg h8 hr hl (by omega) (openB_no ho)
    · have e1 : decBad l P I B = some (0, 7) := by
        unfold decBad; rw [if_neg (by simpa using hg), if_pos h8]
      have e2 : decI l P I B = zI := by unfold decI; rw [e1]
      rw [e1, e2]
      exact rdec_len A l.length c P I B w hg h8
  · have e1 : decBad l P I B = some (0, 2) := by unfold decBad; rw [if_pos hg]
    have e2 : decI l P I B = zI := by unfold decI; rw [e1]
    rw [e1, e2]
    exact rdec_geom A l.length c P I B w hg
section
variable {z : Ino} {fk fn : Int} {E W : Nat → Bool} {s : Nat} {S : List Sp3} {l : List Oper} {a0 : Act} {w0 : World} {k : Nat} {o : Oper}
/-- A call that is given the row of operation j. -/
theorem st3_rcall (v : Value) (d : Tmp) (hk : S.getD k .any = .val v) (hd : o.dst = some d) (hg : o.guard = none) (hW : W k = false) (hE : (E k || decide (k = s)) = true) (j : Nat) (dj : Tmp) (m : List Nat) (hj : (l[j]?).bind (·.dst) = some dj)
    (hm : o.after.toList.any (fun e => e.on == j && Region.binds .any e) = true) (hs : S.getD j .any = .row m) (f : FuncId) (args : Value → Array Value)
    (step : ∀ a u A c, On w0 u → Agree l a0 a → (∀ j dj, (l[j]?).bind (·.dst) = some dj → o.after.toList.any (fun e => e.on == j && Region.binds .any e) = true → ∀ vj, S.getD j .any = .val vj → a.eval (.tmp dj) = vj) → a.eval (.tmp dj) = .slice A m.length c → m.length ≤ c → Row u A m →
      (execOp a.eval o).run Tryd.prog u = .ok (.enter f (args (.slice A m.length c))) u ∧ Calls Tryd.prog f (args (.slice A m.length c)) u fun e w' => e = .returned v ∧ Below u.heap.size u w') :
    StepAt3 Tryd.prog On (TT w0.heap.size z fk fn) E W s (R0 S) (R1 w0.heap.size z fk fn S) l a0 w0 k o := by
  intro a u hT hT0 hA h1 h0
  obtain ⟨r1, r2⟩ := dep30 (h0 hE) j dj hj hm
  rw [hs] at r1
  obtain ⟨A, c, e, hc, hr⟩ := r1
  obtain ⟨q1, q2⟩ := step a u A c (hT0 hE) hA (fun j dj hj hm vj hv => by
    obtain ⟨e1, e2⟩ := dep3 h1 j dj hj hm
    rw [hv] at e1
    rw [← e2]; exact e1) (r2.symm.trans e) hc hr
  refine ⟨wanted_plain hg, StepOK.call f _ q1 (q2.mono ?_)⟩
  rintro e w' ⟨rfl, hb⟩
  rw [hW]
  exact ⟨v, rfl, ⟨by unfold R1; rw [hk, ov_some v hd]; exact upd_self _ _ _, fun _ => by unfold R0; rw [hk]; trivial⟩, hb⟩
end
theorem ev_of {a : Act} {d : Tmp} {v : Value} (h : a.eval (.tmp d) = v) : a.tmps[d]?.getD undef = v := by
  rw [← h]
  exact (Array.getD_eq_getD_getElem? ..).symm
/-- A record is loaded. -/
theorem run_load_ino {a : Act} {o : Oper} {u : World} {x : Operand} (ho : o.op = .load 25 x) (g : Nat) (q : Ino) (hx : a.eval x = .pointer (some ⟨g, 0, none⟩)) (h : Ib u g q) : (execOp a.eval o).run Tryd.prog u = .ok (.value q.v) u := by
  unfold execOp
  simp only [ho, hx, Instr.loadAt, Instr.sureAddr, Sem.run_bind, Sem.run_pure, Result.andThen_ok, run_loadVar_row (P := Tryd.prog) u g 25 25 q.c (0, 0) _ h Tryd.underlying25 rfl (by kernel_rfl)]
theorem run_load_geom {a : Act} {o : Oper} {u : World} {x : Operand} (ho : o.op = .load 27 x) (g : Nat) (P I B : Int) (hx : a.eval x = .pointer (some ⟨g, 0, none⟩)) (h : u.heap[g]? = some (.cells #[.int .i64 P, .int .i64 I, .int .i64 B] 27 (0, 0))) : (execOp a.eval o).run Tryd.prog u = .ok (.value (gv P I B)) u := by
  unfold execOp
  simp only [ho, hx, Instr.loadAt, Instr.sureAddr, Sem.run_bind, Sem.run_pure, Result.andThen_ok, run_loadVar_row (P := Tryd.prog) u g 27 27 _ (0, 0) _ h Tryd.underlying27 rfl (by kernel_rfl)]
set_option maxRecDepth 100000 in
set_option maxHeartbeats 2000000 in
theorem rmay_dir (x : Ino) (P I B : Int) (w : World) (hx : Rm x) (hk : x.K = 2) (hn : x.M = 0) (m : List Nat) (hm8 : m.length = 8) (z : Ino) (fk fn : Int) (b : Bool) (hfn : (fn == 0) = b) (hz : b = true → z = x)
    (hE : ∀ W, Calls Tryd.prog 12 #[x.v] W fun e w' => ∃ A c, e = .returned (.slice A 8 c) ∧ Row w' A m ∧ Fresh W.heap.size A ∧ Below W.heap.size W w' ∧ 8 ≤ c)
    (hD : ∀ A c W, Row W A m → 8 ≤ c → Calls Tryd.prog 18 #[.slice A 8 c, gv P I B] W fun e w' => e = .returned (.tuple #[z.v, .agg #[.int .i64 fk, .int .i64 fn]]) ∧ Below W.heap.size W w') :
    Calls Tryd.prog 8 #[x.v, gv P I B] w fun e w' => e = .returned (.bool b) ∧ Below w.heap.size w w' := by
  obtain ⟨h0, h1, h2, h3, h4, h5, h6, h7, h8, h9, h10, h11, h12, h13, h14, h15⟩ := hx
  have g1 : (x.K == 2) = true := by rw [beq_iff_eq]; exact hk
  have g2 : (x.M != 0) = false := by rw [bne_eq_false_iff_eq]; exact hn
  have g3 : (x.K != 2) = false := by unfold bne; rw [g1]; rfl
  clear hk hn
  go_enter Tryd.func8, Tryd.ntmps8
  go_wp2_with (fail)
  refine wp_loop_rounds 5 ?_
  rw [rounds_succ]
  go_wp2_with (fail)
  rw [rounds_succ]
  go_wp2_with (fail)
  rw [rounds_succ]
  go_wp2_with (fail)
  rw [rounds_succ]
  go_wp2_with (fail)
  rw [rounds_succ]
  go_upto_region 8 with (fail)
  clear h0 h1 h2 h3 h4 h5 h6 h7 h8 h9 h10 h11 h12 h13 h14 h15 g1 g2 g3
  obtain ⟨W, hW⟩ : ∃ W, W = (w.alloc (.cells x.c 25)).alloc (.cells #[.int .i64 P, .int .i64 I, .int .i64 B] 27) := ⟨_, rfl⟩
  have hgg : Hid (W.heap[w.heap.size + 1]? = some (.cells #[.int .i64 P, .int .i64 I, .int .i64 B] 27 (0, 0))) := Lib.hid (by
    have h := heap_alloc_new (w.alloc (.cells x.c 25)) (.cells #[.int .i64 P, .int .i64 I, .int .i64 B] 27)
    rw [World.size_alloc, ← hW] at h
    exact h)
  have ix : Ib W w.heap.size x := by
    rw [hW]
    exact (Ib.new w x).below (k := w.heap.size + 1) ((Below.refl _ _).alloc (by simp) _) (by omega)
  have bw : Below w.heap.size w W := by rw [hW]; exact ((Below.refl _ _).alloc (Nat.le_refl _) _).alloc (by simp) _
  have hlg : w.heap.size + 1 < W.heap.size := lt_of_cells hgg.out
  have HX := Lib.hid ix
  clear ix
  rw [← hW]
  clear hW
  refine wp_region3 z fk fn (fun k => decide (k < 6) || (decide (k = 7) || decide (k = 8))) (fun k => decide (k = 9) || decide (k = 10)) 9 [.val x.v, .row m, .val (gv P I B), .val (.tuple #[z.v, .agg #[.int .i64 fk, .int .i64 fn]]), .val (.tuple #[z.v, .agg #[.int .i64 fk, .int .i64 fn]]), .val z.v, .val (.agg #[.int .i64 fk, .int .i64 fn]), .ino, .flt, .inoDone 7, .fltDone 8]
    (by kernel_rfl) (by kernel_rfl) (by kernel_rfl) (by kernel_rfl) (by kernel_rfl) (by kernel_rfl) ?steps ?rest
  case steps =>
    refine ⟨?s0, ?s1, ?s2, ?s3, ?s4, ?s5, ?s6, ?s7, ?s8, ?s9, ?s10, trivial⟩
    case s0 => exact st3_val _ 90 rfl rfl rfl rfl fun a u hb hA hd => run_load_ino rfl w.heap.size x (hA.eval 2 rfl) (HX.out.below hb HX.out.lt)
    case s1 =>
      refine st3_row m 91 rfl rfl rfl rfl rfl 12 #[x.v] fun a u hb hA hd => ⟨?_, ?_⟩
      · have q0 := ev_of (hd 0 90 rfl rfl _ rfl)
        unfold execOp
        simp [go_sem, q0]
      · refine (hE u).mono ?_
        rintro e w' ⟨A, c, rfl, hr, hf, hb2, hc⟩
        exact ⟨A, c, by rw [hm8], by rw [hm8]; exact hc, hr, hb2⟩
    case s2 => exact st3_val _ 92 rfl rfl rfl rfl fun a u hb hA hd => run_load_geom rfl (w.heap.size + 1) P I B (hA.eval 3 rfl) ((Below.block hb _ hlg).trans hgg.out)
    case s3 =>
      refine st3_rcall _ 93 rfl rfl rfl rfl rfl 1 91 m rfl rfl rfl 18 (fun r => #[r, gv P I B]) fun a u A c hb hA hd hv hc hr => ⟨?_, ?_⟩
      · have q0 := ev_of (hd 2 92 rfl rfl _ rfl)
        unfold execOp
        have hv := ev_of hv
        simp [go_sem, q0, hv]
      · rw [hm8] at hc ⊢
        exact hD A c u hr hc
    case s4 =>
      exact st3_val _ 89 rfl rfl rfl rfl fun a u hb hA hd => by
        have q0 := ev_of (hd 3 93 rfl rfl _ rfl)
        unfold execOp
        simp [go_sem, q0]
    case s5 =>
      exact st3_val _ 94 rfl rfl rfl rfl fun a u hb hA hd => by
        have q0 := ev_of (hd 4 89 rfl rfl _ rfl)
        unfold execOp
        simp [go_sem, q0, Instr.extract]
    case s6 =>
      exact st3_val _ 95 rfl rfl rfl rfl fun a u hb hA hd => by
        have q0 := ev_of (hd 4 89 rfl rfl _ rfl)
        unfold execOp
        simp [go_sem, q0, Instr.extract]
    case s7 => exact st3_ino 7 rfl rfl rfl rfl rfl
    case s8 => exact st3_flt 8 rfl rfl rfl rfl rfl
    case s9 => exact st3_sino 7 5 7 94 rfl rfl rfl rfl rfl (by decide) rfl rfl rfl rfl rfl rfl
    case s10 => exact st3_sflt 8 6 8 95 rfl rfl rfl rfl rfl (by decide) rfl rfl rfl rfl rfl rfl
  case rest =>
    intro vs u hb hR
    obtain ⟨g7, e7, hg7, hi⟩ := hR 9 (by decide)
    obtain ⟨g8, e8, hg8, hf⟩ := hR 10 (by decide)
    clear hR
    simp only [putsFrom, Act.put, List.setIfInBounds_toArray, List.set_cons_succ, List.set_cons_zero, e7, e8]
    clear e7 e8
    have hx2 := HX.out.below hb HX.out.lt
    have hb2 := bw.trans (Below.mono hb bw.size)
    clear hb HX hgg hlg hE hD bw
    obtain ⟨y0, y1⟩ := hf.cells
    have hlf := hf.lt
    cases hbb : b with
    | false =>
      rw [hbb] at hfn
      clear hz hi hx2
      go_wp2_with (fail)
      go_ret
      exact ⟨by rw [hbb]; rfl, hb2⟩
    | true =>
      rw [hbb] at hfn
      have hzx := hz hbb
      subst hzx
      have eI : ∀ W : World, (Op.equalIn 10000 25 (.agg #[.int .u8 z.K, .int .i64 z.L, .int .u32 z.G, .int .i64 z.S, .int .i64 z.A, .int .i64 z.M, .int .i64 z.H0, .int .i64 z.H1, .int .i64 z.H2, .int .i64 z.H3, .int .i64 z.P, .int .i64 z.T, .int .i64 z.C]) (.agg #[.int .u8 z.K, .int .i64 z.L, .int .u32 z.G, .int .i64 z.S, .int .i64 z.A, .int .i64 z.M, .int .i64 z.H0, .int .i64 z.H1, .int .i64 z.H2, .int .i64 z.H3, .int .i64 z.P, .int .i64 z.T, .int .i64 z.C])).run Tryd.prog W = .ok true W := fun W => eqI z W
      obtain ⟨x0, x1, x2, x3, x4, x5, x6, x7, x8, x9, x10, x11, x12⟩ := hx2.cells
      obtain ⟨z0, z1, z2, z3, z4, z5, z6, z7, z8, z9, z10, z11, z12⟩ := hi.cells
      have hli := hi.lt
      have hlx := hx2.lt
      clear hz hi hx2 hf
      go_wp2_with (fail)
      go_ret
      exact ⟨by rw [hbb]; rfl, hb2⟩
set_option maxRecDepth 100000 in
set_option maxHeartbeats 2000000 in
theorem rmay_oth (x : Ino) (P I B : Int) (w : World) (hx : Rm x) (hk : ¬ x.K = 2) (hn : x.H0 = 0 ∧ x.H1 = 0 ∧ x.H2 = 0 ∧ x.H3 = 0) (m : List Nat) (hm8 : m.length = 8) (z : Ino) (fk fn : Int) (b : Bool) (hfn : (fn == 0) = b) (hz : b = true → z = x)
    (hE : ∀ W, Calls Tryd.prog 12 #[x.v] W fun e w' => ∃ A c, e = .returned (.slice A 8 c) ∧ Row w' A m ∧ Fresh W.heap.size A ∧ Below W.heap.size W w' ∧ 8 ≤ c)
    (hD : ∀ A c W, Row W A m → 8 ≤ c → Calls Tryd.prog 18 #[.slice A 8 c, gv P I B] W fun e w' => e = .returned (.tuple #[z.v, .agg #[.int .i64 fk, .int .i64 fn]]) ∧ Below W.heap.size W w') :
    Calls Tryd.prog 8 #[x.v, gv P I B] w fun e w' => e = .returned (.bool b) ∧ Below w.heap.size w w' := by
  obtain ⟨h0, h1, h2, h3, h4, h5, h6, h7, h8, h9, h10, h11, h12, h13, h14, h15⟩ := hx
  have g1 : (x.K == 2) = false := by rw [beq_eq_false_iff_ne]; exact hk
  have g3 : (x.K != 2) = true := by unfold bne; rw [g1]; rfl
  have e4 : ∀ W : World, (Op.equalIn 10000 23 (.agg #[.int .i64 x.H0, .int .i64 x.H1, .int .i64 x.H2, .int .i64 x.H3]) (.agg #[.int .i64 0, .int .i64 0, .int .i64 0, .int .i64 0])).run Tryd.prog W = .ok true W := fun W => (eq4 _ _ _ _ _ _ _ _ W).trans (by rw [hn.1, hn.2.1, hn.2.2.1, hn.2.2.2]; rfl)
  clear hk hn
  go_enter Tryd.func8, Tryd.ntmps8
  go_wp2_with (fail)
  refine wp_loop_rounds 5 ?_
  rw [rounds_succ]
  go_wp2_with (fail)
  rw [rounds_succ]
  go_wp2_with (fail)
  rw [rounds_succ]
  go_wp2_with (fail)
  rw [rounds_succ]
  go_wp2_with (fail)
  rw [rounds_succ]
  go_upto_region 8 with (fail)
  clear h0 h1 h2 h3 h4 h5 h6 h7 h8 h9 h10 h11 h12 h13 h14 h15 g1 g3 e4
  obtain ⟨W, hW⟩ : ∃ W, W = (w.alloc (.cells x.c 25)).alloc (.cells #[.int .i64 P, .int .i64 I, .int .i64 B] 27) := ⟨_, rfl⟩
  have hgg : Hid (W.heap[w.heap.size + 1]? = some (.cells #[.int .i64 P, .int .i64 I, .int .i64 B] 27 (0, 0))) := Lib.hid (by
    have h := heap_alloc_new (w.alloc (.cells x.c 25)) (.cells #[.int .i64 P, .int .i64 I, .int .i64 B] 27)
    rw [World.size_alloc, ← hW] at h
    exact h)
  have ix : Ib W w.heap.size x := by
    rw [hW]
    exact (Ib.new w x).below (k := w.heap.size + 1) ((Below.refl _ _).alloc (by simp) _) (by omega)
  have bw : Below w.heap.size w W := by rw [hW]; exact ((Below.refl _ _).alloc (Nat.le_refl _) _).alloc (by simp) _
  have hlg : w.heap.size + 1 < W.heap.size := lt_of_cells hgg.out
  have HX := Lib.hid ix
  clear ix
  rw [← hW]
  clear hW
  refine wp_region3 z fk fn (fun k => decide (k < 6) || (decide (k = 7) || decide (k = 8))) (fun k => decide (k = 9) || decide (k = 10)) 9 [.val x.v, .row m, .val (gv P I B), .val (.tuple #[z.v, .agg #[.int .i64 fk, .int .i64 fn]]), .val (.tuple #[z.v, .agg #[.int .i64 fk, .int .i64 fn]]), .val z.v, .val (.agg #[.int .i64 fk, .int .i64 fn]), .ino, .flt, .inoDone 7, .fltDone 8]
    (by kernel_rfl) (by kernel_rfl) (by kernel_rfl) (by kernel_rfl) (by kernel_rfl) (by kernel_rfl) ?steps ?rest
  case steps =>
    refine ⟨?s0, ?s1, ?s2, ?s3, ?s4, ?s5, ?s6, ?s7, ?s8, ?s9, ?s10, trivial⟩
    case s0 => exact st3_val _ 90 rfl rfl rfl rfl fun a u hb hA hd => run_load_ino rfl w.heap.size x (hA.eval 2 rfl) (HX.out.below hb HX.out.lt)
    case s1 =>
      refine st3_row m 91 rfl rfl rfl rfl rfl 12 #[x.v] fun a u hb hA hd => ⟨?_, ?_⟩
      · have q0 := ev_of (hd 0 90 rfl rfl _ rfl)
        unfold execOp
        simp [go_sem, q0]
      · refine (hE u).mono ?_
        rintro e w' ⟨A, c, rfl, hr, hf, hb2, hc⟩
        exact ⟨A, c, by rw [hm8], by rw [hm8]; exact hc, hr, hb2⟩
    case s2 => exact st3_val _ 92 rfl rfl rfl rfl fun a u hb hA hd => run_load_geom rfl (w.heap.size + 1) P I B (hA.eval 3 rfl) ((Below.block hb _ hlg).trans hgg.out)
    case s3 =>
      refine st3_rcall _ 93 rfl rfl rfl rfl rfl 1 91 m rfl rfl rfl 18 (fun r => #[r, gv P I B]) fun a u A c hb hA hd hv hc hr => ⟨?_, ?_⟩
      · have q0 := ev_of (hd 2 92 rfl rfl _ rfl)
        unfold execOp
        have hv := ev_of hv
        simp [go_sem, q0, hv]
      · rw [hm8] at hc ⊢
        exact hD A c u hr hc
    case s4 =>
      exact st3_val _ 89 rfl rfl rfl rfl fun a u hb hA hd => by
        have q0 := ev_of (hd 3 93 rfl rfl _ rfl)
        unfold execOp
        simp [go_sem, q0]
    case s5 =>
      exact st3_val _ 94 rfl rfl rfl rfl fun a u hb hA hd => by
        have q0 := ev_of (hd 4 89 rfl rfl _ rfl)
        unfold execOp
        simp [go_sem, q0, Instr.extract]
    case s6 =>
      exact st3_val _ 95 rfl rfl rfl rfl fun a u hb hA hd => by
        have q0 := ev_of (hd 4 89 rfl rfl _ rfl)
        unfold execOp
        simp [go_sem, q0, Instr.extract]
    case s7 => exact st3_ino 7 rfl rfl rfl rfl rfl
    case s8 => exact st3_flt 8 rfl rfl rfl rfl rfl
    case s9 => exact st3_sino 7 5 7 94 rfl rfl rfl rfl rfl (by decide) rfl rfl rfl rfl rfl rfl
    case s10 => exact st3_sflt 8 6 8 95 rfl rfl rfl rfl rfl (by decide) rfl rfl rfl rfl rfl rfl
  case rest =>
    intro vs u hb hR
    obtain ⟨g7, e7, hg7, hi⟩ := hR 9 (by decide)
    obtain ⟨g8, e8, hg8, hf⟩ := hR 10 (by decide)
    clear hR
    simp only [putsFrom, Act.put, List.setIfInBounds_toArray, List.set_cons_succ, List.set_cons_zero, e7, e8]
    clear e7 e8
    have hx2 := HX.out.below hb HX.out.lt
    have hb2 := bw.trans (Below.mono hb bw.size)
    clear hb HX hgg hlg hE hD bw
    obtain ⟨y0, y1⟩ := hf.cells
    have hlf := hf.lt
    cases hbb : b with
    | false =>
      rw [hbb] at hfn
      clear hz hi hx2
      go_wp2_with (fail)
      go_ret
      exact ⟨by rw [hbb]; rfl, hb2⟩
    | true =>
      rw [hbb] at hfn
      have hzx := hz hbb
      subst hzx
      have eI : ∀ W : World, (Op.equalIn 10000 25 (.agg #[.int .u8 z.K, .int .i64 z.L, .int .u32 z.G, .int .i64 z.S, .int .i64 z.A, .int .i64 z.M, .int .i64 z.H0, .int .i64 z.H1, .int .i64 z.H2, .int .i64 z.H3, .int .i64 z.P, .int .i64 z.T, .int .i64 z.C]) (.agg #[.int .u8 z.K, .int .i64 z.L, .int .u32 z.G, .int .i64 z.S, .int .i64 z.A, .int .i64 z.M, .int .i64 z.H0, .int .i64 z.H1, .int .i64 z.H2, .int .i64 z.H3, .int .i64 z.P, .int .i64 z.T, .int .i64 z.C])).run Tryd.prog W = .ok true W := fun W => eqI z W
      obtain ⟨x0, x1, x2, x3, x4, x5, x6, x7, x8, x9, x10, x11, x12⟩ := hx2.cells
      obtain ⟨z0, z1, z2, z3, z4, z5, z6, z7, z8, z9, z10, z11, z12⟩ := hi.cells
      have hli := hi.lt
      have hlx := hx2.lt
      clear hz hi hx2 hf
      go_wp2_with (fail)
      go_ret
      exact ⟨by rw [hbb]; rfl, hb2⟩
/-- A record as Go's types have it. -/
structure Typ (x : Ino) : Prop where
  K : 0 ≤ x.K ∧ x.K < 256
  L : -9223372036854775808 ≤ x.L ∧ x.L < 9223372036854775808
  G : 0 ≤ x.G ∧ x.G < 4294967296
  S : -9223372036854775808 ≤ x.S ∧ x.S < 9223372036854775808
  A : -9223372036854775808 ≤ x.A ∧ x.A < 9223372036854775808
  M : -9223372036854775808 ≤ x.M ∧ x.M < 9223372036854775808
  H0 : -9223372036854775808 ≤ x.H0 ∧ x.H0 < 9223372036854775808
  H1 : -9223372036854775808 ≤ x.H1 ∧ x.H1 < 9223372036854775808
  H2 : -9223372036854775808 ≤ x.H2 ∧ x.H2 < 9223372036854775808
  H3 : -9223372036854775808 ≤ x.H3 ∧ x.H3 < 9223372036854775808
  P : -9223372036854775808 ≤ x.P ∧ x.P < 9223372036854775808
  T : -9223372036854775808 ≤ x.T ∧ x.T < 9223372036854775808
  C : -9223372036854775808 ≤ x.C ∧ x.C < 9223372036854775808
theorem may_num {x : Ino} {P I B : Int} (h : mayB x P I B = true) : Num x I B := by
  obtain ⟨hg, h7⟩ := mayB_iff.1 h
  exact mis_num hg.2.1 hg.2.2 h7
theorem may_room {x : Ino} {P I B : Int} (hG : 0 ≤ x.G ∧ x.G < 4294967296) (h : mayB x P I B = true) : Room x := (may_num h).room hG
theorem decBad_ne {l : List Nat} {P I B : Int} {k : Nat} {n : Int} (h : decBad l P I B = some (k, n)) : (n == 0) = false := by
  unfold decBad at h
  split at h
  · injection h with h; injection h with _ h; subst h; rfl
  split at h
  · injection h with h; injection h with _ h; subst h; rfl
  split at h
  · injection h with h; injection h with _ h; subst h; rfl
  split at h
  · cases h
  · injection h with h; injection h with _ h; subst h; rfl
theorem bad_may {x : Ino} (h : Room x) (P I B : Int) : decBad (sealed (wL x)) P I B = none ↔ mayB x P I B = true := by
  rw [bad_sealed h, mayB_iff]
  by_cases hg : GOK P I B
  · by_cases h7 : misV x I B = 7
    · rw [if_pos hg, if_pos h7]; exact ⟨fun _ => ⟨hg, h7⟩, fun _ => rfl⟩
    · rw [if_pos hg, if_neg h7]; exact ⟨fun h => (by cases h), fun h => absurd h.2 h7⟩
  · rw [if_neg hg]; exact ⟨fun h => (by cases h), fun h => absurd h.1 hg⟩
theorem rmay_calls (x : Ino) (P I B : Int) (w : World) (hx : Typ x) : Calls Tryd.prog 8 #[x.v, gv P I B] w fun e w' => e = .returned (.bool (mayB x P I B)) ∧ Below w.heap.size w w' := by
  by_cases hr : Rm x
  · have hfin : Room x → ∃ (z : Ino) (fk fn : Int) (b : Bool), b = mayB x P I B ∧ (fn == 0) = b ∧ (b = true → z = x) ∧ (∀ A c W, Row W A (sealed (wL x)) → 8 ≤ c → Calls Tryd.prog 18 #[.slice A 8 c, gv P I B] W fun e w' => e = .returned (.tuple #[z.v, .agg #[.int .i64 fk, .int .i64 fn]]) ∧ Below W.heap.size W w') := by
      intro hm
      have key : ∀ A c W, Row W A (sealed (wL x)) → 8 ≤ c → Calls Tryd.prog 18 #[.slice A 8 c, gv P I B] W fun e w' => e = .returned (.tuple #[(decI (sealed (wL x)) P I B).v, fV (decBad (sealed (wL x)) P I B)]) ∧ Below W.heap.size W w' := by
        intro A c W hrow hc
        have h := rdec_calls A (sealed (wL x)) c P I B W hrow (wd_sealed (wd_wL hm.small)) (by rw [sealed_wL_length]; exact hc)
        rw [sealed_wL_length] at h
        exact h
      rw [dec_sealed hm] at key
      by_cases hb : mayB x P I B = true
      · rw [(bad_may hm P I B).2 hb, if_pos hb] at key
        exact ⟨x, 0, 0, true, hb.symm, rfl, fun _ => rfl, key⟩
      · rw [if_neg hb] at key
        cases hd : decBad (sealed (wL x)) P I B with
        | none => exact absurd ((bad_may hm P I B).1 hd) hb
        | some kn =>
          obtain ⟨k, n⟩ := kn
          rw [hd] at key
          exact ⟨zI, (k : Nat), n, false, (Bool.eq_false_iff.2 hb).symm, decBad_ne hd, fun h => (by cases h), key⟩
    have hsm : (¬ x.K = 2 → x.H0 = 0 ∧ x.H1 = 0 ∧ x.H2 = 0 ∧ x.H3 = 0) → (x.K = 2 → x.M = 0) → Room x := fun h1 h2 =>
      ⟨⟨hx.K, ⟨hr.h0, hr.h1⟩, hx.G, ⟨hr.h8, hr.h9⟩, ⟨hr.h10, hr.h11⟩, ⟨hr.h12, hr.h13⟩, ⟨hr.h14, hr.h15⟩, h2⟩, ⟨hr.h5, hx.S.2⟩, ⟨hr.h2, hx.A.2⟩, ⟨hr.h3, hx.M.2⟩, ⟨hr.h4, hx.P.2⟩, ⟨hr.h6, hx.T.2⟩, ⟨hr.h7, hx.C.2⟩, h1⟩
    by_cases hk : x.K = 2
    · by_cases hm : x.M = 0
      · have hR := hsm (fun h => absurd hk h) (fun _ => hm)
        obtain ⟨z, fk, fn, b, eb, h1, h2, h3⟩ := hfin hR
        rw [← eb]
        exact rmay_dir x P I B w hr hk hm (sealed (wL x)) (sealed_wL_length x) z fk fn b h1 h2 (fun W => rencode_calls x W hR.small hR.other) h3
      · have hb : mayB x P I B = false := Bool.eq_false_iff.2 fun h => hm ((may_num h).dir hk)
        rw [hb]
        exact rmay_kd x P I B w hr hk hm
    · by_cases hn : x.H0 = 0 ∧ x.H1 = 0 ∧ x.H2 = 0 ∧ x.H3 = 0
      · have hR := hsm (fun _ => hn) (fun h => absurd h hk)
        obtain ⟨z, fk, fn, b, eb, h1, h2, h3⟩ := hfin hR
        rw [← eb]
        exact rmay_oth x P I B w hr hk hn (sealed (wL x)) (sealed_wL_length x) z fk fn b h1 h2 (fun W => rencode_calls x W hR.small hR.other) h3
      · have hb : mayB x P I B = false := Bool.eq_false_iff.2 fun h => hn ((may_num h).other hk)
        rw [hb]
        refine rmay_ko x P I B w hr hk ?_
        rw [Bool.eq_false_iff]
        intro h
        simp only [Bool.and_eq_true, beq_iff_eq] at h
        exact hn h
  · have hb : mayB x P I B = false := Bool.eq_false_iff.2 fun h => hr (by
      have n := may_num h
      have := n.L; have := n.A; have := n.M; have := n.P; have := n.S; have := n.T; have := n.C; have := n.H0; have := n.H1; have := n.H2; have := n.H3
      exact ⟨by omega, by omega, by omega, by omega, by omega, by omega, by omega, by omega, by omega, by omega, by omega, by omega, by omega, by omega, by omega, by omega⟩)
    rw [hb]
    exact rmay_room x P I B w hr
end Go.Proofs.YtppnicdhahgigaaDoor
