/- The document's own: the first word of a block, and which blocks may be. -/
import Derived.Test.YtipghcpodhokbaaDoorSRef3
set_option linter.unusedSimpArgs false
set_option linter.unusedVariables false
namespace Go.Proofs.YtipghcpodhokbaaDoor
open Go.RowKit WordMath SumMath
theorem rhead_calls (n : Nat) (w : World) (hn : n < 256) : Calls Tryd.prog 18 #[.int .i64 (n : Nat)] w fun e w' => e = .returned (.int .u64 (headN n : Nat)) ∧ w = w' := by
  have wn : IntKind.u64.wrap (n : Int) = (n : Int) := by rw [IntKind.wrap_u64]; omega
  have wa : IntKind.u64.wrap ((n : Int) + 4920554438285852672) = ((headN n : Nat) : Int) := by rw [IntKind.wrap_u64]; unfold headN; simp; omega
  generalize headN n = h at *
  go_enter Tryd.func18, Tryd.ntmps18
  go_wp2_with (first | rw [wa])
  go_ret
  exact ⟨rfl, rfl⟩
/-- A slot in the middle of a block is loaded. -/
theorem run_loadM {a : Act} {o : Oper} {u : World} {y : Operand} (ho : o.op = .load 23 y) (g off : Nat) (x : Slt) (hx : a.eval y = .pointer (some ⟨g, off, none⟩)) (h : u.rangeAt g off [.int .i64 x.I, .int .u8 x.K, .string x.S]) : (execOp a.eval o).run Tryd.prog u = .ok (.value x.v) u := by
  unfold execOp
  simp only [ho, hx, Instr.loadAt, Instr.sureAddr, Sem.run_bind, Sem.run_pure, Result.andThen_ok, run_loadVar_mid (P := Tryd.prog) u g off 23 _ _ h Tryd.underlying23 rfl (by kernel_rfl)]
theorem Db.slot {w : World} {g : Nat} {b : Dbl} (h : Db w g b) (k : Nat) (hk : k < b.L.length) : w.rangeAt g (1 + k * 3) [.int .i64 (b.L.getD k zS).I, .int .u8 (b.L.getD k zS).K, .string (b.L.getD k zS).S] := fun j v hv => by
  obtain ⟨c0, c1, c2⟩ := Db.cells h k hk
  match j, hv with
  | 0, hv => injection hv with hv; subst hv; exact c0
  | 1, hv => injection hv with hv; subst hv; exact c1
  | 2, hv => injection hv with hv; subst hv; exact c2
  | j + 3, hv => simp at hv
/-- A block of a directory and a geometry, boxed one behind the other. -/
structure Dg (w0 w : World) (d : Dbl) (P I B : Int) : Prop where
  on : On w0 w
  blk : Db w w0.heap.size d
  geo : Gb w (w0.heap.size + 1) P I B
theorem Dg.on' {w0 w w' : World} {d : Dbl} {P I B : Int} (h : Dg w0 w d P I B) (hb : On w w') : Dg w0 w' d P I B := ⟨h.on.trans hb, Ob.on h.blk hb, Ob.on h.geo hb⟩
theorem Dg.new (w : World) (d : Dbl) (P I B : Int) : Dg w ((w.alloc (.cells d.c 26)).alloc (.cells #[.int .i64 P, .int .i64 I, .int .i64 B] 28)) d P I B :=
  ⟨on_two _ _ _, (Ob.new w _).alloc _, by
    have h := Ob.new (w.alloc (.cells d.c 26)) (.cells #[.int .i64 P, .int .i64 I, .int .i64 B] 28)
    rw [World.size_alloc] at h
    exact h⟩
set_option maxRecDepth 100000 in
set_option maxHeartbeats 4000000 in
theorem rmayb_go (d : Dbl) (P I B : Int) (w : World) (hL : d.L.length = 10) (hs : ∀ k, k < 10 → (d.L.getD k zS).S.size ≤ 9223372036854775807) (hg : GOK P I B) (h0 : 0 ≤ d.N) (h1 : d.N ≤ B) (r : Bool) (hr : (d.L.all fun x => okS x I) = r) :
    Calls Tryd.prog 19 #[d.v, gv P I B] w fun e w' => e = .returned (.bool r) ∧ On w w' := by
  have D0 := Lib.hid (Dg.new w d P I B)
  have HL := Lib.hid hL
  have HS := Lib.hid hs
  have HG := Lib.hid hg
  have HR := Lib.hid hr
  clear hL hs hg hr
  go_enter Tryd.func19, Tryd.ntmps19
  go_upto_region 1 with (fail)
  generalize (w.alloc (.cells d.c 26)).alloc (.cells #[.int .i64 P, .int .i64 I, .int .i64 B] 28) = W at *
  obtain ⟨g0, g1, g2⟩ := Gb.cells D0.out.geo
  have hlg := Ob.lt D0.out.geo
  go_wp2_with (fail)
  refine (may_yes P I B _ HG.out).mono ?_
  rintro e w1 ⟨rfl, hb⟩
  have D1 := Lib.hid (D0.out.on' hb)
  clear D0 g0 g1 g2 hlg hb
  obtain ⟨g0, g1, g2⟩ := Gb.cells D1.out.geo
  have hlg := Ob.lt D1.out.geo
  have n0 := Db.head D1.out.blk
  have hln := Ob.lt D1.out.blk
  have hd0 : decide (d.N < 0) = false := by rw [decide_eq_false_iff_not]; omega
  have hd1 : decide (B < d.N) = false := by rw [decide_eq_false_iff_not]; omega
  go_wp2_with (fail)
  clear g0 g1 g2 hlg n0 hln hd0 hd1
  go_loopw [5] (fun i wr => ∃ k : Nat, i = .int .i64 k ∧ k ≤ 10 ∧ Hid (∀ j, j < k → okS (d.L.getD j zS) I = true) ∧ Dg w wr d P I B) (fun i _ => 10 - (intOf i).toNat)
  case atStart => exact ⟨0, rfl, by decide, Lib.hid (fun j hj => absurd hj (Nat.not_lt_zero _)), D1.out⟩
  case round =>
    obtain ⟨k, rfl, hk, hok, hdg⟩ := hrel
    by_cases hk2 : k < 10
    · have hk10 : (k : Int) < 10 := by omega
      have HRG := Lib.hid (fun u (hb : On wr u) => Db.slot (Ob.on hdg.blk hb) k (by rw [HL.out]; exact hk2))
      have hm := fun W => rmay_good (d.L.getD k zS) P I B W (HS.out k hk2) HG.out
      have HGB := Lib.hid hdg.geo
      have HDG := Lib.hid hdg
      obtain ⟨x, hx⟩ : ∃ x, d.L.getD k zS = x := ⟨_, rfl⟩
      rw [hx] at HRG hm
      have HX := Lib.hid hx
      clear hdg hx
      cases ho : okS x I with
      | true =>
        rw [ho] at hm
        have HM := Lib.hid hm
        have hok2 := Lib.hid (show ∀ j, j < k + 1 → okS (d.L.getD j zS) I = true from fun j hj => by
          by_cases h : j < k
          · exact hok.out j h
          · obtain rfl : j = k := by omega
            rw [HX.out]; exact ho)
        clear hm hok ho
        go_upto_region 6 with (fail)
        refine wp_region4 [.val (.int .i64 (k : Nat)), .val (.pointer (some ⟨w.heap.size, 1, none⟩)), .val (.pointer (some ⟨w.heap.size, 1 + k * 3, none⟩)), .val (Slt.v x), .val (gv P I B), .val (.bool true), .val (.bool false)] (by kernel_rfl) (by kernel_rfl) (by kernel_rfl) ?steps ?rest
        case steps =>
          refine ⟨?s0, ?s1, ?s2, ?s3, ?s4, ?s5, ?s6, trivial⟩
          case s0 =>
            exact st4_val _ rfl (.inl rfl) fun a u hb hA hd => by
              have q0 := ev_of (show a.eval (.tmp 5) = .int .i64 (k : Nat) from hA.eval 5 rfl)
              unfold execOp
              simp [go_sem, q0]
          case s1 =>
            exact st4_val _ rfl (.inl rfl) fun a u hb hA hd => by
              have q0 := ev_of (show a.eval (.tmp 2) = .pointer (some ⟨w.heap.size, 0, none⟩) from hA.eval 2 rfl)
              unfold execOp
              simp [go_sem, q0]
          case s2 =>
            exact st4_val _ rfl (.inl rfl) fun a u hb hA hd => by
              have q0 := ev_of (hd 1 26 rfl rfl _ rfl)
              have q1 := ev_of (hd 0 25 rfl rfl _ rfl)
              unfold execOp
              simp [go_sem, q0, q1, hk10]
          case s3 =>
            exact st4_val _ rfl (.inl rfl) fun a u hb hA hd => run_loadM rfl w.heap.size (1 + k * 3) x (hd 2 27 rfl rfl _ rfl) (HRG.out u hb)
          case s4 =>
            exact st4_val _ rfl (.inl rfl) fun a u hb hA hd => run_loadG rfl (w.heap.size + 1) _ _ _ (hA.eval 3 rfl) (Ob.on HGB.out hb)
          case s5 =>
            refine st4_call _ rfl (.inl rfl) 13 #[x.v, gv P I B] fun a u hb hA hd => ⟨?_, HM.out u⟩
            have q0 := ev_of (hd 3 28 rfl rfl _ rfl)
            have q1 := ev_of (hd 4 29 rfl rfl _ rfl)
            unfold execOp
            simp [go_sem, q0, q1]
          case s6 =>
            exact st4_val _ rfl (.inl rfl) fun a u hb hA hd => by
              have q0 := ev_of (hd 5 30 rfl rfl _ rfl)
              unfold execOp
              simp [go_sem, q0]
        case rest =>
          intro vs u hb hR
          have e6 : vs 6 = .bool false := hR 6 (by decide)
          have D2 := Lib.hid (HDG.out.on' hb)
          simp only [putsFrom, Act.put, List.setIfInBounds_toArray, List.set_cons_succ, List.set_cons_zero, e6]
          generalize vs 0 = z0
          generalize vs 1 = z1
          generalize vs 2 = z2
          generalize vs 3 = z3
          generalize vs 4 = z4
          generalize vs 5 = z5
          clear hR e6 hb HDG HGB HRG HM
          go_wp2_with (fail)
          go_roundw
          case rel => exact ⟨k + 1, by go_num, by omega, hok2, D2.out⟩
          case measure => simp [intOf]; omega
      | false =>
        rw [ho] at hm
        have HM := Lib.hid hm
        have hr2 : r = false := by
          rw [← HR.out, Bool.eq_false_iff]
          intro h
          rw [List.all_eq_true] at h
          have hm2 : x ∈ d.L := by
            rw [← HX.out, List.getD_eq_getElem?_getD, List.getElem?_eq_getElem (by rw [HL.out]; exact hk2)]
            exact List.getElem_mem _
          rw [h x hm2] at ho
          cases ho
        subst hr2
        clear hm hok ho HR
        go_upto_region 6 with (fail)
        refine wp_region4 [.val (.int .i64 (k : Nat)), .val (.pointer (some ⟨w.heap.size, 1, none⟩)), .val (.pointer (some ⟨w.heap.size, 1 + k * 3, none⟩)), .val (Slt.v x), .val (gv P I B), .val (.bool false), .val (.bool true)] (by kernel_rfl) (by kernel_rfl) (by kernel_rfl) ?steps2 ?rest2
        case steps2 =>
          refine ⟨?s0, ?s1, ?s2, ?s3, ?s4, ?s5, ?s6, trivial⟩
          case s0 =>
            exact st4_val _ rfl (.inl rfl) fun a u hb hA hd => by
              have q0 := ev_of (show a.eval (.tmp 5) = .int .i64 (k : Nat) from hA.eval 5 rfl)
              unfold execOp
              simp [go_sem, q0]
          case s1 =>
            exact st4_val _ rfl (.inl rfl) fun a u hb hA hd => by
              have q0 := ev_of (show a.eval (.tmp 2) = .pointer (some ⟨w.heap.size, 0, none⟩) from hA.eval 2 rfl)
              unfold execOp
              simp [go_sem, q0]
          case s2 =>
            exact st4_val _ rfl (.inl rfl) fun a u hb hA hd => by
              have q0 := ev_of (hd 1 26 rfl rfl _ rfl)
              have q1 := ev_of (hd 0 25 rfl rfl _ rfl)
              unfold execOp
              simp [go_sem, q0, q1, hk10]
          case s3 =>
            exact st4_val _ rfl (.inl rfl) fun a u hb hA hd => run_loadM rfl w.heap.size (1 + k * 3) x (hd 2 27 rfl rfl _ rfl) (HRG.out u hb)
          case s4 =>
            exact st4_val _ rfl (.inl rfl) fun a u hb hA hd => run_loadG rfl (w.heap.size + 1) _ _ _ (hA.eval 3 rfl) (Ob.on HGB.out hb)
          case s5 =>
            refine st4_call _ rfl (.inl rfl) 13 #[x.v, gv P I B] fun a u hb hA hd => ⟨?_, HM.out u⟩
            have q0 := ev_of (hd 3 28 rfl rfl _ rfl)
            have q1 := ev_of (hd 4 29 rfl rfl _ rfl)
            unfold execOp
            simp [go_sem, q0, q1]
          case s6 =>
            exact st4_val _ rfl (.inl rfl) fun a u hb hA hd => by
              have q0 := ev_of (hd 5 30 rfl rfl _ rfl)
              unfold execOp
              simp [go_sem, q0]
        case rest2 =>
          intro vs u hb hR
          have e6 : vs 6 = .bool true := hR 6 (by decide)
          have D2 := (HDG.out.on' hb).on
          simp only [putsFrom, Act.put, List.setIfInBounds_toArray, List.set_cons_succ, List.set_cons_zero, e6]
          generalize vs 0 = z0
          generalize vs 1 = z1
          generalize vs 2 = z2
          generalize vs 3 = z3
          generalize vs 4 = z4
          generalize vs 5 = z5
          clear hR e6 hb HDG HGB HRG HM
          go_wp2_with (fail)
          go_ret
          exact ⟨rfl, D2⟩
    · obtain rfl : k = 10 := by omega
      have hr2 : r = true := by
        rw [← HR.out, List.all_eq_true]
        intro x hx
        obtain ⟨j, hj, rfl⟩ := List.getElem_of_mem hx
        have h := hok.out j (by have := HL.out; omega)
        rwa [List.getD_eq_getElem?_getD, List.getElem?_eq_getElem hj] at h
      subst hr2
      have hon := hdg.on
      clear hdg HR hok
      go_wp2_with (fail)
      go_ret
      exact ⟨rfl, hon⟩
set_option maxRecDepth 100000 in
set_option maxHeartbeats 1000000 in
theorem rmayb_bad (d : Dbl) (P I B : Int) (w : World) (h : ¬ GOK P I B ∨ d.N < 0 ∨ B < d.N) :
    Calls Tryd.prog 19 #[d.v, gv P I B] w fun e w' => e = .returned (.bool false) ∧ On w w' := by
  have D0 := Lib.hid (Dg.new w d P I B)
  by_cases hg : GOK P I B
  · have HG := Lib.hid hg
    have hh : d.N < 0 ∨ (0 ≤ d.N ∧ B < d.N) := by
      rcases h with h | h | h
      · exact absurd hg h
      · exact .inl h
      · by_cases h0 : d.N < 0
        · exact .inl h0
        · exact .inr ⟨by omega, h⟩
    clear h hg
    rcases hh with h0 | ⟨h0, h1⟩
    all_goals
      go_enter Tryd.func19, Tryd.ntmps19
      go_upto_region 1 with (fail)
      generalize (w.alloc (.cells d.c 26)).alloc (.cells #[.int .i64 P, .int .i64 I, .int .i64 B] 28) = W at *
      obtain ⟨g0, g1, g2⟩ := Gb.cells D0.out.geo
      have hlg := Ob.lt D0.out.geo
      go_wp2_with (fail)
      refine (may_yes P I B _ HG.out).mono ?_
      rintro e w1 ⟨rfl, hb⟩
      have D1 := Lib.hid (D0.out.on' hb)
      clear D0 g0 g1 g2 hlg hb
      obtain ⟨g0, g1, g2⟩ := Gb.cells D1.out.geo
      have hlg := Ob.lt D1.out.geo
      have n0 := Db.head D1.out.blk
      have hln := Ob.lt D1.out.blk
    · have hd0 : decide (d.N < 0) = true := decide_eq_true h0
      go_wp2_with (fail)
      go_ret
      exact ⟨rfl, D1.out.on⟩
    · have hd0 : decide (d.N < 0) = false := by rw [decide_eq_false_iff_not]; omega
      have hd1 : decide (B < d.N) = true := decide_eq_true h1
      go_wp2_with (fail)
      go_ret
      exact ⟨rfl, D1.out.on⟩
  · have HG := Lib.hid hg
    clear h hg
    go_enter Tryd.func19, Tryd.ntmps19
    go_upto_region 1 with (fail)
    generalize (w.alloc (.cells d.c 26)).alloc (.cells #[.int .i64 P, .int .i64 I, .int .i64 B] 28) = W at *
    obtain ⟨g0, g1, g2⟩ := Gb.cells D0.out.geo
    have hlg := Ob.lt D0.out.geo
    go_wp2_with (fail)
    refine (may_no P I B _ HG.out).mono ?_
    rintro e w1 ⟨rfl, hb⟩
    have D1 := (D0.out.on' hb).on
    clear D0 g0 g1 g2 hlg hb
    go_wp2_with (fail)
    go_ret
    exact ⟨rfl, D1⟩
theorem rmayb_calls (d : Dbl) (P I B : Int) (w : World) (hL : d.L.length = 10) (hs : ∀ k, k < 10 → (d.L.getD k zS).S.size ≤ 9223372036854775807) :
    Calls Tryd.prog 19 #[d.v, gv P I B] w fun e w' => e = .returned (.bool (mayD d P I B)) ∧ On w w' := by
  by_cases h : GOK P I B ∧ 0 ≤ d.N ∧ d.N ≤ B
  · have e : mayD d P I B = d.L.all fun x => okS x I := by
      unfold mayD okD
      rw [decide_eq_true h.1, decide_eq_true h.2, Bool.true_and, Bool.true_and]
    rw [e]
    exact rmayb_go d P I B w hL hs h.1 h.2.1 h.2.2 _ rfl
  · have e : mayD d P I B = false := by
      rw [Bool.eq_false_iff]
      intro hm
      unfold mayD okD at hm
      simp only [Bool.and_eq_true, decide_eq_true_eq] at hm
      exact h ⟨hm.1, hm.2.1⟩
    rw [e]
    refine rmayb_bad d P I B w ?_
    by_cases hg : GOK P I B
    · right
      by_cases h0 : d.N < 0
      · exact .inl h0
      · right
        refine Int.not_le.1 fun h1 => h ⟨hg, by omega, h1⟩
    · exact .inl hg
end Go.Proofs.YtipghcpodhokbaaDoor
