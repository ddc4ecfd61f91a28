/- AclSmall: whatever it is called with, it hands back true. -/
import Derived.Test.YtcjaebcninlhlaaAcStp
set_option linter.unusedSimpArgs false
set_option linter.unusedVariables false
namespace Go.Proofs.Ytcjaebcninlhlaa
open Go.RowKit
theorem nb_of (b : Nat) : Nb (ofA b) := ⟨by simp only [ofA]; omega, by simp only [ofA]; omega, by simp only [ofA]; omega, by simp only [ofA]; omega, fun k p h => by simp [ofA] at h⟩
theorem may_of (b : Nat) : mayB (ofA b) = true := mayB_iff.2 ⟨by simp only [ofA]; omega, by simp only [ofA]; omega, by simp only [ofA]; omega, by simp [ofA], namedB_nil, namedB_nil, fun _ => ⟨rfl, rfl, rfl⟩⟩
theorem bits_of (b : Nat) : bitsN (ofA b) = b % 512 := by
  show b / 64 % 8 % 8 * 64 + b / 8 % 8 % 8 * 8 + b % 8 % 8 = b % 512
  omega
theorem of_bits {x : Ac} (h : May x) (hm : x.hm = false) : ofA (bitsN x) = x := by
  obtain ⟨h1, h2, h3⟩ := h.small hm
  have hw := h.ow
  have hg := h.gr
  have ho := h.ot
  obtain ⟨ow, gr, ot, us, gs, m, ms⟩ := x
  simp only at hm h1 h2 h3 hw hg ho
  subst hm
  obtain rfl := List.eq_nil_of_length_eq_zero h2
  obtain rfl := List.eq_nil_of_length_eq_zero h3
  subst h1
  have e : bitsN ⟨ow, gr, ot, [], [], false, 0⟩ = ow * 64 + gr * 8 + ot := by
    show ow % 8 * 64 + gr % 8 * 8 + ot % 8 = _
    omega
  rw [e]
  unfold ofA
  have e1 : (ow * 64 + gr * 8 + ot) / 64 % 8 = ow := by omega
  have e2 : (ow * 64 + gr * 8 + ot) / 8 % 8 = gr := by omega
  have e3 : (ow * 64 + gr * 8 + ot) % 8 = ot := by omega
  rw [e1, e2, e3]
theorem lsame_self (x : Ac) (p q : Lie) (w : World) (h1 : Lies w x p) (h2 : Lies w x q) (hs : Sm x) : Calls Try.prog 13 #[x.v p, x.v q] w fun e w' => e = .returned (.bool true) ∧ Below w.heap.size w w' := by
  have c := lsame_calls x x p q w h1 h2 hs hs
  rw [sameB_self] at c
  exact c
theorem rlsame_self (x : Ac) (p q : Lie) (w : World) (h1 : Lies w x p) (h2 : Lies w x q) (hs : Sm x) : Calls Try.prog 14 #[x.v p, x.v q] w fun e w' => e = .returned (.bool true) ∧ Below w.heap.size w w' := by
  have c := rlsame_calls x x p q w h1 h2 hs hs
  rw [sameB_self] at c
  exact c
/-- A small list. -/
abbrev ac3 (i j k : Nat) : Ac := ⟨i, j, k, [], [], false, 0⟩
theorem bits_lt (x : Ac) : bitsN x < 65536 := by unfold bitsN; omega
set_option maxRecDepth 100000 in
set_option maxHeartbeats 4000000 in
theorem small_law (b : Nat) (x : Ac) (p : Lie) (w : World) (h : Lies w x p) (hs : Bg x) (hx : Nb x) (hb : b < 65536) :
    Calls Try.prog 7 #[.int .u16 (b : Nat), x.v p] w fun e w' => e = .returned (.bool true) ∧ Below w.heap.size w w' := by
  obtain ⟨U, hU⟩ : ∃ U, U = w.alloc (.cells (x.c p) 24) := ⟨_, rfl⟩
  have z := Ab.new w x p
  have hbU : Below w.heap.size w (w.alloc (.cells (x.c p) 24)) := (Below.refl _ _).alloc (Nat.le_refl _) _
  rw [← hU] at z hbU
  obtain ⟨bx, hbx⟩ : ∃ g, g = w.heap.size := ⟨_, rfl⟩
  have HLI := Lib.hid (h.below hbU)
  have HBU := Lib.hid hbU
  obtain ⟨lg, hlg⟩ : ∃ lg, (decide (100 < x.us.length) || decide (100 < x.gs.length)) = lg := ⟨_, rfl⟩
  have hla := large_calls x p U hs
  rw [hlg] at hla
  have HLA := Lib.hid hla
  have HLG := Lib.hid hlg
  have HNB := Lib.hid hx
  have HU := Lib.hid hU
  rw [← hbx] at z
  have HZ := Lib.hid z
  have HBX := Lib.hid hbx
  clear h hs hx hlg hla hU z hbU hbx
  go_enter Try.func7, Try.ntmps7
  go_upto_region 1 with (fail)
  rw [← HU.out, ← HBX.out]
  clear HU HBX
  obtain ⟨y0, y1, y2, y3, y4, y5, y6⟩ := HZ.out.cells
  go_wp2_with (fail)
  refine HLA.out.mono ?_
  rintro e w1 ⟨rfl, hb1⟩
  clear y0 y1 y2 y3 y4 y5 y6 HLA
  have HZ1 := Lib.hid (HZ.out.on hb1)
  have HL1 := Lib.hid (HLI.out.below hb1)
  have HB1 := Lib.hid (HBU.out.trans (hb1.mono HBU.out.size))
  clear hb1 HZ HLI HBU
  cases lg
  case true =>
    go_wp2_with (fail)
    refine (alive_calls _).mono ?_
    rintro e w2 ⟨rfl, hb2⟩
    have HB2 := Lib.hid (HB1.out.trans (hb2.mono HB1.out.size))
    clear hb2 HB1
    go_wp2_with (fail)
    go_ret
    exact ⟨rfl, HB2.out⟩
  case false =>
  have HSM : Hid (Sm x) := Lib.hid (sm_of_small HLG.out)
  go_wp2_with (fail)
  refine (of_calls b w1 hb).mono ?_
  rintro e w2 ⟨⟨A1, c1, B1, d1⟩, rfl, hC, hb2⟩
  obtain ⟨i0, i1, i2, hX⟩ : ∃ i0 i1 i2, ofA b = ac3 i0 i1 i2 := ⟨_, _, _, rfl⟩
  have q1 : mayB (ac3 i0 i1 i2) = true := by rw [← hX]; exact may_of b
  have q2 : ((bitsN (ac3 i0 i1 i2) : Nat) : Int) = (b : Int) % 512 := by rw [← hX, bits_of]; omega
  have q4 : Sm (ac3 i0 i1 i2) := by rw [← hX]; exact sm_of b
  have q5 : Nb (ac3 i0 i1 i2) := by rw [← hX]; exact nb_of b
  rw [hX] at hC ⊢
  have Q1 := Lib.hid q1
  have Q2 := Lib.hid q2
  have Q4 := Lib.hid q4
  have Q5 := Lib.hid q5
  have HC := Lib.hid hC
  have HBB := Lib.hid hb2
  clear hX q1 q2 q4 q5 hC hb2
  go_upto_region 4 with (fail)
  obtain ⟨V, hV⟩ : ∃ V, V = w2.alloc (.cells #[.int .u8 (i0 : Nat), .int .u8 (i1 : Nat), .int .u8 (i2 : Nat), .slice A1 0 c1, .slice B1 0 d1, .bool false, .int .u8 0] 24) := ⟨_, rfl⟩
  have z5 : Ab V w2.heap.size (ac3 i0 i1 i2) ⟨A1, c1, B1, d1⟩ := by rw [hV]; exact Ab.new w2 (ac3 i0 i1 i2) ⟨A1, c1, B1, d1⟩
  have hbV : Below w2.heap.size w2 V := by rw [hV]; exact (Below.refl _ _).alloc (Nat.le_refl _) _
  have H0 : Hid (Both w V bx w2.heap.size x (ac3 i0 i1 i2) p ⟨A1, c1, B1, d1⟩) := Lib.hid ⟨(HZ1.out.on HBB.out).on hbV, z5, (HL1.out.below HBB.out).below hbV, HC.out.lies.below hbV, (HB1.out.trans (HBB.out.mono HB1.out.size)).trans (hbV.mono (Nat.le_trans HB1.out.size HBB.out.size))⟩
  obtain ⟨g5, hg5⟩ : ∃ g, g = w2.heap.size := ⟨_, rfl⟩
  rw [← hV, ← hg5]
  rw [← hg5] at H0
  clear hV z5 hbV hg5 HC HBB HZ1 HL1 HB1
  obtain ⟨v0, v1, v2, v3, v4, v5, v6⟩ := H0.out.two.cells
  go_wp2_with (fail)
  clear v0 v1 v2 v3 v4 v5 v6
  have c := check_calls (ac3 i0 i1 i2) ⟨A1, c1, B1, d1⟩ V H0.out.row2 Q4.out
  rw [Q1.out] at c
  refine c.mono ?_
  clear c
  rintro e w3 ⟨rfl, hb3⟩
  have H1 := Lib.hid (H0.out.on hb3)
  clear hb3 H0
  obtain ⟨v0, v1, v2, v3, v4, v5, v6⟩ := H1.out.two.cells
  go_wp2_with (fail)
  clear v0 v1 v2 v3 v4 v5 v6
  have c := bits_calls (ac3 i0 i1 i2) ⟨A1, c1, B1, d1⟩ w3 Q5.out
  rw [Q2.out] at c
  refine c.mono ?_
  clear c
  rintro e w4 ⟨rfl, hb4⟩
  have H2 := Lib.hid (H1.out.on hb4)
  clear hb4 H1
  go_upto_region 6 with (fail)
  cases hmm : x.hm
  case true =>
    have HMM := Lib.hid hmm
    clear hmm
    refine wp_region4 [.val (.pointer (some ⟨bx, 5, none⟩)), .val (.bool true), .val (.bool true), .any, .any, .any, .any, .val (.bool true), .val (.bool true), .any, .any, .any, .any, .any, .val (.bool true), .val (.bool true), .val (.bool true), .val (.bool true), .val (.bool true)] (by kernel_rfl) (by kernel_rfl) (by kernel_rfl) ?steps ?rest
    case steps =>
      refine ⟨?s0, ?s1, ?s2, ?s3, ?s4, ?s5, ?s6, ?s7, ?s8, ?s9, ?s10, ?s11, ?s12, ?s13, ?s14, ?s15, ?s16, ?s17, ?s18, trivial⟩
      case s0 =>
        exact st4_val _ rfl (.inl rfl) fun a u hb hA hd => by
          have q0 := ev_of (show a.eval (.tmp 3) = (.pointer (some ⟨bx, 0, none⟩)) from hA.eval 3 rfl)
          unfold execOp
          simp [go_sem, q0]
      case s1 =>
        exact st4_val _ rfl (.inl rfl) fun a u hb hA hd => by
          have q0 := ev_of (hd 0 25 rfl rfl _ rfl)
          unfold execOp
          simp [go_sem, q0, (show u.cell? ⟨bx, 5, none⟩ = some (.bool true) from by rw [← HMM.out]; exact (H2.out.one.on hb).cell 5)]
      case s2 => exact st4_move 1 26 rfl (.inl rfl) rfl rfl rfl
      case s3 => exact st4_skip 2 27 true rfl rfl rfl rfl rfl
      case s4 => exact st4_skip 2 27 true rfl rfl rfl rfl rfl
      case s5 => exact st4_skip 2 27 true rfl rfl rfl rfl rfl
      case s6 => exact st4_skip 2 27 true rfl rfl rfl rfl rfl
      case s7 => exact st4_val _ rfl (.inl rfl) fun a u hb hA hd => (run_pickT rfl (hd 2 27 rfl rfl _ rfl)).trans rfl
      case s8 => exact st4_move 7 32 rfl (.inl rfl) rfl rfl rfl
      case s9 => exact st4_skip 8 33 true rfl rfl rfl rfl rfl
      case s10 => exact st4_skip 8 33 true rfl rfl rfl rfl rfl
      case s11 => exact st4_skip 8 33 true rfl rfl rfl rfl rfl
      case s12 => exact st4_skip 8 33 true rfl rfl rfl rfl rfl
      case s13 => exact st4_skip 8 33 true rfl rfl rfl rfl rfl
      case s14 => exact st4_val _ rfl (.inl rfl) fun a u hb hA hd => (run_pickT rfl (hd 8 33 rfl rfl _ rfl)).trans rfl
      case s15 => exact st4_move 14 39 rfl (.inl rfl) rfl rfl rfl
      case s16 =>
        refine st4_call _ rfl (.inr ⟨15, 40, true, rfl, rfl, rfl, rfl⟩) 9 fun a u hb hA hd => ?_
        refine ⟨#[], ?_, (alive_calls u).mono ?_⟩
        · unfold execOp
          simp [go_sem]
        · rintro e w' ⟨rfl, hb'⟩
          exact ⟨_, rfl, rfl, hb'⟩
      case s17 => exact st4_val _ rfl (.inl rfl) fun a u hb hA hd => (run_pickT rfl (hd 15 40 rfl rfl _ rfl)).trans (by rw [hd 16 41 rfl rfl _ rfl])
      case s18 => exact st4_assign 17 42 rfl (.inl rfl) rfl rfl rfl
    case rest =>
      intro vs u hb hR
      have e18 : vs 18 = .bool true := hR 18 (by decide)
      simp only [putsFrom, Act.put, List.setIfInBounds_toArray, List.set_cons_succ, List.set_cons_zero, e18]
      generalize vs 0 = z0
      generalize vs 1 = z1
      generalize vs 2 = z2
      generalize vs 3 = z3
      generalize vs 4 = z4
      generalize vs 5 = z5
      generalize vs 6 = z6
      generalize vs 7 = z7
      generalize vs 8 = z8
      generalize vs 9 = z9
      generalize vs 10 = z10
      generalize vs 11 = z11
      generalize vs 12 = z12
      generalize vs 13 = z13
      generalize vs 14 = z14
      generalize vs 15 = z15
      generalize vs 16 = z16
      generalize vs 17 = z17
      have BW := Lib.hid (H2.out.low.trans (hb.mono H2.out.low.size))
      clear hR e18 hb
      go_wp2_with (fail)
      go_ret
      exact ⟨rfl, BW.out⟩
  case false =>
    have HMM := Lib.hid hmm
    cases hmy : mayB x
    case false =>
      have HCK : Hid (∀ (q : Lie) (u : World), Lies u x q → Calls Try.prog 11 #[x.v q] u fun e w' => e = .returned (.int .i64 622) ∧ Below u.heap.size u w') := Lib.hid (fun q u hl => by
        have c := check_calls x q u hl HSM.out
        rw [hmy] at c
        exact c)
      clear hmm hmy
      refine wp_region4 [.val (.pointer (some ⟨bx, 5, none⟩)), .val (.bool false), .val (.bool false), .val (x.v p), .acl x, .val (.int .i64 622), .val (.bool true), .val (.bool true), .val (.bool true), .any, .any, .any, .any, .any, .val (.bool true), .val (.bool true), .val (.bool true), .val (.bool true), .val (.bool true)] (by kernel_rfl) (by kernel_rfl) (by kernel_rfl) ?steps ?rest
      case steps =>
        refine ⟨?s0, ?s1, ?s2, ?s3, ?s4, ?s5, ?s6, ?s7, ?s8, ?s9, ?s10, ?s11, ?s12, ?s13, ?s14, ?s15, ?s16, ?s17, ?s18, trivial⟩
        case s0 =>
          exact st4_val _ rfl (.inl rfl) fun a u hb hA hd => by
            have q0 := ev_of (show a.eval (.tmp 3) = (.pointer (some ⟨bx, 0, none⟩)) from hA.eval 3 rfl)
            unfold execOp
            simp [go_sem, q0]
        case s1 =>
          exact st4_val _ rfl (.inl rfl) fun a u hb hA hd => by
            have q0 := ev_of (hd 0 25 rfl rfl _ rfl)
            unfold execOp
            simp [go_sem, q0, (show u.cell? ⟨bx, 5, none⟩ = some (.bool false) from by rw [← HMM.out]; exact (H2.out.one.on hb).cell 5)]
        case s2 => exact st4_move 1 26 rfl (.inl rfl) rfl rfl rfl
        case s3 =>
          refine st4_val _ rfl (.inr ⟨2, 27, false, rfl, rfl, rfl, rfl⟩) fun a u hb hA hd => ?_
          exact run_loadA rfl bx x p (hA.eval 3 rfl) (H2.out.one.on hb)
        case s4 =>
          refine st4_call _ rfl (.inr ⟨2, 27, false, rfl, rfl, rfl, rfl⟩) 12 fun a u hb hA hd => ?_
          have k0 := ev_of (show a.eval (.tmp 28) = x.v p from hd 3 28 rfl rfl _ rfl)
          refine ⟨#[x.v p], ?_, (rcopy_calls x p u (H2.out.row1.below hb) HSM.out).mono ?_⟩
          · unfold execOp
            simp [go_sem, k0]
          · rintro e w' ⟨q, rfl, hC, hb'⟩
            exact ⟨_, rfl, ⟨q, rfl, hC.lies⟩, hb'⟩
        case s5 =>
          refine st4_call _ rfl (.inr ⟨2, 27, false, rfl, rfl, rfl, rfl⟩) 11 fun a u hb hA hd => ?_
          obtain ⟨q0, e0, hl0⟩ := (show ∃ p, a.eval (.tmp 29) = Ac.v x p ∧ Lies u x p from hd 4 29 rfl rfl _ rfl)
          have k0 := ev_of e0
          refine ⟨#[x.v q0], ?_, (HCK.out q0 u hl0).mono ?_⟩
          · unfold execOp
            simp [go_sem, k0]
          · rintro e w' ⟨rfl, hb'⟩
            exact ⟨_, rfl, rfl, hb'⟩
        case s6 =>
          exact st4_val _ rfl (.inr ⟨2, 27, false, rfl, rfl, rfl, rfl⟩) fun a u hb hA hd => by
            have q0 := ev_of (hd 5 30 rfl rfl _ rfl)
            unfold execOp
            simp [go_sem, q0]
        case s7 => exact st4_val _ rfl (.inl rfl) fun a u hb hA hd => (run_pickF rfl (hd 2 27 rfl rfl _ rfl)).trans (by rw [hd 6 31 rfl rfl _ rfl])
        case s8 => exact st4_move 7 32 rfl (.inl rfl) rfl rfl rfl
        case s9 => exact st4_skip 8 33 true rfl rfl rfl rfl rfl
        case s10 => exact st4_skip 8 33 true rfl rfl rfl rfl rfl
        case s11 => exact st4_skip 8 33 true rfl rfl rfl rfl rfl
        case s12 => exact st4_skip 8 33 true rfl rfl rfl rfl rfl
        case s13 => exact st4_skip 8 33 true rfl rfl rfl rfl rfl
        case s14 => exact st4_val _ rfl (.inl rfl) fun a u hb hA hd => (run_pickT rfl (hd 8 33 rfl rfl _ rfl)).trans rfl
        case s15 => exact st4_move 14 39 rfl (.inl rfl) rfl rfl rfl
        case s16 =>
          refine st4_call _ rfl (.inr ⟨15, 40, true, rfl, rfl, rfl, rfl⟩) 9 fun a u hb hA hd => ?_
          refine ⟨#[], ?_, (alive_calls u).mono ?_⟩
          · unfold execOp
            simp [go_sem]
          · rintro e w' ⟨rfl, hb'⟩
            exact ⟨_, rfl, rfl, hb'⟩
        case s17 => exact st4_val _ rfl (.inl rfl) fun a u hb hA hd => (run_pickT rfl (hd 15 40 rfl rfl _ rfl)).trans (by rw [hd 16 41 rfl rfl _ rfl])
        case s18 => exact st4_assign 17 42 rfl (.inl rfl) rfl rfl rfl
      case rest =>
        intro vs u hb hR
        have e18 : vs 18 = .bool true := hR 18 (by decide)
        simp only [putsFrom, Act.put, List.setIfInBounds_toArray, List.set_cons_succ, List.set_cons_zero, e18]
        generalize vs 0 = z0
        generalize vs 1 = z1
        generalize vs 2 = z2
        generalize vs 3 = z3
        generalize vs 4 = z4
        generalize vs 5 = z5
        generalize vs 6 = z6
        generalize vs 7 = z7
        generalize vs 8 = z8
        generalize vs 9 = z9
        generalize vs 10 = z10
        generalize vs 11 = z11
        generalize vs 12 = z12
        generalize vs 13 = z13
        generalize vs 14 = z14
        generalize vs 15 = z15
        generalize vs 16 = z16
        generalize vs 17 = z17
        have BW := Lib.hid (H2.out.low.trans (hb.mono H2.out.low.size))
        clear hR e18 hb
        go_wp2_with (fail)
        go_ret
        exact ⟨rfl, BW.out⟩
    case true =>
      have HCK : Hid (∀ (q : Lie) (u : World), Lies u x q → Calls Try.prog 11 #[x.v q] u fun e w' => e = .returned (.int .i64 0) ∧ Below u.heap.size u w') := Lib.hid (fun q u hl => by
        have c := check_calls x q u hl HSM.out
        rw [hmy] at c
        exact c)
      have HOC : Hid (∀ (u : World), Calls Try.prog 19 #[.int .u16 (bitsN x : Nat)] u fun e w' => ∃ q, e = .returned (x.v q) ∧ Copied u w' x q ∧ Below u.heap.size u w') := Lib.hid (fun u => by
        have c := of_calls (bitsN x) u (bits_lt x)
        rw [of_bits (mayB_iff.1 hmy) hmm] at c
        exact c)
      clear hmm hmy
      refine wp_region4 [.val (.pointer (some ⟨bx, 5, none⟩)), .val (.bool false), .val (.bool false), .val (x.v p), .acl x, .val (.int .i64 0), .val (.bool false), .val (.bool false), .val (.bool false), .val (x.v p), .val (.int .u16 (bitsN x : Nat)), .acl x, .val (x.v p), .val (.bool true), .val (.bool true), .val (.bool true), .val (.bool true), .val (.bool true), .val (.bool true)] (by kernel_rfl) (by kernel_rfl) (by kernel_rfl) ?steps ?rest
      case steps =>
        refine ⟨?s0, ?s1, ?s2, ?s3, ?s4, ?s5, ?s6, ?s7, ?s8, ?s9, ?s10, ?s11, ?s12, ?s13, ?s14, ?s15, ?s16, ?s17, ?s18, trivial⟩
        case s0 =>
          exact st4_val _ rfl (.inl rfl) fun a u hb hA hd => by
            have q0 := ev_of (show a.eval (.tmp 3) = (.pointer (some ⟨bx, 0, none⟩)) from hA.eval 3 rfl)
            unfold execOp
            simp [go_sem, q0]
        case s1 =>
          exact st4_val _ rfl (.inl rfl) fun a u hb hA hd => by
            have q0 := ev_of (hd 0 25 rfl rfl _ rfl)
            unfold execOp
            simp [go_sem, q0, (show u.cell? ⟨bx, 5, none⟩ = some (.bool false) from by rw [← HMM.out]; exact (H2.out.one.on hb).cell 5)]
        case s2 => exact st4_move 1 26 rfl (.inl rfl) rfl rfl rfl
        case s3 =>
          refine st4_val _ rfl (.inr ⟨2, 27, false, rfl, rfl, rfl, rfl⟩) fun a u hb hA hd => ?_
          exact run_loadA rfl bx x p (hA.eval 3 rfl) (H2.out.one.on hb)
        case s4 =>
          refine st4_call _ rfl (.inr ⟨2, 27, false, rfl, rfl, rfl, rfl⟩) 12 fun a u hb hA hd => ?_
          have k0 := ev_of (show a.eval (.tmp 28) = x.v p from hd 3 28 rfl rfl _ rfl)
          refine ⟨#[x.v p], ?_, (rcopy_calls x p u (H2.out.row1.below hb) HSM.out).mono ?_⟩
          · unfold execOp
            simp [go_sem, k0]
          · rintro e w' ⟨q, rfl, hC, hb'⟩
            exact ⟨_, rfl, ⟨q, rfl, hC.lies⟩, hb'⟩
        case s5 =>
          refine st4_call _ rfl (.inr ⟨2, 27, false, rfl, rfl, rfl, rfl⟩) 11 fun a u hb hA hd => ?_
          obtain ⟨q0, e0, hl0⟩ := (show ∃ p, a.eval (.tmp 29) = Ac.v x p ∧ Lies u x p from hd 4 29 rfl rfl _ rfl)
          have k0 := ev_of e0
          refine ⟨#[x.v q0], ?_, (HCK.out q0 u hl0).mono ?_⟩
          · unfold execOp
            simp [go_sem, k0]
          · rintro e w' ⟨rfl, hb'⟩
            exact ⟨_, rfl, rfl, hb'⟩
        case s6 =>
          exact st4_val _ rfl (.inr ⟨2, 27, false, rfl, rfl, rfl, rfl⟩) fun a u hb hA hd => by
            have q0 := ev_of (hd 5 30 rfl rfl _ rfl)
            unfold execOp
            simp [go_sem, q0]
        case s7 => exact st4_val _ rfl (.inl rfl) fun a u hb hA hd => (run_pickF rfl (hd 2 27 rfl rfl _ rfl)).trans (by rw [hd 6 31 rfl rfl _ rfl])
        case s8 => exact st4_move 7 32 rfl (.inl rfl) rfl rfl rfl
        case s9 =>
          refine st4_val _ rfl (.inr ⟨8, 33, false, rfl, rfl, rfl, rfl⟩) fun a u hb hA hd => ?_
          exact run_loadA rfl bx x p (hA.eval 3 rfl) (H2.out.one.on hb)
        case s10 =>
          refine st4_call _ rfl (.inr ⟨8, 33, false, rfl, rfl, rfl, rfl⟩) 17 fun a u hb hA hd => ?_
          have k0 := ev_of (show a.eval (.tmp 34) = x.v p from hd 9 34 rfl rfl _ rfl)
          refine ⟨#[x.v p], ?_, (bits_calls x p u HNB.out).mono ?_⟩
          · unfold execOp
            simp [go_sem, k0]
          · rintro e w' ⟨rfl, hb'⟩
            exact ⟨_, rfl, rfl, hb'⟩
        case s11 =>
          refine st4_call _ rfl (.inr ⟨8, 33, false, rfl, rfl, rfl, rfl⟩) 19 fun a u hb hA hd => ?_
          have k0 := ev_of (show a.eval (.tmp 35) = .int .u16 (bitsN x : Nat) from hd 10 35 rfl rfl _ rfl)
          refine ⟨#[.int .u16 (bitsN x : Nat)], ?_, (HOC.out u).mono ?_⟩
          · unfold execOp
            simp [go_sem, k0]
          · rintro e w' ⟨q, rfl, hC, hb'⟩
            exact ⟨_, rfl, ⟨q, rfl, hC.lies⟩, hb'⟩
        case s12 =>
          refine st4_val _ rfl (.inr ⟨8, 33, false, rfl, rfl, rfl, rfl⟩) fun a u hb hA hd => ?_
          exact run_loadA rfl bx x p (hA.eval 3 rfl) (H2.out.one.on hb)
        case s13 =>
          refine st4_call _ rfl (.inr ⟨8, 33, false, rfl, rfl, rfl, rfl⟩) 13 fun a u hb hA hd => ?_
          obtain ⟨q0, e0, hl0⟩ := (show ∃ p, a.eval (.tmp 36) = Ac.v x p ∧ Lies u x p from hd 11 36 rfl rfl _ rfl)
          have k0 := ev_of e0
          have k1 := ev_of (show a.eval (.tmp 37) = x.v p from hd 12 37 rfl rfl _ rfl)
          refine ⟨#[x.v q0, x.v p], ?_, (lsame_self x q0 p u hl0 (H2.out.row1.below hb) HSM.out).mono ?_⟩
          · unfold execOp
            simp [go_sem, k0, k1]
          · rintro e w' ⟨rfl, hb'⟩
            exact ⟨_, rfl, rfl, hb'⟩
        case s14 => exact st4_val _ rfl (.inl rfl) fun a u hb hA hd => (run_pickF rfl (hd 8 33 rfl rfl _ rfl)).trans (by rw [hd 13 38 rfl rfl _ rfl])
        case s15 => exact st4_move 14 39 rfl (.inl rfl) rfl rfl rfl
        case s16 =>
          refine st4_call _ rfl (.inr ⟨15, 40, true, rfl, rfl, rfl, rfl⟩) 9 fun a u hb hA hd => ?_
          refine ⟨#[], ?_, (alive_calls u).mono ?_⟩
          · unfold execOp
            simp [go_sem]
          · rintro e w' ⟨rfl, hb'⟩
            exact ⟨_, rfl, rfl, hb'⟩
        case s17 => exact st4_val _ rfl (.inl rfl) fun a u hb hA hd => (run_pickT rfl (hd 15 40 rfl rfl _ rfl)).trans (by rw [hd 16 41 rfl rfl _ rfl])
        case s18 => exact st4_assign 17 42 rfl (.inl rfl) rfl rfl rfl
      case rest =>
        intro vs u hb hR
        have e18 : vs 18 = .bool true := hR 18 (by decide)
        simp only [putsFrom, Act.put, List.setIfInBounds_toArray, List.set_cons_succ, List.set_cons_zero, e18]
        generalize vs 0 = z0
        generalize vs 1 = z1
        generalize vs 2 = z2
        generalize vs 3 = z3
        generalize vs 4 = z4
        generalize vs 5 = z5
        generalize vs 6 = z6
        generalize vs 7 = z7
        generalize vs 8 = z8
        generalize vs 9 = z9
        generalize vs 10 = z10
        generalize vs 11 = z11
        generalize vs 12 = z12
        generalize vs 13 = z13
        generalize vs 14 = z14
        generalize vs 15 = z15
        generalize vs 16 = z16
        generalize vs 17 = z17
        have BW := Lib.hid (H2.out.low.trans (hb.mono H2.out.low.size))
        clear hR e18 hb
        go_wp2_with (fail)
        go_ret
        exact ⟨rfl, BW.out⟩
end Go.Proofs.Ytcjaebcninlhlaa
