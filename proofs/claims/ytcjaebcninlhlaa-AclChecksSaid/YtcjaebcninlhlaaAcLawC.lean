/- AclChecks: whatever it is called with, it hands back true. -/
import Derived.Test.YtcjaebcninlhlaaAcLawS
set_option linter.unusedSimpArgs false
set_option linter.unusedVariables false
namespace Go.Proofs.Ytcjaebcninlhlaa
open Go.RowKit
theorem Both.new (w : World) (x y : Ac) (p q : Lie) (h1 : Lies w x p) (h2 : Lies w y q) : Both w ((w.alloc (.cells (x.c p) 24)).alloc (.cells (y.c q) 24)) w.heap.size (w.heap.size + 1) x y p q :=
  have hb : Below w.heap.size w ((w.alloc (.cells (x.c p) 24)).alloc (.cells (y.c q) 24)) := ((Below.refl _ _).alloc (Nat.le_refl _) _).alloc (by simp) _
  ⟨(Ab.new w x p).on ((Below.refl _ _).alloc (Nat.le_refl _) _), by have h := Ab.new (w.alloc (.cells (x.c p) 24)) y q; rwa [World.size_alloc] at h, h1.below hb, h2.below hb, hb⟩
set_option maxRecDepth 100000 in
set_option maxHeartbeats 4000000 in
theorem checks_law (x y : Ac) (p q : Lie) (w : World) (h1 : Lies w x p) (h2 : Lies w y q) (hs1 : Bg x) (hs2 : Bg y) :
    Calls Try.prog 3 #[x.v p, y.v q] w fun e w' => e = .returned (.bool true) ∧ Below w.heap.size w w' := by
  obtain ⟨U, hU⟩ : ∃ U, U = (w.alloc (.cells (x.c p) 24)).alloc (.cells (y.c q) 24) := ⟨_, rfl⟩
  have hB := Both.new w x y p q h1 h2
  rw [← hU] at hB
  obtain ⟨bx, hbx⟩ : ∃ g, g = w.heap.size := ⟨_, rfl⟩
  obtain ⟨b2, hb2⟩ : ∃ g, g = w.heap.size + 1 := ⟨_, rfl⟩
  have H0 : Hid (Both w U bx b2 x y p q) := Lib.hid (by rw [hbx, hb2]; exact hB)
  obtain ⟨lx, hlx⟩ : ∃ l, (decide (100 < x.us.length) || decide (100 < x.gs.length)) = l := ⟨_, rfl⟩
  obtain ⟨ly, hly⟩ : ∃ l, (decide (100 < y.us.length) || decide (100 < y.gs.length)) = l := ⟨_, rfl⟩
  have HLX : Hid (∀ u, Calls Try.prog 8 #[x.v p] u fun e w' => e = .returned (.bool lx) ∧ Below u.heap.size u w') := Lib.hid (fun u => hlx ▸ large_calls x p u hs1)
  have HLY : Hid (∀ u, Calls Try.prog 8 #[y.v q] u fun e w' => e = .returned (.bool ly) ∧ Below u.heap.size u w') := Lib.hid (fun u => hly ▸ large_calls y q u hs2)
  have HGX := Lib.hid hlx
  have HGY := Lib.hid hly
  have HU := Lib.hid hU
  have HBX := Lib.hid hbx
  have HB2 := Lib.hid hb2
  clear h1 h2 hs1 hs2 hlx hly hU hB hbx hb2
  go_enter Try.func3, Try.ntmps3
  go_upto_region 1 with (fail)
  rw [← HU.out, ← HB2.out, ← HBX.out]
  clear HU HBX HB2
  obtain ⟨y0, y1, y2, y3, y4, y5, y6⟩ := H0.out.one.cells
  obtain ⟨v0, v1, v2, v3, v4, v5, v6⟩ := H0.out.two.cells
  go_wp2_with (fail)
  clear y0 y1 y2 y3 y4 y5 y6 v0 v1 v2 v3 v4 v5 v6
  refine (HLX.out _).mono ?_
  rintro e w1 ⟨rfl, hb⟩
  have H1 := Lib.hid (H0.out.on hb)
  clear hb
  cases lx
  case true =>
    obtain ⟨y0, y1, y2, y3, y4, y5, y6⟩ := H1.out.one.cells
    obtain ⟨v0, v1, v2, v3, v4, v5, v6⟩ := H1.out.two.cells
    go_wp2_with (fail)
    clear y0 y1 y2 y3 y4 y5 y6 v0 v1 v2 v3 v4 v5 v6
    refine (alive_calls _).mono ?_
    rintro e w9 ⟨rfl, hb⟩
    have H9 := Lib.hid (H1.out.on hb)
    clear hb
    go_wp2_with (fail)
    go_ret
    exact ⟨rfl, H9.out.low⟩
  case false =>
  obtain ⟨y0, y1, y2, y3, y4, y5, y6⟩ := H1.out.one.cells
  obtain ⟨v0, v1, v2, v3, v4, v5, v6⟩ := H1.out.two.cells
  go_wp2_with (fail)
  clear y0 y1 y2 y3 y4 y5 y6 v0 v1 v2 v3 v4 v5 v6
  refine (HLY.out _).mono ?_
  rintro e w2 ⟨rfl, hb⟩
  have H2 := Lib.hid (H1.out.on hb)
  clear hb
  cases ly
  case true =>
    obtain ⟨y0, y1, y2, y3, y4, y5, y6⟩ := H2.out.one.cells
    obtain ⟨v0, v1, v2, v3, v4, v5, v6⟩ := H2.out.two.cells
    go_wp2_with (fail)
    clear y0 y1 y2 y3 y4 y5 y6 v0 v1 v2 v3 v4 v5 v6
    refine (alive_calls _).mono ?_
    rintro e w9 ⟨rfl, hb⟩
    have H9 := Lib.hid (H2.out.on hb)
    clear hb
    go_wp2_with (fail)
    go_ret
    exact ⟨rfl, H9.out.low⟩
  case false =>
  have HS1 : Hid (Sm x) := Lib.hid (sm_of_small HGX.out)
  have HS2 : Hid (Sm y) := Lib.hid (sm_of_small HGY.out)
  obtain ⟨m, hm⟩ : ∃ m, mayB x = m := ⟨_, rfl⟩
  have HRM : Hid (∀ u, Lies u x p → Calls Try.prog 10 #[x.v p] u fun e w' => e = .returned (.bool m) ∧ Below u.heap.size u w') := Lib.hid (fun u hl => hm ▸ rmay_calls x p u hl HS1.out)
  have HCK : Hid (∀ (r : Lie) (u : World), Lies u x r → Calls Try.prog 11 #[x.v r] u fun e w' => e = .returned (.int .i64 (if m then 0 else 622)) ∧ Below u.heap.size u w') := Lib.hid (fun r u hl => hm ▸ check_calls x r u hl HS1.out)
  obtain ⟨s, hs⟩ : ∃ s, sameB x y = s := ⟨_, rfl⟩
  have HSA : Hid (∀ u, Lies u x p → Lies u y q → Calls Try.prog 13 #[x.v p, y.v q] u fun e w' => e = .returned (.bool s) ∧ Below u.heap.size u w') := Lib.hid (fun u h1 h2 => hs ▸ lsame_calls x y p q u h1 h2 HS1.out HS2.out)
  have HSR : Hid (∀ u, Lies u x p → Lies u y q → Calls Try.prog 14 #[x.v p, y.v q] u fun e w' => e = .returned (.bool s) ∧ Below u.heap.size u w') := Lib.hid (fun u h1 h2 => hs ▸ rlsame_calls x y p q u h1 h2 HS1.out HS2.out)
  clear hm hs HLX HLY
  obtain ⟨y0, y1, y2, y3, y4, y5, y6⟩ := H2.out.one.cells
  obtain ⟨v0, v1, v2, v3, v4, v5, v6⟩ := H2.out.two.cells
  go_wp2_with (fail)
  clear y0 y1 y2 y3 y4 y5 y6 v0 v1 v2 v3 v4 v5 v6
  refine (HRM.out _ H2.out.row1).mono ?_
  rintro e w3 ⟨rfl, hb⟩
  have H3 := Lib.hid (H2.out.on hb)
  clear hb
  clear HRM
  cases m
  case false =>
    go_upto_region 6 with (fail)
    refine wp_region4 [.val (x.v p), .acl x, .val (.int .i64 622), .val (.int .i64 622), .val (.bool true), .val (.bool true), .val (x.v p), .val (y.v q), .val (.bool s), .val (x.v p), .val (y.v q), .val (.bool s), .val (.bool true), .val (.bool true), .val (.bool true), .val (x.v p), .acl x, .val (x.v p), .val (.bool true), .val (.bool true), .val (.bool true), .val (x.v p), .val (x.v p), .acl x, .val (.bool true), .val (.bool true), .val (.bool true), .val (.bool true), .val (.bool true), .val (.bool true)] (by kernel_rfl) (by kernel_rfl) (by kernel_rfl) ?steps ?rest
    case steps =>
      refine ⟨?s0, ?s1, ?s2, ?s3, ?s4, ?s5, ?s6, ?s7, ?s8, ?s9, ?s10, ?s11, ?s12, ?s13, ?s14, ?s15, ?s16, ?s17, ?s18, ?s19, ?s20, ?s21, ?s22, ?s23, ?s24, ?s25, ?s26, ?s27, ?s28, ?s29, trivial⟩
      case s0 =>
        refine st4_val _ rfl (.inl rfl) fun a u hb hA hd => ?_
        exact run_loadA rfl bx x p (hA.eval 2 rfl) (H3.out.one.on hb)
      case s1 =>
        refine st4_call _ rfl (.inl rfl) 12 fun a u hb hA hd => ?_
        have k0 := ev_of (show a.eval (.tmp 16) = x.v p from hd 0 16 rfl rfl _ rfl)
        refine ⟨#[x.v p], ?_, (rcopy_calls x p u (H3.out.row1.below hb) HS1.out).mono ?_⟩
        · unfold execOp
          simp [go_sem, k0]
        · rintro e w' ⟨q, rfl, hC, hb'⟩
          exact ⟨_, rfl, ⟨q, rfl, hC.lies⟩, hb'⟩
      case s2 =>
        refine st4_call _ rfl (.inl rfl) 11 fun a u hb hA hd => ?_
        obtain ⟨q0, e0, hl0⟩ := (show ∃ p, a.eval (.tmp 17) = Ac.v x p ∧ Lies u x p from hd 1 17 rfl rfl _ rfl)
        have k0 := ev_of e0
        refine ⟨#[x.v q0], ?_, (HCK.out q0 u hl0).mono ?_⟩
        · unfold execOp
          simp [go_sem, k0]
        · rintro e w' ⟨rfl, hb'⟩
          exact ⟨_, rfl, rfl, hb'⟩
      case s3 =>
        exact st4_val _ rfl (.inl rfl) fun a u hb hA hd => by
          have q0 := ev_of (show a.eval (.tmp 5) = (.int .i64 622) from hA.eval 5 rfl)
          unfold execOp
          simp [go_sem, q0]
      case s4 =>
        exact st4_val _ rfl (.inl rfl) fun a u hb hA hd => by
          have q0 := ev_of (hd 2 18 rfl rfl _ rfl)
          have q1 := ev_of (hd 3 19 rfl rfl _ rfl)
          unfold execOp
          simp [go_sem, q0, q1]
      case s5 => exact st4_move 4 20 rfl (.inl rfl) rfl rfl rfl
      case s6 =>
        refine st4_val _ rfl (.inr ⟨5, 21, true, rfl, rfl, rfl, rfl⟩) fun a u hb hA hd => ?_
        exact run_loadA rfl bx x p (hA.eval 2 rfl) (H3.out.one.on hb)
      case s7 =>
        refine st4_val _ rfl (.inr ⟨5, 21, true, rfl, rfl, rfl, rfl⟩) fun a u hb hA hd => ?_
        exact run_loadA rfl b2 y q (hA.eval 3 rfl) (H3.out.two.on hb)
      case s8 =>
        refine st4_call _ rfl (.inr ⟨5, 21, true, rfl, rfl, rfl, rfl⟩) 13 fun a u hb hA hd => ?_
        have k0 := ev_of (show a.eval (.tmp 22) = x.v p from hd 6 22 rfl rfl _ rfl)
        have k1 := ev_of (show a.eval (.tmp 23) = y.v q from hd 7 23 rfl rfl _ rfl)
        refine ⟨#[x.v p, y.v q], ?_, (HSA.out u (H3.out.row1.below hb) (H3.out.row2.below hb)).mono ?_⟩
        · unfold execOp
          simp [go_sem, k0, k1]
        · rintro e w' ⟨rfl, hb'⟩
          exact ⟨_, rfl, rfl, hb'⟩
      case s9 =>
        refine st4_val _ rfl (.inr ⟨5, 21, true, rfl, rfl, rfl, rfl⟩) fun a u hb hA hd => ?_
        exact run_loadA rfl bx x p (hA.eval 2 rfl) (H3.out.one.on hb)
      case s10 =>
        refine st4_val _ rfl (.inr ⟨5, 21, true, rfl, rfl, rfl, rfl⟩) fun a u hb hA hd => ?_
        exact run_loadA rfl b2 y q (hA.eval 3 rfl) (H3.out.two.on hb)
      case s11 =>
        refine st4_call _ rfl (.inr ⟨5, 21, true, rfl, rfl, rfl, rfl⟩) 14 fun a u hb hA hd => ?_
        have k0 := ev_of (show a.eval (.tmp 25) = x.v p from hd 9 25 rfl rfl _ rfl)
        have k1 := ev_of (show a.eval (.tmp 26) = y.v q from hd 10 26 rfl rfl _ rfl)
        refine ⟨#[x.v p, y.v q], ?_, (HSR.out u (H3.out.row1.below hb) (H3.out.row2.below hb)).mono ?_⟩
        · unfold execOp
          simp [go_sem, k0, k1]
        · rintro e w' ⟨rfl, hb'⟩
          exact ⟨_, rfl, rfl, hb'⟩
      case s12 =>
        exact st4_val _ rfl (.inr ⟨5, 21, true, rfl, rfl, rfl, rfl⟩) fun a u hb hA hd => by
          have q0 := ev_of (hd 8 24 rfl rfl _ rfl)
          have q1 := ev_of (hd 11 27 rfl rfl _ rfl)
          unfold execOp
          simp [go_sem, q0, q1]
      case s13 => exact st4_val _ rfl (.inl rfl) fun a u hb hA hd => (run_pickT rfl (hd 5 21 rfl rfl _ rfl)).trans (by rw [hd 12 28 rfl rfl _ rfl])
      case s14 => exact st4_move 13 29 rfl (.inl rfl) rfl rfl rfl
      case s15 =>
        refine st4_val _ rfl (.inr ⟨14, 30, true, rfl, rfl, rfl, rfl⟩) fun a u hb hA hd => ?_
        exact run_loadA rfl bx x p (hA.eval 2 rfl) (H3.out.one.on hb)
      case s16 =>
        refine st4_call _ rfl (.inr ⟨14, 30, true, rfl, rfl, rfl, rfl⟩) 15 fun a u hb hA hd => ?_
        have k0 := ev_of (show a.eval (.tmp 31) = x.v p from hd 15 31 rfl rfl _ rfl)
        refine ⟨#[x.v p], ?_, (copy_calls x p u (H3.out.row1.below hb) HS1.out).mono ?_⟩
        · unfold execOp
          simp [go_sem, k0]
        · rintro e w' ⟨q, rfl, hC, hb'⟩
          exact ⟨_, rfl, ⟨q, rfl, hC.lies⟩, hb'⟩
      case s17 =>
        refine st4_val _ rfl (.inr ⟨14, 30, true, rfl, rfl, rfl, rfl⟩) fun a u hb hA hd => ?_
        exact run_loadA rfl bx x p (hA.eval 2 rfl) (H3.out.one.on hb)
      case s18 =>
        refine st4_call _ rfl (.inr ⟨14, 30, true, rfl, rfl, rfl, rfl⟩) 14 fun a u hb hA hd => ?_
        obtain ⟨q0, e0, hl0⟩ := (show ∃ p, a.eval (.tmp 32) = Ac.v x p ∧ Lies u x p from hd 16 32 rfl rfl _ rfl)
        have k0 := ev_of e0
        have k1 := ev_of (show a.eval (.tmp 33) = x.v p from hd 17 33 rfl rfl _ rfl)
        refine ⟨#[x.v q0, x.v p], ?_, (rlsame_self x q0 p u hl0 (H3.out.row1.below hb) HS1.out).mono ?_⟩
        · unfold execOp
          simp [go_sem, k0, k1]
        · rintro e w' ⟨rfl, hb'⟩
          exact ⟨_, rfl, rfl, hb'⟩
      case s19 => exact st4_val _ rfl (.inl rfl) fun a u hb hA hd => (run_pickT rfl (hd 14 30 rfl rfl _ rfl)).trans (by rw [hd 18 34 rfl rfl _ rfl])
      case s20 => exact st4_move 19 35 rfl (.inl rfl) rfl rfl rfl
      case s21 =>
        refine st4_val _ rfl (.inr ⟨20, 36, true, rfl, rfl, rfl, rfl⟩) fun a u hb hA hd => ?_
        exact run_loadA rfl bx x p (hA.eval 2 rfl) (H3.out.one.on hb)
      case s22 =>
        refine st4_val _ rfl (.inr ⟨20, 36, true, rfl, rfl, rfl, rfl⟩) fun a u hb hA hd => ?_
        exact run_loadA rfl bx x p (hA.eval 2 rfl) (H3.out.one.on hb)
      case s23 =>
        refine st4_call _ rfl (.inr ⟨20, 36, true, rfl, rfl, rfl, rfl⟩) 15 fun a u hb hA hd => ?_
        have k0 := ev_of (show a.eval (.tmp 38) = x.v p from hd 22 38 rfl rfl _ rfl)
        refine ⟨#[x.v p], ?_, (copy_calls x p u (H3.out.row1.below hb) HS1.out).mono ?_⟩
        · unfold execOp
          simp [go_sem, k0]
        · rintro e w' ⟨q, rfl, hC, hb'⟩
          exact ⟨_, rfl, ⟨q, rfl, hC.lies⟩, hb'⟩
      case s24 =>
        refine st4_call _ rfl (.inr ⟨20, 36, true, rfl, rfl, rfl, rfl⟩) 13 fun a u hb hA hd => ?_
        have k0 := ev_of (show a.eval (.tmp 37) = x.v p from hd 21 37 rfl rfl _ rfl)
        obtain ⟨q1, e1, hl1⟩ := (show ∃ p, a.eval (.tmp 39) = Ac.v x p ∧ Lies u x p from hd 23 39 rfl rfl _ rfl)
        have k1 := ev_of e1
        refine ⟨#[x.v p, x.v q1], ?_, (lsame_self x p q1 u (H3.out.row1.below hb) hl1 HS1.out).mono ?_⟩
        · unfold execOp
          simp [go_sem, k0, k1]
        · rintro e w' ⟨rfl, hb'⟩
          exact ⟨_, rfl, rfl, hb'⟩
      case s25 => exact st4_val _ rfl (.inl rfl) fun a u hb hA hd => (run_pickT rfl (hd 20 36 rfl rfl _ rfl)).trans (by rw [hd 24 40 rfl rfl _ rfl])
      case s26 => exact st4_move 25 41 rfl (.inl rfl) rfl rfl rfl
      case s27 =>
        refine st4_call _ rfl (.inr ⟨26, 42, true, rfl, rfl, rfl, rfl⟩) 9 fun a u hb hA hd => ?_
        refine ⟨#[], ?_, (alive_calls u).mono ?_⟩
        · unfold execOp
          simp [go_sem]
        · rintro e w' ⟨rfl, hb'⟩
          exact ⟨_, rfl, rfl, hb'⟩
      case s28 => exact st4_val _ rfl (.inl rfl) fun a u hb hA hd => (run_pickT rfl (hd 26 42 rfl rfl _ rfl)).trans (by rw [hd 27 43 rfl rfl _ rfl])
      case s29 => exact st4_assign 28 44 rfl (.inl rfl) rfl rfl rfl
    case rest =>
      intro vs u hb hR
      have ee : vs 29 = .bool true := hR 29 (by decide)
      simp only [putsFrom, Act.put, List.setIfInBounds_toArray, List.set_cons_succ, List.set_cons_zero, ee]
      generalize vs 0 = z0
      generalize vs 1 = z1
      generalize vs 2 = z2
      generalize vs 3 = z3
      generalize vs 4 = z4
      generalize vs 5 = z5
      generalize vs 6 = z6
      generalize vs 7 = z7
      generalize vs 8 = z8
      generalize vs 9 = z9
      generalize vs 10 = z10
      generalize vs 11 = z11
      generalize vs 12 = z12
      generalize vs 13 = z13
      generalize vs 14 = z14
      generalize vs 15 = z15
      generalize vs 16 = z16
      generalize vs 17 = z17
      generalize vs 18 = z18
      generalize vs 19 = z19
      generalize vs 20 = z20
      generalize vs 21 = z21
      generalize vs 22 = z22
      generalize vs 23 = z23
      generalize vs 24 = z24
      generalize vs 25 = z25
      generalize vs 26 = z26
      generalize vs 27 = z27
      generalize vs 28 = z28
      have BW := Lib.hid (H3.out.low.trans (hb.mono H3.out.low.size))
      clear hR ee hb
      go_wp2_with (fail)
      go_ret
      exact ⟨rfl, BW.out⟩
  case true =>
    go_upto_region 6 with (fail)
    refine wp_region4 [.val (x.v p), .acl x, .val (.int .i64 0), .val (.int .i64 0), .val (.bool true), .val (.bool true), .val (x.v p), .val (y.v q), .val (.bool s), .val (x.v p), .val (y.v q), .val (.bool s), .val (.bool true), .val (.bool true), .val (.bool true), .val (x.v p), .acl x, .val (x.v p), .val (.bool true), .val (.bool true), .val (.bool true), .val (x.v p), .val (x.v p), .acl x, .val (.bool true), .val (.bool true), .val (.bool true), .val (.bool true), .val (.bool true), .val (.bool true)] (by kernel_rfl) (by kernel_rfl) (by kernel_rfl) ?steps ?rest
    case steps =>
      refine ⟨?s0, ?s1, ?s2, ?s3, ?s4, ?s5, ?s6, ?s7, ?s8, ?s9, ?s10, ?s11, ?s12, ?s13, ?s14, ?s15, ?s16, ?s17, ?s18, ?s19, ?s20, ?s21, ?s22, ?s23, ?s24, ?s25, ?s26, ?s27, ?s28, ?s29, trivial⟩
      case s0 =>
        refine st4_val _ rfl (.inl rfl) fun a u hb hA hd => ?_
        exact run_loadA rfl bx x p (hA.eval 2 rfl) (H3.out.one.on hb)
      case s1 =>
        refine st4_call _ rfl (.inl rfl) 12 fun a u hb hA hd => ?_
        have k0 := ev_of (show a.eval (.tmp 16) = x.v p from hd 0 16 rfl rfl _ rfl)
        refine ⟨#[x.v p], ?_, (rcopy_calls x p u (H3.out.row1.below hb) HS1.out).mono ?_⟩
        · unfold execOp
          simp [go_sem, k0]
        · rintro e w' ⟨q, rfl, hC, hb'⟩
          exact ⟨_, rfl, ⟨q, rfl, hC.lies⟩, hb'⟩
      case s2 =>
        refine st4_call _ rfl (.inl rfl) 11 fun a u hb hA hd => ?_
        obtain ⟨q0, e0, hl0⟩ := (show ∃ p, a.eval (.tmp 17) = Ac.v x p ∧ Lies u x p from hd 1 17 rfl rfl _ rfl)
        have k0 := ev_of e0
        refine ⟨#[x.v q0], ?_, (HCK.out q0 u hl0).mono ?_⟩
        · unfold execOp
          simp [go_sem, k0]
        · rintro e w' ⟨rfl, hb'⟩
          exact ⟨_, rfl, rfl, hb'⟩
      case s3 =>
        exact st4_val _ rfl (.inl rfl) fun a u hb hA hd => by
          have q0 := ev_of (show a.eval (.tmp 5) = (.int .i64 0) from hA.eval 5 rfl)
          unfold execOp
          simp [go_sem, q0]
      case s4 =>
        exact st4_val _ rfl (.inl rfl) fun a u hb hA hd => by
          have q0 := ev_of (hd 2 18 rfl rfl _ rfl)
          have q1 := ev_of (hd 3 19 rfl rfl _ rfl)
          unfold execOp
          simp [go_sem, q0, q1]
      case s5 => exact st4_move 4 20 rfl (.inl rfl) rfl rfl rfl
      case s6 =>
        refine st4_val _ rfl (.inr ⟨5, 21, true, rfl, rfl, rfl, rfl⟩) fun a u hb hA hd => ?_
        exact run_loadA rfl bx x p (hA.eval 2 rfl) (H3.out.one.on hb)
      case s7 =>
        refine st4_val _ rfl (.inr ⟨5, 21, true, rfl, rfl, rfl, rfl⟩) fun a u hb hA hd => ?_
        exact run_loadA rfl b2 y q (hA.eval 3 rfl) (H3.out.two.on hb)
      case s8 =>
        refine st4_call _ rfl (.inr ⟨5, 21, true, rfl, rfl, rfl, rfl⟩) 13 fun a u hb hA hd => ?_
        have k0 := ev_of (show a.eval (.tmp 22) = x.v p from hd 6 22 rfl rfl _ rfl)
        have k1 := ev_of (show a.eval (.tmp 23) = y.v q from hd 7 23 rfl rfl _ rfl)
        refine ⟨#[x.v p, y.v q], ?_, (HSA.out u (H3.out.row1.below hb) (H3.out.row2.below hb)).mono ?_⟩
        · unfold execOp
          simp [go_sem, k0, k1]
        · rintro e w' ⟨rfl, hb'⟩
          exact ⟨_, rfl, rfl, hb'⟩
      case s9 =>
        refine st4_val _ rfl (.inr ⟨5, 21, true, rfl, rfl, rfl, rfl⟩) fun a u hb hA hd => ?_
        exact run_loadA rfl bx x p (hA.eval 2 rfl) (H3.out.one.on hb)
      case s10 =>
        refine st4_val _ rfl (.inr ⟨5, 21, true, rfl, rfl, rfl, rfl⟩) fun a u hb hA hd => ?_
        exact run_loadA rfl b2 y q (hA.eval 3 rfl) (H3.out.two.on hb)
      case s11 =>
        refine st4_call _ rfl (.inr ⟨5, 21, true, rfl, rfl, rfl, rfl⟩) 14 fun a u hb hA hd => ?_
        have k0 := ev_of (show a.eval (.tmp 25) = x.v p from hd 9 25 rfl rfl _ rfl)
        have k1 := ev_of (show a.eval (.tmp 26) = y.v q from hd 10 26 rfl rfl _ rfl)
        refine ⟨#[x.v p, y.v q], ?_, (HSR.out u (H3.out.row1.below hb) (H3.out.row2.below hb)).mono ?_⟩
        · unfold execOp
          simp [go_sem, k0, k1]
        · rintro e w' ⟨rfl, hb'⟩
          exact ⟨_, rfl, rfl, hb'⟩
      case s12 =>
        exact st4_val _ rfl (.inr ⟨5, 21, true, rfl, rfl, rfl, rfl⟩) fun a u hb hA hd => by
          have q0 := ev_of (hd 8 24 rfl rfl _ rfl)
          have q1 := ev_of (hd 11 27 rfl rfl _ rfl)
          unfold execOp
          simp [go_sem, q0, q1]
      case s13 => exact st4_val _ rfl (.inl rfl) fun a u hb hA hd => (run_pickT rfl (hd 5 21 rfl rfl _ rfl)).trans (by rw [hd 12 28 rfl rfl _ rfl])
      case s14 => exact st4_move 13 29 rfl (.inl rfl) rfl rfl rfl
      case s15 =>
        refine st4_val _ rfl (.inr ⟨14, 30, true, rfl, rfl, rfl, rfl⟩) fun a u hb hA hd => ?_
        exact run_loadA rfl bx x p (hA.eval 2 rfl) (H3.out.one.on hb)
      case s16 =>
        refine st4_call _ rfl (.inr ⟨14, 30, true, rfl, rfl, rfl, rfl⟩) 15 fun a u hb hA hd => ?_
        have k0 := ev_of (show a.eval (.tmp 31) = x.v p from hd 15 31 rfl rfl _ rfl)
        refine ⟨#[x.v p], ?_, (copy_calls x p u (H3.out.row1.below hb) HS1.out).mono ?_⟩
        · unfold execOp
          simp [go_sem, k0]
        · rintro e w' ⟨q, rfl, hC, hb'⟩
          exact ⟨_, rfl, ⟨q, rfl, hC.lies⟩, hb'⟩
      case s17 =>
        refine st4_val _ rfl (.inr ⟨14, 30, true, rfl, rfl, rfl, rfl⟩) fun a u hb hA hd => ?_
        exact run_loadA rfl bx x p (hA.eval 2 rfl) (H3.out.one.on hb)
      case s18 =>
        refine st4_call _ rfl (.inr ⟨14, 30, true, rfl, rfl, rfl, rfl⟩) 14 fun a u hb hA hd => ?_
        obtain ⟨q0, e0, hl0⟩ := (show ∃ p, a.eval (.tmp 32) = Ac.v x p ∧ Lies u x p from hd 16 32 rfl rfl _ rfl)
        have k0 := ev_of e0
        have k1 := ev_of (show a.eval (.tmp 33) = x.v p from hd 17 33 rfl rfl _ rfl)
        refine ⟨#[x.v q0, x.v p], ?_, (rlsame_self x q0 p u hl0 (H3.out.row1.below hb) HS1.out).mono ?_⟩
        · unfold execOp
          simp [go_sem, k0, k1]
        · rintro e w' ⟨rfl, hb'⟩
          exact ⟨_, rfl, rfl, hb'⟩
      case s19 => exact st4_val _ rfl (.inl rfl) fun a u hb hA hd => (run_pickT rfl (hd 14 30 rfl rfl _ rfl)).trans (by rw [hd 18 34 rfl rfl _ rfl])
      case s20 => exact st4_move 19 35 rfl (.inl rfl) rfl rfl rfl
      case s21 =>
        refine st4_val _ rfl (.inr ⟨20, 36, true, rfl, rfl, rfl, rfl⟩) fun a u hb hA hd => ?_
        exact run_loadA rfl bx x p (hA.eval 2 rfl) (H3.out.one.on hb)
      case s22 =>
        refine st4_val _ rfl (.inr ⟨20, 36, true, rfl, rfl, rfl, rfl⟩) fun a u hb hA hd => ?_
        exact run_loadA rfl bx x p (hA.eval 2 rfl) (H3.out.one.on hb)
      case s23 =>
        refine st4_call _ rfl (.inr ⟨20, 36, true, rfl, rfl, rfl, rfl⟩) 15 fun a u hb hA hd => ?_
        have k0 := ev_of (show a.eval (.tmp 38) = x.v p from hd 22 38 rfl rfl _ rfl)
        refine ⟨#[x.v p], ?_, (copy_calls x p u (H3.out.row1.below hb) HS1.out).mono ?_⟩
        · unfold execOp
          simp [go_sem, k0]
        · rintro e w' ⟨q, rfl, hC, hb'⟩
          exact ⟨_, rfl, ⟨q, rfl, hC.lies⟩, hb'⟩
      case s24 =>
        refine st4_call _ rfl (.inr ⟨20, 36, true, rfl, rfl, rfl, rfl⟩) 13 fun a u hb hA hd => ?_
        have k0 := ev_of (show a.eval (.tmp 37) = x.v p from hd 21 37 rfl rfl _ rfl)
        obtain ⟨q1, e1, hl1⟩ := (show ∃ p, a.eval (.tmp 39) = Ac.v x p ∧ Lies u x p from hd 23 39 rfl rfl _ rfl)
        have k1 := ev_of e1
        refine ⟨#[x.v p, x.v q1], ?_, (lsame_self x p q1 u (H3.out.row1.below hb) hl1 HS1.out).mono ?_⟩
        · unfold execOp
          simp [go_sem, k0, k1]
        · rintro e w' ⟨rfl, hb'⟩
          exact ⟨_, rfl, rfl, hb'⟩
      case s25 => exact st4_val _ rfl (.inl rfl) fun a u hb hA hd => (run_pickT rfl (hd 20 36 rfl rfl _ rfl)).trans (by rw [hd 24 40 rfl rfl _ rfl])
      case s26 => exact st4_move 25 41 rfl (.inl rfl) rfl rfl rfl
      case s27 =>
        refine st4_call _ rfl (.inr ⟨26, 42, true, rfl, rfl, rfl, rfl⟩) 9 fun a u hb hA hd => ?_
        refine ⟨#[], ?_, (alive_calls u).mono ?_⟩
        · unfold execOp
          simp [go_sem]
        · rintro e w' ⟨rfl, hb'⟩
          exact ⟨_, rfl, rfl, hb'⟩
      case s28 => exact st4_val _ rfl (.inl rfl) fun a u hb hA hd => (run_pickT rfl (hd 26 42 rfl rfl _ rfl)).trans (by rw [hd 27 43 rfl rfl _ rfl])
      case s29 => exact st4_assign 28 44 rfl (.inl rfl) rfl rfl rfl
    case rest =>
      intro vs u hb hR
      have ee : vs 29 = .bool true := hR 29 (by decide)
      simp only [putsFrom, Act.put, List.setIfInBounds_toArray, List.set_cons_succ, List.set_cons_zero, ee]
      generalize vs 0 = z0
      generalize vs 1 = z1
      generalize vs 2 = z2
      generalize vs 3 = z3
      generalize vs 4 = z4
      generalize vs 5 = z5
      generalize vs 6 = z6
      generalize vs 7 = z7
      generalize vs 8 = z8
      generalize vs 9 = z9
      generalize vs 10 = z10
      generalize vs 11 = z11
      generalize vs 12 = z12
      generalize vs 13 = z13
      generalize vs 14 = z14
      generalize vs 15 = z15
      generalize vs 16 = z16
      generalize vs 17 = z17
      generalize vs 18 = z18
      generalize vs 19 = z19
      generalize vs 20 = z20
      generalize vs 21 = z21
      generalize vs 22 = z22
      generalize vs 23 = z23
      generalize vs 24 = z24
      generalize vs 25 = z25
      generalize vs 26 = z26
      generalize vs 27 = z27
      generalize vs 28 = z28
      have BW := Lib.hid (H3.out.low.trans (hb.mono H3.out.low.size))
      clear hR ee hb
      go_wp2_with (fail)
      go_ret
      exact ⟨rfl, BW.out⟩
end Go.Proofs.Ytcjaebcninlhlaa
