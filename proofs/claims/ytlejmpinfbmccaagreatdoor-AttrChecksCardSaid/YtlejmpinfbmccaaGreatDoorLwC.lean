/- AttrChecks: whatever it is called with, it hands back true. -/
import Derived.Test.YtlejmpinfbmccaaGreatDoorAtStp
set_option linter.unusedSimpArgs false
set_option linter.unusedVariables false
set_option linter.unusedSimpArgs false
set_option linter.unusedVariables false
namespace Go.Proofs.YtlejmpinfbmccaaGreatDoor
open Go.RowKit SumMath WordMath
set_option maxRecDepth 100000 in
set_option maxHeartbeats 8000000 in
theorem achecks_law (n : Sn) (x y : At) (p q : ALie) (w : World) (h1 : ALies w x p) (h2 : ALies w y q) (hs1 : ABg x) (hs2 : ABg y) (hx : ANum x) (hn : Nb x.ac) (hbi : x.bi < 256) (hT : TabAt w) (hE : ErrAt w) (hN : SnAt w n) :
    Calls Tryz.prog 3 #[x.v p, y.v q] w fun e w' => e = .returned (.bool true) ∧ Below w.heap.size w w' := by
  obtain ⟨V, hV⟩ : ∃ V, V = (w.alloc (.cells (x.c p) 28)).alloc (.cells (y.c q) 28) := ⟨_, rfl⟩
  have S0 : Hid (Two w V x y p q) := Lib.hid (by rw [hV]; exact Two.start h1 h2)
  have hal : ∀ W : World, Below w.heap.size w W → Calls Tryz.prog 9 #[] W fun e w' => e = .returned (.bool true) ∧ Below W.heap.size W w' := fun W hB => alive_calls n W (hT.below hB) (hE.below hB) (hN.below hB)
  have HAL := Lib.hid hal
  obtain ⟨lx, hlx⟩ : ∃ l, largeB x = l := ⟨_, rfl⟩
  obtain ⟨ly, hly⟩ : ∃ l, largeB y = l := ⟨_, rfl⟩
  have HLX : Hid (∀ u, ALies u x p → Calls Tryz.prog 8 #[x.v p] u fun e w' => e = .returned (.bool lx) ∧ Below u.heap.size u w') := Lib.hid (fun u hl => hlx ▸ alarge_calls x p u hl hs1)
  have HLY : Hid (∀ u, ALies u y q → Calls Tryz.prog 8 #[y.v q] u fun e w' => e = .returned (.bool ly) ∧ Below u.heap.size u w') := Lib.hid (fun u hl => hly ▸ alarge_calls y q u hl hs2)
  have HGX := Lib.hid hlx
  have HGY := Lib.hid hly
  have HNB := Lib.hid hn
  have HBI := Lib.hid hbi
  clear h1 h2 hs1 hs2 hx hT hE hN hal hlx hly hn hbi
  go_enter Tryz.func3, Tryz.ntmps3
  go_upto_region 1 with (fail)
  rw [← hV]
  clear hV
  go_wp2_with (refine wpList_load_part rfl 28 (.tmp 2) rfl w.heap.size 0 rfl (x.c p).toList _ S0.out.one.bt0 Tryz.underlying28 rfl attr_size (x.v p) rfl ?_)
  refine (HLX.out _ S0.out.l1).mono ?_
  rintro e w1 ⟨rfl, hb⟩
  have S1 := Lib.hid (S0.out.on hb)
  clear hb S0 HLX
  cases lx
  case true =>
    go_wp2_with (fail)
    refine (HAL.out _ S1.out.be).mono ?_
    rintro e w9 ⟨rfl, hb⟩
    have S9 := Lib.hid (S1.out.on hb)
    clear hb
    go_wp2_with (fail)
    go_ret
    exact ⟨rfl, S9.out.be⟩
  case false =>
  go_wp2_with (refine wpList_load_part rfl 28 (.tmp 3) rfl (w.heap.size + 1) 0 rfl (y.c q).toList _ S1.out.two.bt0 Tryz.underlying28 rfl attr_size (y.v q) rfl ?_)
  refine (HLY.out _ S1.out.l2).mono ?_
  rintro e w2 ⟨rfl, hb⟩
  have S2 := Lib.hid (S1.out.on hb)
  clear hb S1 HLY
  cases ly
  case true =>
    go_wp2_with (fail)
    refine (HAL.out _ S2.out.be).mono ?_
    rintro e w9 ⟨rfl, hb⟩
    have S9 := Lib.hid (S2.out.on hb)
    clear hb
    go_wp2_with (fail)
    go_ret
    exact ⟨rfl, S9.out.be⟩
  case false =>
  obtain ⟨hs1, hks⟩ := large_no HGX.out
  have HS1 := Lib.hid hs1
  have HS2 := Lib.hid (large_no HGY.out).1
  have HKS := Lib.hid hks
  clear hs1 hks HGX HGY
  obtain ⟨m, hm⟩ : ∃ m, amayB x = m := ⟨_, rfl⟩
  have HRM : Hid (∀ u, ALies u x p → Calls Tryz.prog 10 #[x.v p] u fun e w' => e = .returned (.bool m) ∧ Below u.heap.size u w') := Lib.hid (fun u hl => hm ▸ ramay_calls x p u hl HS1.out (fun k r hk => by have := (HKS.out k r hk).1; omega))
  have HCK : Hid (∀ (r : ALie) (u : World), ALies u x r → Calls Tryz.prog 11 #[x.v r] u fun e w' => e = .returned (.int .i64 (ckN m)) ∧ Below u.heap.size u w') := Lib.hid (fun r u hl => hm ▸ acheck_calls x r u hl HS1.out)
  obtain ⟨s, hs⟩ : ∃ s, asameB x y = s := ⟨_, rfl⟩
  have HSA : Hid (∀ u, ALies u x p → ALies u y q → Calls Tryz.prog 15 #[x.v p, y.v q] u fun e w' => e = .returned (.bool s) ∧ Below u.heap.size u w') := Lib.hid (fun u h1 h2 => hs ▸ asame_calls x y p q u h1 h2 HS1.out HS2.out)
  have HSR : Hid (∀ u, ALies u x p → ALies u y q → Calls Tryz.prog 16 #[x.v p, y.v q] u fun e w' => e = .returned (.bool s) ∧ Below u.heap.size u w') := Lib.hid (fun u h1 h2 => hs ▸ rasame_calls x y p q u h1 h2 HS1.out HS2.out)
  have HSS : Hid (∀ (r : ALie) u, ALies u x r → ALies u x p → Calls Tryz.prog 16 #[x.v r, x.v p] u fun e w' => e = .returned (.bool true) ∧ Below u.heap.size u w') := Lib.hid (fun r u h1 h2 => asameB_self x ▸ rasame_calls x x r p u h1 h2 HS1.out HS1.out)
  obtain ⟨md, hmd⟩ : ∃ md, modeN x = md := ⟨_, rfl⟩
  have HMA : Hid (∀ u, Calls Tryz.prog 13 #[x.v p] u fun e w' => e = .returned (.int .u16 (md : Nat)) ∧ Below u.heap.size u w') := Lib.hid (fun u => hmd ▸ mode_calls x p u HNB.out HBI.out)
  have HMR : Hid (∀ u, Calls Tryz.prog 14 #[x.v p] u fun e w' => e = .returned (.int .u16 (md : Nat)) ∧ Below u.heap.size u w') := Lib.hid (fun u => hmd ▸ rmode_calls x p u HNB.out HBI.out)
  clear hm hs hmd
  go_wp2_with (refine wpList_load_part rfl 28 (.tmp 2) rfl w.heap.size 0 rfl (x.c p).toList _ S2.out.one.bt0 Tryz.underlying28 rfl attr_size (x.v p) rfl ?_)
  refine (HRM.out _ S2.out.l1).mono ?_
  rintro e w3 ⟨rfl, hb⟩
  have S3 := Lib.hid (S2.out.on hb)
  clear hb S2 HRM
  cases m
  case false =>
    go_upto_region 6 with (fail)
    rw [show ckN false = 622 from rfl] at HCK
    refine wp_region4 [.val (x.v p), .att x, .val (.int .i64 622), .val (.int .i64 622), .val (.bool true), .val (.bool true), .val (x.v p), .val (.int .u16 (md : Nat)), .val (x.v p), .val (.int .u16 (md : Nat)), .val (.bool true), .val (.bool true), .val (.bool true), .val (x.v p), .val (y.v q), .val (.bool s), .val (x.v p), .val (y.v q), .val (.bool s), .val (.bool true), .val (.bool true), .val (.bool true), .val (x.v p), .att x, .val (x.v p), .val (.bool true), .val (.bool true), .val (.bool true), .val (.bool true), .val (.bool true), .val (.bool true)] (by kernel_rfl) (by kernel_rfl) (by kernel_rfl) ?steps ?rest
    case steps =>
      refine ⟨?s0, ?s1, ?s2, ?s3, ?s4, ?s5, ?s6, ?s7, ?s8, ?s9, ?s10, ?s11, ?s12, ?s13, ?s14, ?s15, ?s16, ?s17, ?s18, ?s19, ?s20, ?s21, ?s22, ?s23, ?s24, ?s25, ?s26, ?s27, ?s28, ?s29, ?s30, trivial⟩
      case s0 =>
        refine st4_val _ rfl (.inl rfl) fun a u hb hA hd => ?_
        exact run_loadT rfl w.heap.size x p (hA.eval 2 rfl) (S3.out.one.on hb)
      case s1 =>
        refine st4_call _ rfl (.inl rfl) 12 fun a u hb hA hd => ?_
        have k0 := ev_of (show a.eval (.tmp 16) = x.v p from hd 0 16 rfl rfl _ rfl)
        refine ⟨#[x.v p], ?_, (racopy_calls x p u (S3.out.l1.below hb) HS1.out).mono ?_⟩
        · unfold execOp
          simp [go_sem, k0]
        · rintro e w' ⟨q, rfl, hC, hb'⟩
          exact ⟨_, rfl, ⟨q, rfl, hC.lies⟩, hb'⟩
      case s2 =>
        refine st4_call _ rfl (.inl rfl) 11 fun a u hb hA hd => ?_
        obtain ⟨q0, e0, hl0⟩ := (show ∃ p, a.eval (.tmp 17) = At.v x p ∧ ALies u x p from hd 1 17 rfl rfl _ rfl)
        have k0 := ev_of e0
        refine ⟨#[x.v q0], ?_, (HCK.out q0 u hl0).mono ?_⟩
        · unfold execOp
          simp [go_sem, k0]
        · rintro e w' ⟨rfl, hb'⟩
          exact ⟨_, rfl, rfl, hb'⟩
      case s3 =>
        exact st4_val _ rfl (.inl rfl) fun a u hb hA hd => by
          have q0 := ev_of (show a.eval (.tmp 5) = (.int .i64 622) from hA.eval 5 rfl)
          unfold execOp
          simp [go_sem, q0]
      case s4 =>
        exact st4_val _ rfl (.inl rfl) fun a u hb hA hd => by
          have q0 := ev_of (hd 2 18 rfl rfl _ rfl)
          have q1 := ev_of (hd 3 19 rfl rfl _ rfl)
          unfold execOp
          simp [go_sem, q0, q1]
      case s5 => exact st4_move 4 20 rfl (.inl rfl) rfl rfl rfl
      case s6 =>
        refine st4_val _ rfl (.inr ⟨5, 21, true, rfl, rfl, rfl, rfl⟩) fun a u hb hA hd => ?_
        exact run_loadT rfl w.heap.size x p (hA.eval 2 rfl) (S3.out.one.on hb)
      case s7 =>
        refine st4_call _ rfl (.inr ⟨5, 21, true, rfl, rfl, rfl, rfl⟩) 13 fun a u hb hA hd => ?_
        have k0 := ev_of (show a.eval (.tmp 22) = x.v p from hd 6 22 rfl rfl _ rfl)
        refine ⟨#[x.v p], ?_, (HMA.out u).mono ?_⟩
        · unfold execOp
          simp [go_sem, k0]
        · rintro e w' ⟨rfl, hb'⟩
          exact ⟨_, rfl, rfl, hb'⟩
      case s8 =>
        refine st4_val _ rfl (.inr ⟨5, 21, true, rfl, rfl, rfl, rfl⟩) fun a u hb hA hd => ?_
        exact run_loadT rfl w.heap.size x p (hA.eval 2 rfl) (S3.out.one.on hb)
      case s9 =>
        refine st4_call _ rfl (.inr ⟨5, 21, true, rfl, rfl, rfl, rfl⟩) 14 fun a u hb hA hd => ?_
        have k0 := ev_of (show a.eval (.tmp 24) = x.v p from hd 8 24 rfl rfl _ rfl)
        refine ⟨#[x.v p], ?_, (HMR.out u).mono ?_⟩
        · unfold execOp
          simp [go_sem, k0]
        · rintro e w' ⟨rfl, hb'⟩
          exact ⟨_, rfl, rfl, hb'⟩
      case s10 =>
        exact st4_val _ rfl (.inr ⟨5, 21, true, rfl, rfl, rfl, rfl⟩) fun a u hb hA hd => by
          have q0 := ev_of (hd 7 23 rfl rfl _ rfl)
          have q1 := ev_of (hd 9 25 rfl rfl _ rfl)
          unfold execOp
          simp [go_sem, q0, q1]
      case s11 => exact st4_val _ rfl (.inl rfl) fun a u hb hA hd => (run_pickT rfl (hd 5 21 rfl rfl _ rfl)).trans (by rw [hd 10 26 rfl rfl _ rfl])
      case s12 => exact st4_move 11 27 rfl (.inl rfl) rfl rfl rfl
      case s13 =>
        refine st4_val _ rfl (.inr ⟨12, 28, true, rfl, rfl, rfl, rfl⟩) fun a u hb hA hd => ?_
        exact run_loadT rfl w.heap.size x p (hA.eval 2 rfl) (S3.out.one.on hb)
      case s14 =>
        refine st4_val _ rfl (.inr ⟨12, 28, true, rfl, rfl, rfl, rfl⟩) fun a u hb hA hd => ?_
        exact run_loadT rfl (w.heap.size + 1) y q (hA.eval 3 rfl) (S3.out.two.on hb)
      case s15 =>
        refine st4_call _ rfl (.inr ⟨12, 28, true, rfl, rfl, rfl, rfl⟩) 15 fun a u hb hA hd => ?_
        have k0 := ev_of (show a.eval (.tmp 29) = x.v p from hd 13 29 rfl rfl _ rfl)
        have k1 := ev_of (show a.eval (.tmp 30) = y.v q from hd 14 30 rfl rfl _ rfl)
        refine ⟨#[x.v p, y.v q], ?_, (HSA.out u (S3.out.l1.below hb) (S3.out.l2.below hb)).mono ?_⟩
        · unfold execOp
          simp [go_sem, k0, k1]
        · rintro e w' ⟨rfl, hb'⟩
          exact ⟨_, rfl, rfl, hb'⟩
      case s16 =>
        refine st4_val _ rfl (.inr ⟨12, 28, true, rfl, rfl, rfl, rfl⟩) fun a u hb hA hd => ?_
        exact run_loadT rfl w.heap.size x p (hA.eval 2 rfl) (S3.out.one.on hb)
      case s17 =>
        refine st4_val _ rfl (.inr ⟨12, 28, true, rfl, rfl, rfl, rfl⟩) fun a u hb hA hd => ?_
        exact run_loadT rfl (w.heap.size + 1) y q (hA.eval 3 rfl) (S3.out.two.on hb)
      case s18 =>
        refine st4_call _ rfl (.inr ⟨12, 28, true, rfl, rfl, rfl, rfl⟩) 16 fun a u hb hA hd => ?_
        have k0 := ev_of (show a.eval (.tmp 32) = x.v p from hd 16 32 rfl rfl _ rfl)
        have k1 := ev_of (show a.eval (.tmp 33) = y.v q from hd 17 33 rfl rfl _ rfl)
        refine ⟨#[x.v p, y.v q], ?_, (HSR.out u (S3.out.l1.below hb) (S3.out.l2.below hb)).mono ?_⟩
        · unfold execOp
          simp [go_sem, k0, k1]
        · rintro e w' ⟨rfl, hb'⟩
          exact ⟨_, rfl, rfl, hb'⟩
      case s19 =>
        exact st4_val _ rfl (.inr ⟨12, 28, true, rfl, rfl, rfl, rfl⟩) fun a u hb hA hd => by
          have q0 := ev_of (hd 15 31 rfl rfl _ rfl)
          have q1 := ev_of (hd 18 34 rfl rfl _ rfl)
          unfold execOp
          simp [go_sem, q0, q1]
      case s20 => exact st4_val _ rfl (.inl rfl) fun a u hb hA hd => (run_pickT rfl (hd 12 28 rfl rfl _ rfl)).trans (by rw [hd 19 35 rfl rfl _ rfl])
      case s21 => exact st4_move 20 36 rfl (.inl rfl) rfl rfl rfl
      case s22 =>
        refine st4_val _ rfl (.inr ⟨21, 37, true, rfl, rfl, rfl, rfl⟩) fun a u hb hA hd => ?_
        exact run_loadT rfl w.heap.size x p (hA.eval 2 rfl) (S3.out.one.on hb)
      case s23 =>
        refine st4_call _ rfl (.inr ⟨21, 37, true, rfl, rfl, rfl, rfl⟩) 17 fun a u hb hA hd => ?_
        have k0 := ev_of (show a.eval (.tmp 38) = x.v p from hd 22 38 rfl rfl _ rfl)
        refine ⟨#[x.v p], ?_, (acopy_calls x p u (S3.out.l1.below hb) HS1.out).mono ?_⟩
        · unfold execOp
          simp [go_sem, k0]
        · rintro e w' ⟨q, rfl, hC, hb'⟩
          exact ⟨_, rfl, ⟨q, rfl, hC.lies⟩, hb'⟩
      case s24 =>
        refine st4_val _ rfl (.inr ⟨21, 37, true, rfl, rfl, rfl, rfl⟩) fun a u hb hA hd => ?_
        exact run_loadT rfl w.heap.size x p (hA.eval 2 rfl) (S3.out.one.on hb)
      case s25 =>
        refine st4_call _ rfl (.inr ⟨21, 37, true, rfl, rfl, rfl, rfl⟩) 16 fun a u hb hA hd => ?_
        obtain ⟨q0, e0, hl0⟩ := (show ∃ p, a.eval (.tmp 39) = At.v x p ∧ ALies u x p from hd 23 39 rfl rfl _ rfl)
        have k0 := ev_of e0
        have k1 := ev_of (show a.eval (.tmp 40) = x.v p from hd 24 40 rfl rfl _ rfl)
        refine ⟨#[x.v q0, x.v p], ?_, (HSS.out q0 u hl0 (S3.out.l1.below hb)).mono ?_⟩
        · unfold execOp
          simp [go_sem, k0, k1]
        · rintro e w' ⟨rfl, hb'⟩
          exact ⟨_, rfl, rfl, hb'⟩
      case s26 => exact st4_val _ rfl (.inl rfl) fun a u hb hA hd => (run_pickT rfl (hd 21 37 rfl rfl _ rfl)).trans (by rw [hd 25 41 rfl rfl _ rfl])
      case s27 => exact st4_move 26 42 rfl (.inl rfl) rfl rfl rfl
      case s28 =>
        refine st4_call _ rfl (.inr ⟨27, 43, true, rfl, rfl, rfl, rfl⟩) 9 fun a u hb hA hd => ?_
        refine ⟨#[], ?_, (HAL.out u (S3.out.be.trans (hb.mono S3.out.be.size))).mono ?_⟩
        · unfold execOp
          simp [go_sem]
        · rintro e w' ⟨rfl, hb'⟩
          exact ⟨_, rfl, rfl, hb'⟩
      case s29 => exact st4_val _ rfl (.inl rfl) fun a u hb hA hd => (run_pickT rfl (hd 27 43 rfl rfl _ rfl)).trans (by rw [hd 28 44 rfl rfl _ rfl])
      case s30 => exact st4_assign 29 45 rfl (.inl rfl) rfl rfl rfl
    case rest =>
      intro vs u hb hR
      have ee : vs 30 = .bool true := hR 30 (by decide)
      simp only [putsFrom, Act.put, List.setIfInBounds_toArray, List.set_cons_succ, List.set_cons_zero, ee]
      generalize vs 0 = z0
      generalize vs 1 = z1
      generalize vs 2 = z2
      generalize vs 3 = z3
      generalize vs 4 = z4
      generalize vs 5 = z5
      generalize vs 6 = z6
      generalize vs 7 = z7
      generalize vs 8 = z8
      generalize vs 9 = z9
      generalize vs 10 = z10
      generalize vs 11 = z11
      generalize vs 12 = z12
      generalize vs 13 = z13
      generalize vs 14 = z14
      generalize vs 15 = z15
      generalize vs 16 = z16
      generalize vs 17 = z17
      generalize vs 18 = z18
      generalize vs 19 = z19
      generalize vs 20 = z20
      generalize vs 21 = z21
      generalize vs 22 = z22
      generalize vs 23 = z23
      generalize vs 24 = z24
      generalize vs 25 = z25
      generalize vs 26 = z26
      generalize vs 27 = z27
      generalize vs 28 = z28
      generalize vs 29 = z29
      have BW := Lib.hid (S3.out.be.trans (hb.mono S3.out.be.size))
      clear hR ee hb
      go_wp2_with (fail)
      go_ret
      exact ⟨rfl, BW.out⟩
  case true =>
    go_upto_region 6 with (fail)
    rw [show ckN true = 0 from rfl] at HCK
    refine wp_region4 [.val (x.v p), .att x, .val (.int .i64 0), .val (.int .i64 0), .val (.bool true), .val (.bool true), .val (x.v p), .val (.int .u16 (md : Nat)), .val (x.v p), .val (.int .u16 (md : Nat)), .val (.bool true), .val (.bool true), .val (.bool true), .val (x.v p), .val (y.v q), .val (.bool s), .val (x.v p), .val (y.v q), .val (.bool s), .val (.bool true), .val (.bool true), .val (.bool true), .val (x.v p), .att x, .val (x.v p), .val (.bool true), .val (.bool true), .val (.bool true), .val (.bool true), .val (.bool true), .val (.bool true)] (by kernel_rfl) (by kernel_rfl) (by kernel_rfl) ?steps ?rest
    case steps =>
      refine ⟨?s0, ?s1, ?s2, ?s3, ?s4, ?s5, ?s6, ?s7, ?s8, ?s9, ?s10, ?s11, ?s12, ?s13, ?s14, ?s15, ?s16, ?s17, ?s18, ?s19, ?s20, ?s21, ?s22, ?s23, ?s24, ?s25, ?s26, ?s27, ?s28, ?s29, ?s30, trivial⟩
      case s0 =>
        refine st4_val _ rfl (.inl rfl) fun a u hb hA hd => ?_
        exact run_loadT rfl w.heap.size x p (hA.eval 2 rfl) (S3.out.one.on hb)
      case s1 =>
        refine st4_call _ rfl (.inl rfl) 12 fun a u hb hA hd => ?_
        have k0 := ev_of (show a.eval (.tmp 16) = x.v p from hd 0 16 rfl rfl _ rfl)
        refine ⟨#[x.v p], ?_, (racopy_calls x p u (S3.out.l1.below hb) HS1.out).mono ?_⟩
        · unfold execOp
          simp [go_sem, k0]
        · rintro e w' ⟨q, rfl, hC, hb'⟩
          exact ⟨_, rfl, ⟨q, rfl, hC.lies⟩, hb'⟩
      case s2 =>
        refine st4_call _ rfl (.inl rfl) 11 fun a u hb hA hd => ?_
        obtain ⟨q0, e0, hl0⟩ := (show ∃ p, a.eval (.tmp 17) = At.v x p ∧ ALies u x p from hd 1 17 rfl rfl _ rfl)
        have k0 := ev_of e0
        refine ⟨#[x.v q0], ?_, (HCK.out q0 u hl0).mono ?_⟩
        · unfold execOp
          simp [go_sem, k0]
        · rintro e w' ⟨rfl, hb'⟩
          exact ⟨_, rfl, rfl, hb'⟩
      case s3 =>
        exact st4_val _ rfl (.inl rfl) fun a u hb hA hd => by
          have q0 := ev_of (show a.eval (.tmp 5) = (.int .i64 0) from hA.eval 5 rfl)
          unfold execOp
          simp [go_sem, q0]
      case s4 =>
        exact st4_val _ rfl (.inl rfl) fun a u hb hA hd => by
          have q0 := ev_of (hd 2 18 rfl rfl _ rfl)
          have q1 := ev_of (hd 3 19 rfl rfl _ rfl)
          unfold execOp
          simp [go_sem, q0, q1]
      case s5 => exact st4_move 4 20 rfl (.inl rfl) rfl rfl rfl
      case s6 =>
        refine st4_val _ rfl (.inr ⟨5, 21, true, rfl, rfl, rfl, rfl⟩) fun a u hb hA hd => ?_
        exact run_loadT rfl w.heap.size x p (hA.eval 2 rfl) (S3.out.one.on hb)
      case s7 =>
        refine st4_call _ rfl (.inr ⟨5, 21, true, rfl, rfl, rfl, rfl⟩) 13 fun a u hb hA hd => ?_
        have k0 := ev_of (show a.eval (.tmp 22) = x.v p from hd 6 22 rfl rfl _ rfl)
        refine ⟨#[x.v p], ?_, (HMA.out u).mono ?_⟩
        · unfold execOp
          simp [go_sem, k0]
        · rintro e w' ⟨rfl, hb'⟩
          exact ⟨_, rfl, rfl, hb'⟩
      case s8 =>
        refine st4_val _ rfl (.inr ⟨5, 21, true, rfl, rfl, rfl, rfl⟩) fun a u hb hA hd => ?_
        exact run_loadT rfl w.heap.size x p (hA.eval 2 rfl) (S3.out.one.on hb)
      case s9 =>
        refine st4_call _ rfl (.inr ⟨5, 21, true, rfl, rfl, rfl, rfl⟩) 14 fun a u hb hA hd => ?_
        have k0 := ev_of (show a.eval (.tmp 24) = x.v p from hd 8 24 rfl rfl _ rfl)
        refine ⟨#[x.v p], ?_, (HMR.out u).mono ?_⟩
        · unfold execOp
          simp [go_sem, k0]
        · rintro e w' ⟨rfl, hb'⟩
          exact ⟨_, rfl, rfl, hb'⟩
      case s10 =>
        exact st4_val _ rfl (.inr ⟨5, 21, true, rfl, rfl, rfl, rfl⟩) fun a u hb hA hd => by
          have q0 := ev_of (hd 7 23 rfl rfl _ rfl)
          have q1 := ev_of (hd 9 25 rfl rfl _ rfl)
          unfold execOp
          simp [go_sem, q0, q1]
      case s11 => exact st4_val _ rfl (.inl rfl) fun a u hb hA hd => (run_pickT rfl (hd 5 21 rfl rfl _ rfl)).trans (by rw [hd 10 26 rfl rfl _ rfl])
      case s12 => exact st4_move 11 27 rfl (.inl rfl) rfl rfl rfl
      case s13 =>
        refine st4_val _ rfl (.inr ⟨12, 28, true, rfl, rfl, rfl, rfl⟩) fun a u hb hA hd => ?_
        exact run_loadT rfl w.heap.size x p (hA.eval 2 rfl) (S3.out.one.on hb)
      case s14 =>
        refine st4_val _ rfl (.inr ⟨12, 28, true, rfl, rfl, rfl, rfl⟩) fun a u hb hA hd => ?_
        exact run_loadT rfl (w.heap.size + 1) y q (hA.eval 3 rfl) (S3.out.two.on hb)
      case s15 =>
        refine st4_call _ rfl (.inr ⟨12, 28, true, rfl, rfl, rfl, rfl⟩) 15 fun a u hb hA hd => ?_
        have k0 := ev_of (show a.eval (.tmp 29) = x.v p from hd 13 29 rfl rfl _ rfl)
        have k1 := ev_of (show a.eval (.tmp 30) = y.v q from hd 14 30 rfl rfl _ rfl)
        refine ⟨#[x.v p, y.v q], ?_, (HSA.out u (S3.out.l1.below hb) (S3.out.l2.below hb)).mono ?_⟩
        · unfold execOp
          simp [go_sem, k0, k1]
        · rintro e w' ⟨rfl, hb'⟩
          exact ⟨_, rfl, rfl, hb'⟩
      case s16 =>
        refine st4_val _ rfl (.inr ⟨12, 28, true, rfl, rfl, rfl, rfl⟩) fun a u hb hA hd => ?_
        exact run_loadT rfl w.heap.size x p (hA.eval 2 rfl) (S3.out.one.on hb)
      case s17 =>
        refine st4_val _ rfl (.inr ⟨12, 28, true, rfl, rfl, rfl, rfl⟩) fun a u hb hA hd => ?_
        exact run_loadT rfl (w.heap.size + 1) y q (hA.eval 3 rfl) (S3.out.two.on hb)
      case s18 =>
        refine st4_call _ rfl (.inr ⟨12, 28, true, rfl, rfl, rfl, rfl⟩) 16 fun a u hb hA hd => ?_
        have k0 := ev_of (show a.eval (.tmp 32) = x.v p from hd 16 32 rfl rfl _ rfl)
        have k1 := ev_of (show a.eval (.tmp 33) = y.v q from hd 17 33 rfl rfl _ rfl)
        refine ⟨#[x.v p, y.v q], ?_, (HSR.out u (S3.out.l1.below hb) (S3.out.l2.below hb)).mono ?_⟩
        · unfold execOp
          simp [go_sem, k0, k1]
        · rintro e w' ⟨rfl, hb'⟩
          exact ⟨_, rfl, rfl, hb'⟩
      case s19 =>
        exact st4_val _ rfl (.inr ⟨12, 28, true, rfl, rfl, rfl, rfl⟩) fun a u hb hA hd => by
          have q0 := ev_of (hd 15 31 rfl rfl _ rfl)
          have q1 := ev_of (hd 18 34 rfl rfl _ rfl)
          unfold execOp
          simp [go_sem, q0, q1]
      case s20 => exact st4_val _ rfl (.inl rfl) fun a u hb hA hd => (run_pickT rfl (hd 12 28 rfl rfl _ rfl)).trans (by rw [hd 19 35 rfl rfl _ rfl])
      case s21 => exact st4_move 20 36 rfl (.inl rfl) rfl rfl rfl
      case s22 =>
        refine st4_val _ rfl (.inr ⟨21, 37, true, rfl, rfl, rfl, rfl⟩) fun a u hb hA hd => ?_
        exact run_loadT rfl w.heap.size x p (hA.eval 2 rfl) (S3.out.one.on hb)
      case s23 =>
        refine st4_call _ rfl (.inr ⟨21, 37, true, rfl, rfl, rfl, rfl⟩) 17 fun a u hb hA hd => ?_
        have k0 := ev_of (show a.eval (.tmp 38) = x.v p from hd 22 38 rfl rfl _ rfl)
        refine ⟨#[x.v p], ?_, (acopy_calls x p u (S3.out.l1.below hb) HS1.out).mono ?_⟩
        · unfold execOp
          simp [go_sem, k0]
        · rintro e w' ⟨q, rfl, hC, hb'⟩
          exact ⟨_, rfl, ⟨q, rfl, hC.lies⟩, hb'⟩
      case s24 =>
        refine st4_val _ rfl (.inr ⟨21, 37, true, rfl, rfl, rfl, rfl⟩) fun a u hb hA hd => ?_
        exact run_loadT rfl w.heap.size x p (hA.eval 2 rfl) (S3.out.one.on hb)
      case s25 =>
        refine st4_call _ rfl (.inr ⟨21, 37, true, rfl, rfl, rfl, rfl⟩) 16 fun a u hb hA hd => ?_
        obtain ⟨q0, e0, hl0⟩ := (show ∃ p, a.eval (.tmp 39) = At.v x p ∧ ALies u x p from hd 23 39 rfl rfl _ rfl)
        have k0 := ev_of e0
        have k1 := ev_of (show a.eval (.tmp 40) = x.v p from hd 24 40 rfl rfl _ rfl)
        refine ⟨#[x.v q0, x.v p], ?_, (HSS.out q0 u hl0 (S3.out.l1.below hb)).mono ?_⟩
        · unfold execOp
          simp [go_sem, k0, k1]
        · rintro e w' ⟨rfl, hb'⟩
          exact ⟨_, rfl, rfl, hb'⟩
      case s26 => exact st4_val _ rfl (.inl rfl) fun a u hb hA hd => (run_pickT rfl (hd 21 37 rfl rfl _ rfl)).trans (by rw [hd 25 41 rfl rfl _ rfl])
      case s27 => exact st4_move 26 42 rfl (.inl rfl) rfl rfl rfl
      case s28 =>
        refine st4_call _ rfl (.inr ⟨27, 43, true, rfl, rfl, rfl, rfl⟩) 9 fun a u hb hA hd => ?_
        refine ⟨#[], ?_, (HAL.out u (S3.out.be.trans (hb.mono S3.out.be.size))).mono ?_⟩
        · unfold execOp
          simp [go_sem]
        · rintro e w' ⟨rfl, hb'⟩
          exact ⟨_, rfl, rfl, hb'⟩
      case s29 => exact st4_val _ rfl (.inl rfl) fun a u hb hA hd => (run_pickT rfl (hd 27 43 rfl rfl _ rfl)).trans (by rw [hd 28 44 rfl rfl _ rfl])
      case s30 => exact st4_assign 29 45 rfl (.inl rfl) rfl rfl rfl
    case rest =>
      intro vs u hb hR
      have ee : vs 30 = .bool true := hR 30 (by decide)
      simp only [putsFrom, Act.put, List.setIfInBounds_toArray, List.set_cons_succ, List.set_cons_zero, ee]
      generalize vs 0 = z0
      generalize vs 1 = z1
      generalize vs 2 = z2
      generalize vs 3 = z3
      generalize vs 4 = z4
      generalize vs 5 = z5
      generalize vs 6 = z6
      generalize vs 7 = z7
      generalize vs 8 = z8
      generalize vs 9 = z9
      generalize vs 10 = z10
      generalize vs 11 = z11
      generalize vs 12 = z12
      generalize vs 13 = z13
      generalize vs 14 = z14
      generalize vs 15 = z15
      generalize vs 16 = z16
      generalize vs 17 = z17
      generalize vs 18 = z18
      generalize vs 19 = z19
      generalize vs 20 = z20
      generalize vs 21 = z21
      generalize vs 22 = z22
      generalize vs 23 = z23
      generalize vs 24 = z24
      generalize vs 25 = z25
      generalize vs 26 = z26
      generalize vs 27 = z27
      generalize vs 28 = z28
      generalize vs 29 = z29
      have BW := Lib.hid (S3.out.be.trans (hb.mono S3.out.be.size))
      clear hR ee hb
      go_wp2_with (fail)
      go_ret
      exact ⟨rfl, BW.out⟩
end Go.Proofs.YtlejmpinfbmccaaGreatDoor
