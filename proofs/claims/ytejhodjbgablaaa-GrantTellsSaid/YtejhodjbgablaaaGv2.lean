/- GrantTells: whatever it is called with, it hands back true. -/
import Derived.Test.YtejhodjbgablaaaGu
import Derived.Test.YtejhodjbgablaaaAtStp
set_option linter.unusedSimpArgs false
set_option linter.unusedVariables false
namespace Go.Proofs.Ytejhodjbgablaaa
open Go.RowKit
set_option maxRecDepth 100000 in
set_option maxHeartbeats 16000000 in
theorem tells_law (c : Cr) (A : Option Addr) (n : Nat) (x : At) (p : ALie) (dir : Bool) (q g : Nat) (hq : q < 256) (w : World) (hc : CLies w c A) (h : ALies w x p) (hs : ABg x) :
    Calls Try.prog 3 #[c.v A n, x.v p, .bool dir, .int .u8 (q : Nat), .int .u16 (g : Nat)] w fun e w' => e = .returned (.bool true) ∧ Below w.heap.size w w' := by
  obtain ⟨V, hV⟩ : ∃ V, V = (w.alloc (.cells (c.c A n) 25)).alloc (.cells (x.c p) 31) := ⟨_, rfl⟩
  have S0 : Hid (Pb w V c A n x p) := Lib.hid (by rw [hV]; exact Pb.start hc h)
  have HBG := Lib.hid hs
  clear hc h hs
  go_enter Try.func3, Try.ntmps3
  go_upto_region 1 with (fail)
  rw [← hV]
  clear hV
  go_wp2_with (first
    | (refine wpList_load_part rfl 25 (.tmp 5) rfl w.heap.size 0 rfl (c.c A n).toList _ S0.out.cb.all Try.underlying25 rfl cred_size (c.v A n) rfl ?_)
    | (refine wpList_load_part rfl 31 (.tmp 6) rfl (w.heap.size + 1) 0 rfl (x.c p).toList _ S0.out.bt.bt0 Try.underlying31 rfl attr_size (x.v p) rfl ?_))
  refine (glarge_calls c A n x p V S0.out.cl S0.out.al HBG.out).mono ?_
  rintro e w1 ⟨rfl, hb⟩
  have S1 := Lib.hid (S0.out.on hb)
  clear hb S0
  cases hlg : largeG c x
  case true =>
    clear hlg
    go_wp2_with (fail)
    refine (alive_calls _).mono ?_
    rintro e w9 ⟨rfl, hb⟩
    have S9 := Lib.hid (S1.out.on hb)
    clear hb
    go_wp2_with (fail)
    go_ret
    exact ⟨rfl, S9.out.be⟩
  case false =>
  obtain ⟨hs, hks, h60⟩ := largeG_no hlg
  have HS := Lib.hid hs
  have HK := Lib.hid hks
  have H60 := Lib.hid h60
  clear hs hks h60 hlg HBG
  obtain ⟨tin, htin⟩ : ∃ m, inB c g = m := ⟨_, rfl⟩
  obtain ⟨tm, htm⟩ : ∃ m, mayG c x dir q = m := ⟨_, rfl⟩
  obtain ⟨mo, hmo⟩ : ∃ m, mostG c x dir = m := ⟨_, rfl⟩
  have HIN : Hid (∀ u, CLies u c A → Calls Try.prog 11 #[c.v A n, .int .u16 (g : Nat)] u fun e w' => e = .returned (.bool tin) ∧ Below u.heap.size u w') := Lib.hid (fun u hl => htin ▸ in_calls c A n g u hl)
  have HRI : Hid (∀ u, CLies u c A → Calls Try.prog 12 #[c.v A n, .int .u16 (g : Nat)] u fun e w' => e = .returned (.bool tin) ∧ Below u.heap.size u w') := Lib.hid (fun u hl => htin ▸ rin_calls c A n g u hl)
  have HMY : Hid (∀ (r : ALie) u, CLies u c A → ALies u x r → Calls Try.prog 13 #[c.v A n, x.v r, .bool dir, .int .u8 (q : Nat)] u fun e w' => e = .returned (.bool tm) ∧ Below u.heap.size u w') := Lib.hid (fun r u hc hl => htm ▸ may_calls c A n x r dir q u hc hl HS.out hq)
  have HRM : Hid (∀ u, CLies u c A → ALies u x p → Calls Try.prog 15 #[c.v A n, x.v p, .bool dir, .int .u8 (q : Nat)] u fun e w' => e = .returned (.bool tm) ∧ Below u.heap.size u w') := Lib.hid (fun u hc hl => by
    have h := rmayg_calls c A n x p dir q u hc hl HS.out HK.out hq
    rwa [← may_eq, htm] at h)
  have HMO : Hid (∀ (r : ALie) u, CLies u c A → ALies u x r → Calls Try.prog 16 #[c.v A n, x.v r, .bool dir] u fun e w' => e = .returned (.int .u8 (mo : Nat)) ∧ Below u.heap.size u w') := Lib.hid (fun r u hc hl => hmo ▸ most_calls c A n x r dir u hc hl HS.out)
  have HRO : Hid (∀ u, CLies u c A → ALies u x p → Calls Try.prog 17 #[c.v A n, x.v p, .bool dir] u fun e w' => e = .returned (.int .u8 (mo : Nat)) ∧ Below u.heap.size u w') := Lib.hid (fun u hc hl => by
    have h := rmost_calls c A n x p dir u hc hl HS.out HK.out
    rwa [← most_eq, hmo] at h)
  clear htin htm hmo
  have yc2 := S1.out.cb.c2
  obtain ⟨m, hm⟩ : ∃ m, c.gs.length = m := ⟨_, rfl⟩
  rw [hm] at yc2
  have hm60 : m ≤ 60 := by rw [← hm]; exact H60.out
  have HE0 : Hid (chkN c = if m ≤ 4 then 0 else 622) := Lib.hid (by rw [← hm]; rfl)
  clear hm
  by_cases h4 : m ≤ 4
  case pos =>
    have d1 : decide ((4 : Int) < (m : Int)) = false := by rw [decide_eq_false_iff_not]; omega
    have HE := Lib.hid (HE0.out.trans (if_pos h4))
    go_upto_region 6 with (fail)
    refine wp_region4 [.val (c.v A n), .val (.int .i64 (chkN c)), .val (.int .i64 (chkN c)), .val (.bool true), .val (.bool true), .val (c.v A n), .val (.int .u16 (g : Nat)), .val (.bool tin), .val (c.v A n), .val (.int .u16 (g : Nat)), .val (.bool tin), .val (.bool true), .val (.bool true), .val (.bool true), .val (c.v A n), .val (x.v p), .att x, .val (.bool dir), .val (.int .u8 (q : Nat)), .val (.bool tm), .val (c.v A n), .val (x.v p), .val (.bool dir), .val (.int .u8 (q : Nat)), .val (.bool tm), .val (.bool true), .val (.bool true), .val (.bool true), .val (c.v A n), .val (x.v p), .att x, .val (.bool dir), .val (.int .u8 (mo : Nat)), .val (c.v A n), .val (x.v p), .val (.bool dir), .val (.int .u8 (mo : Nat)), .val (.bool true), .val (.bool true), .val (.bool true), .val (.bool true), .val (.bool true), .val (.bool true)] (by kernel_rfl) (by kernel_rfl) (by kernel_rfl) ?steps ?rest
    case steps =>
      refine ⟨?s0, ?s1, ?s2, ?s3, ?s4, ?s5, ?s6, ?s7, ?s8, ?s9, ?s10, ?s11, ?s12, ?s13, ?s14, ?s15, ?s16, ?s17, ?s18, ?s19, ?s20, ?s21, ?s22, ?s23, ?s24, ?s25, ?s26, ?s27, ?s28, ?s29, ?s30, ?s31, ?s32, ?s33, ?s34, ?s35, ?s36, ?s37, ?s38, ?s39, ?s40, ?s41, ?s42, trivial⟩
      case s0 =>
        exact st4_val _ rfl (.inl rfl) fun a u hb hA hd => run_loadC rfl w.heap.size c A n (hA.eval 5 rfl) (S1.out.cb.on hb)
      case s1 =>
        refine st4_call _ rfl (.inl rfl) 10 fun a u hb hA hd => ?_
        have q0 := ev_of (show a.eval (.tmp 20) = c.v A n from hd 0 20 rfl rfl _ rfl)
        refine ⟨#[c.v A n], ?_, (gcheck_calls c A n u S1.out.cl.sm).mono ?_⟩
        · unfold execOp
          simp [go_sem, q0]
        · rintro e w' ⟨rfl, hb'⟩
          exact ⟨_, rfl, rfl, hb'⟩
      case s2 =>
        exact st4_val _ rfl (.inl rfl) fun a u hb hA hd => by
          have q0 := ev_of (show a.eval (.tmp 11) = .int .i64 (chkN c) from by rw [HE.out]; exact hA.eval 11 rfl)
          unfold execOp
          simp [go_sem, q0]
      case s3 =>
        exact st4_val _ rfl (.inl rfl) fun a u hb hA hd => by
          have q0 := ev_of (show a.eval (.tmp 21) = .int .i64 (chkN c) from hd 1 21 rfl rfl _ rfl)
          have q1 := ev_of (show a.eval (.tmp 22) = .int .i64 (chkN c) from hd 2 22 rfl rfl _ rfl)
          unfold execOp
          simp [go_sem, q0, q1]
      case s4 =>
        exact st4_move 3 23 rfl (.inl rfl) rfl rfl rfl
      case s5 =>
        exact st4_val _ rfl (.inr ⟨4, 24, true, rfl, rfl, rfl, rfl⟩) fun a u hb hA hd => run_loadC rfl w.heap.size c A n (hA.eval 5 rfl) (S1.out.cb.on hb)
      case s6 =>
        exact st4_val _ rfl (.inr ⟨4, 24, true, rfl, rfl, rfl, rfl⟩) fun a u hb hA hd => by
          have q0 := ev_of (show a.eval (.tmp 4) = .int .u16 (g : Nat) from hA.eval 4 rfl)
          unfold execOp
          simp [go_sem, q0]
      case s7 =>
        refine st4_call _ rfl (.inr ⟨4, 24, true, rfl, rfl, rfl, rfl⟩) 11 fun a u hb hA hd => ?_
        have q0 := ev_of (show a.eval (.tmp 25) = c.v A n from hd 5 25 rfl rfl _ rfl)
        have q1 := ev_of (show a.eval (.tmp 26) = .int .u16 (g : Nat) from hd 6 26 rfl rfl _ rfl)
        refine ⟨#[c.v A n, .int .u16 (g : Nat)], ?_, (HIN.out u (S1.out.cl.below hb)).mono ?_⟩
        · unfold execOp
          simp [go_sem, q0, q1]
        · rintro e w' ⟨rfl, hb'⟩
          exact ⟨_, rfl, rfl, hb'⟩
      case s8 =>
        exact st4_val _ rfl (.inr ⟨4, 24, true, rfl, rfl, rfl, rfl⟩) fun a u hb hA hd => run_loadC rfl w.heap.size c A n (hA.eval 5 rfl) (S1.out.cb.on hb)
      case s9 =>
        exact st4_val _ rfl (.inr ⟨4, 24, true, rfl, rfl, rfl, rfl⟩) fun a u hb hA hd => by
          have q0 := ev_of (show a.eval (.tmp 4) = .int .u16 (g : Nat) from hA.eval 4 rfl)
          unfold execOp
          simp [go_sem, q0]
      case s10 =>
        refine st4_call _ rfl (.inr ⟨4, 24, true, rfl, rfl, rfl, rfl⟩) 12 fun a u hb hA hd => ?_
        have q0 := ev_of (show a.eval (.tmp 28) = c.v A n from hd 8 28 rfl rfl _ rfl)
        have q1 := ev_of (show a.eval (.tmp 29) = .int .u16 (g : Nat) from hd 9 29 rfl rfl _ rfl)
        refine ⟨#[c.v A n, .int .u16 (g : Nat)], ?_, (HRI.out u (S1.out.cl.below hb)).mono ?_⟩
        · unfold execOp
          simp [go_sem, q0, q1]
        · rintro e w' ⟨rfl, hb'⟩
          exact ⟨_, rfl, rfl, hb'⟩
      case s11 =>
        exact st4_val _ rfl (.inr ⟨4, 24, true, rfl, rfl, rfl, rfl⟩) fun a u hb hA hd => by
          have q0 := ev_of (show a.eval (.tmp 27) = .bool tin from hd 7 27 rfl rfl _ rfl)
          have q1 := ev_of (show a.eval (.tmp 30) = .bool tin from hd 10 30 rfl rfl _ rfl)
          unfold execOp
          simp [go_sem, q0, q1]
      case s12 =>
        exact st4_val _ rfl (.inl rfl) fun a u hb hA hd => by
          have q0 := hd 4 24 rfl rfl _ rfl
          have q1 := hd 11 31 rfl rfl _ rfl
          rw [run_pickT rfl q0]
          exact congrArg (fun z => Result.ok (Next.value z) u) q1
      case s13 =>
        exact st4_move 12 32 rfl (.inl rfl) rfl rfl rfl
      case s14 =>
        exact st4_val _ rfl (.inr ⟨13, 33, true, rfl, rfl, rfl, rfl⟩) fun a u hb hA hd => run_loadC rfl w.heap.size c A n (hA.eval 5 rfl) (S1.out.cb.on hb)
      case s15 =>
        exact st4_val _ rfl (.inr ⟨13, 33, true, rfl, rfl, rfl, rfl⟩) fun a u hb hA hd => run_loadT rfl (w.heap.size + 1) x p (hA.eval 6 rfl) (S1.out.bt.on hb)
      case s16 =>
        refine st4_call _ rfl (.inr ⟨13, 33, true, rfl, rfl, rfl, rfl⟩) 14 fun a u hb hA hd => ?_
        have k0 := ev_of (show a.eval (.tmp 35) = x.v p from hd 15 35 rfl rfl _ rfl)
        refine ⟨#[x.v p], ?_, (racopy_calls x p u (S1.out.al.below hb) HS.out).mono ?_⟩
        · unfold execOp
          simp [go_sem, k0]
        · rintro e w' ⟨q, rfl, hC, hb'⟩
          exact ⟨_, rfl, ⟨q, rfl, hC.lies⟩, hb'⟩
      case s17 =>
        exact st4_val _ rfl (.inr ⟨13, 33, true, rfl, rfl, rfl, rfl⟩) fun a u hb hA hd => by
          have q0 := ev_of (show a.eval (.tmp 2) = .bool dir from hA.eval 2 rfl)
          unfold execOp
          simp [go_sem, q0]
      case s18 =>
        exact st4_val _ rfl (.inr ⟨13, 33, true, rfl, rfl, rfl, rfl⟩) fun a u hb hA hd => by
          have q0 := ev_of (show a.eval (.tmp 3) = .int .u8 (q : Nat) from hA.eval 3 rfl)
          unfold execOp
          simp [go_sem, q0]
      case s19 =>
        refine st4_call _ rfl (.inr ⟨13, 33, true, rfl, rfl, rfl, rfl⟩) 13 fun a u hb hA hd => ?_
        obtain ⟨r, e1, hl⟩ := (show ∃ p, a.eval (.tmp 36) = At.v x p ∧ ALies u x p from hd 16 36 rfl rfl _ rfl)
        have k1 := ev_of e1
        have k0 := ev_of (show a.eval (.tmp 34) = c.v A n from hd 14 34 rfl rfl _ rfl)
        have k2 := ev_of (show a.eval (.tmp 37) = .bool dir from hd 17 37 rfl rfl _ rfl)
        have k3 := ev_of (show a.eval (.tmp 38) = .int .u8 (q : Nat) from hd 18 38 rfl rfl _ rfl)
        refine ⟨#[c.v A n, x.v r, .bool dir, .int .u8 (q : Nat)], ?_, (HMY.out r u (S1.out.cl.below hb) hl).mono ?_⟩
        · unfold execOp
          simp [go_sem, k0, k1, k2, k3]
        · rintro e w' ⟨rfl, hb'⟩
          exact ⟨_, rfl, rfl, hb'⟩
      case s20 =>
        exact st4_val _ rfl (.inr ⟨13, 33, true, rfl, rfl, rfl, rfl⟩) fun a u hb hA hd => run_loadC rfl w.heap.size c A n (hA.eval 5 rfl) (S1.out.cb.on hb)
      case s21 =>
        exact st4_val _ rfl (.inr ⟨13, 33, true, rfl, rfl, rfl, rfl⟩) fun a u hb hA hd => run_loadT rfl (w.heap.size + 1) x p (hA.eval 6 rfl) (S1.out.bt.on hb)
      case s22 =>
        exact st4_val _ rfl (.inr ⟨13, 33, true, rfl, rfl, rfl, rfl⟩) fun a u hb hA hd => by
          have q0 := ev_of (show a.eval (.tmp 2) = .bool dir from hA.eval 2 rfl)
          unfold execOp
          simp [go_sem, q0]
      case s23 =>
        exact st4_val _ rfl (.inr ⟨13, 33, true, rfl, rfl, rfl, rfl⟩) fun a u hb hA hd => by
          have q0 := ev_of (show a.eval (.tmp 3) = .int .u8 (q : Nat) from hA.eval 3 rfl)
          unfold execOp
          simp [go_sem, q0]
      case s24 =>
        refine st4_call _ rfl (.inr ⟨13, 33, true, rfl, rfl, rfl, rfl⟩) 15 fun a u hb hA hd => ?_
        have q0 := ev_of (show a.eval (.tmp 40) = c.v A n from hd 20 40 rfl rfl _ rfl)
        have q1 := ev_of (show a.eval (.tmp 41) = x.v p from hd 21 41 rfl rfl _ rfl)
        have q2 := ev_of (show a.eval (.tmp 42) = .bool dir from hd 22 42 rfl rfl _ rfl)
        have q3 := ev_of (show a.eval (.tmp 43) = .int .u8 (q : Nat) from hd 23 43 rfl rfl _ rfl)
        refine ⟨#[c.v A n, x.v p, .bool dir, .int .u8 (q : Nat)], ?_, (HRM.out u (S1.out.cl.below hb) (S1.out.al.below hb)).mono ?_⟩
        · unfold execOp
          simp [go_sem, q0, q1, q2, q3]
        · rintro e w' ⟨rfl, hb'⟩
          exact ⟨_, rfl, rfl, hb'⟩
      case s25 =>
        exact st4_val _ rfl (.inr ⟨13, 33, true, rfl, rfl, rfl, rfl⟩) fun a u hb hA hd => by
          have q0 := ev_of (show a.eval (.tmp 39) = .bool tm from hd 19 39 rfl rfl _ rfl)
          have q1 := ev_of (show a.eval (.tmp 44) = .bool tm from hd 24 44 rfl rfl _ rfl)
          unfold execOp
          simp [go_sem, q0, q1]
      case s26 =>
        exact st4_val _ rfl (.inl rfl) fun a u hb hA hd => by
          have q0 := hd 13 33 rfl rfl _ rfl
          have q1 := hd 25 45 rfl rfl _ rfl
          rw [run_pickT rfl q0]
          exact congrArg (fun z => Result.ok (Next.value z) u) q1
      case s27 =>
        exact st4_move 26 46 rfl (.inl rfl) rfl rfl rfl
      case s28 =>
        exact st4_val _ rfl (.inr ⟨27, 47, true, rfl, rfl, rfl, rfl⟩) fun a u hb hA hd => run_loadC rfl w.heap.size c A n (hA.eval 5 rfl) (S1.out.cb.on hb)
      case s29 =>
        exact st4_val _ rfl (.inr ⟨27, 47, true, rfl, rfl, rfl, rfl⟩) fun a u hb hA hd => run_loadT rfl (w.heap.size + 1) x p (hA.eval 6 rfl) (S1.out.bt.on hb)
      case s30 =>
        refine st4_call _ rfl (.inr ⟨27, 47, true, rfl, rfl, rfl, rfl⟩) 14 fun a u hb hA hd => ?_
        have k0 := ev_of (show a.eval (.tmp 49) = x.v p from hd 29 49 rfl rfl _ rfl)
        refine ⟨#[x.v p], ?_, (racopy_calls x p u (S1.out.al.below hb) HS.out).mono ?_⟩
        · unfold execOp
          simp [go_sem, k0]
        · rintro e w' ⟨q, rfl, hC, hb'⟩
          exact ⟨_, rfl, ⟨q, rfl, hC.lies⟩, hb'⟩
      case s31 =>
        exact st4_val _ rfl (.inr ⟨27, 47, true, rfl, rfl, rfl, rfl⟩) fun a u hb hA hd => by
          have q0 := ev_of (show a.eval (.tmp 2) = .bool dir from hA.eval 2 rfl)
          unfold execOp
          simp [go_sem, q0]
      case s32 =>
        refine st4_call _ rfl (.inr ⟨27, 47, true, rfl, rfl, rfl, rfl⟩) 16 fun a u hb hA hd => ?_
        obtain ⟨r, e1, hl⟩ := (show ∃ p, a.eval (.tmp 50) = At.v x p ∧ ALies u x p from hd 30 50 rfl rfl _ rfl)
        have k1 := ev_of e1
        have k0 := ev_of (show a.eval (.tmp 48) = c.v A n from hd 28 48 rfl rfl _ rfl)
        have k2 := ev_of (show a.eval (.tmp 51) = .bool dir from hd 31 51 rfl rfl _ rfl)
        refine ⟨#[c.v A n, x.v r, .bool dir], ?_, (HMO.out r u (S1.out.cl.below hb) hl).mono ?_⟩
        · unfold execOp
          simp [go_sem, k0, k1, k2]
        · rintro e w' ⟨rfl, hb'⟩
          exact ⟨_, rfl, rfl, hb'⟩
      case s33 =>
        exact st4_val _ rfl (.inr ⟨27, 47, true, rfl, rfl, rfl, rfl⟩) fun a u hb hA hd => run_loadC rfl w.heap.size c A n (hA.eval 5 rfl) (S1.out.cb.on hb)
      case s34 =>
        exact st4_val _ rfl (.inr ⟨27, 47, true, rfl, rfl, rfl, rfl⟩) fun a u hb hA hd => run_loadT rfl (w.heap.size + 1) x p (hA.eval 6 rfl) (S1.out.bt.on hb)
      case s35 =>
        exact st4_val _ rfl (.inr ⟨27, 47, true, rfl, rfl, rfl, rfl⟩) fun a u hb hA hd => by
          have q0 := ev_of (show a.eval (.tmp 2) = .bool dir from hA.eval 2 rfl)
          unfold execOp
          simp [go_sem, q0]
      case s36 =>
        refine st4_call _ rfl (.inr ⟨27, 47, true, rfl, rfl, rfl, rfl⟩) 17 fun a u hb hA hd => ?_
        have q0 := ev_of (show a.eval (.tmp 53) = c.v A n from hd 33 53 rfl rfl _ rfl)
        have q1 := ev_of (show a.eval (.tmp 54) = x.v p from hd 34 54 rfl rfl _ rfl)
        have q2 := ev_of (show a.eval (.tmp 55) = .bool dir from hd 35 55 rfl rfl _ rfl)
        refine ⟨#[c.v A n, x.v p, .bool dir], ?_, (HRO.out u (S1.out.cl.below hb) (S1.out.al.below hb)).mono ?_⟩
        · unfold execOp
          simp [go_sem, q0, q1, q2]
        · rintro e w' ⟨rfl, hb'⟩
          exact ⟨_, rfl, rfl, hb'⟩
      case s37 =>
        exact st4_val _ rfl (.inr ⟨27, 47, true, rfl, rfl, rfl, rfl⟩) fun a u hb hA hd => by
          have q0 := ev_of (show a.eval (.tmp 52) = .int .u8 (mo : Nat) from hd 32 52 rfl rfl _ rfl)
          have q1 := ev_of (show a.eval (.tmp 56) = .int .u8 (mo : Nat) from hd 36 56 rfl rfl _ rfl)
          unfold execOp
          simp [go_sem, q0, q1]
      case s38 =>
        exact st4_val _ rfl (.inl rfl) fun a u hb hA hd => by
          have q0 := hd 27 47 rfl rfl _ rfl
          have q1 := hd 37 57 rfl rfl _ rfl
          rw [run_pickT rfl q0]
          exact congrArg (fun z => Result.ok (Next.value z) u) q1
      case s39 =>
        exact st4_move 38 58 rfl (.inl rfl) rfl rfl rfl
      case s40 =>
        refine st4_call _ rfl (.inr ⟨39, 59, true, rfl, rfl, rfl, rfl⟩) 9 fun a u hb hA hd => ?_
        refine ⟨#[], ?_, (alive_calls u).mono ?_⟩
        · unfold execOp
          simp [go_sem]
        · rintro e w' ⟨rfl, hb'⟩
          exact ⟨_, rfl, rfl, hb'⟩
      case s41 =>
        exact st4_val _ rfl (.inl rfl) fun a u hb hA hd => by
          have q0 := hd 39 59 rfl rfl _ rfl
          have q1 := hd 40 60 rfl rfl _ rfl
          rw [run_pickT rfl q0]
          exact congrArg (fun z => Result.ok (Next.value z) u) q1
      case s42 =>
        exact st4_assign 41 61 rfl (.inl rfl) rfl rfl rfl
    case rest =>
      intro vs u hb hR
      have ee : vs 42 = .bool true := hR 42 (by decide)
      simp only [putsFrom, Act.put, List.setIfInBounds_toArray, List.set_cons_succ, List.set_cons_zero, ee]
      generalize vs 0 = z0
      generalize vs 1 = z1
      generalize vs 2 = z2
      generalize vs 3 = z3
      generalize vs 4 = z4
      generalize vs 5 = z5
      generalize vs 6 = z6
      generalize vs 7 = z7
      generalize vs 8 = z8
      generalize vs 9 = z9
      generalize vs 10 = z10
      generalize vs 11 = z11
      generalize vs 12 = z12
      generalize vs 13 = z13
      generalize vs 14 = z14
      generalize vs 15 = z15
      generalize vs 16 = z16
      generalize vs 17 = z17
      generalize vs 18 = z18
      generalize vs 19 = z19
      generalize vs 20 = z20
      generalize vs 21 = z21
      generalize vs 22 = z22
      generalize vs 23 = z23
      generalize vs 24 = z24
      generalize vs 25 = z25
      generalize vs 26 = z26
      generalize vs 27 = z27
      generalize vs 28 = z28
      generalize vs 29 = z29
      generalize vs 30 = z30
      generalize vs 31 = z31
      generalize vs 32 = z32
      generalize vs 33 = z33
      generalize vs 34 = z34
      generalize vs 35 = z35
      generalize vs 36 = z36
      generalize vs 37 = z37
      generalize vs 38 = z38
      generalize vs 39 = z39
      generalize vs 40 = z40
      generalize vs 41 = z41
      have HBE := Lib.hid (S1.out.on hb).be
      clear hR hb
      go_wp2_with (fail)
      go_ret
      exact ⟨rfl, HBE.out⟩
  case neg =>
    have d1 : decide ((4 : Int) < (m : Int)) = true := by rw [decide_eq_true_eq]; omega
    have HE := Lib.hid (HE0.out.trans (if_neg h4))
    go_upto_region 6 with (fail)
    refine wp_region4 [.val (c.v A n), .val (.int .i64 (chkN c)), .val (.int .i64 (chkN c)), .val (.bool true), .val (.bool true), .val (c.v A n), .val (.int .u16 (g : Nat)), .val (.bool tin), .val (c.v A n), .val (.int .u16 (g : Nat)), .val (.bool tin), .val (.bool true), .val (.bool true), .val (.bool true), .val (c.v A n), .val (x.v p), .att x, .val (.bool dir), .val (.int .u8 (q : Nat)), .val (.bool tm), .val (c.v A n), .val (x.v p), .val (.bool dir), .val (.int .u8 (q : Nat)), .val (.bool tm), .val (.bool true), .val (.bool true), .val (.bool true), .val (c.v A n), .val (x.v p), .att x, .val (.bool dir), .val (.int .u8 (mo : Nat)), .val (c.v A n), .val (x.v p), .val (.bool dir), .val (.int .u8 (mo : Nat)), .val (.bool true), .val (.bool true), .val (.bool true), .val (.bool true), .val (.bool true), .val (.bool true)] (by kernel_rfl) (by kernel_rfl) (by kernel_rfl) ?steps ?rest
    case steps =>
      refine ⟨?s0, ?s1, ?s2, ?s3, ?s4, ?s5, ?s6, ?s7, ?s8, ?s9, ?s10, ?s11, ?s12, ?s13, ?s14, ?s15, ?s16, ?s17, ?s18, ?s19, ?s20, ?s21, ?s22, ?s23, ?s24, ?s25, ?s26, ?s27, ?s28, ?s29, ?s30, ?s31, ?s32, ?s33, ?s34, ?s35, ?s36, ?s37, ?s38, ?s39, ?s40, ?s41, ?s42, trivial⟩
      case s0 =>
        exact st4_val _ rfl (.inl rfl) fun a u hb hA hd => run_loadC rfl w.heap.size c A n (hA.eval 5 rfl) (S1.out.cb.on hb)
      case s1 =>
        refine st4_call _ rfl (.inl rfl) 10 fun a u hb hA hd => ?_
        have q0 := ev_of (show a.eval (.tmp 20) = c.v A n from hd 0 20 rfl rfl _ rfl)
        refine ⟨#[c.v A n], ?_, (gcheck_calls c A n u S1.out.cl.sm).mono ?_⟩
        · unfold execOp
          simp [go_sem, q0]
        · rintro e w' ⟨rfl, hb'⟩
          exact ⟨_, rfl, rfl, hb'⟩
      case s2 =>
        exact st4_val _ rfl (.inl rfl) fun a u hb hA hd => by
          have q0 := ev_of (show a.eval (.tmp 11) = .int .i64 (chkN c) from by rw [HE.out]; exact hA.eval 11 rfl)
          unfold execOp
          simp [go_sem, q0]
      case s3 =>
        exact st4_val _ rfl (.inl rfl) fun a u hb hA hd => by
          have q0 := ev_of (show a.eval (.tmp 21) = .int .i64 (chkN c) from hd 1 21 rfl rfl _ rfl)
          have q1 := ev_of (show a.eval (.tmp 22) = .int .i64 (chkN c) from hd 2 22 rfl rfl _ rfl)
          unfold execOp
          simp [go_sem, q0, q1]
      case s4 =>
        exact st4_move 3 23 rfl (.inl rfl) rfl rfl rfl
      case s5 =>
        exact st4_val _ rfl (.inr ⟨4, 24, true, rfl, rfl, rfl, rfl⟩) fun a u hb hA hd => run_loadC rfl w.heap.size c A n (hA.eval 5 rfl) (S1.out.cb.on hb)
      case s6 =>
        exact st4_val _ rfl (.inr ⟨4, 24, true, rfl, rfl, rfl, rfl⟩) fun a u hb hA hd => by
          have q0 := ev_of (show a.eval (.tmp 4) = .int .u16 (g : Nat) from hA.eval 4 rfl)
          unfold execOp
          simp [go_sem, q0]
      case s7 =>
        refine st4_call _ rfl (.inr ⟨4, 24, true, rfl, rfl, rfl, rfl⟩) 11 fun a u hb hA hd => ?_
        have q0 := ev_of (show a.eval (.tmp 25) = c.v A n from hd 5 25 rfl rfl _ rfl)
        have q1 := ev_of (show a.eval (.tmp 26) = .int .u16 (g : Nat) from hd 6 26 rfl rfl _ rfl)
        refine ⟨#[c.v A n, .int .u16 (g : Nat)], ?_, (HIN.out u (S1.out.cl.below hb)).mono ?_⟩
        · unfold execOp
          simp [go_sem, q0, q1]
        · rintro e w' ⟨rfl, hb'⟩
          exact ⟨_, rfl, rfl, hb'⟩
      case s8 =>
        exact st4_val _ rfl (.inr ⟨4, 24, true, rfl, rfl, rfl, rfl⟩) fun a u hb hA hd => run_loadC rfl w.heap.size c A n (hA.eval 5 rfl) (S1.out.cb.on hb)
      case s9 =>
        exact st4_val _ rfl (.inr ⟨4, 24, true, rfl, rfl, rfl, rfl⟩) fun a u hb hA hd => by
          have q0 := ev_of (show a.eval (.tmp 4) = .int .u16 (g : Nat) from hA.eval 4 rfl)
          unfold execOp
          simp [go_sem, q0]
      case s10 =>
        refine st4_call _ rfl (.inr ⟨4, 24, true, rfl, rfl, rfl, rfl⟩) 12 fun a u hb hA hd => ?_
        have q0 := ev_of (show a.eval (.tmp 28) = c.v A n from hd 8 28 rfl rfl _ rfl)
        have q1 := ev_of (show a.eval (.tmp 29) = .int .u16 (g : Nat) from hd 9 29 rfl rfl _ rfl)
        refine ⟨#[c.v A n, .int .u16 (g : Nat)], ?_, (HRI.out u (S1.out.cl.below hb)).mono ?_⟩
        · unfold execOp
          simp [go_sem, q0, q1]
        · rintro e w' ⟨rfl, hb'⟩
          exact ⟨_, rfl, rfl, hb'⟩
      case s11 =>
        exact st4_val _ rfl (.inr ⟨4, 24, true, rfl, rfl, rfl, rfl⟩) fun a u hb hA hd => by
          have q0 := ev_of (show a.eval (.tmp 27) = .bool tin from hd 7 27 rfl rfl _ rfl)
          have q1 := ev_of (show a.eval (.tmp 30) = .bool tin from hd 10 30 rfl rfl _ rfl)
          unfold execOp
          simp [go_sem, q0, q1]
      case s12 =>
        exact st4_val _ rfl (.inl rfl) fun a u hb hA hd => by
          have q0 := hd 4 24 rfl rfl _ rfl
          have q1 := hd 11 31 rfl rfl _ rfl
          rw [run_pickT rfl q0]
          exact congrArg (fun z => Result.ok (Next.value z) u) q1
      case s13 =>
        exact st4_move 12 32 rfl (.inl rfl) rfl rfl rfl
      case s14 =>
        exact st4_val _ rfl (.inr ⟨13, 33, true, rfl, rfl, rfl, rfl⟩) fun a u hb hA hd => run_loadC rfl w.heap.size c A n (hA.eval 5 rfl) (S1.out.cb.on hb)
      case s15 =>
        exact st4_val _ rfl (.inr ⟨13, 33, true, rfl, rfl, rfl, rfl⟩) fun a u hb hA hd => run_loadT rfl (w.heap.size + 1) x p (hA.eval 6 rfl) (S1.out.bt.on hb)
      case s16 =>
        refine st4_call _ rfl (.inr ⟨13, 33, true, rfl, rfl, rfl, rfl⟩) 14 fun a u hb hA hd => ?_
        have k0 := ev_of (show a.eval (.tmp 35) = x.v p from hd 15 35 rfl rfl _ rfl)
        refine ⟨#[x.v p], ?_, (racopy_calls x p u (S1.out.al.below hb) HS.out).mono ?_⟩
        · unfold execOp
          simp [go_sem, k0]
        · rintro e w' ⟨q, rfl, hC, hb'⟩
          exact ⟨_, rfl, ⟨q, rfl, hC.lies⟩, hb'⟩
      case s17 =>
        exact st4_val _ rfl (.inr ⟨13, 33, true, rfl, rfl, rfl, rfl⟩) fun a u hb hA hd => by
          have q0 := ev_of (show a.eval (.tmp 2) = .bool dir from hA.eval 2 rfl)
          unfold execOp
          simp [go_sem, q0]
      case s18 =>
        exact st4_val _ rfl (.inr ⟨13, 33, true, rfl, rfl, rfl, rfl⟩) fun a u hb hA hd => by
          have q0 := ev_of (show a.eval (.tmp 3) = .int .u8 (q : Nat) from hA.eval 3 rfl)
          unfold execOp
          simp [go_sem, q0]
      case s19 =>
        refine st4_call _ rfl (.inr ⟨13, 33, true, rfl, rfl, rfl, rfl⟩) 13 fun a u hb hA hd => ?_
        obtain ⟨r, e1, hl⟩ := (show ∃ p, a.eval (.tmp 36) = At.v x p ∧ ALies u x p from hd 16 36 rfl rfl _ rfl)
        have k1 := ev_of e1
        have k0 := ev_of (show a.eval (.tmp 34) = c.v A n from hd 14 34 rfl rfl _ rfl)
        have k2 := ev_of (show a.eval (.tmp 37) = .bool dir from hd 17 37 rfl rfl _ rfl)
        have k3 := ev_of (show a.eval (.tmp 38) = .int .u8 (q : Nat) from hd 18 38 rfl rfl _ rfl)
        refine ⟨#[c.v A n, x.v r, .bool dir, .int .u8 (q : Nat)], ?_, (HMY.out r u (S1.out.cl.below hb) hl).mono ?_⟩
        · unfold execOp
          simp [go_sem, k0, k1, k2, k3]
        · rintro e w' ⟨rfl, hb'⟩
          exact ⟨_, rfl, rfl, hb'⟩
      case s20 =>
        exact st4_val _ rfl (.inr ⟨13, 33, true, rfl, rfl, rfl, rfl⟩) fun a u hb hA hd => run_loadC rfl w.heap.size c A n (hA.eval 5 rfl) (S1.out.cb.on hb)
      case s21 =>
        exact st4_val _ rfl (.inr ⟨13, 33, true, rfl, rfl, rfl, rfl⟩) fun a u hb hA hd => run_loadT rfl (w.heap.size + 1) x p (hA.eval 6 rfl) (S1.out.bt.on hb)
      case s22 =>
        exact st4_val _ rfl (.inr ⟨13, 33, true, rfl, rfl, rfl, rfl⟩) fun a u hb hA hd => by
          have q0 := ev_of (show a.eval (.tmp 2) = .bool dir from hA.eval 2 rfl)
          unfold execOp
          simp [go_sem, q0]
      case s23 =>
        exact st4_val _ rfl (.inr ⟨13, 33, true, rfl, rfl, rfl, rfl⟩) fun a u hb hA hd => by
          have q0 := ev_of (show a.eval (.tmp 3) = .int .u8 (q : Nat) from hA.eval 3 rfl)
          unfold execOp
          simp [go_sem, q0]
      case s24 =>
        refine st4_call _ rfl (.inr ⟨13, 33, true, rfl, rfl, rfl, rfl⟩) 15 fun a u hb hA hd => ?_
        have q0 := ev_of (show a.eval (.tmp 40) = c.v A n from hd 20 40 rfl rfl _ rfl)
        have q1 := ev_of (show a.eval (.tmp 41) = x.v p from hd 21 41 rfl rfl _ rfl)
        have q2 := ev_of (show a.eval (.tmp 42) = .bool dir from hd 22 42 rfl rfl _ rfl)
        have q3 := ev_of (show a.eval (.tmp 43) = .int .u8 (q : Nat) from hd 23 43 rfl rfl _ rfl)
        refine ⟨#[c.v A n, x.v p, .bool dir, .int .u8 (q : Nat)], ?_, (HRM.out u (S1.out.cl.below hb) (S1.out.al.below hb)).mono ?_⟩
        · unfold execOp
          simp [go_sem, q0, q1, q2, q3]
        · rintro e w' ⟨rfl, hb'⟩
          exact ⟨_, rfl, rfl, hb'⟩
      case s25 =>
        exact st4_val _ rfl (.inr ⟨13, 33, true, rfl, rfl, rfl, rfl⟩) fun a u hb hA hd => by
          have q0 := ev_of (show a.eval (.tmp 39) = .bool tm from hd 19 39 rfl rfl _ rfl)
          have q1 := ev_of (show a.eval (.tmp 44) = .bool tm from hd 24 44 rfl rfl _ rfl)
          unfold execOp
          simp [go_sem, q0, q1]
      case s26 =>
        exact st4_val _ rfl (.inl rfl) fun a u hb hA hd => by
          have q0 := hd 13 33 rfl rfl _ rfl
          have q1 := hd 25 45 rfl rfl _ rfl
          rw [run_pickT rfl q0]
          exact congrArg (fun z => Result.ok (Next.value z) u) q1
      case s27 =>
        exact st4_move 26 46 rfl (.inl rfl) rfl rfl rfl
      case s28 =>
        exact st4_val _ rfl (.inr ⟨27, 47, true, rfl, rfl, rfl, rfl⟩) fun a u hb hA hd => run_loadC rfl w.heap.size c A n (hA.eval 5 rfl) (S1.out.cb.on hb)
      case s29 =>
        exact st4_val _ rfl (.inr ⟨27, 47, true, rfl, rfl, rfl, rfl⟩) fun a u hb hA hd => run_loadT rfl (w.heap.size + 1) x p (hA.eval 6 rfl) (S1.out.bt.on hb)
      case s30 =>
        refine st4_call _ rfl (.inr ⟨27, 47, true, rfl, rfl, rfl, rfl⟩) 14 fun a u hb hA hd => ?_
        have k0 := ev_of (show a.eval (.tmp 49) = x.v p from hd 29 49 rfl rfl _ rfl)
        refine ⟨#[x.v p], ?_, (racopy_calls x p u (S1.out.al.below hb) HS.out).mono ?_⟩
        · unfold execOp
          simp [go_sem, k0]
        · rintro e w' ⟨q, rfl, hC, hb'⟩
          exact ⟨_, rfl, ⟨q, rfl, hC.lies⟩, hb'⟩
      case s31 =>
        exact st4_val _ rfl (.inr ⟨27, 47, true, rfl, rfl, rfl, rfl⟩) fun a u hb hA hd => by
          have q0 := ev_of (show a.eval (.tmp 2) = .bool dir from hA.eval 2 rfl)
          unfold execOp
          simp [go_sem, q0]
      case s32 =>
        refine st4_call _ rfl (.inr ⟨27, 47, true, rfl, rfl, rfl, rfl⟩) 16 fun a u hb hA hd => ?_
        obtain ⟨r, e1, hl⟩ := (show ∃ p, a.eval (.tmp 50) = At.v x p ∧ ALies u x p from hd 30 50 rfl rfl _ rfl)
        have k1 := ev_of e1
        have k0 := ev_of (show a.eval (.tmp 48) = c.v A n from hd 28 48 rfl rfl _ rfl)
        have k2 := ev_of (show a.eval (.tmp 51) = .bool dir from hd 31 51 rfl rfl _ rfl)
        refine ⟨#[c.v A n, x.v r, .bool dir], ?_, (HMO.out r u (S1.out.cl.below hb) hl).mono ?_⟩
        · unfold execOp
          simp [go_sem, k0, k1, k2]
        · rintro e w' ⟨rfl, hb'⟩
          exact ⟨_, rfl, rfl, hb'⟩
      case s33 =>
        exact st4_val _ rfl (.inr ⟨27, 47, true, rfl, rfl, rfl, rfl⟩) fun a u hb hA hd => run_loadC rfl w.heap.size c A n (hA.eval 5 rfl) (S1.out.cb.on hb)
      case s34 =>
        exact st4_val _ rfl (.inr ⟨27, 47, true, rfl, rfl, rfl, rfl⟩) fun a u hb hA hd => run_loadT rfl (w.heap.size + 1) x p (hA.eval 6 rfl) (S1.out.bt.on hb)
      case s35 =>
        exact st4_val _ rfl (.inr ⟨27, 47, true, rfl, rfl, rfl, rfl⟩) fun a u hb hA hd => by
          have q0 := ev_of (show a.eval (.tmp 2) = .bool dir from hA.eval 2 rfl)
          unfold execOp
          simp [go_sem, q0]
      case s36 =>
        refine st4_call _ rfl (.inr ⟨27, 47, true, rfl, rfl, rfl, rfl⟩) 17 fun a u hb hA hd => ?_
        have q0 := ev_of (show a.eval (.tmp 53) = c.v A n from hd 33 53 rfl rfl _ rfl)
        have q1 := ev_of (show a.eval (.tmp 54) = x.v p from hd 34 54 rfl rfl _ rfl)
        have q2 := ev_of (show a.eval (.tmp 55) = .bool dir from hd 35 55 rfl rfl _ rfl)
        refine ⟨#[c.v A n, x.v p, .bool dir], ?_, (HRO.out u (S1.out.cl.below hb) (S1.out.al.below hb)).mono ?_⟩
        · unfold execOp
          simp [go_sem, q0, q1, q2]
        · rintro e w' ⟨rfl, hb'⟩
          exact ⟨_, rfl, rfl, hb'⟩
      case s37 =>
        exact st4_val _ rfl (.inr ⟨27, 47, true, rfl, rfl, rfl, rfl⟩) fun a u hb hA hd => by
          have q0 := ev_of (show a.eval (.tmp 52) = .int .u8 (mo : Nat) from hd 32 52 rfl rfl _ rfl)
          have q1 := ev_of (show a.eval (.tmp 56) = .int .u8 (mo : Nat) from hd 36 56 rfl rfl _ rfl)
          unfold execOp
          simp [go_sem, q0, q1]
      case s38 =>
        exact st4_val _ rfl (.inl rfl) fun a u hb hA hd => by
          have q0 := hd 27 47 rfl rfl _ rfl
          have q1 := hd 37 57 rfl rfl _ rfl
          rw [run_pickT rfl q0]
          exact congrArg (fun z => Result.ok (Next.value z) u) q1
      case s39 =>
        exact st4_move 38 58 rfl (.inl rfl) rfl rfl rfl
      case s40 =>
        refine st4_call _ rfl (.inr ⟨39, 59, true, rfl, rfl, rfl, rfl⟩) 9 fun a u hb hA hd => ?_
        refine ⟨#[], ?_, (alive_calls u).mono ?_⟩
        · unfold execOp
          simp [go_sem]
        · rintro e w' ⟨rfl, hb'⟩
          exact ⟨_, rfl, rfl, hb'⟩
      case s41 =>
        exact st4_val _ rfl (.inl rfl) fun a u hb hA hd => by
          have q0 := hd 39 59 rfl rfl _ rfl
          have q1 := hd 40 60 rfl rfl _ rfl
          rw [run_pickT rfl q0]
          exact congrArg (fun z => Result.ok (Next.value z) u) q1
      case s42 =>
        exact st4_assign 41 61 rfl (.inl rfl) rfl rfl rfl
    case rest =>
      intro vs u hb hR
      have ee : vs 42 = .bool true := hR 42 (by decide)
      simp only [putsFrom, Act.put, List.setIfInBounds_toArray, List.set_cons_succ, List.set_cons_zero, ee]
      generalize vs 0 = z0
      generalize vs 1 = z1
      generalize vs 2 = z2
      generalize vs 3 = z3
      generalize vs 4 = z4
      generalize vs 5 = z5
      generalize vs 6 = z6
      generalize vs 7 = z7
      generalize vs 8 = z8
      generalize vs 9 = z9
      generalize vs 10 = z10
      generalize vs 11 = z11
      generalize vs 12 = z12
      generalize vs 13 = z13
      generalize vs 14 = z14
      generalize vs 15 = z15
      generalize vs 16 = z16
      generalize vs 17 = z17
      generalize vs 18 = z18
      generalize vs 19 = z19
      generalize vs 20 = z20
      generalize vs 21 = z21
      generalize vs 22 = z22
      generalize vs 23 = z23
      generalize vs 24 = z24
      generalize vs 25 = z25
      generalize vs 26 = z26
      generalize vs 27 = z27
      generalize vs 28 = z28
      generalize vs 29 = z29
      generalize vs 30 = z30
      generalize vs 31 = z31
      generalize vs 32 = z32
      generalize vs 33 = z33
      generalize vs 34 = z34
      generalize vs 35 = z35
      generalize vs 36 = z36
      generalize vs 37 = z37
      generalize vs 38 = z38
      generalize vs 39 = z39
      generalize vs 40 = z40
      generalize vs 41 = z41
      have HBE := Lib.hid (S1.out.on hb).be
      clear hR hb
      go_wp2_with (fail)
      go_ret
      exact ⟨rfl, HBE.out⟩
end Go.Proofs.Ytejhodjbgablaaa
