/- AclBits: whatever it is called with, it hands back true. -/
import Derived.Test.YtcjaebcninlhlaaAcLawS
set_option linter.unusedSimpArgs false
set_option linter.unusedVariables false
namespace Go.Proofs.Ytcjaebcninlhlaa
open Go.RowKit
/-- A list in a block of its own, and its rows. -/
structure Held (W : World) (g : Nat) (y : Ac) (r : Lie) : Prop where
  blk : Ab W g y r
  row : Lies W y r
theorem Held.on {W V : World} {g : Nat} {y : Ac} {r : Lie} (h : Held W g y r) (hb : Below W.heap.size W V) : Held V g y r := ⟨h.blk.on hb, h.row.below hb⟩
theorem Held.new {W : World} {y : Ac} {r : Lie} (h : Lies W y r) : Held (W.alloc (.cells (y.c r) 24)) W.heap.size y r := ⟨Ab.new W y r, h.below ((Below.refl _ _).alloc (Nat.le_refl _) _)⟩
theorem below_new (W : World) (y : Ac) (r : Lie) : Below W.heap.size W (W.alloc (.cells (y.c r) 24)) := (Below.refl _ _).alloc (Nat.le_refl _) _
theorem sm_ch {x : Ac} (h : Sm x) (b : Nat) : Sm (chA x b) := ⟨h.us, h.gs⟩
set_option maxRecDepth 100000 in
set_option maxHeartbeats 4000000 in
theorem lbits_law (x : Ac) (p : Lie) (b : Nat) (w : World) (h : Lies w x p) (hs : Bg x) (hx : Nb x) (hb : b < 65536) :
    Calls Try.prog 4 #[x.v p, .int .u16 (b : Nat)] w fun e w' => e = .returned (.bool true) ∧ Below w.heap.size w w' := by
  obtain ⟨U, hU⟩ : ∃ U, U = w.alloc (.cells (x.c p) 24) := ⟨_, rfl⟩
  have z := Ab.new w x p
  have hbU : Below w.heap.size w (w.alloc (.cells (x.c p) 24)) := (Below.refl _ _).alloc (Nat.le_refl _) _
  rw [← hU] at z hbU
  obtain ⟨bx, hbx⟩ : ∃ g, g = w.heap.size := ⟨_, rfl⟩
  have HLI := Lib.hid (h.below hbU)
  have HBU := Lib.hid hbU
  obtain ⟨lg, hlg⟩ : ∃ lg, (decide (100 < x.us.length) || decide (100 < x.gs.length)) = lg := ⟨_, rfl⟩
  have hla := large_calls x p U hs
  rw [hlg] at hla
  have HLA := Lib.hid hla
  have HLG := Lib.hid hlg
  have HNB := Lib.hid hx
  have HU := Lib.hid hU
  rw [← hbx] at z
  have HZ := Lib.hid z
  have HBX := Lib.hid hbx
  clear h hs hx hlg hla hU z hbU hbx
  go_enter Try.func4, Try.ntmps4
  go_upto_region 1 with (fail)
  rw [← HU.out, ← HBX.out]
  clear HU HBX
  obtain ⟨y0, y1, y2, y3, y4, y5, y6⟩ := HZ.out.cells
  go_wp2_with (fail)
  refine HLA.out.mono ?_
  rintro e w1 ⟨rfl, hb1⟩
  clear y0 y1 y2 y3 y4 y5 y6 HLA
  have HZ1 := Lib.hid (HZ.out.on hb1)
  have HL1 := Lib.hid (HLI.out.below hb1)
  have HB1 := Lib.hid (HBU.out.trans (hb1.mono HBU.out.size))
  clear hb1 HZ HLI HBU
  cases lg
  case true =>
    go_wp2_with (fail)
    refine (alive_calls _).mono ?_
    rintro e w2 ⟨rfl, hb2⟩
    have HB2 := Lib.hid (HB1.out.trans (hb2.mono HB1.out.size))
    clear hb2 HB1
    go_wp2_with (fail)
    go_ret
    exact ⟨rfl, HB2.out⟩
  case false =>
  have HSM : Hid (Sm x) := Lib.hid (sm_of_small HLG.out)
  obtain ⟨y0, y1, y2, y3, y4, y5, y6⟩ := HZ1.out.cells
  go_wp2_with (fail)
  clear y0 y1 y2 y3 y4 y5 y6
  refine (rcopy_calls x p w1 HL1.out HSM.out).mono ?_
  rintro e w2 ⟨o, rfl, hC, hb2⟩
  have HO0 := Lib.hid (Held.new hC.lies)
  have HX0 := Lib.hid ((Held.mk HZ1.out HL1.out).on hb2)
  have HB2 := Lib.hid (HB1.out.trans (hb2.mono HB1.out.size))
  clear hC hb2 HZ1 HL1 HB1
  go_upto_region 4 with (fail)
  obtain ⟨V, hV⟩ : ∃ V, V = w2.alloc (.cells (x.c o) 24) := ⟨_, rfl⟩
  have hbV := below_new w2 x o
  rw [← hV] at hbV
  have HX1 := Lib.hid (HX0.out.on hbV)
  have HO1 : Hid (Held V w2.heap.size x o) := Lib.hid (by rw [hV]; exact HO0.out)
  have HB3 := Lib.hid (HB2.out.trans (hbV.mono HB2.out.size))
  obtain ⟨go, hgo⟩ : ∃ g, g = w2.heap.size := ⟨_, rfl⟩
  rw [← hV, ← hgo]
  rw [← hgo] at HO1
  clear hV hbV hgo HX0 HO0 HB2
  obtain ⟨y0, y1, y2, y3, y4, y5, y6⟩ := HO1.out.blk.cells
  go_wp2_with (fail)
  clear y0 y1 y2 y3 y4 y5 y6
  refine (chmod_calls x o b V HO1.out.row HSM.out hb).mono ?_
  rintro e w3 ⟨c, rfl, hC, hb3⟩
  obtain ⟨X, hX⟩ : ∃ X, chA x b = X := ⟨_, rfl⟩
  have hsX : Sm X := by rw [← hX]; exact sm_ch HSM.out b
  have HCH : Hid (∀ (u : World), Lies u x p → Calls Try.prog 21 #[x.v p, .int .u16 (b : Nat)] u fun e w' => ∃ q, e = .returned (X.v q) ∧ Copied u w' X q ∧ Below u.heap.size u w') := Lib.hid (fun u hl => hX ▸ rchmod_calls x p b u hl HSM.out hb)
  have HSX := Lib.hid hsX
  rw [hX] at hC ⊢
  have HC0 := Lib.hid (Held.new hC.lies)
  have HX2 := Lib.hid (HX1.out.on hb3)
  have HO2 := Lib.hid (HO1.out.on hb3)
  have HB4 := Lib.hid (HB3.out.trans (hb3.mono HB3.out.size))
  clear hC hb3 HX1 HO1 HB3 hX hsX
  go_upto_region 5 with (fail)
  obtain ⟨W, hW⟩ : ∃ W, W = w3.alloc (.cells (X.c c) 24) := ⟨_, rfl⟩
  have hbW := below_new w3 X c
  rw [← hW] at hbW
  have HX := Lib.hid (HX2.out.on hbW)
  have HO := Lib.hid (HO2.out.on hbW)
  have HC : Hid (Held W w3.heap.size X c) := Lib.hid (by rw [hW]; exact HC0.out)
  have HB := Lib.hid (HB4.out.trans (hbW.mono HB4.out.size))
  obtain ⟨gc, hgc⟩ : ∃ g, g = w3.heap.size := ⟨_, rfl⟩
  rw [← hW, ← hgc]
  rw [← hgc] at HC
  clear hW hbW hgc HX2 HO2 HB4 HC0
  have hb0 := hb
  clear hb
  refine wp_region4 [.val (x.v o), .val (.int .u16 (bitsN x : Nat)), .val (x.v p), .val (.int .u16 (bitsN x : Nat)), .val (.bool true), .val (.bool true), .val (.int .u16 (b : Nat)), .acl (ofA b), .val (.int .u16 (b : Nat)), .val ((ofA b).v lieZ), .val (.bool true), .val (.bool true), .val (.bool true), .val (X.v c), .val (x.v p), .val (.int .u16 (b : Nat)), .acl X, .val (.bool true), .val (.bool true), .val (.bool true), .val (x.v o), .val (x.v p), .val (.bool true), .val (.bool true), .val (.bool true), .val (.bool true), .val (.bool true), .val (.bool true)] (by kernel_rfl) (by kernel_rfl) (by kernel_rfl) ?steps ?rest
  case steps =>
    refine ⟨?s0, ?s1, ?s2, ?s3, ?s4, ?s5, ?s6, ?s7, ?s8, ?s9, ?s10, ?s11, ?s12, ?s13, ?s14, ?s15, ?s16, ?s17, ?s18, ?s19, ?s20, ?s21, ?s22, ?s23, ?s24, ?s25, ?s26, ?s27, trivial⟩
    case s0 =>
      refine st4_val _ rfl (.inl rfl) fun a u hb hA hd => ?_
      exact run_loadA rfl go x o (hA.eval 5 rfl) (HO.out.blk.on hb)
    case s1 =>
      refine st4_call _ rfl (.inl rfl) 17 fun a u hb hA hd => ?_
      have k0 := ev_of (show a.eval (.tmp 15) = x.v o from hd 0 15 rfl rfl _ rfl)
      refine ⟨#[x.v o], ?_, (bits_calls x o u HNB.out).mono ?_⟩
      · unfold execOp
        simp [go_sem, k0]
      · rintro e w' ⟨rfl, hb'⟩
        exact ⟨_, rfl, rfl, hb'⟩
    case s2 =>
      refine st4_val _ rfl (.inl rfl) fun a u hb hA hd => ?_
      exact run_loadA rfl bx x p (hA.eval 2 rfl) (HX.out.blk.on hb)
    case s3 =>
      refine st4_call _ rfl (.inl rfl) 18 fun a u hb hA hd => ?_
      have k0 := ev_of (show a.eval (.tmp 17) = x.v p from hd 2 17 rfl rfl _ rfl)
      refine ⟨#[x.v p], ?_, (rbits_calls x p u HNB.out).mono ?_⟩
      · unfold execOp
        simp [go_sem, k0]
      · rintro e w' ⟨rfl, hb'⟩
        exact ⟨_, rfl, rfl, hb'⟩
    case s4 =>
      exact st4_val _ rfl (.inl rfl) fun a u hb hA hd => by
        have q0 := ev_of (hd 1 16 rfl rfl _ rfl)
        have q1 := ev_of (hd 3 18 rfl rfl _ rfl)
        unfold execOp
        simp [go_sem, q0, q1]
    case s5 => exact st4_move 4 19 rfl (.inl rfl) rfl rfl rfl
    case s6 =>
      exact st4_val _ rfl (.inr ⟨5, 20, true, rfl, rfl, rfl, rfl⟩) fun a u hb hA hd => by
        have q0 := ev_of (show a.eval (.tmp 1) = (.int .u16 (b : Nat)) from hA.eval 1 rfl)
        unfold execOp
        simp [go_sem, q0]
    case s7 =>
      refine st4_call _ rfl (.inr ⟨5, 20, true, rfl, rfl, rfl, rfl⟩) 19 fun a u hb hA hd => ?_
      have k0 := ev_of (show a.eval (.tmp 21) = .int .u16 (b : Nat) from hd 6 21 rfl rfl _ rfl)
      refine ⟨#[.int .u16 (b : Nat)], ?_, (of_calls b u hb0).mono ?_⟩
      · unfold execOp
        simp [go_sem, k0]
      · rintro e w' ⟨q, rfl, hC, hb'⟩
        exact ⟨_, rfl, ⟨q, rfl, hC.lies⟩, hb'⟩
    case s8 =>
      exact st4_val _ rfl (.inr ⟨5, 20, true, rfl, rfl, rfl, rfl⟩) fun a u hb hA hd => by
        have q0 := ev_of (show a.eval (.tmp 1) = (.int .u16 (b : Nat)) from hA.eval 1 rfl)
        unfold execOp
        simp [go_sem, q0]
    case s9 =>
      refine st4_call _ rfl (.inr ⟨5, 20, true, rfl, rfl, rfl, rfl⟩) 20 fun a u hb hA hd => ?_
      have k0 := ev_of (show a.eval (.tmp 23) = .int .u16 (b : Nat) from hd 8 23 rfl rfl _ rfl)
      refine ⟨#[.int .u16 (b : Nat)], ?_, (rof_calls b u hb0).mono ?_⟩
      · unfold execOp
        simp [go_sem, k0]
      · rintro e w' ⟨rfl, hb'⟩
        exact ⟨_, rfl, rfl, hb'⟩
    case s10 =>
      refine st4_call _ rfl (.inr ⟨5, 20, true, rfl, rfl, rfl, rfl⟩) 14 fun a u hb hA hd => ?_
      obtain ⟨q0, e0, hl0⟩ := (show ∃ p, a.eval (.tmp 22) = Ac.v (ofA b) p ∧ Lies u (ofA b) p from hd 7 22 rfl rfl _ rfl)
      have k0 := ev_of e0
      have k1 := ev_of (show a.eval (.tmp 24) = (ofA b).v lieZ from hd 9 24 rfl rfl _ rfl)
      refine ⟨#[(ofA b).v q0, (ofA b).v lieZ], ?_, (rlsame_self (ofA b) q0 lieZ u hl0 ⟨Cel.nil _ _, Cel.nil _ _⟩ (sm_of b)).mono ?_⟩
      · unfold execOp
        simp [go_sem, k0, k1]
      · rintro e w' ⟨rfl, hb'⟩
        exact ⟨_, rfl, rfl, hb'⟩
    case s11 => exact st4_val _ rfl (.inl rfl) fun a u hb hA hd => (run_pickT rfl (hd 5 20 rfl rfl _ rfl)).trans (by rw [hd 10 25 rfl rfl _ rfl])
    case s12 => exact st4_move 11 26 rfl (.inl rfl) rfl rfl rfl
    case s13 =>
      refine st4_val _ rfl (.inr ⟨12, 27, true, rfl, rfl, rfl, rfl⟩) fun a u hb hA hd => ?_
      exact run_loadA rfl gc X c (hA.eval 6 rfl) (HC.out.blk.on hb)
    case s14 =>
      refine st4_val _ rfl (.inr ⟨12, 27, true, rfl, rfl, rfl, rfl⟩) fun a u hb hA hd => ?_
      exact run_loadA rfl bx x p (hA.eval 2 rfl) (HX.out.blk.on hb)
    case s15 =>
      exact st4_val _ rfl (.inr ⟨12, 27, true, rfl, rfl, rfl, rfl⟩) fun a u hb hA hd => by
        have q0 := ev_of (show a.eval (.tmp 1) = (.int .u16 (b : Nat)) from hA.eval 1 rfl)
        unfold execOp
        simp [go_sem, q0]
    case s16 =>
      refine st4_call _ rfl (.inr ⟨12, 27, true, rfl, rfl, rfl, rfl⟩) 21 fun a u hb hA hd => ?_
      have k0 := ev_of (show a.eval (.tmp 29) = x.v p from hd 14 29 rfl rfl _ rfl)
      have k1 := ev_of (show a.eval (.tmp 30) = .int .u16 (b : Nat) from hd 15 30 rfl rfl _ rfl)
      refine ⟨#[x.v p, .int .u16 (b : Nat)], ?_, (HCH.out u (HX.out.on hb).row).mono ?_⟩
      · unfold execOp
        simp [go_sem, k0, k1]
      · rintro e w' ⟨q, rfl, hC, hb'⟩
        exact ⟨_, rfl, ⟨q, rfl, hC.lies⟩, hb'⟩
    case s17 =>
      refine st4_call _ rfl (.inr ⟨12, 27, true, rfl, rfl, rfl, rfl⟩) 14 fun a u hb hA hd => ?_
      have k0 := ev_of (show a.eval (.tmp 28) = X.v c from hd 13 28 rfl rfl _ rfl)
      obtain ⟨q1, e1, hl1⟩ := (show ∃ p, a.eval (.tmp 31) = Ac.v X p ∧ Lies u X p from hd 16 31 rfl rfl _ rfl)
      have k1 := ev_of e1
      refine ⟨#[X.v c, X.v q1], ?_, (rlsame_self X c q1 u (HC.out.on hb).row hl1 HSX.out).mono ?_⟩
      · unfold execOp
        simp [go_sem, k0, k1]
      · rintro e w' ⟨rfl, hb'⟩
        exact ⟨_, rfl, rfl, hb'⟩
    case s18 => exact st4_val _ rfl (.inl rfl) fun a u hb hA hd => (run_pickT rfl (hd 12 27 rfl rfl _ rfl)).trans (by rw [hd 17 32 rfl rfl _ rfl])
    case s19 => exact st4_move 18 33 rfl (.inl rfl) rfl rfl rfl
    case s20 =>
      refine st4_val _ rfl (.inr ⟨19, 34, true, rfl, rfl, rfl, rfl⟩) fun a u hb hA hd => ?_
      exact run_loadA rfl go x o (hA.eval 5 rfl) (HO.out.blk.on hb)
    case s21 =>
      refine st4_val _ rfl (.inr ⟨19, 34, true, rfl, rfl, rfl, rfl⟩) fun a u hb hA hd => ?_
      exact run_loadA rfl bx x p (hA.eval 2 rfl) (HX.out.blk.on hb)
    case s22 =>
      refine st4_call _ rfl (.inr ⟨19, 34, true, rfl, rfl, rfl, rfl⟩) 14 fun a u hb hA hd => ?_
      have k0 := ev_of (show a.eval (.tmp 35) = x.v o from hd 20 35 rfl rfl _ rfl)
      have k1 := ev_of (show a.eval (.tmp 36) = x.v p from hd 21 36 rfl rfl _ rfl)
      refine ⟨#[x.v o, x.v p], ?_, (rlsame_self x o p u (HO.out.on hb).row (HX.out.on hb).row HSM.out).mono ?_⟩
      · unfold execOp
        simp [go_sem, k0, k1]
      · rintro e w' ⟨rfl, hb'⟩
        exact ⟨_, rfl, rfl, hb'⟩
    case s23 => exact st4_val _ rfl (.inl rfl) fun a u hb hA hd => (run_pickT rfl (hd 19 34 rfl rfl _ rfl)).trans (by rw [hd 22 37 rfl rfl _ rfl])
    case s24 => exact st4_move 23 38 rfl (.inl rfl) rfl rfl rfl
    case s25 =>
      refine st4_call _ rfl (.inr ⟨24, 39, true, rfl, rfl, rfl, rfl⟩) 9 fun a u hb hA hd => ?_
      refine ⟨#[], ?_, (alive_calls u).mono ?_⟩
      · unfold execOp
        simp [go_sem]
      · rintro e w' ⟨rfl, hb'⟩
        exact ⟨_, rfl, rfl, hb'⟩
    case s26 => exact st4_val _ rfl (.inl rfl) fun a u hb hA hd => (run_pickT rfl (hd 24 39 rfl rfl _ rfl)).trans (by rw [hd 25 40 rfl rfl _ rfl])
    case s27 => exact st4_assign 26 41 rfl (.inl rfl) rfl rfl rfl
  case rest =>
    intro vs u hb hR
    have ee : vs 27 = .bool true := hR 27 (by decide)
    simp only [putsFrom, Act.put, List.setIfInBounds_toArray, List.set_cons_succ, List.set_cons_zero, ee]
    generalize vs 0 = z0
    generalize vs 1 = z1
    generalize vs 2 = z2
    generalize vs 3 = z3
    generalize vs 4 = z4
    generalize vs 5 = z5
    generalize vs 6 = z6
    generalize vs 7 = z7
    generalize vs 8 = z8
    generalize vs 9 = z9
    generalize vs 10 = z10
    generalize vs 11 = z11
    generalize vs 12 = z12
    generalize vs 13 = z13
    generalize vs 14 = z14
    generalize vs 15 = z15
    generalize vs 16 = z16
    generalize vs 17 = z17
    generalize vs 18 = z18
    generalize vs 19 = z19
    generalize vs 20 = z20
    generalize vs 21 = z21
    generalize vs 22 = z22
    generalize vs 23 = z23
    generalize vs 24 = z24
    generalize vs 25 = z25
    generalize vs 26 = z26
    have BW := Lib.hid (HB.out.trans (hb.mono HB.out.size))
    clear hR ee hb
    go_wp2_with (fail)
    go_ret
    exact ⟨rfl, BW.out⟩
end Go.Proofs.Ytcjaebcninlhlaa
