/- OwnerSet: whatever it is called with, it hands back true. -/
import Derived.Test.YtdioafoikcfhhaaPf
set_option linter.unusedSimpArgs false
set_option linter.unusedVariables false
set_option linter.unusedSimpArgs false
set_option linter.unusedVariables false
namespace Go.Proofs.Ytdioafoikcfhhaa
open Go.RowKit
theorem rasame_self (x : At) (p q : ALie) (w : World) (h1 : ALies w x p) (h2 : ALies w x q) (hs : ASm x) : Calls Try.prog 18 #[x.v p, x.v q] w fun e w' => e = .returned (.bool true) ∧ Below w.heap.size w w' := by
  have h := rasame_calls x x p q w h1 h2 hs hs
  rwa [asameB_self] at h
theorem written_att (c : Cr) (A : Option Addr) (n : Nat) (x : At) (p : ALie) (w : World) (hc : CLies w c A) (h : ALies w x p) (hs : ASm x) :
    Calls Try.prog 19 #[c.v A n, x.v p] w fun e w' => ∃ q, e = .returned (At.v (wriA c x) q) ∧ ALies w' (wriA c x) q ∧ Below w.heap.size w w' :=
  (writteno_calls c A n x p w hc h hs).mono fun e w' ⟨q, h1, h2, h3⟩ => ⟨q, h1, h2.lies, h3⟩
theorem wri_back {c : Cr} {x : At} (hc : c.gs.length ≤ 4) (h : amayB x = true) : withBi (wriA c x) x.bi = x := by
  unfold wriA
  rw [valid_of hc h]
  show withBi (if c.ui = 0 then x else goesA x) x.bi = x
  split <;> rfl
theorem wri_clean {c : Cr} {x : At} (hc : c.gs.length ≤ 4) (h : amayB x = true) : (c.ui ≠ 0 → cleanB (wriA c x) = true) ∧ (c.ui = 0 → (wriA c x).bi = x.bi) := by
  unfold wriA
  rw [valid_of hc h]
  refine ⟨fun h0 => ?_, fun h0 => ?_⟩
  · show cleanB (if c.ui = 0 then x else goesA x) = true
    rw [if_neg h0]
    exact clean_goes (may8 h)
  · show (if c.ui = 0 then x else goesA x).bi = x.bi
    rw [if_pos h0]
theorem cho_clean {c : Cr} {x : At} {u g : Int} (h : choN c x u g = 0) : cleanB (choA c x 1 u g) = true := by
  unfold choA
  rw [if_pos h]
  unfold choX
  rw [if_pos rfl]
  exact clean_goes (x := withId x (becN u x.ui) (becN g x.gi)) (may8 (valid_parts (valid_cho h).1).2)
set_option maxRecDepth 100000 in
set_option maxHeartbeats 16000000 in
theorem set_law (c : Cr) (A : Option Addr) (n : Nat) (x : At) (p : ALie) (u g : Int) (w : World) (hc : CLies w c A) (h : ALies w x p) (hsx : ABg x) :
    Calls Try.prog 6 #[c.v A n, x.v p, .int .i64 u, .int .i64 g] w fun e w' => e = .returned (.bool true) ∧ Below w.heap.size w w' := by
  obtain ⟨V, hV⟩ : ∃ V, V = (w.alloc (.cells (c.c A n) 25)).alloc (.cells (x.c p) 31) := ⟨_, rfl⟩
  have S0 : Hid (Pb w V c A n x p) := Lib.hid (by rw [hV]; exact Pb.start hc h)
  have HGX := Lib.hid hsx
  clear h hc hsx
  go_enter Try.func6, Try.ntmps6
  go_upto_region 1 with (fail)
  rw [← hV]
  clear hV
  go_wp2_with (first
  | (refine wpList_load_part rfl 25 (.tmp 4) rfl w.heap.size 0 rfl (Cr.c c A n).toList _ (S0.out.cb).all Try.underlying25 rfl cred_size (Cr.v c A n) rfl ?_)
  | (refine wpList_load_part rfl 31 (.tmp 5) rfl (w.heap.size + 1) 0 rfl (At.c x p).toList _ (S0.out.bt).bt0 Try.underlying31 rfl attr_size (At.v x p) rfl ?_))
  refine (glarge_calls c A n x p V S0.out.cl S0.out.al HGX.out).mono ?_
  rintro e w1 ⟨rfl, hb⟩
  have S1 := Lib.hid (S0.out.on hb)
  clear hb S0
  cases hlx : largeG c x
  case true =>
    clear hlx
    go_wp2_with (fail)
    refine (alive_calls _).mono ?_
    rintro e w99 ⟨rfl, hb⟩
    have HBZ := Lib.hid ((S1.out.be).trans (hb.mono (S1.out.be).size))
    clear hb
    go_wp2_with (fail)
    go_ret
    exact ⟨rfl, HBZ.out⟩
  case false =>
  have HS := Lib.hid (largeG_no hlx).1
  clear hlx
  go_wp2_with (first
  | (refine wpList_load_part rfl 25 (.tmp 4) rfl w.heap.size 0 rfl (Cr.c c A n).toList _ (S1.out.cb).all Try.underlying25 rfl cred_size (Cr.v c A n) rfl ?_)
  | (refine wpList_load_part rfl 31 (.tmp 5) rfl (w.heap.size + 1) 0 rfl (At.c x p).toList _ (S1.out.bt).bt0 Try.underlying31 rfl attr_size (At.v x p) rfl ?_))
  refine (racopy_calls x p w1 S1.out.al HS.out).mono ?_
  rintro e w2 ⟨o, rfl, hC, hb⟩
  have S2 := Lib.hid (S1.out.on hb)
  have HO := Lib.hid (AOw.of hC)
  clear hb hC S1
  go_wp2_with (fail)
  refine (acheck_calls x o w2 HO.out.lies HS.out).mono ?_
  rintro e w3 ⟨rfl, hb⟩
  have S3 := Lib.hid (S2.out.on hb)
  clear hb S2 HO
  cases hmx : amayB x
  case false =>
    clear hmx
    rw [ckN_false]
    go_wp2_with (fail)
    refine (alive_calls _).mono ?_
    rintro e w99 ⟨rfl, hb⟩
    have HBZ := Lib.hid ((S3.out.be).trans (hb.mono (S3.out.be).size))
    clear hb
    go_wp2_with (fail)
    go_ret
    exact ⟨rfl, HBZ.out⟩
  case true =>
  have HM := Lib.hid hmx
  clear hmx
  rw [ckN_true]
  go_wp2_with (first
  | (refine wpList_load_part rfl 25 (.tmp 4) rfl w.heap.size 0 rfl (Cr.c c A n).toList _ (S3.out.cb).all Try.underlying25 rfl cred_size (Cr.v c A n) rfl ?_)
  | (refine wpList_load_part rfl 31 (.tmp 5) rfl (w.heap.size + 1) 0 rfl (At.c x p).toList _ (S3.out.bt).bt0 Try.underlying31 rfl attr_size (At.v x p) rfl ?_))
  refine (gcheck_calls c A n w3 S3.out.cl.sm).mono ?_
  rintro e w4 ⟨rfl, hb⟩
  have S4 := Lib.hid (S3.out.on hb)
  clear hb S3
  by_cases h4 : c.gs.length ≤ 4
  case neg =>
    rw [show chkN c = 622 by unfold chkN; rw [if_neg h4]]
    clear h4
    go_wp2_with (fail)
    refine (alive_calls _).mono ?_
    rintro e w99 ⟨rfl, hb⟩
    have HBZ := Lib.hid ((S4.out.be).trans (hb.mono (S4.out.be).size))
    clear hb
    go_wp2_with (fail)
    go_ret
    exact ⟨rfl, HBZ.out⟩
  case pos =>
  rw [show chkN c = 0 by unfold chkN; rw [if_pos h4]]
  have H4 := Lib.hid h4
  clear h4
  obtain ⟨X, hX⟩ : ∃ X, wriA c x = X := ⟨_, rfl⟩
  obtain ⟨Y, hY⟩ : ∃ Y, choA c x 1 u g = Y := ⟨_, rfl⟩
  obtain ⟨N, hN⟩ : ∃ N, choN c x u g = N := ⟨_, rfl⟩
  have HW : Hid (∀ (p : ALie) v, CLies v c A → ALies v x p → Calls Try.prog 19 #[c.v A n, x.v p] v fun e w' => ∃ q, e = .returned (At.v X q) ∧ ALies w' X q ∧ Below v.heap.size v w') := Lib.hid (fun p v h1 h2 => hX ▸ written_att c A n x p v h1 h2 HS.out)
  have HMX : Hid (amayB X = true) := Lib.hid (by rw [← hX]; exact may_wriA c x)
  have HWW : Hid (∀ (p : ALie) v, CLies v c A → ALies v X p → Calls Try.prog 19 #[c.v A n, X.v p] v fun e w' => ∃ q, e = .returned (At.v X q) ∧ ALies w' X q ∧ Below v.heap.size v w') := Lib.hid (fun p v h1 h2 => by
    have h := written_att c A n X p v h1 h2 (asm_of HMX.out)
    have e : wriA c X = X := by rw [← hX]; exact wri_again H4.out HM.out
    rwa [e] at h)
  have HCO : Hid (∀ v, CLies v c A → ALies v x p → Calls Try.prog 13 #[c.v A n, x.v p, .int .u8 1, .int .i64 u, .int .i64 g] v fun e w' => ∃ q, e = .returned (.tuple #[At.v Y q, .int .i64 N]) ∧ AOw w' Y q ∧ Below v.heap.size v w') := Lib.hid (fun v h1 h2 => by
    have h := chowno_calls c A n x p 1 u g v h1 h2 HS.out
    rwa [hY, hN] at h)
  have HMY : Hid (amayB Y = true) := Lib.hid (by rw [← hY]; exact may_choA c x 1 u g)
  have HBK : Hid (withBi X x.bi = x) := Lib.hid (by rw [← hX]; exact wri_back H4.out HM.out)
  have HCX : Hid (c.ui ≠ 0 → cleanB X = true) := Lib.hid (by rw [← hX]; exact (wri_clean H4.out HM.out).1)
  have HBX : Hid (c.ui = 0 → X.bi = x.bi) := Lib.hid (by rw [← hX]; exact (wri_clean H4.out HM.out).2)
  have HCY : Hid (N = 0 → cleanB Y = true) := Lib.hid (fun h0 => by rw [← hY]; exact cho_clean (hN.trans h0))
  clear hX hY hN
  go_wp2_with (first
  | (refine wpList_load_part rfl 25 (.tmp 4) rfl w.heap.size 0 rfl (Cr.c c A n).toList _ (S4.out.cb).all Try.underlying25 rfl cred_size (Cr.v c A n) rfl ?_)
  | (refine wpList_load_part rfl 31 (.tmp 5) rfl (w.heap.size + 1) 0 rfl (At.c x p).toList _ (S4.out.bt).bt0 Try.underlying31 rfl attr_size (At.v x p) rfl ?_))
  refine (HW.out p w4 S4.out.cl S4.out.al).mono ?_
  rintro e w5 ⟨q, rfl, hl, hb⟩
  have S5 := Lib.hid (S4.out.on hb)
  have HLI5 : Hid (∀ Z, Below w5.heap.size w5 Z → ALies Z X q) := Lib.hid (fun Z hZ => hl.below hZ)
  have HP5 : Hid (∀ Z, Below w5.heap.size w5 Z → Pb w Z c A n x p) := Lib.hid (fun Z hZ => S5.out.on hZ)
  have HB5 : Hid (Below w5.heap.size w5 w5) := Lib.hid (Below.refl _ _)
  clear hb S4
  obtain ⟨C, hC⟩ : ∃ C, C = At.c (X) q := ⟨_, rfl⟩
  have hone : C.all (·.oneCell') = true := by rw [hC]; exact c_one _ _
  have hsz : (Try.prog.info? 31).map (·.size) = some C.size := by rw [hC]; exact c_size _ _
  have hold : (zAt : Array Value).size = C.size := by rw [hC]; rfl
  have HZn := Lib.hid (heap_alloc_new w5 (.cells zAt 31))
  obtain ⟨U1, hU⟩ : ∃ Zz, Zz = (w5.alloc (.cells zAt 31)).setRow w5.heap.size C := ⟨_, rfl⟩
  obtain ⟨gx, hg⟩ : ∃ Zz, Zz = w5.heap.size := ⟨_, rfl⟩
  have bu : Below w5.heap.size w5 U1 := by rw [hU]; exact put_below w5 C
  have Hgx : Hid (Hl U1 gx (X) q) := Lib.hid (by rw [hU, hg, hC]; exact Hl.put hl)
  have HGgx : Hid (w5.heap.size ≤ gx) := Lib.hid (by omega)
  have S5 := Lib.hid (S5.out.on bu)
  have HB5 := Lib.hid (HB5.out.trans (bu.mono HB5.out.size))
  have HUU := Lib.hid hU
  rw [show At.v (X) q = .agg C by rw [hC]]
  clear hC bu hU hl
  go_upto_region 4 with (refine wpList_store_rowTo rfl 31 (.tmp 9) (.tmp 29) rfl rfl w5.heap.size C rfl rfl 31 _ HZn.out hsz hold hone ?_; rw [← HUU.out])
  clear HUU HZn hsz hold hone
  rw [← hg]
  clear hg
  go_wp2_with (first
  | (refine wpList_load_part rfl 25 (.tmp 4) rfl w.heap.size 0 rfl (Cr.c c A n).toList _ (S5.out.cb).all Try.underlying25 rfl cred_size (Cr.v c A n) rfl ?_)
  | (refine wpList_load_part rfl 31 (.tmp 5) rfl (w.heap.size + 1) 0 rfl (At.c x p).toList _ (S5.out.bt).bt0 Try.underlying31 rfl attr_size (At.v x p) rfl ?_))
  refine (HCO.out U1 S5.out.cl S5.out.al).mono ?_
  rintro e w6 ⟨qy, rfl, how, hb⟩
  have S6 := Lib.hid (S5.out.on hb)
  have Hgx := Lib.hid (Hgx.out.on hb)
  have HB5 : Hid (Below w5.heap.size w5 w6) := Lib.hid (HB5.out.trans (hb.mono HB5.out.size))
  have hl := how.lies
  clear hb S5 how HCO
  obtain ⟨C, hC⟩ : ∃ C, C = At.c (Y) qy := ⟨_, rfl⟩
  have hone : C.all (·.oneCell') = true := by rw [hC]; exact c_one _ _
  have hsz : (Try.prog.info? 31).map (·.size) = some C.size := by rw [hC]; exact c_size _ _
  have hold : (zAt : Array Value).size = C.size := by rw [hC]; rfl
  have HZn := Lib.hid (heap_alloc_new w6 (.cells zAt 31))
  obtain ⟨U2, hU⟩ : ∃ Zz, Zz = (w6.alloc (.cells zAt 31)).setRow w6.heap.size C := ⟨_, rfl⟩
  obtain ⟨gy, hg⟩ : ∃ Zz, Zz = w6.heap.size := ⟨_, rfl⟩
  have bu : Below w6.heap.size w6 U2 := by rw [hU]; exact put_below w6 C
  have Hgy : Hid (Hl U2 gy (Y) qy) := Lib.hid (by rw [hU, hg, hC]; exact Hl.put hl)
  have HGgy : Hid (w6.heap.size ≤ gy) := Lib.hid (by omega)
  have S6 := Lib.hid (S6.out.on bu)
  have Hgx := Lib.hid (Hgx.out.on bu)
  have HB5 := Lib.hid (HB5.out.trans (bu.mono HB5.out.size))
  have HUU := Lib.hid hU
  rw [show At.v (Y) qy = .agg C by rw [hC]]
  clear hC bu hU hl
  go_upto_region 5 with (refine wpList_store_rowTo rfl 31 (.tmp 10) (.tmp 36) rfl rfl w6.heap.size C rfl rfl 31 _ HZn.out hsz hold hone ?_; rw [← HUU.out])
  clear HUU HZn hsz hold hone
  rw [← hg]
  clear hg
  obtain ⟨z, hz⟩ : ∃ z, c.ui = z := ⟨_, rfl⟩
  rw [hz] at HCX HBX
  have HZ := Lib.hid hz
  clear hz
  by_cases h0 : z = 0
  case neg =>
    have d0 : ((z : Int) != 0) = true := by rw [bne_iff_ne]; omega
    have d0' : ((z : Int) == 0) = false := by rw [beq_eq_false_iff_ne]; omega
    have HCL := Lib.hid (HCX.out h0)
    clear h0
    have yc0 := S6.out.cb.c0
    rw [HZ.out] at yc0
    go_wp2_with (refine wpList_load_part rfl 31 (.tmp 9) rfl gx 0 rfl (At.c X q).toList _ (Hgx.out.bt).bt0 Try.underlying31 rfl attr_size (At.v X q) rfl ?_)
    refine (clean_calls X q U2 (nb_may (amay_parts HMX.out).2.1) (by have := may8 HMX.out; omega)).mono ?_
    rw [HCL.out]
    rintro e w7 ⟨rfl, hb⟩
    have S6 := Lib.hid (S6.out.on hb)
    have Hgx := Lib.hid (Hgx.out.on hb)
    have Hgy := Lib.hid (Hgy.out.on hb)
    have HB5 : Hid (Below w5.heap.size w5 w7) := Lib.hid (HB5.out.trans (hb.mono HB5.out.size))
    clear hb yc0 HCL
    have yc0 := S6.out.cb.c0
    rw [HZ.out] at yc0
    by_cases hn : N = 0
    case pos =>
      have dn : (N == 0) = true := by rw [hn]; rfl
      have HCC := Lib.hid (HCY.out hn)
      clear hn
      go_wp2_with (refine wpList_load_part rfl 31 (.tmp 10) rfl gy 0 rfl (At.c Y qy).toList _ (Hgy.out.bt).bt0 Try.underlying31 rfl attr_size (At.v Y qy) rfl ?_)
      refine (clean_calls Y qy w7 (nb_may (amay_parts HMY.out).2.1) (by have := may8 HMY.out; omega)).mono ?_
      rw [HCC.out]
      rintro e w8 ⟨rfl, hb⟩
      have S6 := Lib.hid (S6.out.on hb)
      have Hgx := Lib.hid (Hgx.out.on hb)
      have Hgy := Lib.hid (Hgy.out.on hb)
      have HB5 : Hid (Below w5.heap.size w5 w8) := Lib.hid (HB5.out.trans (hb.mono HB5.out.size))
      clear hb yc0 HCC
      have yc0 := S6.out.cb.c0
      rw [HZ.out] at yc0
      
      go_upto_region 7 with (fail)
      clear yc0
      have ya := S6.out.bt.c0
      obtain ⟨U5, hU5⟩ : ∃ Zz, Zz = World.setRow w8 gx (At.c (withBi X x.bi) q) := ⟨_, rfl⟩
      have hbg := Hgx.out.bt
      have b9 : Below w5.heap.size w8 U5 := by rw [hU5]; exact below_setRow (Below.refl _ _) HGgx.out _
      have hx5 : Hl U5 gx x q := by
        have h1 : Bt U5 gx (withBi X x.bi) q := by rw [hU5]; exact setRow_heap _ _ _ _ _ _ hbg
        have h2 : ALies U5 X q := HLI5.out U5 (HB5.out.trans b9)
        have h3 : ALies U5 (withBi X x.bi) q := ⟨h2.ac, h2.df, h2.xs⟩
        rw [HBK.out] at h1 h3
        exact ⟨h1, h3⟩
      have hs5 : Pb w U5 c A n x p := by rw [hU5]; exact HP5.out _ (by rw [← hU5]; exact HB5.out.trans b9)
      go_upto_region 8 with (refine wpList_store_part rfl 5 (.tmp 69) (.tmp 68) rfl rfl gx 0 [.int .u8 ((x.bi : Nat) : Int)] rfl rfl 31 _ Hgx.out.bt u8_size (Nat.le_of_ble_eq_true rfl) (one_of rfl) (At.c (withBi X x.bi) q) rfl ?_; rw [← hU5])
      have S6 := Lib.hid hs5
      have Hgx := Lib.hid hx5
      clear hU5 hbg b9 hx5 hs5 ya
      refine wp_region4 [.val (At.v (x) q), .val (At.v (x) p), .val (.bool true), .val (.bool true), .val (Cr.v c A n), .val (Cr.v c A n), .val (At.v (x) p), .att (X), .att (X), .val (Cr.v c A n), .val (At.v (x) p), .att (X), .val (.bool true), .val (.bool true), .val (.bool true), .val (.bool true), .val (.bool true), .val (.bool true)] (by kernel_rfl) (by kernel_rfl) (by kernel_rfl) ?steps ?rest
      case steps =>
        refine ⟨?s0, ?s1, ?s2, ?s3, ?s4, ?s5, ?s6, ?s7, ?s8, ?s9, ?s10, ?s11, ?s12, ?s13, ?s14, ?s15, ?s16, ?s17, trivial⟩
        case s0 =>
          exact st4_val _ rfl (.inl rfl) fun a u hb hA hd => run_loadT rfl gx (x) q (hA.eval 9 rfl) ((Hgx.out.bt).on hb)
        case s1 =>
          exact st4_val _ rfl (.inl rfl) fun a u hb hA hd => run_loadT rfl (w.heap.size + 1) (x) p (hA.eval 5 rfl) ((S6.out.bt).on hb)
        case s2 =>
          refine st4_call _ rfl (.inl rfl) 18 fun a u hb hA hd => ?_
          have q0 := ev_of (show a.eval (.tmp 70) = At.v (x) q from hd 0 70 rfl rfl _ rfl)
          have q1 := ev_of (show a.eval (.tmp 71) = At.v (x) p from hd 1 71 rfl rfl _ rfl)
          refine ⟨#[At.v (x) q, At.v (x) p], ?_, (rasame_self (x) q p u ((Hgx.out.li).below hb) ((S6.out.al).below hb) HS.out).mono ?_⟩
          · unfold execOp
            simp [go_sem, q0, q1]
          · rintro e w' ⟨rfl, hb'⟩
            exact ⟨_, rfl, rfl, hb'⟩
        case s3 =>
          exact st4_move 2 72 rfl (.inl rfl) rfl rfl rfl
        case s4 =>
          exact st4_val _ rfl (.inr ⟨3, 73, true, rfl, rfl, rfl, rfl⟩) fun a u hb hA hd => run_loadC rfl w.heap.size c A n (hA.eval 4 rfl) ((S6.out.cb).on hb)
        case s5 =>
          exact st4_val _ rfl (.inr ⟨3, 73, true, rfl, rfl, rfl, rfl⟩) fun a u hb hA hd => run_loadC rfl w.heap.size c A n (hA.eval 4 rfl) ((S6.out.cb).on hb)
        case s6 =>
          exact st4_val _ rfl (.inr ⟨3, 73, true, rfl, rfl, rfl, rfl⟩) fun a u hb hA hd => run_loadT rfl (w.heap.size + 1) (x) p (hA.eval 5 rfl) ((S6.out.bt).on hb)
        case s7 =>
          refine st4_call _ rfl (.inr ⟨3, 73, true, rfl, rfl, rfl, rfl⟩) 19 fun a u hb hA hd => ?_
          have q0 := ev_of (show a.eval (.tmp 75) = Cr.v c A n from hd 5 75 rfl rfl _ rfl)
          have q1 := ev_of (show a.eval (.tmp 76) = At.v (x) p from hd 6 76 rfl rfl _ rfl)
          refine ⟨#[Cr.v c A n, At.v (x) p], ?_, (HW.out p u ((S6.out.cl).below hb) ((S6.out.al).below hb)).mono ?_⟩
          · unfold execOp
            simp [go_sem, q0, q1]
          · rintro e w' ⟨r, rfl, hlr, hb'⟩
            exact ⟨_, rfl, ⟨r, rfl, hlr⟩, hb'⟩
        case s8 =>
          refine st4_call _ rfl (.inr ⟨3, 73, true, rfl, rfl, rfl, rfl⟩) 19 fun a u hb hA hd => ?_
          have q0 := ev_of (show a.eval (.tmp 74) = Cr.v c A n from hd 4 74 rfl rfl _ rfl)
          obtain ⟨r1, e1, l1⟩ := (show ∃ p, a.eval (.tmp 77) = At.v (X) p ∧ ALies u (X) p from hd 7 77 rfl rfl _ rfl)
          have q1 := ev_of e1
          refine ⟨#[Cr.v c A n, At.v (X) r1], ?_, (HWW.out r1 u ((S6.out.cl).below hb) (l1)).mono ?_⟩
          · unfold execOp
            simp [go_sem, q0, q1]
          · rintro e w' ⟨r, rfl, hlr, hb'⟩
            exact ⟨_, rfl, ⟨r, rfl, hlr⟩, hb'⟩
        case s9 =>
          exact st4_val _ rfl (.inr ⟨3, 73, true, rfl, rfl, rfl, rfl⟩) fun a u hb hA hd => run_loadC rfl w.heap.size c A n (hA.eval 4 rfl) ((S6.out.cb).on hb)
        case s10 =>
          exact st4_val _ rfl (.inr ⟨3, 73, true, rfl, rfl, rfl, rfl⟩) fun a u hb hA hd => run_loadT rfl (w.heap.size + 1) (x) p (hA.eval 5 rfl) ((S6.out.bt).on hb)
        case s11 =>
          refine st4_call _ rfl (.inr ⟨3, 73, true, rfl, rfl, rfl, rfl⟩) 19 fun a u hb hA hd => ?_
          have q0 := ev_of (show a.eval (.tmp 79) = Cr.v c A n from hd 9 79 rfl rfl _ rfl)
          have q1 := ev_of (show a.eval (.tmp 80) = At.v (x) p from hd 10 80 rfl rfl _ rfl)
          refine ⟨#[Cr.v c A n, At.v (x) p], ?_, (HW.out p u ((S6.out.cl).below hb) ((S6.out.al).below hb)).mono ?_⟩
          · unfold execOp
            simp [go_sem, q0, q1]
          · rintro e w' ⟨r, rfl, hlr, hb'⟩
            exact ⟨_, rfl, ⟨r, rfl, hlr⟩, hb'⟩
        case s12 =>
          refine st4_call _ rfl (.inr ⟨3, 73, true, rfl, rfl, rfl, rfl⟩) 18 fun a u hb hA hd => ?_
          obtain ⟨r0, e0, l0⟩ := (show ∃ p, a.eval (.tmp 78) = At.v (X) p ∧ ALies u (X) p from hd 8 78 rfl rfl _ rfl)
          have q0 := ev_of e0
          obtain ⟨r1, e1, l1⟩ := (show ∃ p, a.eval (.tmp 81) = At.v (X) p ∧ ALies u (X) p from hd 11 81 rfl rfl _ rfl)
          have q1 := ev_of e1
          refine ⟨#[At.v (X) r0, At.v (X) r1], ?_, (rasame_self (X) r0 r1 u (l0) (l1) (asm_of HMX.out)).mono ?_⟩
          · unfold execOp
            simp [go_sem, q0, q1]
          · rintro e w' ⟨rfl, hb'⟩
            exact ⟨_, rfl, rfl, hb'⟩
        case s13 =>
          exact st4_val _ rfl (.inl rfl) fun a u hb hA hd => by
            have q0 := hd 3 73 rfl rfl _ rfl
            have q1 := hd 12 82 rfl rfl _ rfl
            rw [run_pickT rfl q0]
            exact congrArg (fun z => Result.ok (Next.value z) u) q1
        case s14 =>
          exact st4_move 13 83 rfl (.inl rfl) rfl rfl rfl
        case s15 =>
          refine st4_call _ rfl (.inr ⟨14, 84, true, rfl, rfl, rfl, rfl⟩) 9 fun a u hb hA hd => ?_
          refine ⟨#[], ?_, (alive_calls u).mono ?_⟩
          · unfold execOp
            simp [go_sem]
          · rintro e w' ⟨rfl, hb'⟩
            exact ⟨_, rfl, rfl, hb'⟩
        case s16 =>
          exact st4_val _ rfl (.inl rfl) fun a u hb hA hd => by
            have q0 := hd 14 84 rfl rfl _ rfl
            have q1 := hd 15 85 rfl rfl _ rfl
            rw [run_pickT rfl q0]
            exact congrArg (fun z => Result.ok (Next.value z) u) q1
        case s17 =>
          exact st4_assign 16 86 rfl (.inl rfl) rfl rfl rfl
      case rest =>
        intro vs u hb hR
        have ee : vs 17 = .bool true := hR 17 (by decide)
        have HBE9 := Lib.hid (S6.out.on hb).be
        simp only [putsFrom, Act.put, List.setIfInBounds_toArray, List.set_cons_succ, List.set_cons_zero, ee]
        generalize vs 0 = z0
        generalize vs 1 = z1
        generalize vs 2 = z2
        generalize vs 3 = z3
        generalize vs 4 = z4
        generalize vs 5 = z5
        generalize vs 6 = z6
        generalize vs 7 = z7
        generalize vs 8 = z8
        generalize vs 9 = z9
        generalize vs 10 = z10
        generalize vs 11 = z11
        generalize vs 12 = z12
        generalize vs 13 = z13
        generalize vs 14 = z14
        generalize vs 15 = z15
        generalize vs 16 = z16
        clear hR hb
        go_wp2_with (fail)
        go_ret
        exact ⟨rfl, HBE9.out⟩
    case neg =>
      have dn : (N == 0) = false := by rw [beq_eq_false_iff_ne]; exact hn
      clear hn
      
      go_upto_region 7 with (fail)
      clear yc0
      have ya := S6.out.bt.c0
      obtain ⟨U5, hU5⟩ : ∃ Zz, Zz = World.setRow w7 gx (At.c (withBi X x.bi) q) := ⟨_, rfl⟩
      have hbg := Hgx.out.bt
      have b9 : Below w5.heap.size w7 U5 := by rw [hU5]; exact below_setRow (Below.refl _ _) HGgx.out _
      have hx5 : Hl U5 gx x q := by
        have h1 : Bt U5 gx (withBi X x.bi) q := by rw [hU5]; exact setRow_heap _ _ _ _ _ _ hbg
        have h2 : ALies U5 X q := HLI5.out U5 (HB5.out.trans b9)
        have h3 : ALies U5 (withBi X x.bi) q := ⟨h2.ac, h2.df, h2.xs⟩
        rw [HBK.out] at h1 h3
        exact ⟨h1, h3⟩
      have hs5 : Pb w U5 c A n x p := by rw [hU5]; exact HP5.out _ (by rw [← hU5]; exact HB5.out.trans b9)
      go_upto_region 8 with (refine wpList_store_part rfl 5 (.tmp 69) (.tmp 68) rfl rfl gx 0 [.int .u8 ((x.bi : Nat) : Int)] rfl rfl 31 _ Hgx.out.bt u8_size (Nat.le_of_ble_eq_true rfl) (one_of rfl) (At.c (withBi X x.bi) q) rfl ?_; rw [← hU5])
      have S6 := Lib.hid hs5
      have Hgx := Lib.hid hx5
      clear hU5 hbg b9 hx5 hs5 ya
      refine wp_region4 [.val (At.v (x) q), .val (At.v (x) p), .val (.bool true), .val (.bool true), .val (Cr.v c A n), .val (Cr.v c A n), .val (At.v (x) p), .att (X), .att (X), .val (Cr.v c A n), .val (At.v (x) p), .att (X), .val (.bool true), .val (.bool true), .val (.bool true), .val (.bool true), .val (.bool true), .val (.bool true)] (by kernel_rfl) (by kernel_rfl) (by kernel_rfl) ?steps ?rest
      case steps =>
        refine ⟨?s0, ?s1, ?s2, ?s3, ?s4, ?s5, ?s6, ?s7, ?s8, ?s9, ?s10, ?s11, ?s12, ?s13, ?s14, ?s15, ?s16, ?s17, trivial⟩
        case s0 =>
          exact st4_val _ rfl (.inl rfl) fun a u hb hA hd => run_loadT rfl gx (x) q (hA.eval 9 rfl) ((Hgx.out.bt).on hb)
        case s1 =>
          exact st4_val _ rfl (.inl rfl) fun a u hb hA hd => run_loadT rfl (w.heap.size + 1) (x) p (hA.eval 5 rfl) ((S6.out.bt).on hb)
        case s2 =>
          refine st4_call _ rfl (.inl rfl) 18 fun a u hb hA hd => ?_
          have q0 := ev_of (show a.eval (.tmp 70) = At.v (x) q from hd 0 70 rfl rfl _ rfl)
          have q1 := ev_of (show a.eval (.tmp 71) = At.v (x) p from hd 1 71 rfl rfl _ rfl)
          refine ⟨#[At.v (x) q, At.v (x) p], ?_, (rasame_self (x) q p u ((Hgx.out.li).below hb) ((S6.out.al).below hb) HS.out).mono ?_⟩
          · unfold execOp
            simp [go_sem, q0, q1]
          · rintro e w' ⟨rfl, hb'⟩
            exact ⟨_, rfl, rfl, hb'⟩
        case s3 =>
          exact st4_move 2 72 rfl (.inl rfl) rfl rfl rfl
        case s4 =>
          exact st4_val _ rfl (.inr ⟨3, 73, true, rfl, rfl, rfl, rfl⟩) fun a u hb hA hd => run_loadC rfl w.heap.size c A n (hA.eval 4 rfl) ((S6.out.cb).on hb)
        case s5 =>
          exact st4_val _ rfl (.inr ⟨3, 73, true, rfl, rfl, rfl, rfl⟩) fun a u hb hA hd => run_loadC rfl w.heap.size c A n (hA.eval 4 rfl) ((S6.out.cb).on hb)
        case s6 =>
          exact st4_val _ rfl (.inr ⟨3, 73, true, rfl, rfl, rfl, rfl⟩) fun a u hb hA hd => run_loadT rfl (w.heap.size + 1) (x) p (hA.eval 5 rfl) ((S6.out.bt).on hb)
        case s7 =>
          refine st4_call _ rfl (.inr ⟨3, 73, true, rfl, rfl, rfl, rfl⟩) 19 fun a u hb hA hd => ?_
          have q0 := ev_of (show a.eval (.tmp 75) = Cr.v c A n from hd 5 75 rfl rfl _ rfl)
          have q1 := ev_of (show a.eval (.tmp 76) = At.v (x) p from hd 6 76 rfl rfl _ rfl)
          refine ⟨#[Cr.v c A n, At.v (x) p], ?_, (HW.out p u ((S6.out.cl).below hb) ((S6.out.al).below hb)).mono ?_⟩
          · unfold execOp
            simp [go_sem, q0, q1]
          · rintro e w' ⟨r, rfl, hlr, hb'⟩
            exact ⟨_, rfl, ⟨r, rfl, hlr⟩, hb'⟩
        case s8 =>
          refine st4_call _ rfl (.inr ⟨3, 73, true, rfl, rfl, rfl, rfl⟩) 19 fun a u hb hA hd => ?_
          have q0 := ev_of (show a.eval (.tmp 74) = Cr.v c A n from hd 4 74 rfl rfl _ rfl)
          obtain ⟨r1, e1, l1⟩ := (show ∃ p, a.eval (.tmp 77) = At.v (X) p ∧ ALies u (X) p from hd 7 77 rfl rfl _ rfl)
          have q1 := ev_of e1
          refine ⟨#[Cr.v c A n, At.v (X) r1], ?_, (HWW.out r1 u ((S6.out.cl).below hb) (l1)).mono ?_⟩
          · unfold execOp
            simp [go_sem, q0, q1]
          · rintro e w' ⟨r, rfl, hlr, hb'⟩
            exact ⟨_, rfl, ⟨r, rfl, hlr⟩, hb'⟩
        case s9 =>
          exact st4_val _ rfl (.inr ⟨3, 73, true, rfl, rfl, rfl, rfl⟩) fun a u hb hA hd => run_loadC rfl w.heap.size c A n (hA.eval 4 rfl) ((S6.out.cb).on hb)
        case s10 =>
          exact st4_val _ rfl (.inr ⟨3, 73, true, rfl, rfl, rfl, rfl⟩) fun a u hb hA hd => run_loadT rfl (w.heap.size + 1) (x) p (hA.eval 5 rfl) ((S6.out.bt).on hb)
        case s11 =>
          refine st4_call _ rfl (.inr ⟨3, 73, true, rfl, rfl, rfl, rfl⟩) 19 fun a u hb hA hd => ?_
          have q0 := ev_of (show a.eval (.tmp 79) = Cr.v c A n from hd 9 79 rfl rfl _ rfl)
          have q1 := ev_of (show a.eval (.tmp 80) = At.v (x) p from hd 10 80 rfl rfl _ rfl)
          refine ⟨#[Cr.v c A n, At.v (x) p], ?_, (HW.out p u ((S6.out.cl).below hb) ((S6.out.al).below hb)).mono ?_⟩
          · unfold execOp
            simp [go_sem, q0, q1]
          · rintro e w' ⟨r, rfl, hlr, hb'⟩
            exact ⟨_, rfl, ⟨r, rfl, hlr⟩, hb'⟩
        case s12 =>
          refine st4_call _ rfl (.inr ⟨3, 73, true, rfl, rfl, rfl, rfl⟩) 18 fun a u hb hA hd => ?_
          obtain ⟨r0, e0, l0⟩ := (show ∃ p, a.eval (.tmp 78) = At.v (X) p ∧ ALies u (X) p from hd 8 78 rfl rfl _ rfl)
          have q0 := ev_of e0
          obtain ⟨r1, e1, l1⟩ := (show ∃ p, a.eval (.tmp 81) = At.v (X) p ∧ ALies u (X) p from hd 11 81 rfl rfl _ rfl)
          have q1 := ev_of e1
          refine ⟨#[At.v (X) r0, At.v (X) r1], ?_, (rasame_self (X) r0 r1 u (l0) (l1) (asm_of HMX.out)).mono ?_⟩
          · unfold execOp
            simp [go_sem, q0, q1]
          · rintro e w' ⟨rfl, hb'⟩
            exact ⟨_, rfl, rfl, hb'⟩
        case s13 =>
          exact st4_val _ rfl (.inl rfl) fun a u hb hA hd => by
            have q0 := hd 3 73 rfl rfl _ rfl
            have q1 := hd 12 82 rfl rfl _ rfl
            rw [run_pickT rfl q0]
            exact congrArg (fun z => Result.ok (Next.value z) u) q1
        case s14 =>
          exact st4_move 13 83 rfl (.inl rfl) rfl rfl rfl
        case s15 =>
          refine st4_call _ rfl (.inr ⟨14, 84, true, rfl, rfl, rfl, rfl⟩) 9 fun a u hb hA hd => ?_
          refine ⟨#[], ?_, (alive_calls u).mono ?_⟩
          · unfold execOp
            simp [go_sem]
          · rintro e w' ⟨rfl, hb'⟩
            exact ⟨_, rfl, rfl, hb'⟩
        case s16 =>
          exact st4_val _ rfl (.inl rfl) fun a u hb hA hd => by
            have q0 := hd 14 84 rfl rfl _ rfl
            have q1 := hd 15 85 rfl rfl _ rfl
            rw [run_pickT rfl q0]
            exact congrArg (fun z => Result.ok (Next.value z) u) q1
        case s17 =>
          exact st4_assign 16 86 rfl (.inl rfl) rfl rfl rfl
      case rest =>
        intro vs u hb hR
        have ee : vs 17 = .bool true := hR 17 (by decide)
        have HBE9 := Lib.hid (S6.out.on hb).be
        simp only [putsFrom, Act.put, List.setIfInBounds_toArray, List.set_cons_succ, List.set_cons_zero, ee]
        generalize vs 0 = z0
        generalize vs 1 = z1
        generalize vs 2 = z2
        generalize vs 3 = z3
        generalize vs 4 = z4
        generalize vs 5 = z5
        generalize vs 6 = z6
        generalize vs 7 = z7
        generalize vs 8 = z8
        generalize vs 9 = z9
        generalize vs 10 = z10
        generalize vs 11 = z11
        generalize vs 12 = z12
        generalize vs 13 = z13
        generalize vs 14 = z14
        generalize vs 15 = z15
        generalize vs 16 = z16
        clear hR hb
        go_wp2_with (fail)
        go_ret
        exact ⟨rfl, HBE9.out⟩
  case pos =>
    have d0 : ((z : Int) != 0) = false := by rw [h0]; rfl
    have d0' : ((z : Int) == 0) = true := by rw [h0]; rfl
    have HBE := Lib.hid (HBX.out h0)
    clear h0
    have yc0 := S6.out.cb.c0
    rw [HZ.out] at yc0
    by_cases hn : N = 0
    case pos =>
      have dn : (N == 0) = true := by rw [hn]; rfl
      have HCC := Lib.hid (HCY.out hn)
      clear hn
      go_wp2_with (refine wpList_load_part rfl 31 (.tmp 10) rfl gy 0 rfl (At.c Y qy).toList _ (Hgy.out.bt).bt0 Try.underlying31 rfl attr_size (At.v Y qy) rfl ?_)
      refine (clean_calls Y qy U2 (nb_may (amay_parts HMY.out).2.1) (by have := may8 HMY.out; omega)).mono ?_
      rw [HCC.out]
      rintro e w8 ⟨rfl, hb⟩
      have S6 := Lib.hid (S6.out.on hb)
      have Hgx := Lib.hid (Hgx.out.on hb)
      have Hgy := Lib.hid (Hgy.out.on hb)
      have HB5 : Hid (Below w5.heap.size w5 w8) := Lib.hid (HB5.out.trans (hb.mono HB5.out.size))
      clear hb yc0 HCC
      have yc0 := S6.out.cb.c0
      rw [HZ.out] at yc0
      have yx := Hgx.out.bt.c0
      rw [HBE.out] at yx
      have ya := S6.out.bt.c0
      go_upto_region 7 with (fail)
      clear yc0 yx ya
      have ya := S6.out.bt.c0
      obtain ⟨U5, hU5⟩ : ∃ Zz, Zz = World.setRow w8 gx (At.c (withBi X x.bi) q) := ⟨_, rfl⟩
      have hbg := Hgx.out.bt
      have b9 : Below w5.heap.size w8 U5 := by rw [hU5]; exact below_setRow (Below.refl _ _) HGgx.out _
      have hx5 : Hl U5 gx x q := by
        have h1 : Bt U5 gx (withBi X x.bi) q := by rw [hU5]; exact setRow_heap _ _ _ _ _ _ hbg
        have h2 : ALies U5 X q := HLI5.out U5 (HB5.out.trans b9)
        have h3 : ALies U5 (withBi X x.bi) q := ⟨h2.ac, h2.df, h2.xs⟩
        rw [HBK.out] at h1 h3
        exact ⟨h1, h3⟩
      have hs5 : Pb w U5 c A n x p := by rw [hU5]; exact HP5.out _ (by rw [← hU5]; exact HB5.out.trans b9)
      go_upto_region 8 with (refine wpList_store_part rfl 5 (.tmp 69) (.tmp 68) rfl rfl gx 0 [.int .u8 ((x.bi : Nat) : Int)] rfl rfl 31 _ Hgx.out.bt u8_size (Nat.le_of_ble_eq_true rfl) (one_of rfl) (At.c (withBi X x.bi) q) rfl ?_; rw [← hU5])
      have S6 := Lib.hid hs5
      have Hgx := Lib.hid hx5
      clear hU5 hbg b9 hx5 hs5 ya
      refine wp_region4 [.val (At.v (x) q), .val (At.v (x) p), .val (.bool true), .val (.bool true), .val (Cr.v c A n), .val (Cr.v c A n), .val (At.v (x) p), .att (X), .att (X), .val (Cr.v c A n), .val (At.v (x) p), .att (X), .val (.bool true), .val (.bool true), .val (.bool true), .val (.bool true), .val (.bool true), .val (.bool true)] (by kernel_rfl) (by kernel_rfl) (by kernel_rfl) ?steps ?rest
      case steps =>
        refine ⟨?s0, ?s1, ?s2, ?s3, ?s4, ?s5, ?s6, ?s7, ?s8, ?s9, ?s10, ?s11, ?s12, ?s13, ?s14, ?s15, ?s16, ?s17, trivial⟩
        case s0 =>
          exact st4_val _ rfl (.inl rfl) fun a u hb hA hd => run_loadT rfl gx (x) q (hA.eval 9 rfl) ((Hgx.out.bt).on hb)
        case s1 =>
          exact st4_val _ rfl (.inl rfl) fun a u hb hA hd => run_loadT rfl (w.heap.size + 1) (x) p (hA.eval 5 rfl) ((S6.out.bt).on hb)
        case s2 =>
          refine st4_call _ rfl (.inl rfl) 18 fun a u hb hA hd => ?_
          have q0 := ev_of (show a.eval (.tmp 70) = At.v (x) q from hd 0 70 rfl rfl _ rfl)
          have q1 := ev_of (show a.eval (.tmp 71) = At.v (x) p from hd 1 71 rfl rfl _ rfl)
          refine ⟨#[At.v (x) q, At.v (x) p], ?_, (rasame_self (x) q p u ((Hgx.out.li).below hb) ((S6.out.al).below hb) HS.out).mono ?_⟩
          · unfold execOp
            simp [go_sem, q0, q1]
          · rintro e w' ⟨rfl, hb'⟩
            exact ⟨_, rfl, rfl, hb'⟩
        case s3 =>
          exact st4_move 2 72 rfl (.inl rfl) rfl rfl rfl
        case s4 =>
          exact st4_val _ rfl (.inr ⟨3, 73, true, rfl, rfl, rfl, rfl⟩) fun a u hb hA hd => run_loadC rfl w.heap.size c A n (hA.eval 4 rfl) ((S6.out.cb).on hb)
        case s5 =>
          exact st4_val _ rfl (.inr ⟨3, 73, true, rfl, rfl, rfl, rfl⟩) fun a u hb hA hd => run_loadC rfl w.heap.size c A n (hA.eval 4 rfl) ((S6.out.cb).on hb)
        case s6 =>
          exact st4_val _ rfl (.inr ⟨3, 73, true, rfl, rfl, rfl, rfl⟩) fun a u hb hA hd => run_loadT rfl (w.heap.size + 1) (x) p (hA.eval 5 rfl) ((S6.out.bt).on hb)
        case s7 =>
          refine st4_call _ rfl (.inr ⟨3, 73, true, rfl, rfl, rfl, rfl⟩) 19 fun a u hb hA hd => ?_
          have q0 := ev_of (show a.eval (.tmp 75) = Cr.v c A n from hd 5 75 rfl rfl _ rfl)
          have q1 := ev_of (show a.eval (.tmp 76) = At.v (x) p from hd 6 76 rfl rfl _ rfl)
          refine ⟨#[Cr.v c A n, At.v (x) p], ?_, (HW.out p u ((S6.out.cl).below hb) ((S6.out.al).below hb)).mono ?_⟩
          · unfold execOp
            simp [go_sem, q0, q1]
          · rintro e w' ⟨r, rfl, hlr, hb'⟩
            exact ⟨_, rfl, ⟨r, rfl, hlr⟩, hb'⟩
        case s8 =>
          refine st4_call _ rfl (.inr ⟨3, 73, true, rfl, rfl, rfl, rfl⟩) 19 fun a u hb hA hd => ?_
          have q0 := ev_of (show a.eval (.tmp 74) = Cr.v c A n from hd 4 74 rfl rfl _ rfl)
          obtain ⟨r1, e1, l1⟩ := (show ∃ p, a.eval (.tmp 77) = At.v (X) p ∧ ALies u (X) p from hd 7 77 rfl rfl _ rfl)
          have q1 := ev_of e1
          refine ⟨#[Cr.v c A n, At.v (X) r1], ?_, (HWW.out r1 u ((S6.out.cl).below hb) (l1)).mono ?_⟩
          · unfold execOp
            simp [go_sem, q0, q1]
          · rintro e w' ⟨r, rfl, hlr, hb'⟩
            exact ⟨_, rfl, ⟨r, rfl, hlr⟩, hb'⟩
        case s9 =>
          exact st4_val _ rfl (.inr ⟨3, 73, true, rfl, rfl, rfl, rfl⟩) fun a u hb hA hd => run_loadC rfl w.heap.size c A n (hA.eval 4 rfl) ((S6.out.cb).on hb)
        case s10 =>
          exact st4_val _ rfl (.inr ⟨3, 73, true, rfl, rfl, rfl, rfl⟩) fun a u hb hA hd => run_loadT rfl (w.heap.size + 1) (x) p (hA.eval 5 rfl) ((S6.out.bt).on hb)
        case s11 =>
          refine st4_call _ rfl (.inr ⟨3, 73, true, rfl, rfl, rfl, rfl⟩) 19 fun a u hb hA hd => ?_
          have q0 := ev_of (show a.eval (.tmp 79) = Cr.v c A n from hd 9 79 rfl rfl _ rfl)
          have q1 := ev_of (show a.eval (.tmp 80) = At.v (x) p from hd 10 80 rfl rfl _ rfl)
          refine ⟨#[Cr.v c A n, At.v (x) p], ?_, (HW.out p u ((S6.out.cl).below hb) ((S6.out.al).below hb)).mono ?_⟩
          · unfold execOp
            simp [go_sem, q0, q1]
          · rintro e w' ⟨r, rfl, hlr, hb'⟩
            exact ⟨_, rfl, ⟨r, rfl, hlr⟩, hb'⟩
        case s12 =>
          refine st4_call _ rfl (.inr ⟨3, 73, true, rfl, rfl, rfl, rfl⟩) 18 fun a u hb hA hd => ?_
          obtain ⟨r0, e0, l0⟩ := (show ∃ p, a.eval (.tmp 78) = At.v (X) p ∧ ALies u (X) p from hd 8 78 rfl rfl _ rfl)
          have q0 := ev_of e0
          obtain ⟨r1, e1, l1⟩ := (show ∃ p, a.eval (.tmp 81) = At.v (X) p ∧ ALies u (X) p from hd 11 81 rfl rfl _ rfl)
          have q1 := ev_of e1
          refine ⟨#[At.v (X) r0, At.v (X) r1], ?_, (rasame_self (X) r0 r1 u (l0) (l1) (asm_of HMX.out)).mono ?_⟩
          · unfold execOp
            simp [go_sem, q0, q1]
          · rintro e w' ⟨rfl, hb'⟩
            exact ⟨_, rfl, rfl, hb'⟩
        case s13 =>
          exact st4_val _ rfl (.inl rfl) fun a u hb hA hd => by
            have q0 := hd 3 73 rfl rfl _ rfl
            have q1 := hd 12 82 rfl rfl _ rfl
            rw [run_pickT rfl q0]
            exact congrArg (fun z => Result.ok (Next.value z) u) q1
        case s14 =>
          exact st4_move 13 83 rfl (.inl rfl) rfl rfl rfl
        case s15 =>
          refine st4_call _ rfl (.inr ⟨14, 84, true, rfl, rfl, rfl, rfl⟩) 9 fun a u hb hA hd => ?_
          refine ⟨#[], ?_, (alive_calls u).mono ?_⟩
          · unfold execOp
            simp [go_sem]
          · rintro e w' ⟨rfl, hb'⟩
            exact ⟨_, rfl, rfl, hb'⟩
        case s16 =>
          exact st4_val _ rfl (.inl rfl) fun a u hb hA hd => by
            have q0 := hd 14 84 rfl rfl _ rfl
            have q1 := hd 15 85 rfl rfl _ rfl
            rw [run_pickT rfl q0]
            exact congrArg (fun z => Result.ok (Next.value z) u) q1
        case s17 =>
          exact st4_assign 16 86 rfl (.inl rfl) rfl rfl rfl
      case rest =>
        intro vs u hb hR
        have ee : vs 17 = .bool true := hR 17 (by decide)
        have HBE9 := Lib.hid (S6.out.on hb).be
        simp only [putsFrom, Act.put, List.setIfInBounds_toArray, List.set_cons_succ, List.set_cons_zero, ee]
        generalize vs 0 = z0
        generalize vs 1 = z1
        generalize vs 2 = z2
        generalize vs 3 = z3
        generalize vs 4 = z4
        generalize vs 5 = z5
        generalize vs 6 = z6
        generalize vs 7 = z7
        generalize vs 8 = z8
        generalize vs 9 = z9
        generalize vs 10 = z10
        generalize vs 11 = z11
        generalize vs 12 = z12
        generalize vs 13 = z13
        generalize vs 14 = z14
        generalize vs 15 = z15
        generalize vs 16 = z16
        clear hR hb
        go_wp2_with (fail)
        go_ret
        exact ⟨rfl, HBE9.out⟩
    case neg =>
      have dn : (N == 0) = false := by rw [beq_eq_false_iff_ne]; exact hn
      clear hn
      have yx := Hgx.out.bt.c0
      rw [HBE.out] at yx
      have ya := S6.out.bt.c0
      go_upto_region 7 with (fail)
      clear yc0 yx ya
      have ya := S6.out.bt.c0
      obtain ⟨U5, hU5⟩ : ∃ Zz, Zz = World.setRow U2 gx (At.c (withBi X x.bi) q) := ⟨_, rfl⟩
      have hbg := Hgx.out.bt
      have b9 : Below w5.heap.size U2 U5 := by rw [hU5]; exact below_setRow (Below.refl _ _) HGgx.out _
      have hx5 : Hl U5 gx x q := by
        have h1 : Bt U5 gx (withBi X x.bi) q := by rw [hU5]; exact setRow_heap _ _ _ _ _ _ hbg
        have h2 : ALies U5 X q := HLI5.out U5 (HB5.out.trans b9)
        have h3 : ALies U5 (withBi X x.bi) q := ⟨h2.ac, h2.df, h2.xs⟩
        rw [HBK.out] at h1 h3
        exact ⟨h1, h3⟩
      have hs5 : Pb w U5 c A n x p := by rw [hU5]; exact HP5.out _ (by rw [← hU5]; exact HB5.out.trans b9)
      go_upto_region 8 with (refine wpList_store_part rfl 5 (.tmp 69) (.tmp 68) rfl rfl gx 0 [.int .u8 ((x.bi : Nat) : Int)] rfl rfl 31 _ Hgx.out.bt u8_size (Nat.le_of_ble_eq_true rfl) (one_of rfl) (At.c (withBi X x.bi) q) rfl ?_; rw [← hU5])
      have S6 := Lib.hid hs5
      have Hgx := Lib.hid hx5
      clear hU5 hbg b9 hx5 hs5 ya
      refine wp_region4 [.val (At.v (x) q), .val (At.v (x) p), .val (.bool true), .val (.bool true), .val (Cr.v c A n), .val (Cr.v c A n), .val (At.v (x) p), .att (X), .att (X), .val (Cr.v c A n), .val (At.v (x) p), .att (X), .val (.bool true), .val (.bool true), .val (.bool true), .val (.bool true), .val (.bool true), .val (.bool true)] (by kernel_rfl) (by kernel_rfl) (by kernel_rfl) ?steps ?rest
      case steps =>
        refine ⟨?s0, ?s1, ?s2, ?s3, ?s4, ?s5, ?s6, ?s7, ?s8, ?s9, ?s10, ?s11, ?s12, ?s13, ?s14, ?s15, ?s16, ?s17, trivial⟩
        case s0 =>
          exact st4_val _ rfl (.inl rfl) fun a u hb hA hd => run_loadT rfl gx (x) q (hA.eval 9 rfl) ((Hgx.out.bt).on hb)
        case s1 =>
          exact st4_val _ rfl (.inl rfl) fun a u hb hA hd => run_loadT rfl (w.heap.size + 1) (x) p (hA.eval 5 rfl) ((S6.out.bt).on hb)
        case s2 =>
          refine st4_call _ rfl (.inl rfl) 18 fun a u hb hA hd => ?_
          have q0 := ev_of (show a.eval (.tmp 70) = At.v (x) q from hd 0 70 rfl rfl _ rfl)
          have q1 := ev_of (show a.eval (.tmp 71) = At.v (x) p from hd 1 71 rfl rfl _ rfl)
          refine ⟨#[At.v (x) q, At.v (x) p], ?_, (rasame_self (x) q p u ((Hgx.out.li).below hb) ((S6.out.al).below hb) HS.out).mono ?_⟩
          · unfold execOp
            simp [go_sem, q0, q1]
          · rintro e w' ⟨rfl, hb'⟩
            exact ⟨_, rfl, rfl, hb'⟩
        case s3 =>
          exact st4_move 2 72 rfl (.inl rfl) rfl rfl rfl
        case s4 =>
          exact st4_val _ rfl (.inr ⟨3, 73, true, rfl, rfl, rfl, rfl⟩) fun a u hb hA hd => run_loadC rfl w.heap.size c A n (hA.eval 4 rfl) ((S6.out.cb).on hb)
        case s5 =>
          exact st4_val _ rfl (.inr ⟨3, 73, true, rfl, rfl, rfl, rfl⟩) fun a u hb hA hd => run_loadC rfl w.heap.size c A n (hA.eval 4 rfl) ((S6.out.cb).on hb)
        case s6 =>
          exact st4_val _ rfl (.inr ⟨3, 73, true, rfl, rfl, rfl, rfl⟩) fun a u hb hA hd => run_loadT rfl (w.heap.size + 1) (x) p (hA.eval 5 rfl) ((S6.out.bt).on hb)
        case s7 =>
          refine st4_call _ rfl (.inr ⟨3, 73, true, rfl, rfl, rfl, rfl⟩) 19 fun a u hb hA hd => ?_
          have q0 := ev_of (show a.eval (.tmp 75) = Cr.v c A n from hd 5 75 rfl rfl _ rfl)
          have q1 := ev_of (show a.eval (.tmp 76) = At.v (x) p from hd 6 76 rfl rfl _ rfl)
          refine ⟨#[Cr.v c A n, At.v (x) p], ?_, (HW.out p u ((S6.out.cl).below hb) ((S6.out.al).below hb)).mono ?_⟩
          · unfold execOp
            simp [go_sem, q0, q1]
          · rintro e w' ⟨r, rfl, hlr, hb'⟩
            exact ⟨_, rfl, ⟨r, rfl, hlr⟩, hb'⟩
        case s8 =>
          refine st4_call _ rfl (.inr ⟨3, 73, true, rfl, rfl, rfl, rfl⟩) 19 fun a u hb hA hd => ?_
          have q0 := ev_of (show a.eval (.tmp 74) = Cr.v c A n from hd 4 74 rfl rfl _ rfl)
          obtain ⟨r1, e1, l1⟩ := (show ∃ p, a.eval (.tmp 77) = At.v (X) p ∧ ALies u (X) p from hd 7 77 rfl rfl _ rfl)
          have q1 := ev_of e1
          refine ⟨#[Cr.v c A n, At.v (X) r1], ?_, (HWW.out r1 u ((S6.out.cl).below hb) (l1)).mono ?_⟩
          · unfold execOp
            simp [go_sem, q0, q1]
          · rintro e w' ⟨r, rfl, hlr, hb'⟩
            exact ⟨_, rfl, ⟨r, rfl, hlr⟩, hb'⟩
        case s9 =>
          exact st4_val _ rfl (.inr ⟨3, 73, true, rfl, rfl, rfl, rfl⟩) fun a u hb hA hd => run_loadC rfl w.heap.size c A n (hA.eval 4 rfl) ((S6.out.cb).on hb)
        case s10 =>
          exact st4_val _ rfl (.inr ⟨3, 73, true, rfl, rfl, rfl, rfl⟩) fun a u hb hA hd => run_loadT rfl (w.heap.size + 1) (x) p (hA.eval 5 rfl) ((S6.out.bt).on hb)
        case s11 =>
          refine st4_call _ rfl (.inr ⟨3, 73, true, rfl, rfl, rfl, rfl⟩) 19 fun a u hb hA hd => ?_
          have q0 := ev_of (show a.eval (.tmp 79) = Cr.v c A n from hd 9 79 rfl rfl _ rfl)
          have q1 := ev_of (show a.eval (.tmp 80) = At.v (x) p from hd 10 80 rfl rfl _ rfl)
          refine ⟨#[Cr.v c A n, At.v (x) p], ?_, (HW.out p u ((S6.out.cl).below hb) ((S6.out.al).below hb)).mono ?_⟩
          · unfold execOp
            simp [go_sem, q0, q1]
          · rintro e w' ⟨r, rfl, hlr, hb'⟩
            exact ⟨_, rfl, ⟨r, rfl, hlr⟩, hb'⟩
        case s12 =>
          refine st4_call _ rfl (.inr ⟨3, 73, true, rfl, rfl, rfl, rfl⟩) 18 fun a u hb hA hd => ?_
          obtain ⟨r0, e0, l0⟩ := (show ∃ p, a.eval (.tmp 78) = At.v (X) p ∧ ALies u (X) p from hd 8 78 rfl rfl _ rfl)
          have q0 := ev_of e0
          obtain ⟨r1, e1, l1⟩ := (show ∃ p, a.eval (.tmp 81) = At.v (X) p ∧ ALies u (X) p from hd 11 81 rfl rfl _ rfl)
          have q1 := ev_of e1
          refine ⟨#[At.v (X) r0, At.v (X) r1], ?_, (rasame_self (X) r0 r1 u (l0) (l1) (asm_of HMX.out)).mono ?_⟩
          · unfold execOp
            simp [go_sem, q0, q1]
          · rintro e w' ⟨rfl, hb'⟩
            exact ⟨_, rfl, rfl, hb'⟩
        case s13 =>
          exact st4_val _ rfl (.inl rfl) fun a u hb hA hd => by
            have q0 := hd 3 73 rfl rfl _ rfl
            have q1 := hd 12 82 rfl rfl _ rfl
            rw [run_pickT rfl q0]
            exact congrArg (fun z => Result.ok (Next.value z) u) q1
        case s14 =>
          exact st4_move 13 83 rfl (.inl rfl) rfl rfl rfl
        case s15 =>
          refine st4_call _ rfl (.inr ⟨14, 84, true, rfl, rfl, rfl, rfl⟩) 9 fun a u hb hA hd => ?_
          refine ⟨#[], ?_, (alive_calls u).mono ?_⟩
          · unfold execOp
            simp [go_sem]
          · rintro e w' ⟨rfl, hb'⟩
            exact ⟨_, rfl, rfl, hb'⟩
        case s16 =>
          exact st4_val _ rfl (.inl rfl) fun a u hb hA hd => by
            have q0 := hd 14 84 rfl rfl _ rfl
            have q1 := hd 15 85 rfl rfl _ rfl
            rw [run_pickT rfl q0]
            exact congrArg (fun z => Result.ok (Next.value z) u) q1
        case s17 =>
          exact st4_assign 16 86 rfl (.inl rfl) rfl rfl rfl
      case rest =>
        intro vs u hb hR
        have ee : vs 17 = .bool true := hR 17 (by decide)
        have HBE9 := Lib.hid (S6.out.on hb).be
        simp only [putsFrom, Act.put, List.setIfInBounds_toArray, List.set_cons_succ, List.set_cons_zero, ee]
        generalize vs 0 = z0
        generalize vs 1 = z1
        generalize vs 2 = z2
        generalize vs 3 = z3
        generalize vs 4 = z4
        generalize vs 5 = z5
        generalize vs 6 = z6
        generalize vs 7 = z7
        generalize vs 8 = z8
        generalize vs 9 = z9
        generalize vs 10 = z10
        generalize vs 11 = z11
        generalize vs 12 = z12
        generalize vs 13 = z13
        generalize vs 14 = z14
        generalize vs 15 = z15
        generalize vs 16 = z16
        clear hR hb
        go_wp2_with (fail)
        go_ret
        exact ⟨rfl, HBE9.out⟩
end Go.Proofs.Ytdioafoikcfhhaa
