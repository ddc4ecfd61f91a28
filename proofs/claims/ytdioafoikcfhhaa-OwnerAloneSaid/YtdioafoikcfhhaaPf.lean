/- OwnerSticky: whatever it is called with, it hands back true. -/
import Derived.Test.YtdioafoikcfhhaaPd
import Derived.Test.YtdioafoikcfhhaaPe
set_option linter.unusedSimpArgs false
set_option linter.unusedVariables false
set_option linter.unusedSimpArgs false
set_option linter.unusedVariables false
namespace Go.Proofs.Ytdioafoikcfhhaa
open Go.RowKit
theorem run_loadC {o : Oper} {a : Act} {u : World} {x : Operand} (ho : o.op = .load 25 x) (g : Nat) (y : Cr) (A : Option Addr) (n : Nat) (hx : a.eval x = .pointer (some ⟨g, 0, none⟩)) (h : Cb u g y A n) : (execOp a.eval o).run Try.prog u = .ok (.value (y.v A n)) u := by
  unfold execOp
  simp only [ho, hx, Instr.loadAt, Instr.sureAddr, Sem.run_bind, Sem.run_pure, Result.andThen_ok, run_loadVar_row (P := Try.prog) u g 25 25 _ (0, 0) _ h Try.underlying25 rfl cred_size]
theorem run_loadL {o : Oper} {a : Act} {u : World} {x : Operand} (ho : o.op = .load 28 x) (g : Nat) (y : Ac) (q : Lie) (hx : a.eval x = .pointer (some ⟨g, 0, none⟩)) (h : Ab u g y q) : (execOp a.eval o).run Try.prog u = .ok (.value (y.v q)) u := by
  unfold execOp
  simp only [ho, hx, Instr.loadAt, Instr.sureAddr, Sem.run_bind, Sem.run_pure, Result.andThen_ok, run_loadVar_row (P := Try.prog) u g 28 28 _ (0, 0) _ h Try.underlying28 rfl acl_size]
theorem or1 (a : Nat) (ha : a < 8) : bits .or .u8 (a : Int) 1 = ((a ||| 1 : Nat) : Int) := or8 a 1 (by omega) (by decide)
theorem ckN_true : ckN true = 0 := rfl
theorem ckN_false : ckN false = 622 := rfl
set_option maxRecDepth 100000 in
set_option maxHeartbeats 16000000 in
theorem sticky_law (c : Cr) (A : Option Addr) (n : Nat) (d : At) (pd : ALie) (x : At) (p : ALie) (w : World) (hc : CLies w c A) (hd : ALies w d pd) (h : ALies w x p) (hsd : ABg d) (hsx : ABg x) :
    Calls Try.prog 7 #[c.v A n, d.v pd, x.v p] w fun e w' => e = .returned (.bool true) ∧ Below w.heap.size w w' := by
  obtain ⟨V, hV⟩ : ∃ V, V = ((w.alloc (.cells (c.c A n) 25)).alloc (.cells (d.c pd) 31)).alloc (.cells (x.c p) 31) := ⟨_, rfl⟩
  have S0 : Hid (Pc w V c A n d pd x p) := Lib.hid (by rw [hV]; exact Pc.start hc hd h)
  have HGD := Lib.hid hsd
  have HGX := Lib.hid hsx
  clear h hc hd hsd hsx
  go_enter Try.func7, Try.ntmps7
  go_upto_region 1 with (fail)
  rw [← hV]
  clear hV
  go_wp2_with (first
  | (refine wpList_load_part rfl 25 (.tmp 3) rfl w.heap.size 0 rfl (Cr.c c A n).toList _ (S0.out.cb).all Try.underlying25 rfl cred_size (Cr.v c A n) rfl ?_)
  | (refine wpList_load_part rfl 31 (.tmp 4) rfl (w.heap.size + 1) 0 rfl (At.c d pd).toList _ (S0.out.bd).bt0 Try.underlying31 rfl attr_size (At.v d pd) rfl ?_)
  | (refine wpList_load_part rfl 31 (.tmp 5) rfl (w.heap.size + 2) 0 rfl (At.c x p).toList _ (S0.out.bt).bt0 Try.underlying31 rfl attr_size (At.v x p) rfl ?_))
  refine (glarge_calls c A n x p V S0.out.cl S0.out.al HGX.out).mono ?_
  rintro e w1 ⟨rfl, hb⟩
  have S1 := Lib.hid (S0.out.on hb)
  clear hb S0
  cases hlx : largeG c x
  case true =>
    clear hlx
    go_wp2_with (fail)
    refine (alive_calls _).mono ?_
    rintro e w99 ⟨rfl, hb⟩
    have HBZ := Lib.hid ((S1.out.be).trans (hb.mono (S1.out.be).size))
    clear hb
    go_wp2_with (fail)
    go_ret
    exact ⟨rfl, HBZ.out⟩
  case false =>
  have HSX := Lib.hid (largeG_no hlx).1
  clear hlx
  go_wp2_with (first
  | (refine wpList_load_part rfl 25 (.tmp 3) rfl w.heap.size 0 rfl (Cr.c c A n).toList _ (S1.out.cb).all Try.underlying25 rfl cred_size (Cr.v c A n) rfl ?_)
  | (refine wpList_load_part rfl 31 (.tmp 4) rfl (w.heap.size + 1) 0 rfl (At.c d pd).toList _ (S1.out.bd).bt0 Try.underlying31 rfl attr_size (At.v d pd) rfl ?_)
  | (refine wpList_load_part rfl 31 (.tmp 5) rfl (w.heap.size + 2) 0 rfl (At.c x p).toList _ (S1.out.bt).bt0 Try.underlying31 rfl attr_size (At.v x p) rfl ?_))
  refine (glarge_calls c A n d pd w1 S1.out.cl S1.out.dl HGD.out).mono ?_
  rintro e w2 ⟨rfl, hb⟩
  have S2 := Lib.hid (S1.out.on hb)
  clear hb S1
  cases hld : largeG c d
  case true =>
    clear hld
    go_wp2_with (fail)
    refine (alive_calls _).mono ?_
    rintro e w99 ⟨rfl, hb⟩
    have HBZ := Lib.hid ((S2.out.be).trans (hb.mono (S2.out.be).size))
    clear hb
    go_wp2_with (fail)
    go_ret
    exact ⟨rfl, HBZ.out⟩
  case false =>
  have HSD := Lib.hid (largeG_no hld).1
  clear hld
  go_wp2_with (first
    | (refine wpList_load_part rfl 25 (.tmp 3) rfl w.heap.size 0 rfl (Cr.c c A n).toList _ (S2.out.cb).all Try.underlying25 rfl cred_size (Cr.v c A n) rfl ?_)
    | (refine wpList_load_part rfl 31 (.tmp 4) rfl (w.heap.size + 1) 0 rfl (At.c d pd).toList _ (S2.out.bd).bt0 Try.underlying31 rfl attr_size (At.v d pd) rfl ?_)
    | (refine wpList_load_part rfl 31 (.tmp 5) rfl (w.heap.size + 2) 0 rfl (At.c x p).toList _ (S2.out.bt).bt0 Try.underlying31 rfl attr_size (At.v x p) rfl ?_))
  refine (racopy_calls x p w2 S2.out.al HSX.out).mono ?_
  rintro e w3 ⟨o, rfl, hC, hb⟩
  have S3 := Lib.hid (S2.out.on hb)
  have HO := Lib.hid (AOw.of hC)
  clear hb hC S2
  go_wp2_with (fail)
  refine (acheck_calls x o w3 HO.out.lies HSX.out).mono ?_
  rintro e w4 ⟨rfl, hb⟩
  have S4 := Lib.hid (S3.out.on hb)
  clear hb S3 HO
  cases hmx : amayB x
  case false =>
    clear hmx
    rw [ckN_false]
    go_wp2_with (fail)
    refine (alive_calls _).mono ?_
    rintro e w99 ⟨rfl, hb⟩
    have HBZ := Lib.hid ((S4.out.be).trans (hb.mono (S4.out.be).size))
    clear hb
    go_wp2_with (fail)
    go_ret
    exact ⟨rfl, HBZ.out⟩
  case true =>
  have HMX := Lib.hid hmx
  clear hmx
  rw [ckN_true]
  go_wp2_with (first
    | (refine wpList_load_part rfl 25 (.tmp 3) rfl w.heap.size 0 rfl (Cr.c c A n).toList _ (S4.out.cb).all Try.underlying25 rfl cred_size (Cr.v c A n) rfl ?_)
    | (refine wpList_load_part rfl 31 (.tmp 4) rfl (w.heap.size + 1) 0 rfl (At.c d pd).toList _ (S4.out.bd).bt0 Try.underlying31 rfl attr_size (At.v d pd) rfl ?_)
    | (refine wpList_load_part rfl 31 (.tmp 5) rfl (w.heap.size + 2) 0 rfl (At.c x p).toList _ (S4.out.bt).bt0 Try.underlying31 rfl attr_size (At.v x p) rfl ?_))
  refine (racopy_calls d pd w4 S4.out.dl HSD.out).mono ?_
  rintro e w5 ⟨o, rfl, hC, hb⟩
  have S5 := Lib.hid (S4.out.on hb)
  have HO := Lib.hid (AOw.of hC)
  clear hb hC S4
  go_wp2_with (fail)
  refine (acheck_calls d o w5 HO.out.lies HSD.out).mono ?_
  rintro e w6 ⟨rfl, hb⟩
  have S6 := Lib.hid (S5.out.on hb)
  clear hb S5 HO
  cases hmd : amayB d
  case false =>
    clear hmd
    rw [ckN_false]
    go_wp2_with (fail)
    refine (alive_calls _).mono ?_
    rintro e w99 ⟨rfl, hb⟩
    have HBZ := Lib.hid ((S6.out.be).trans (hb.mono (S6.out.be).size))
    clear hb
    go_wp2_with (fail)
    go_ret
    exact ⟨rfl, HBZ.out⟩
  case true =>
  have HMD := Lib.hid hmd
  clear hmd
  rw [ckN_true]
  go_wp2_with (first
  | (refine wpList_load_part rfl 25 (.tmp 3) rfl w.heap.size 0 rfl (Cr.c c A n).toList _ (S6.out.cb).all Try.underlying25 rfl cred_size (Cr.v c A n) rfl ?_)
  | (refine wpList_load_part rfl 31 (.tmp 4) rfl (w.heap.size + 1) 0 rfl (At.c d pd).toList _ (S6.out.bd).bt0 Try.underlying31 rfl attr_size (At.v d pd) rfl ?_)
  | (refine wpList_load_part rfl 31 (.tmp 5) rfl (w.heap.size + 2) 0 rfl (At.c x p).toList _ (S6.out.bt).bt0 Try.underlying31 rfl attr_size (At.v x p) rfl ?_))
  refine (gcheck_calls c A n w6 S6.out.cl.sm).mono ?_
  rintro e w7 ⟨rfl, hb⟩
  have S7 := Lib.hid (S6.out.on hb)
  clear hb S6
  by_cases h4 : c.gs.length ≤ 4
  case neg =>
    rw [show chkN c = 622 by unfold chkN; rw [if_neg h4]]
    clear h4
    go_wp2_with (fail)
    refine (alive_calls _).mono ?_
    rintro e w99 ⟨rfl, hb⟩
    have HBZ := Lib.hid ((S7.out.be).trans (hb.mono (S7.out.be).size))
    clear hb
    go_wp2_with (fail)
    go_ret
    exact ⟨rfl, HBZ.out⟩
  case pos =>
  rw [show chkN c = 0 by unfold chkN; rw [if_pos h4]]
  have H4 := Lib.hid h4
  clear h4
  go_upto_region 3 with (fail)
  have P7 := S7
  have B7 := Lib.hid (Below.refl w7.heap.size w7)
  clear S7
  have HZn := Lib.hid (heap_alloc_new w7 (.cells zAt 31))
  have hbx : Bt w7 (w.heap.size + 1) d pd := P7.out.bd
  have HBX := Lib.hid hbx
  obtain ⟨U1, hU⟩ : ∃ Zz, Zz = (w7.alloc (.cells zAt 31)).setRow w7.heap.size (At.c d pd) := ⟨_, rfl⟩
  obtain ⟨gf, hg⟩ : ∃ Zz, Zz = w7.heap.size := ⟨_, rfl⟩
  have bu : Below w7.heap.size w7 U1 := by rw [hU]; exact put_below w7 _
  have Hgf : Hid (Bt U1 gf d pd) := Lib.hid (by rw [hU, hg]; exact setRow_heap _ _ _ _ _ _ (heap_alloc_new w7 _))
  have HGgf : Hid (w7.heap.size ≤ gf) := Lib.hid (by omega)
  have HPgf : Hid (w7.heap.size ≤ gf) := Lib.hid (by have := B7.out.size; omega)
  
  have B7 := Lib.hid (B7.out.trans (bu.mono B7.out.size))
  have HUU := Lib.hid hU
  clear bu hU hbx
  go_upto_region 4 with (first
    | (refine wpList_load_part rfl 31 (.tmp 4) rfl (w.heap.size + 1) 0 rfl (At.c d pd).toList _ (HBX.out).bt0 Try.underlying31 rfl attr_size (At.v d pd) rfl ?_)
    | (refine wpList_store_rowTo rfl 31 (.tmp 7) (.tmp 35) rfl rfl w7.heap.size (At.c d pd) rfl rfl 31 _ HZn.out (c_size _ _) rfl (c_one _ _) ?_; rw [← HUU.out]))
  clear HUU HZn HBX
  rw [← hg]
  clear hg
  obtain ⟨b1, hb1⟩ : ∃ b, offN d.bi 1 = b := ⟨_, rfl⟩
  obtain ⟨b2, hb2⟩ : ∃ b, d.bi ||| 1 = b := ⟨_, rfl⟩
  have h8 := may8 HMD.out
  have e1 : bits .andNot .u8 (d.bi : Int) 1 = (b1 : Int) := by rw [← hb1]; exact off8 1 (by decide) d.bi (by omega)
  have e2 : bits .or .u8 (d.bi : Int) 1 = (b2 : Int) := by rw [← hb2]; exact or1 d.bi h8
  have HFR : Hid (remB c (withBi d b1) x = true) := Lib.hid (by rw [← hb1]; exact rem_free H4.out HMD.out HMX.out)
  have HHE : Hid (remB c (withBi d b2) x = (decide (c.ui = 0) || (decide (c.ui = x.ui) || decide (c.ui = d.ui)))) := Lib.hid (by rw [← hb2]; exact rem_held H4.out HMD.out HMX.out)
  have HSD1 : Hid (ASm (withBi d b1)) := Lib.hid ⟨HSD.out.ac, HSD.out.df, HSD.out.xs⟩
  have HSD2 : Hid (ASm (withBi d b2)) := Lib.hid ⟨HSD.out.ac, HSD.out.df, HSD.out.xs⟩
  clear hb1 hb2 h8
  have y0 := (P7.out.bd.on B7.out).c0
  obtain ⟨U2, hU⟩ : ∃ Zz, Zz = World.setRow U1 gf (At.c (withBi d b1) pd) := ⟨_, rfl⟩
  have hn : Bt U2 gf (withBi d b1) pd := by rw [hU]; exact setRow_heap _ _ _ _ _ _ Hgf.out
  
  have B7 : Hid (Below w7.heap.size w7 U2) := Lib.hid (by rw [hU]; exact below_setRow B7.out HPgf.out _)
  go_upto_region 5 with (refine wpList_store_part rfl 5 (.tmp 39) (.tmp 38) rfl rfl gf 0 [.int .u8 ((b1 : Nat) : Int)] rfl rfl 31 _ Hgf.out u8_size (Nat.le_of_ble_eq_true rfl) (one_of rfl) (At.c (withBi d b1) pd) rfl ?_; rw [← hU])
  have Hgf := Lib.hid hn
  clear hU hn
  clear e1 y0
  have HLT : Hid (gf < U2.heap.size) := Lib.hid Hgf.out.lt
  have HZn := Lib.hid (heap_alloc_new U2 (.cells zAt 31))
  have hbx : Bt U2 (w.heap.size + 1) d pd := P7.out.bd.on B7.out
  have HBX := Lib.hid hbx
  obtain ⟨U3, hU⟩ : ∃ Zz, Zz = (U2.alloc (.cells zAt 31)).setRow U2.heap.size (At.c d pd) := ⟨_, rfl⟩
  obtain ⟨gh, hg⟩ : ∃ Zz, Zz = U2.heap.size := ⟨_, rfl⟩
  have bu : Below U2.heap.size U2 U3 := by rw [hU]; exact put_below U2 _
  have Hgh : Hid (Bt U3 gh d pd) := Lib.hid (by rw [hU, hg]; exact setRow_heap _ _ _ _ _ _ (heap_alloc_new U2 _))
  have HGgh : Hid (U2.heap.size ≤ gh) := Lib.hid (by omega)
  have HPgh : Hid (w7.heap.size ≤ gh) := Lib.hid (by have := B7.out.size; omega)
  have Hgf := Lib.hid (Hgf.out.on bu)
  have B7 := Lib.hid (B7.out.trans (bu.mono B7.out.size))
  have HUU := Lib.hid hU
  clear bu hU hbx
  go_upto_region 6 with (first
    | (refine wpList_load_part rfl 31 (.tmp 4) rfl (w.heap.size + 1) 0 rfl (At.c d pd).toList _ (HBX.out).bt0 Try.underlying31 rfl attr_size (At.v d pd) rfl ?_)
    | (refine wpList_store_rowTo rfl 31 (.tmp 8) (.tmp 40) rfl rfl U2.heap.size (At.c d pd) rfl rfl 31 _ HZn.out (c_size _ _) rfl (c_one _ _) ?_; rw [← HUU.out]))
  clear HUU HZn HBX
  rw [← hg]
  clear hg
  have y0 := (P7.out.bd.on B7.out).c0
  have HNE : Hid (gf < gh) := Lib.hid (by have h1 := HGgh.out; have h2 := HLT.out; omega)
  obtain ⟨U4, hU⟩ : ∃ Zz, Zz = World.setRow U3 gh (At.c (withBi d b2) pd) := ⟨_, rfl⟩
  have hn : Bt U4 gh (withBi d b2) pd := by rw [hU]; exact setRow_heap _ _ _ _ _ _ Hgh.out
  have Hgf : Hid (Bt U4 gf (withBi d b1) pd) := Lib.hid (by rw [hU]; exact (setRow_other U3 gh gf _ (by have := Hgf.out.lt; have := HGgh.out; have h1 := HNE.out; omega)).trans Hgf.out)
  have B7 : Hid (Below w7.heap.size w7 U4) := Lib.hid (by rw [hU]; exact below_setRow B7.out HPgh.out _)
  go_upto_region 7 with (refine wpList_store_part rfl 5 (.tmp 44) (.tmp 43) rfl rfl gh 0 [.int .u8 ((b2 : Nat) : Int)] rfl rfl 31 _ Hgh.out u8_size (Nat.le_of_ble_eq_true rfl) (one_of rfl) (At.c (withBi d b2) pd) rfl ?_; rw [← hU])
  have Hgh := Lib.hid hn
  clear hU hn
  clear e2 y0
  have S8 := Lib.hid (P7.out.on B7.out)
  have HD1 : Hid (ALies U4 (withBi d b1) pd) := Lib.hid ⟨S8.out.dl.ac, S8.out.dl.df, S8.out.dl.xs⟩
  have HD2 : Hid (ALies U4 (withBi d b2) pd) := Lib.hid ⟨S8.out.dl.ac, S8.out.dl.df, S8.out.dl.xs⟩
  have HRF : Hid (∀ u, CLies u c A → ALies u (withBi d b1) pd → ALies u x p → Calls Try.prog 25 #[c.v A n, At.v (withBi d b1) pd, x.v p] u fun e w' => e = .returned (.bool true) ∧ Below u.heap.size u w') := Lib.hid (fun u h1 h2 h3 => HFR.out ▸ removes_calls c A n (withBi d b1) pd x p u h1 h2 h3 HSD1.out HSX.out)
  have HRH : Hid (∀ u, CLies u c A → ALies u (withBi d b2) pd → ALies u x p → Calls Try.prog 25 #[c.v A n, At.v (withBi d b2) pd, x.v p] u fun e w' => e = .returned (.bool (decide (c.ui = 0) || (decide (c.ui = x.ui) || decide (c.ui = d.ui)))) ∧ Below u.heap.size u w') := Lib.hid (fun u h1 h2 h3 => HHE.out ▸ removes_calls c A n (withBi d b2) pd x p u h1 h2 h3 HSD2.out HSX.out)
  clear HFR HHE P7 B7 HSD1 HSD2
  by_cases h0 : c.ui = 0
  case pos =>
    have d0 : ((c.ui : Int) == 0) = true := by rw [beq_iff_eq]; omega
    rw [decide_eq_true h0] at HRH
    clear h0
    refine wp_region4 [.val (Cr.v c A n), .val (At.v (withBi d b1) pd), .val (At.v (x) p), .val (.bool true), .val (.bool true), .val (Cr.v c A n), .val (At.v (withBi d b2) pd), .val (At.v (x) p), .val (.bool true), .val (.pointer (some ⟨w.heap.size, 0, none⟩)), .val ((.int .u16 (c.ui : Nat))), .val (.bool true), .val (.bool true), .any, .any, .any, .any, .any, .val (.bool true), .val (.bool true), .any, .any, .any, .any, .any, .val (.bool true), .val (.bool true), .val (.bool true), .val (.bool true), .val (.bool true), .val (.bool true), .val (.bool true)] (by kernel_rfl) (by kernel_rfl) (by kernel_rfl) ?steps ?rest
    case steps =>
      refine ⟨?s0, ?s1, ?s2, ?s3, ?s4, ?s5, ?s6, ?s7, ?s8, ?s9, ?s10, ?s11, ?s12, ?s13, ?s14, ?s15, ?s16, ?s17, ?s18, ?s19, ?s20, ?s21, ?s22, ?s23, ?s24, ?s25, ?s26, ?s27, ?s28, ?s29, ?s30, ?s31, trivial⟩
      case s0 =>
        exact st4_val _ rfl (.inl rfl) fun a u hb hA hd => run_loadC rfl w.heap.size c A n (hA.eval 3 rfl) ((S8.out.cb).on hb)
      case s1 =>
        exact st4_val _ rfl (.inl rfl) fun a u hb hA hd => run_loadT rfl gf (withBi d b1) pd (hA.eval 7 rfl) ((Hgf.out).on hb)
      case s2 =>
        exact st4_val _ rfl (.inl rfl) fun a u hb hA hd => run_loadT rfl (w.heap.size + 2) (x) p (hA.eval 5 rfl) ((S8.out.bt).on hb)
      case s3 =>
        refine st4_call _ rfl (.inl rfl) 25 fun a u hb hA hd => ?_
        have q0 := ev_of (show a.eval (.tmp 45) = Cr.v c A n from hd 0 45 rfl rfl _ rfl)
        have q1 := ev_of (show a.eval (.tmp 46) = At.v (withBi d b1) pd from hd 1 46 rfl rfl _ rfl)
        have q2 := ev_of (show a.eval (.tmp 47) = At.v (x) p from hd 2 47 rfl rfl _ rfl)
        refine ⟨#[Cr.v c A n, At.v (withBi d b1) pd, At.v (x) p], ?_, (HRF.out u ((S8.out.cl).below hb) ((HD1.out).below hb) ((S8.out.al).below hb)).mono ?_⟩
        · unfold execOp
          simp [go_sem, q0, q1, q2]
        · rintro e w' ⟨rfl, hb'⟩
          exact ⟨_, rfl, rfl, hb'⟩
      case s4 =>
        exact st4_move 3 48 rfl (.inl rfl) rfl rfl rfl
      case s5 =>
        exact st4_val _ rfl (.inr ⟨4, 49, true, rfl, rfl, rfl, rfl⟩) fun a u hb hA hd => run_loadC rfl w.heap.size c A n (hA.eval 3 rfl) ((S8.out.cb).on hb)
      case s6 =>
        exact st4_val _ rfl (.inr ⟨4, 49, true, rfl, rfl, rfl, rfl⟩) fun a u hb hA hd => run_loadT rfl gh (withBi d b2) pd (hA.eval 8 rfl) ((Hgh.out).on hb)
      case s7 =>
        exact st4_val _ rfl (.inr ⟨4, 49, true, rfl, rfl, rfl, rfl⟩) fun a u hb hA hd => run_loadT rfl (w.heap.size + 2) (x) p (hA.eval 5 rfl) ((S8.out.bt).on hb)
      case s8 =>
        refine st4_call _ rfl (.inr ⟨4, 49, true, rfl, rfl, rfl, rfl⟩) 25 fun a u hb hA hd => ?_
        have q0 := ev_of (show a.eval (.tmp 50) = Cr.v c A n from hd 5 50 rfl rfl _ rfl)
        have q1 := ev_of (show a.eval (.tmp 51) = At.v (withBi d b2) pd from hd 6 51 rfl rfl _ rfl)
        have q2 := ev_of (show a.eval (.tmp 52) = At.v (x) p from hd 7 52 rfl rfl _ rfl)
        refine ⟨#[Cr.v c A n, At.v (withBi d b2) pd, At.v (x) p], ?_, (HRH.out u ((S8.out.cl).below hb) ((HD2.out).below hb) ((S8.out.al).below hb)).mono ?_⟩
        · unfold execOp
          simp [go_sem, q0, q1, q2]
        · rintro e w' ⟨rfl, hb'⟩
          exact ⟨_, rfl, rfl, hb'⟩
      case s9 =>
        exact st4_val _ rfl (.inr ⟨4, 49, true, rfl, rfl, rfl, rfl⟩) fun a u hb hA hd => by
          have q0 := ev_of (show a.eval (.tmp 3) = .pointer (some ⟨w.heap.size, 0, none⟩) from hA.eval 3 rfl)
          unfold execOp
          simp [go_sem, q0]
      case s10 =>
        exact st4_val _ rfl (.inr ⟨4, 49, true, rfl, rfl, rfl, rfl⟩) fun a u hb hA hd => by
          have q0 := ev_of (show a.eval (.tmp 54) = .pointer (some ⟨w.heap.size, 0, none⟩) from hd 9 54 rfl rfl _ rfl)
          have y0 := ((S8.out.cb).on hb).c0
          unfold execOp
          simp [go_sem, q0, y0]
      case s11 =>
        exact st4_val _ rfl (.inr ⟨4, 49, true, rfl, rfl, rfl, rfl⟩) fun a u hb hA hd => by
          have q0 := ev_of (show a.eval (.tmp 55) = (.int .u16 (c.ui : Nat)) from hd 10 55 rfl rfl _ rfl)
          unfold execOp
          simp [go_sem, q0, d0]
      case s12 =>
        exact st4_move 11 56 rfl (.inr ⟨4, 49, true, rfl, rfl, rfl, rfl⟩) rfl rfl rfl
      case s13 =>
        exact st4_skip 12 57 true rfl rfl rfl rfl rfl
      case s14 =>
        exact st4_skip 12 57 true rfl rfl rfl rfl rfl
      case s15 =>
        exact st4_skip 12 57 true rfl rfl rfl rfl rfl
      case s16 =>
        exact st4_skip 12 57 true rfl rfl rfl rfl rfl
      case s17 =>
        exact st4_skip 12 57 true rfl rfl rfl rfl rfl
      case s18 =>
        exact st4_val _ rfl (.inr ⟨4, 49, true, rfl, rfl, rfl, rfl⟩) fun a u hb hA hd => by
          have q0 := hd 12 57 rfl rfl _ rfl
          rw [run_pickT rfl q0]
          rfl
      case s19 =>
        exact st4_move 18 63 rfl (.inr ⟨4, 49, true, rfl, rfl, rfl, rfl⟩) rfl rfl rfl
      case s20 =>
        exact st4_skip 19 64 true rfl rfl rfl rfl rfl
      case s21 =>
        exact st4_skip 19 64 true rfl rfl rfl rfl rfl
      case s22 =>
        exact st4_skip 19 64 true rfl rfl rfl rfl rfl
      case s23 =>
        exact st4_skip 19 64 true rfl rfl rfl rfl rfl
      case s24 =>
        exact st4_skip 19 64 true rfl rfl rfl rfl rfl
      case s25 =>
        exact st4_val _ rfl (.inr ⟨4, 49, true, rfl, rfl, rfl, rfl⟩) fun a u hb hA hd => by
          have q0 := hd 19 64 rfl rfl _ rfl
          rw [run_pickT rfl q0]
          rfl
      case s26 =>
        exact st4_val _ rfl (.inr ⟨4, 49, true, rfl, rfl, rfl, rfl⟩) fun a u hb hA hd => by
          have q0 := ev_of (show a.eval (.tmp 53) = .bool true from hd 8 53 rfl rfl _ rfl)
          have q1 := ev_of (show a.eval (.tmp 70) = .bool true from hd 25 70 rfl rfl _ rfl)
          unfold execOp
          simp [go_sem, q0, q1]
      case s27 =>
        exact st4_val _ rfl (.inl rfl) fun a u hb hA hd => by
          have q0 := hd 4 49 rfl rfl _ rfl
          have q1 := hd 26 71 rfl rfl _ rfl
          rw [run_pickT rfl q0]
          exact congrArg (fun z => Result.ok (Next.value z) u) q1
      case s28 =>
        exact st4_move 27 72 rfl (.inl rfl) rfl rfl rfl
      case s29 =>
        refine st4_call _ rfl (.inr ⟨28, 73, true, rfl, rfl, rfl, rfl⟩) 9 fun a u hb hA hd => ?_
        refine ⟨#[], ?_, (alive_calls u).mono ?_⟩
        · unfold execOp
          simp [go_sem]
        · rintro e w' ⟨rfl, hb'⟩
          exact ⟨_, rfl, rfl, hb'⟩
      case s30 =>
        exact st4_val _ rfl (.inl rfl) fun a u hb hA hd => by
          have q0 := hd 28 73 rfl rfl _ rfl
          have q1 := hd 29 74 rfl rfl _ rfl
          rw [run_pickT rfl q0]
          exact congrArg (fun z => Result.ok (Next.value z) u) q1
      case s31 =>
        exact st4_assign 30 75 rfl (.inl rfl) rfl rfl rfl
    case rest =>
      intro vs u hb hR
      have ee : vs 31 = .bool true := hR 31 (by decide)
      have HBE := Lib.hid (S8.out.on hb).be
      simp only [putsFrom, Act.put, List.setIfInBounds_toArray, List.set_cons_succ, List.set_cons_zero, ee]
      generalize vs 0 = z0
      generalize vs 1 = z1
      generalize vs 2 = z2
      generalize vs 3 = z3
      generalize vs 4 = z4
      generalize vs 5 = z5
      generalize vs 6 = z6
      generalize vs 7 = z7
      generalize vs 8 = z8
      generalize vs 9 = z9
      generalize vs 10 = z10
      generalize vs 11 = z11
      generalize vs 12 = z12
      generalize vs 13 = z13
      generalize vs 14 = z14
      generalize vs 15 = z15
      generalize vs 16 = z16
      generalize vs 17 = z17
      generalize vs 18 = z18
      generalize vs 19 = z19
      generalize vs 20 = z20
      generalize vs 21 = z21
      generalize vs 22 = z22
      generalize vs 23 = z23
      generalize vs 24 = z24
      generalize vs 25 = z25
      generalize vs 26 = z26
      generalize vs 27 = z27
      generalize vs 28 = z28
      generalize vs 29 = z29
      generalize vs 30 = z30
      clear hR hb
      go_wp2_with (fail)
      go_ret
      exact ⟨rfl, HBE.out⟩
  case neg =>
  have d0 : ((c.ui : Int) == 0) = false := by rw [beq_eq_false_iff_ne]; omega
  rw [decide_eq_false h0] at HRH
  clear h0
  by_cases h1 : c.ui = x.ui
  case pos =>
    have d1 : ((c.ui : Int) == (x.ui : Int)) = true := by rw [beq_iff_eq]; omega
    rw [decide_eq_true h1] at HRH
    clear h1
    refine wp_region4 [.val (Cr.v c A n), .val (At.v (withBi d b1) pd), .val (At.v (x) p), .val (.bool true), .val (.bool true), .val (Cr.v c A n), .val (At.v (withBi d b2) pd), .val (At.v (x) p), .val (.bool true), .val (.pointer (some ⟨w.heap.size, 0, none⟩)), .val ((.int .u16 (c.ui : Nat))), .val (.bool false), .val (.bool false), .val (.pointer (some ⟨w.heap.size, 0, none⟩)), .val ((.int .u16 (c.ui : Nat))), .val (.pointer (some ⟨(w.heap.size + 2), 1, none⟩)), .val ((.int .u16 ((x).ui : Nat))), .val (.bool true), .val (.bool true), .val (.bool true), .any, .any, .any, .any, .any, .val (.bool true), .val (.bool true), .val (.bool true), .val (.bool true), .val (.bool true), .val (.bool true), .val (.bool true)] (by kernel_rfl) (by kernel_rfl) (by kernel_rfl) ?steps ?rest
    case steps =>
      refine ⟨?s0, ?s1, ?s2, ?s3, ?s4, ?s5, ?s6, ?s7, ?s8, ?s9, ?s10, ?s11, ?s12, ?s13, ?s14, ?s15, ?s16, ?s17, ?s18, ?s19, ?s20, ?s21, ?s22, ?s23, ?s24, ?s25, ?s26, ?s27, ?s28, ?s29, ?s30, ?s31, trivial⟩
      case s0 =>
        exact st4_val _ rfl (.inl rfl) fun a u hb hA hd => run_loadC rfl w.heap.size c A n (hA.eval 3 rfl) ((S8.out.cb).on hb)
      case s1 =>
        exact st4_val _ rfl (.inl rfl) fun a u hb hA hd => run_loadT rfl gf (withBi d b1) pd (hA.eval 7 rfl) ((Hgf.out).on hb)
      case s2 =>
        exact st4_val _ rfl (.inl rfl) fun a u hb hA hd => run_loadT rfl (w.heap.size + 2) (x) p (hA.eval 5 rfl) ((S8.out.bt).on hb)
      case s3 =>
        refine st4_call _ rfl (.inl rfl) 25 fun a u hb hA hd => ?_
        have q0 := ev_of (show a.eval (.tmp 45) = Cr.v c A n from hd 0 45 rfl rfl _ rfl)
        have q1 := ev_of (show a.eval (.tmp 46) = At.v (withBi d b1) pd from hd 1 46 rfl rfl _ rfl)
        have q2 := ev_of (show a.eval (.tmp 47) = At.v (x) p from hd 2 47 rfl rfl _ rfl)
        refine ⟨#[Cr.v c A n, At.v (withBi d b1) pd, At.v (x) p], ?_, (HRF.out u ((S8.out.cl).below hb) ((HD1.out).below hb) ((S8.out.al).below hb)).mono ?_⟩
        · unfold execOp
          simp [go_sem, q0, q1, q2]
        · rintro e w' ⟨rfl, hb'⟩
          exact ⟨_, rfl, rfl, hb'⟩
      case s4 =>
        exact st4_move 3 48 rfl (.inl rfl) rfl rfl rfl
      case s5 =>
        exact st4_val _ rfl (.inr ⟨4, 49, true, rfl, rfl, rfl, rfl⟩) fun a u hb hA hd => run_loadC rfl w.heap.size c A n (hA.eval 3 rfl) ((S8.out.cb).on hb)
      case s6 =>
        exact st4_val _ rfl (.inr ⟨4, 49, true, rfl, rfl, rfl, rfl⟩) fun a u hb hA hd => run_loadT rfl gh (withBi d b2) pd (hA.eval 8 rfl) ((Hgh.out).on hb)
      case s7 =>
        exact st4_val _ rfl (.inr ⟨4, 49, true, rfl, rfl, rfl, rfl⟩) fun a u hb hA hd => run_loadT rfl (w.heap.size + 2) (x) p (hA.eval 5 rfl) ((S8.out.bt).on hb)
      case s8 =>
        refine st4_call _ rfl (.inr ⟨4, 49, true, rfl, rfl, rfl, rfl⟩) 25 fun a u hb hA hd => ?_
        have q0 := ev_of (show a.eval (.tmp 50) = Cr.v c A n from hd 5 50 rfl rfl _ rfl)
        have q1 := ev_of (show a.eval (.tmp 51) = At.v (withBi d b2) pd from hd 6 51 rfl rfl _ rfl)
        have q2 := ev_of (show a.eval (.tmp 52) = At.v (x) p from hd 7 52 rfl rfl _ rfl)
        refine ⟨#[Cr.v c A n, At.v (withBi d b2) pd, At.v (x) p], ?_, (HRH.out u ((S8.out.cl).below hb) ((HD2.out).below hb) ((S8.out.al).below hb)).mono ?_⟩
        · unfold execOp
          simp [go_sem, q0, q1, q2]
        · rintro e w' ⟨rfl, hb'⟩
          exact ⟨_, rfl, rfl, hb'⟩
      case s9 =>
        exact st4_val _ rfl (.inr ⟨4, 49, true, rfl, rfl, rfl, rfl⟩) fun a u hb hA hd => by
          have q0 := ev_of (show a.eval (.tmp 3) = .pointer (some ⟨w.heap.size, 0, none⟩) from hA.eval 3 rfl)
          unfold execOp
          simp [go_sem, q0]
      case s10 =>
        exact st4_val _ rfl (.inr ⟨4, 49, true, rfl, rfl, rfl, rfl⟩) fun a u hb hA hd => by
          have q0 := ev_of (show a.eval (.tmp 54) = .pointer (some ⟨w.heap.size, 0, none⟩) from hd 9 54 rfl rfl _ rfl)
          have y0 := ((S8.out.cb).on hb).c0
          unfold execOp
          simp [go_sem, q0, y0]
      case s11 =>
        exact st4_val _ rfl (.inr ⟨4, 49, true, rfl, rfl, rfl, rfl⟩) fun a u hb hA hd => by
          have q0 := ev_of (show a.eval (.tmp 55) = (.int .u16 (c.ui : Nat)) from hd 10 55 rfl rfl _ rfl)
          unfold execOp
          simp [go_sem, q0, d0]
      case s12 =>
        exact st4_move 11 56 rfl (.inr ⟨4, 49, true, rfl, rfl, rfl, rfl⟩) rfl rfl rfl
      case s13 =>
        exact st4_val _ rfl (.inr ⟨12, 57, false, rfl, rfl, rfl, rfl⟩) fun a u hb hA hd => by
          have q0 := ev_of (show a.eval (.tmp 3) = .pointer (some ⟨w.heap.size, 0, none⟩) from hA.eval 3 rfl)
          unfold execOp
          simp [go_sem, q0]
      case s14 =>
        exact st4_val _ rfl (.inr ⟨12, 57, false, rfl, rfl, rfl, rfl⟩) fun a u hb hA hd => by
          have q0 := ev_of (show a.eval (.tmp 58) = .pointer (some ⟨w.heap.size, 0, none⟩) from hd 13 58 rfl rfl _ rfl)
          have y0 := ((S8.out.cb).on hb).c0
          unfold execOp
          simp [go_sem, q0, y0]
      case s15 =>
        exact st4_val _ rfl (.inr ⟨12, 57, false, rfl, rfl, rfl, rfl⟩) fun a u hb hA hd => by
          have q0 := ev_of (show a.eval (.tmp 5) = .pointer (some ⟨(w.heap.size + 2), 0, none⟩) from hA.eval 5 rfl)
          unfold execOp
          simp [go_sem, q0]
      case s16 =>
        exact st4_val _ rfl (.inr ⟨12, 57, false, rfl, rfl, rfl, rfl⟩) fun a u hb hA hd => by
          have q0 := ev_of (show a.eval (.tmp 60) = .pointer (some ⟨(w.heap.size + 2), 1, none⟩) from hd 15 60 rfl rfl _ rfl)
          have y0 := ((S8.out.bt).on hb).c1
          unfold execOp
          simp [go_sem, q0, y0]
      case s17 =>
        exact st4_val _ rfl (.inr ⟨12, 57, false, rfl, rfl, rfl, rfl⟩) fun a u hb hA hd => by
          have q0 := ev_of (show a.eval (.tmp 59) = (.int .u16 (c.ui : Nat)) from hd 14 59 rfl rfl _ rfl)
          have q1 := ev_of (show a.eval (.tmp 61) = (.int .u16 ((x).ui : Nat)) from hd 16 61 rfl rfl _ rfl)
          unfold execOp
          simp [go_sem, q0, q1, d1]
      case s18 =>
        exact st4_val _ rfl (.inr ⟨4, 49, true, rfl, rfl, rfl, rfl⟩) fun a u hb hA hd => by
          have q0 := hd 12 57 rfl rfl _ rfl
          have q1 := hd 17 62 rfl rfl _ rfl
          rw [run_pickF rfl q0]
          exact congrArg (fun z => Result.ok (Next.value z) u) q1
      case s19 =>
        exact st4_move 18 63 rfl (.inr ⟨4, 49, true, rfl, rfl, rfl, rfl⟩) rfl rfl rfl
      case s20 =>
        exact st4_skip 19 64 true rfl rfl rfl rfl rfl
      case s21 =>
        exact st4_skip 19 64 true rfl rfl rfl rfl rfl
      case s22 =>
        exact st4_skip 19 64 true rfl rfl rfl rfl rfl
      case s23 =>
        exact st4_skip 19 64 true rfl rfl rfl rfl rfl
      case s24 =>
        exact st4_skip 19 64 true rfl rfl rfl rfl rfl
      case s25 =>
        exact st4_val _ rfl (.inr ⟨4, 49, true, rfl, rfl, rfl, rfl⟩) fun a u hb hA hd => by
          have q0 := hd 19 64 rfl rfl _ rfl
          rw [run_pickT rfl q0]
          rfl
      case s26 =>
        exact st4_val _ rfl (.inr ⟨4, 49, true, rfl, rfl, rfl, rfl⟩) fun a u hb hA hd => by
          have q0 := ev_of (show a.eval (.tmp 53) = .bool true from hd 8 53 rfl rfl _ rfl)
          have q1 := ev_of (show a.eval (.tmp 70) = .bool true from hd 25 70 rfl rfl _ rfl)
          unfold execOp
          simp [go_sem, q0, q1]
      case s27 =>
        exact st4_val _ rfl (.inl rfl) fun a u hb hA hd => by
          have q0 := hd 4 49 rfl rfl _ rfl
          have q1 := hd 26 71 rfl rfl _ rfl
          rw [run_pickT rfl q0]
          exact congrArg (fun z => Result.ok (Next.value z) u) q1
      case s28 =>
        exact st4_move 27 72 rfl (.inl rfl) rfl rfl rfl
      case s29 =>
        refine st4_call _ rfl (.inr ⟨28, 73, true, rfl, rfl, rfl, rfl⟩) 9 fun a u hb hA hd => ?_
        refine ⟨#[], ?_, (alive_calls u).mono ?_⟩
        · unfold execOp
          simp [go_sem]
        · rintro e w' ⟨rfl, hb'⟩
          exact ⟨_, rfl, rfl, hb'⟩
      case s30 =>
        exact st4_val _ rfl (.inl rfl) fun a u hb hA hd => by
          have q0 := hd 28 73 rfl rfl _ rfl
          have q1 := hd 29 74 rfl rfl _ rfl
          rw [run_pickT rfl q0]
          exact congrArg (fun z => Result.ok (Next.value z) u) q1
      case s31 =>
        exact st4_assign 30 75 rfl (.inl rfl) rfl rfl rfl
    case rest =>
      intro vs u hb hR
      have ee : vs 31 = .bool true := hR 31 (by decide)
      have HBE := Lib.hid (S8.out.on hb).be
      simp only [putsFrom, Act.put, List.setIfInBounds_toArray, List.set_cons_succ, List.set_cons_zero, ee]
      generalize vs 0 = z0
      generalize vs 1 = z1
      generalize vs 2 = z2
      generalize vs 3 = z3
      generalize vs 4 = z4
      generalize vs 5 = z5
      generalize vs 6 = z6
      generalize vs 7 = z7
      generalize vs 8 = z8
      generalize vs 9 = z9
      generalize vs 10 = z10
      generalize vs 11 = z11
      generalize vs 12 = z12
      generalize vs 13 = z13
      generalize vs 14 = z14
      generalize vs 15 = z15
      generalize vs 16 = z16
      generalize vs 17 = z17
      generalize vs 18 = z18
      generalize vs 19 = z19
      generalize vs 20 = z20
      generalize vs 21 = z21
      generalize vs 22 = z22
      generalize vs 23 = z23
      generalize vs 24 = z24
      generalize vs 25 = z25
      generalize vs 26 = z26
      generalize vs 27 = z27
      generalize vs 28 = z28
      generalize vs 29 = z29
      generalize vs 30 = z30
      clear hR hb
      go_wp2_with (fail)
      go_ret
      exact ⟨rfl, HBE.out⟩
  case neg =>
  have d1 : ((c.ui : Int) == (x.ui : Int)) = false := by rw [beq_eq_false_iff_ne]; omega
  rw [decide_eq_false h1] at HRH
  clear h1
  by_cases h2 : c.ui = d.ui
  case pos =>
    have d2 : ((c.ui : Int) == (d.ui : Int)) = true := by rw [beq_iff_eq]; omega
    rw [decide_eq_true h2] at HRH
    clear h2
    refine wp_region4 [.val (Cr.v c A n), .val (At.v (withBi d b1) pd), .val (At.v (x) p), .val (.bool true), .val (.bool true), .val (Cr.v c A n), .val (At.v (withBi d b2) pd), .val (At.v (x) p), .val (.bool true), .val (.pointer (some ⟨w.heap.size, 0, none⟩)), .val ((.int .u16 (c.ui : Nat))), .val (.bool false), .val (.bool false), .val (.pointer (some ⟨w.heap.size, 0, none⟩)), .val ((.int .u16 (c.ui : Nat))), .val (.pointer (some ⟨(w.heap.size + 2), 1, none⟩)), .val ((.int .u16 ((x).ui : Nat))), .val (.bool false), .val (.bool false), .val (.bool false), .val (.pointer (some ⟨w.heap.size, 0, none⟩)), .val ((.int .u16 (c.ui : Nat))), .val (.pointer (some ⟨(w.heap.size + 1), 1, none⟩)), .val ((.int .u16 ((d).ui : Nat))), .val (.bool true), .val (.bool true), .val (.bool true), .val (.bool true), .val (.bool true), .val (.bool true), .val (.bool true), .val (.bool true)] (by kernel_rfl) (by kernel_rfl) (by kernel_rfl) ?steps ?rest
    case steps =>
      refine ⟨?s0, ?s1, ?s2, ?s3, ?s4, ?s5, ?s6, ?s7, ?s8, ?s9, ?s10, ?s11, ?s12, ?s13, ?s14, ?s15, ?s16, ?s17, ?s18, ?s19, ?s20, ?s21, ?s22, ?s23, ?s24, ?s25, ?s26, ?s27, ?s28, ?s29, ?s30, ?s31, trivial⟩
      case s0 =>
        exact st4_val _ rfl (.inl rfl) fun a u hb hA hd => run_loadC rfl w.heap.size c A n (hA.eval 3 rfl) ((S8.out.cb).on hb)
      case s1 =>
        exact st4_val _ rfl (.inl rfl) fun a u hb hA hd => run_loadT rfl gf (withBi d b1) pd (hA.eval 7 rfl) ((Hgf.out).on hb)
      case s2 =>
        exact st4_val _ rfl (.inl rfl) fun a u hb hA hd => run_loadT rfl (w.heap.size + 2) (x) p (hA.eval 5 rfl) ((S8.out.bt).on hb)
      case s3 =>
        refine st4_call _ rfl (.inl rfl) 25 fun a u hb hA hd => ?_
        have q0 := ev_of (show a.eval (.tmp 45) = Cr.v c A n from hd 0 45 rfl rfl _ rfl)
        have q1 := ev_of (show a.eval (.tmp 46) = At.v (withBi d b1) pd from hd 1 46 rfl rfl _ rfl)
        have q2 := ev_of (show a.eval (.tmp 47) = At.v (x) p from hd 2 47 rfl rfl _ rfl)
        refine ⟨#[Cr.v c A n, At.v (withBi d b1) pd, At.v (x) p], ?_, (HRF.out u ((S8.out.cl).below hb) ((HD1.out).below hb) ((S8.out.al).below hb)).mono ?_⟩
        · unfold execOp
          simp [go_sem, q0, q1, q2]
        · rintro e w' ⟨rfl, hb'⟩
          exact ⟨_, rfl, rfl, hb'⟩
      case s4 =>
        exact st4_move 3 48 rfl (.inl rfl) rfl rfl rfl
      case s5 =>
        exact st4_val _ rfl (.inr ⟨4, 49, true, rfl, rfl, rfl, rfl⟩) fun a u hb hA hd => run_loadC rfl w.heap.size c A n (hA.eval 3 rfl) ((S8.out.cb).on hb)
      case s6 =>
        exact st4_val _ rfl (.inr ⟨4, 49, true, rfl, rfl, rfl, rfl⟩) fun a u hb hA hd => run_loadT rfl gh (withBi d b2) pd (hA.eval 8 rfl) ((Hgh.out).on hb)
      case s7 =>
        exact st4_val _ rfl (.inr ⟨4, 49, true, rfl, rfl, rfl, rfl⟩) fun a u hb hA hd => run_loadT rfl (w.heap.size + 2) (x) p (hA.eval 5 rfl) ((S8.out.bt).on hb)
      case s8 =>
        refine st4_call _ rfl (.inr ⟨4, 49, true, rfl, rfl, rfl, rfl⟩) 25 fun a u hb hA hd => ?_
        have q0 := ev_of (show a.eval (.tmp 50) = Cr.v c A n from hd 5 50 rfl rfl _ rfl)
        have q1 := ev_of (show a.eval (.tmp 51) = At.v (withBi d b2) pd from hd 6 51 rfl rfl _ rfl)
        have q2 := ev_of (show a.eval (.tmp 52) = At.v (x) p from hd 7 52 rfl rfl _ rfl)
        refine ⟨#[Cr.v c A n, At.v (withBi d b2) pd, At.v (x) p], ?_, (HRH.out u ((S8.out.cl).below hb) ((HD2.out).below hb) ((S8.out.al).below hb)).mono ?_⟩
        · unfold execOp
          simp [go_sem, q0, q1, q2]
        · rintro e w' ⟨rfl, hb'⟩
          exact ⟨_, rfl, rfl, hb'⟩
      case s9 =>
        exact st4_val _ rfl (.inr ⟨4, 49, true, rfl, rfl, rfl, rfl⟩) fun a u hb hA hd => by
          have q0 := ev_of (show a.eval (.tmp 3) = .pointer (some ⟨w.heap.size, 0, none⟩) from hA.eval 3 rfl)
          unfold execOp
          simp [go_sem, q0]
      case s10 =>
        exact st4_val _ rfl (.inr ⟨4, 49, true, rfl, rfl, rfl, rfl⟩) fun a u hb hA hd => by
          have q0 := ev_of (show a.eval (.tmp 54) = .pointer (some ⟨w.heap.size, 0, none⟩) from hd 9 54 rfl rfl _ rfl)
          have y0 := ((S8.out.cb).on hb).c0
          unfold execOp
          simp [go_sem, q0, y0]
      case s11 =>
        exact st4_val _ rfl (.inr ⟨4, 49, true, rfl, rfl, rfl, rfl⟩) fun a u hb hA hd => by
          have q0 := ev_of (show a.eval (.tmp 55) = (.int .u16 (c.ui : Nat)) from hd 10 55 rfl rfl _ rfl)
          unfold execOp
          simp [go_sem, q0, d0]
      case s12 =>
        exact st4_move 11 56 rfl (.inr ⟨4, 49, true, rfl, rfl, rfl, rfl⟩) rfl rfl rfl
      case s13 =>
        exact st4_val _ rfl (.inr ⟨12, 57, false, rfl, rfl, rfl, rfl⟩) fun a u hb hA hd => by
          have q0 := ev_of (show a.eval (.tmp 3) = .pointer (some ⟨w.heap.size, 0, none⟩) from hA.eval 3 rfl)
          unfold execOp
          simp [go_sem, q0]
      case s14 =>
        exact st4_val _ rfl (.inr ⟨12, 57, false, rfl, rfl, rfl, rfl⟩) fun a u hb hA hd => by
          have q0 := ev_of (show a.eval (.tmp 58) = .pointer (some ⟨w.heap.size, 0, none⟩) from hd 13 58 rfl rfl _ rfl)
          have y0 := ((S8.out.cb).on hb).c0
          unfold execOp
          simp [go_sem, q0, y0]
      case s15 =>
        exact st4_val _ rfl (.inr ⟨12, 57, false, rfl, rfl, rfl, rfl⟩) fun a u hb hA hd => by
          have q0 := ev_of (show a.eval (.tmp 5) = .pointer (some ⟨(w.heap.size + 2), 0, none⟩) from hA.eval 5 rfl)
          unfold execOp
          simp [go_sem, q0]
      case s16 =>
        exact st4_val _ rfl (.inr ⟨12, 57, false, rfl, rfl, rfl, rfl⟩) fun a u hb hA hd => by
          have q0 := ev_of (show a.eval (.tmp 60) = .pointer (some ⟨(w.heap.size + 2), 1, none⟩) from hd 15 60 rfl rfl _ rfl)
          have y0 := ((S8.out.bt).on hb).c1
          unfold execOp
          simp [go_sem, q0, y0]
      case s17 =>
        exact st4_val _ rfl (.inr ⟨12, 57, false, rfl, rfl, rfl, rfl⟩) fun a u hb hA hd => by
          have q0 := ev_of (show a.eval (.tmp 59) = (.int .u16 (c.ui : Nat)) from hd 14 59 rfl rfl _ rfl)
          have q1 := ev_of (show a.eval (.tmp 61) = (.int .u16 ((x).ui : Nat)) from hd 16 61 rfl rfl _ rfl)
          unfold execOp
          simp [go_sem, q0, q1, d1]
      case s18 =>
        exact st4_val _ rfl (.inr ⟨4, 49, true, rfl, rfl, rfl, rfl⟩) fun a u hb hA hd => by
          have q0 := hd 12 57 rfl rfl _ rfl
          have q1 := hd 17 62 rfl rfl _ rfl
          rw [run_pickF rfl q0]
          exact congrArg (fun z => Result.ok (Next.value z) u) q1
      case s19 =>
        exact st4_move 18 63 rfl (.inr ⟨4, 49, true, rfl, rfl, rfl, rfl⟩) rfl rfl rfl
      case s20 =>
        exact st4_val _ rfl (.inr ⟨19, 64, false, rfl, rfl, rfl, rfl⟩) fun a u hb hA hd => by
          have q0 := ev_of (show a.eval (.tmp 3) = .pointer (some ⟨w.heap.size, 0, none⟩) from hA.eval 3 rfl)
          unfold execOp
          simp [go_sem, q0]
      case s21 =>
        exact st4_val _ rfl (.inr ⟨19, 64, false, rfl, rfl, rfl, rfl⟩) fun a u hb hA hd => by
          have q0 := ev_of (show a.eval (.tmp 65) = .pointer (some ⟨w.heap.size, 0, none⟩) from hd 20 65 rfl rfl _ rfl)
          have y0 := ((S8.out.cb).on hb).c0
          unfold execOp
          simp [go_sem, q0, y0]
      case s22 =>
        exact st4_val _ rfl (.inr ⟨19, 64, false, rfl, rfl, rfl, rfl⟩) fun a u hb hA hd => by
          have q0 := ev_of (show a.eval (.tmp 4) = .pointer (some ⟨(w.heap.size + 1), 0, none⟩) from hA.eval 4 rfl)
          unfold execOp
          simp [go_sem, q0]
      case s23 =>
        exact st4_val _ rfl (.inr ⟨19, 64, false, rfl, rfl, rfl, rfl⟩) fun a u hb hA hd => by
          have q0 := ev_of (show a.eval (.tmp 67) = .pointer (some ⟨(w.heap.size + 1), 1, none⟩) from hd 22 67 rfl rfl _ rfl)
          have y0 := ((S8.out.bd).on hb).c1
          unfold execOp
          simp [go_sem, q0, y0]
      case s24 =>
        exact st4_val _ rfl (.inr ⟨19, 64, false, rfl, rfl, rfl, rfl⟩) fun a u hb hA hd => by
          have q0 := ev_of (show a.eval (.tmp 66) = (.int .u16 (c.ui : Nat)) from hd 21 66 rfl rfl _ rfl)
          have q1 := ev_of (show a.eval (.tmp 68) = (.int .u16 ((d).ui : Nat)) from hd 23 68 rfl rfl _ rfl)
          unfold execOp
          simp [go_sem, q0, q1, d2]
      case s25 =>
        exact st4_val _ rfl (.inr ⟨4, 49, true, rfl, rfl, rfl, rfl⟩) fun a u hb hA hd => by
          have q0 := hd 19 64 rfl rfl _ rfl
          have q1 := hd 24 69 rfl rfl _ rfl
          rw [run_pickF rfl q0]
          exact congrArg (fun z => Result.ok (Next.value z) u) q1
      case s26 =>
        exact st4_val _ rfl (.inr ⟨4, 49, true, rfl, rfl, rfl, rfl⟩) fun a u hb hA hd => by
          have q0 := ev_of (show a.eval (.tmp 53) = .bool true from hd 8 53 rfl rfl _ rfl)
          have q1 := ev_of (show a.eval (.tmp 70) = .bool true from hd 25 70 rfl rfl _ rfl)
          unfold execOp
          simp [go_sem, q0, q1]
      case s27 =>
        exact st4_val _ rfl (.inl rfl) fun a u hb hA hd => by
          have q0 := hd 4 49 rfl rfl _ rfl
          have q1 := hd 26 71 rfl rfl _ rfl
          rw [run_pickT rfl q0]
          exact congrArg (fun z => Result.ok (Next.value z) u) q1
      case s28 =>
        exact st4_move 27 72 rfl (.inl rfl) rfl rfl rfl
      case s29 =>
        refine st4_call _ rfl (.inr ⟨28, 73, true, rfl, rfl, rfl, rfl⟩) 9 fun a u hb hA hd => ?_
        refine ⟨#[], ?_, (alive_calls u).mono ?_⟩
        · unfold execOp
          simp [go_sem]
        · rintro e w' ⟨rfl, hb'⟩
          exact ⟨_, rfl, rfl, hb'⟩
      case s30 =>
        exact st4_val _ rfl (.inl rfl) fun a u hb hA hd => by
          have q0 := hd 28 73 rfl rfl _ rfl
          have q1 := hd 29 74 rfl rfl _ rfl
          rw [run_pickT rfl q0]
          exact congrArg (fun z => Result.ok (Next.value z) u) q1
      case s31 =>
        exact st4_assign 30 75 rfl (.inl rfl) rfl rfl rfl
    case rest =>
      intro vs u hb hR
      have ee : vs 31 = .bool true := hR 31 (by decide)
      have HBE := Lib.hid (S8.out.on hb).be
      simp only [putsFrom, Act.put, List.setIfInBounds_toArray, List.set_cons_succ, List.set_cons_zero, ee]
      generalize vs 0 = z0
      generalize vs 1 = z1
      generalize vs 2 = z2
      generalize vs 3 = z3
      generalize vs 4 = z4
      generalize vs 5 = z5
      generalize vs 6 = z6
      generalize vs 7 = z7
      generalize vs 8 = z8
      generalize vs 9 = z9
      generalize vs 10 = z10
      generalize vs 11 = z11
      generalize vs 12 = z12
      generalize vs 13 = z13
      generalize vs 14 = z14
      generalize vs 15 = z15
      generalize vs 16 = z16
      generalize vs 17 = z17
      generalize vs 18 = z18
      generalize vs 19 = z19
      generalize vs 20 = z20
      generalize vs 21 = z21
      generalize vs 22 = z22
      generalize vs 23 = z23
      generalize vs 24 = z24
      generalize vs 25 = z25
      generalize vs 26 = z26
      generalize vs 27 = z27
      generalize vs 28 = z28
      generalize vs 29 = z29
      generalize vs 30 = z30
      clear hR hb
      go_wp2_with (fail)
      go_ret
      exact ⟨rfl, HBE.out⟩
  case neg =>
    have d2 : ((c.ui : Int) == (d.ui : Int)) = false := by rw [beq_eq_false_iff_ne]; omega
    rw [decide_eq_false h2] at HRH
    clear h2
    refine wp_region4 [.val (Cr.v c A n), .val (At.v (withBi d b1) pd), .val (At.v (x) p), .val (.bool true), .val (.bool true), .val (Cr.v c A n), .val (At.v (withBi d b2) pd), .val (At.v (x) p), .val (.bool false), .val (.pointer (some ⟨w.heap.size, 0, none⟩)), .val ((.int .u16 (c.ui : Nat))), .val (.bool false), .val (.bool false), .val (.pointer (some ⟨w.heap.size, 0, none⟩)), .val ((.int .u16 (c.ui : Nat))), .val (.pointer (some ⟨(w.heap.size + 2), 1, none⟩)), .val ((.int .u16 ((x).ui : Nat))), .val (.bool false), .val (.bool false), .val (.bool false), .val (.pointer (some ⟨w.heap.size, 0, none⟩)), .val ((.int .u16 (c.ui : Nat))), .val (.pointer (some ⟨(w.heap.size + 1), 1, none⟩)), .val ((.int .u16 ((d).ui : Nat))), .val (.bool false), .val (.bool false), .val (.bool true), .val (.bool true), .val (.bool true), .val (.bool true), .val (.bool true), .val (.bool true)] (by kernel_rfl) (by kernel_rfl) (by kernel_rfl) ?steps ?rest
    case steps =>
      refine ⟨?s0, ?s1, ?s2, ?s3, ?s4, ?s5, ?s6, ?s7, ?s8, ?s9, ?s10, ?s11, ?s12, ?s13, ?s14, ?s15, ?s16, ?s17, ?s18, ?s19, ?s20, ?s21, ?s22, ?s23, ?s24, ?s25, ?s26, ?s27, ?s28, ?s29, ?s30, ?s31, trivial⟩
      case s0 =>
        exact st4_val _ rfl (.inl rfl) fun a u hb hA hd => run_loadC rfl w.heap.size c A n (hA.eval 3 rfl) ((S8.out.cb).on hb)
      case s1 =>
        exact st4_val _ rfl (.inl rfl) fun a u hb hA hd => run_loadT rfl gf (withBi d b1) pd (hA.eval 7 rfl) ((Hgf.out).on hb)
      case s2 =>
        exact st4_val _ rfl (.inl rfl) fun a u hb hA hd => run_loadT rfl (w.heap.size + 2) (x) p (hA.eval 5 rfl) ((S8.out.bt).on hb)
      case s3 =>
        refine st4_call _ rfl (.inl rfl) 25 fun a u hb hA hd => ?_
        have q0 := ev_of (show a.eval (.tmp 45) = Cr.v c A n from hd 0 45 rfl rfl _ rfl)
        have q1 := ev_of (show a.eval (.tmp 46) = At.v (withBi d b1) pd from hd 1 46 rfl rfl _ rfl)
        have q2 := ev_of (show a.eval (.tmp 47) = At.v (x) p from hd 2 47 rfl rfl _ rfl)
        refine ⟨#[Cr.v c A n, At.v (withBi d b1) pd, At.v (x) p], ?_, (HRF.out u ((S8.out.cl).below hb) ((HD1.out).below hb) ((S8.out.al).below hb)).mono ?_⟩
        · unfold execOp
          simp [go_sem, q0, q1, q2]
        · rintro e w' ⟨rfl, hb'⟩
          exact ⟨_, rfl, rfl, hb'⟩
      case s4 =>
        exact st4_move 3 48 rfl (.inl rfl) rfl rfl rfl
      case s5 =>
        exact st4_val _ rfl (.inr ⟨4, 49, true, rfl, rfl, rfl, rfl⟩) fun a u hb hA hd => run_loadC rfl w.heap.size c A n (hA.eval 3 rfl) ((S8.out.cb).on hb)
      case s6 =>
        exact st4_val _ rfl (.inr ⟨4, 49, true, rfl, rfl, rfl, rfl⟩) fun a u hb hA hd => run_loadT rfl gh (withBi d b2) pd (hA.eval 8 rfl) ((Hgh.out).on hb)
      case s7 =>
        exact st4_val _ rfl (.inr ⟨4, 49, true, rfl, rfl, rfl, rfl⟩) fun a u hb hA hd => run_loadT rfl (w.heap.size + 2) (x) p (hA.eval 5 rfl) ((S8.out.bt).on hb)
      case s8 =>
        refine st4_call _ rfl (.inr ⟨4, 49, true, rfl, rfl, rfl, rfl⟩) 25 fun a u hb hA hd => ?_
        have q0 := ev_of (show a.eval (.tmp 50) = Cr.v c A n from hd 5 50 rfl rfl _ rfl)
        have q1 := ev_of (show a.eval (.tmp 51) = At.v (withBi d b2) pd from hd 6 51 rfl rfl _ rfl)
        have q2 := ev_of (show a.eval (.tmp 52) = At.v (x) p from hd 7 52 rfl rfl _ rfl)
        refine ⟨#[Cr.v c A n, At.v (withBi d b2) pd, At.v (x) p], ?_, (HRH.out u ((S8.out.cl).below hb) ((HD2.out).below hb) ((S8.out.al).below hb)).mono ?_⟩
        · unfold execOp
          simp [go_sem, q0, q1, q2]
        · rintro e w' ⟨rfl, hb'⟩
          exact ⟨_, rfl, rfl, hb'⟩
      case s9 =>
        exact st4_val _ rfl (.inr ⟨4, 49, true, rfl, rfl, rfl, rfl⟩) fun a u hb hA hd => by
          have q0 := ev_of (show a.eval (.tmp 3) = .pointer (some ⟨w.heap.size, 0, none⟩) from hA.eval 3 rfl)
          unfold execOp
          simp [go_sem, q0]
      case s10 =>
        exact st4_val _ rfl (.inr ⟨4, 49, true, rfl, rfl, rfl, rfl⟩) fun a u hb hA hd => by
          have q0 := ev_of (show a.eval (.tmp 54) = .pointer (some ⟨w.heap.size, 0, none⟩) from hd 9 54 rfl rfl _ rfl)
          have y0 := ((S8.out.cb).on hb).c0
          unfold execOp
          simp [go_sem, q0, y0]
      case s11 =>
        exact st4_val _ rfl (.inr ⟨4, 49, true, rfl, rfl, rfl, rfl⟩) fun a u hb hA hd => by
          have q0 := ev_of (show a.eval (.tmp 55) = (.int .u16 (c.ui : Nat)) from hd 10 55 rfl rfl _ rfl)
          unfold execOp
          simp [go_sem, q0, d0]
      case s12 =>
        exact st4_move 11 56 rfl (.inr ⟨4, 49, true, rfl, rfl, rfl, rfl⟩) rfl rfl rfl
      case s13 =>
        exact st4_val _ rfl (.inr ⟨12, 57, false, rfl, rfl, rfl, rfl⟩) fun a u hb hA hd => by
          have q0 := ev_of (show a.eval (.tmp 3) = .pointer (some ⟨w.heap.size, 0, none⟩) from hA.eval 3 rfl)
          unfold execOp
          simp [go_sem, q0]
      case s14 =>
        exact st4_val _ rfl (.inr ⟨12, 57, false, rfl, rfl, rfl, rfl⟩) fun a u hb hA hd => by
          have q0 := ev_of (show a.eval (.tmp 58) = .pointer (some ⟨w.heap.size, 0, none⟩) from hd 13 58 rfl rfl _ rfl)
          have y0 := ((S8.out.cb).on hb).c0
          unfold execOp
          simp [go_sem, q0, y0]
      case s15 =>
        exact st4_val _ rfl (.inr ⟨12, 57, false, rfl, rfl, rfl, rfl⟩) fun a u hb hA hd => by
          have q0 := ev_of (show a.eval (.tmp 5) = .pointer (some ⟨(w.heap.size + 2), 0, none⟩) from hA.eval 5 rfl)
          unfold execOp
          simp [go_sem, q0]
      case s16 =>
        exact st4_val _ rfl (.inr ⟨12, 57, false, rfl, rfl, rfl, rfl⟩) fun a u hb hA hd => by
          have q0 := ev_of (show a.eval (.tmp 60) = .pointer (some ⟨(w.heap.size + 2), 1, none⟩) from hd 15 60 rfl rfl _ rfl)
          have y0 := ((S8.out.bt).on hb).c1
          unfold execOp
          simp [go_sem, q0, y0]
      case s17 =>
        exact st4_val _ rfl (.inr ⟨12, 57, false, rfl, rfl, rfl, rfl⟩) fun a u hb hA hd => by
          have q0 := ev_of (show a.eval (.tmp 59) = (.int .u16 (c.ui : Nat)) from hd 14 59 rfl rfl _ rfl)
          have q1 := ev_of (show a.eval (.tmp 61) = (.int .u16 ((x).ui : Nat)) from hd 16 61 rfl rfl _ rfl)
          unfold execOp
          simp [go_sem, q0, q1, d1]
      case s18 =>
        exact st4_val _ rfl (.inr ⟨4, 49, true, rfl, rfl, rfl, rfl⟩) fun a u hb hA hd => by
          have q0 := hd 12 57 rfl rfl _ rfl
          have q1 := hd 17 62 rfl rfl _ rfl
          rw [run_pickF rfl q0]
          exact congrArg (fun z => Result.ok (Next.value z) u) q1
      case s19 =>
        exact st4_move 18 63 rfl (.inr ⟨4, 49, true, rfl, rfl, rfl, rfl⟩) rfl rfl rfl
      case s20 =>
        exact st4_val _ rfl (.inr ⟨19, 64, false, rfl, rfl, rfl, rfl⟩) fun a u hb hA hd => by
          have q0 := ev_of (show a.eval (.tmp 3) = .pointer (some ⟨w.heap.size, 0, none⟩) from hA.eval 3 rfl)
          unfold execOp
          simp [go_sem, q0]
      case s21 =>
        exact st4_val _ rfl (.inr ⟨19, 64, false, rfl, rfl, rfl, rfl⟩) fun a u hb hA hd => by
          have q0 := ev_of (show a.eval (.tmp 65) = .pointer (some ⟨w.heap.size, 0, none⟩) from hd 20 65 rfl rfl _ rfl)
          have y0 := ((S8.out.cb).on hb).c0
          unfold execOp
          simp [go_sem, q0, y0]
      case s22 =>
        exact st4_val _ rfl (.inr ⟨19, 64, false, rfl, rfl, rfl, rfl⟩) fun a u hb hA hd => by
          have q0 := ev_of (show a.eval (.tmp 4) = .pointer (some ⟨(w.heap.size + 1), 0, none⟩) from hA.eval 4 rfl)
          unfold execOp
          simp [go_sem, q0]
      case s23 =>
        exact st4_val _ rfl (.inr ⟨19, 64, false, rfl, rfl, rfl, rfl⟩) fun a u hb hA hd => by
          have q0 := ev_of (show a.eval (.tmp 67) = .pointer (some ⟨(w.heap.size + 1), 1, none⟩) from hd 22 67 rfl rfl _ rfl)
          have y0 := ((S8.out.bd).on hb).c1
          unfold execOp
          simp [go_sem, q0, y0]
      case s24 =>
        exact st4_val _ rfl (.inr ⟨19, 64, false, rfl, rfl, rfl, rfl⟩) fun a u hb hA hd => by
          have q0 := ev_of (show a.eval (.tmp 66) = (.int .u16 (c.ui : Nat)) from hd 21 66 rfl rfl _ rfl)
          have q1 := ev_of (show a.eval (.tmp 68) = (.int .u16 ((d).ui : Nat)) from hd 23 68 rfl rfl _ rfl)
          unfold execOp
          simp [go_sem, q0, q1, d2]
      case s25 =>
        exact st4_val _ rfl (.inr ⟨4, 49, true, rfl, rfl, rfl, rfl⟩) fun a u hb hA hd => by
          have q0 := hd 19 64 rfl rfl _ rfl
          have q1 := hd 24 69 rfl rfl _ rfl
          rw [run_pickF rfl q0]
          exact congrArg (fun z => Result.ok (Next.value z) u) q1
      case s26 =>
        exact st4_val _ rfl (.inr ⟨4, 49, true, rfl, rfl, rfl, rfl⟩) fun a u hb hA hd => by
          have q0 := ev_of (show a.eval (.tmp 53) = .bool false from hd 8 53 rfl rfl _ rfl)
          have q1 := ev_of (show a.eval (.tmp 70) = .bool false from hd 25 70 rfl rfl _ rfl)
          unfold execOp
          simp [go_sem, q0, q1]
      case s27 =>
        exact st4_val _ rfl (.inl rfl) fun a u hb hA hd => by
          have q0 := hd 4 49 rfl rfl _ rfl
          have q1 := hd 26 71 rfl rfl _ rfl
          rw [run_pickT rfl q0]
          exact congrArg (fun z => Result.ok (Next.value z) u) q1
      case s28 =>
        exact st4_move 27 72 rfl (.inl rfl) rfl rfl rfl
      case s29 =>
        refine st4_call _ rfl (.inr ⟨28, 73, true, rfl, rfl, rfl, rfl⟩) 9 fun a u hb hA hd => ?_
        refine ⟨#[], ?_, (alive_calls u).mono ?_⟩
        · unfold execOp
          simp [go_sem]
        · rintro e w' ⟨rfl, hb'⟩
          exact ⟨_, rfl, rfl, hb'⟩
      case s30 =>
        exact st4_val _ rfl (.inl rfl) fun a u hb hA hd => by
          have q0 := hd 28 73 rfl rfl _ rfl
          have q1 := hd 29 74 rfl rfl _ rfl
          rw [run_pickT rfl q0]
          exact congrArg (fun z => Result.ok (Next.value z) u) q1
      case s31 =>
        exact st4_assign 30 75 rfl (.inl rfl) rfl rfl rfl
    case rest =>
      intro vs u hb hR
      have ee : vs 31 = .bool true := hR 31 (by decide)
      have HBE := Lib.hid (S8.out.on hb).be
      simp only [putsFrom, Act.put, List.setIfInBounds_toArray, List.set_cons_succ, List.set_cons_zero, ee]
      generalize vs 0 = z0
      generalize vs 1 = z1
      generalize vs 2 = z2
      generalize vs 3 = z3
      generalize vs 4 = z4
      generalize vs 5 = z5
      generalize vs 6 = z6
      generalize vs 7 = z7
      generalize vs 8 = z8
      generalize vs 9 = z9
      generalize vs 10 = z10
      generalize vs 11 = z11
      generalize vs 12 = z12
      generalize vs 13 = z13
      generalize vs 14 = z14
      generalize vs 15 = z15
      generalize vs 16 = z16
      generalize vs 17 = z17
      generalize vs 18 = z18
      generalize vs 19 = z19
      generalize vs 20 = z20
      generalize vs 21 = z21
      generalize vs 22 = z22
      generalize vs 23 = z23
      generalize vs 24 = z24
      generalize vs 25 = z25
      generalize vs 26 = z26
      generalize vs 27 = z27
      generalize vs 28 = z28
      generalize vs 29 = z29
      generalize vs 30 = z30
      clear hR hb
      go_wp2_with (fail)
      go_ret
      exact ⟨rfl, HBE.out⟩
end Go.Proofs.Ytdioafoikcfhhaa
