/- BirthLess: whatever it is called with, it hands back true. -/
import Derived.Test.YtgdiiicaljidpaaQi
set_option linter.unusedSimpArgs false
set_option linter.unusedVariables false
set_option linter.unusedSimpArgs false
set_option linter.unusedVariables false
namespace Go.Proofs.Ytgdiiicaljidpaa
open Go.RowKit
set_option maxRecDepth 100000 in
set_option maxHeartbeats 16000000 in
theorem less_law (c : Cr) (A : Option Addr) (n : Nat) (x : At) (p : ALie) (u : Nat) (dir : Bool) (m : Nat) (w : World) (hc : CLies w c A) (h : ALies w x p) (hsx : ABg x) (hu : u < 65536) (hm6 : m < 65536) :
    Calls Try.prog 4 #[c.v A n, .int .u16 (u : Nat), x.v p, .bool dir, .int .u16 (m : Nat)] w fun e w' => e = .returned (.bool true) ∧ Below w.heap.size w w' := by
  obtain ⟨V, hV⟩ : ∃ V, V = (w.alloc (.cells (c.c A n) 25)).alloc (.cells (x.c p) 31) := ⟨_, rfl⟩
  have S0 : Hid (Pb w V c A n x p) := Lib.hid (by rw [hV]; exact Pb.start hc h)
  have HGX := Lib.hid hsx
  clear h hc hsx
  go_enter Try.func4, Try.ntmps4
  go_upto_region 1 with (fail)
  rw [← hV]
  clear hV
  go_wp2_with (first
  | (refine wpList_load_part rfl 25 (.tmp 5) rfl w.heap.size 0 rfl (Cr.c c A n).toList _ (S0.out.cb).all Try.underlying25 rfl cred_size (Cr.v c A n) rfl ?_)
  | (refine wpList_load_part rfl 31 (.tmp 7) rfl (w.heap.size + 1) 0 rfl (At.c x p).toList _ (S0.out.bt).bt0 Try.underlying31 rfl attr_size (At.v x p) rfl ?_))
  refine (glarge_calls c A n x p V S0.out.cl S0.out.al HGX.out).mono ?_
  rintro e w1 ⟨rfl, hb⟩
  have S := Lib.hid (S0.out.on hb)
  clear hb S0
  cases hlx : largeG c x
  case true =>
    clear hlx
    go_wp2_with (fail)
    refine (alive_calls _).mono ?_
    rintro e w99 ⟨rfl, hb⟩
    have HBZ := Lib.hid ((S.out.be).trans (hb.mono (S.out.be).size))
    clear hb
    go_wp2_with (fail)
    go_ret
    exact ⟨rfl, HBZ.out⟩
  case false =>
  have HS := Lib.hid (largeG_no hlx).1
  have HK := Lib.hid (largeG_no hlx).2.1
  clear hlx HGX
  cases dir
  case false =>
    obtain ⟨X, hX⟩ : ∃ X, newA c u x 1 m = X := ⟨_, rfl⟩
    obtain ⟨N, hN⟩ : ∃ N, newN c x 1 = N := ⟨_, rfl⟩
    have HMX : Hid (amayB X = true) := Lib.hid (by rw [← hX]; exact may_newA c u x 1 m)
    have HC1 : Hid (∀ (p : ALie) v, CLies v c A → ALies v x p → Calls Try.prog 11 #[c.v A n, .int .u16 (u : Nat), x.v p, .int .u8 1, .int .u16 (m : Nat)] v fun e w' => ∃ q, e = .returned (.tuple #[At.v X q, .int .i64 N]) ∧ AOw w' X q ∧ Below v.heap.size v w') := Lib.hid (fun p v h1 h2 => by
      have h := new_calls c A n u x p 1 m v h1 h2 HS.out hu hm6
      rwa [hX, hN] at h)
    have HX := Lib.hid hX
    have HN := Lib.hid hN
    clear hX hN
    go_wp2_with (first
      | (refine wpList_load_part rfl 25 (.tmp 5) rfl w.heap.size 0 rfl (Cr.c c A n).toList _ (S.out.cb).all Try.underlying25 rfl cred_size (Cr.v c A n) rfl ?_)
      | (refine wpList_load_part rfl 31 (.tmp 7) rfl (w.heap.size + 1) 0 rfl (At.c x p).toList _ (S.out.bt).bt0 Try.underlying31 rfl attr_size (At.v x p) rfl ?_))
    refine (HC1.out p w1 S.out.cl S.out.al).mono ?_
    rintro e w2 ⟨q1, rfl, how, hb⟩
    have S := Lib.hid (S.out.on hb)
    have hl := how.lies
    clear hb how
    obtain ⟨C, hC⟩ : ∃ C, C = At.c (X) q1 := ⟨_, rfl⟩
    have hone : C.all (·.oneCell') = true := by rw [hC]; exact c_one _ _
    have hsz : (Try.prog.info? 31).map (·.size) = some C.size := by rw [hC]; exact c_size _ _
    have hold : (zAt : Array Value).size = C.size := by rw [hC]; rfl
    have HZn := Lib.hid (heap_alloc_new w2 (.cells zAt 31))
    obtain ⟨U1, hU⟩ : ∃ Zz, Zz = (w2.alloc (.cells zAt 31)).setRow w2.heap.size C := ⟨_, rfl⟩
    obtain ⟨g1, hg⟩ : ∃ Zz, Zz = w2.heap.size := ⟨_, rfl⟩
    have hb : Below w2.heap.size w2 U1 := by rw [hU]; exact put_below w2 C
    have Hg1 : Hid (Hl U1 g1 (X) q1) := Lib.hid (by rw [hU, hg, hC]; exact Hl.put hl)
    have S := Lib.hid (S.out.on hb)
    have HUU := Lib.hid hU
    rw [show At.v (X) q1 = .agg C by rw [hC]]
    clear hC hb hU hl
    go_upto_region 7 with (refine wpList_store_rowTo rfl 31 (.tmp 12) (.tmp 27) rfl rfl w2.heap.size C rfl rfl 31 _ HZn.out hsz hold hone ?_; rw [← HUU.out])
    clear HUU HZn hsz hold hone
    rw [← hg]
    clear hg
    clear HC1
    cases hv : begB c x 1
    case false =>
      obtain rfl : N = 622 := by rw [← HN.out]; exact newN_no hv
      obtain rfl : X = atZ := by rw [← HX.out]; exact new_no hv u m
      clear hv HX HN
      go_wp2_with (first
      | (refine wpList_load_part rfl 31 (.tmp 12) rfl g1 0 rfl (At.c atZ q1).toList _ (Hg1.out.bt).bt0 Try.underlying31 rfl attr_size (At.v atZ q1) rfl ?_))
      refine (rasame_self atZ q1 alieZ U1 Hg1.out.li (AOw.z _).lies (asm_of HMX.out)).mono ?_
      rintro e w4 ⟨rfl, hb⟩
      have S := Lib.hid (S.out.on hb)
      clear hb
      go_wp2_with (fail)
      refine (alive_calls _).mono ?_
      rintro e w99 ⟨rfl, hb⟩
      have HBZ := Lib.hid ((S.out.be).trans (hb.mono (S.out.be).size))
      clear hb
      go_wp2_with (fail)
      go_ret
      exact ⟨rfl, HBZ.out⟩
    case true =>
      obtain rfl : N = 0 := by rw [← HN.out]; exact newN_yes hv
      have hXv : X = newX c u x 1 m := by rw [← HX.out]; exact new_yes hv u m
      have hxm : amayB x = true := (valid_parts (beg_parts hv).1).2
      have hXa : X.ac = accA x u m := by rw [hXv]; exact newX_ac c u x 1 m (by decide)
      have hXu : X.ui = c.ui := by rw [hXv]; exact newX_ui c u x 1 m
      have hXx : X.xs = [] := by rw [hXv]; exact newX_xs c u x 1 m
      have HXH : Hid (x.hd = false → X.hd = false ∧ X.ac.hm = false) := Lib.hid (fun h0 => ⟨by rw [hXv]; exact newX_hd c u x 1 m (by decide) h0, by rw [hXa]; exact acc_hm h0 u m⟩)
      have HNB := Lib.hid (nb_may (amay_parts HMX.out).2.1)
      have hB1 : bitsN X.ac &&& (65535 - m) = 0 := by rw [hXa]; exact acc_less hxm u m hm6
      have HB2 : Hid (x.hd = false → bitsN X.ac = offW m u &&& 511) := Lib.hid (fun h0 => by rw [hXa]; exact acc_plain h0 u m)
      have hB3 := bits_lt X.ac
      have HXU := Lib.hid hXu
      have HXX := Lib.hid hXx
      clear hv HX HN hXv hxm hXa hXu hXx
      go_wp2_with (refine wpList_load_part rfl 28 (.tmp 41) rfl g1 3 rfl (Ac.c X.ac q1.p).toList _ Hg1.out.bt.ac Try.underlying28 rfl acl_size (Ac.v X.ac q1.p) rfl ?_)
      refine (rbits_calls X.ac q1.p U1 HNB.out).mono ?_
      rintro e w3 ⟨rfl, hb⟩
      have S := Lib.hid (S.out.on hb)
      have Hg1 := Lib.hid (Hg1.out.on hb)
      clear hb
      generalize bitsN X.ac = B at *
      have e1 : bits .andNot .u16 (B : Int) (m : Int) = 0 := by rw [u16_andNot_nat B m hB3 hm6, hB1]; rfl
      go_wp2_with (first
      | (refine wpList_load_part rfl 31 (.tmp 12) rfl g1 0 rfl (At.c X q1).toList _ (Hg1.out.bt).bt0 Try.underlying31 rfl attr_size (At.v X q1) rfl ?_))
      refine (ramay_calls X q1 w3 Hg1.out.li (asm_of HMX.out) (ks_may HMX.out)).mono ?_
      rintro e w4 ⟨rfl, hb⟩
      rw [HMX.out]
      have S := Lib.hid (S.out.on hb)
      have Hg1 := Lib.hid (Hg1.out.on hb)
      clear hb
      have y1 := Hg1.out.bt.c1
      have y18 := Hg1.out.bt.c18
      have y8 : w4.cell? ⟨g1, 8, none⟩ = some (.bool X.ac.hm) := Hg1.out.bt.cell 8
      have y10 := Hg1.out.bt.c10
      have z0 := S.out.cb.c0
      have z10 := S.out.bt.c10
      rw [HXU.out] at y1
      rw [HXX.out] at y18
      generalize c.ui = cu at *
      have dU : ((cu : Int) != (cu : Int)) = false := by rw [bne_eq_false_iff_eq]
      cases hh : x.hd
      case true =>
        rw [hh] at z10
        clear hh HXH HB2 hB1 hB3
        go_wp2_with (fail)
        refine (alive_calls _).mono ?_
        rintro e w99 ⟨rfl, hb⟩
        have HBZ := Lib.hid ((S.out.be).trans (hb.mono (S.out.be).size))
        clear hb
        go_wp2_with (fail)
        go_ret
        exact ⟨rfl, HBZ.out⟩
      case false =>
        have hh2 := HXH.out hh
        have hB4 := HB2.out hh
        rw [hh] at z10
        rw [hh2.1] at y10
        rw [hh2.2] at y8
        have e2 : bits .andNot .u16 (m : Int) (u : Int) = ((offW m u : Nat) : Int) := u16_andNot_nat m u hm6 hu
        have e3 : bits .and .u16 ((offW m u : Nat) : Int) 511 = (B : Int) := by
          rw [show bits .and .u16 ((offW m u : Nat) : Int) 511 = ((offW m u &&& 511 : Nat) : Int) from u16_and_nat (offW m u) 511 (offW_lt m u hm6) (by decide), ← hB4]
        have e4 : ((offW m u : Nat) : Int) % 512 = (B : Int) := by
          have := Nat.and_two_pow_sub_one_eq_mod (offW m u) 9
          simp only [Nat.reducePow, Nat.reduceSub] at this
          omega
        generalize offW m u = o at *
        have dB : ((B : Int) == (B : Int)) = true := beq_self_eq_true _
        clear hh hh2 HXH HB2 hB1 hB3 hB4
        go_wp2_with (fail)
        refine (alive_calls _).mono ?_
        rintro e w99 ⟨rfl, hb⟩
        have HBZ := Lib.hid ((S.out.be).trans (hb.mono (S.out.be).size))
        clear hb
        go_wp2_with (fail)
        go_ret
        exact ⟨rfl, HBZ.out⟩
  case true =>
    obtain ⟨X, hX⟩ : ∃ X, newA c u x 2 m = X := ⟨_, rfl⟩
    obtain ⟨N, hN⟩ : ∃ N, newN c x 2 = N := ⟨_, rfl⟩
    have HMX : Hid (amayB X = true) := Lib.hid (by rw [← hX]; exact may_newA c u x 2 m)
    have HC1 : Hid (∀ (p : ALie) v, CLies v c A → ALies v x p → Calls Try.prog 11 #[c.v A n, .int .u16 (u : Nat), x.v p, .int .u8 2, .int .u16 (m : Nat)] v fun e w' => ∃ q, e = .returned (.tuple #[At.v X q, .int .i64 N]) ∧ AOw w' X q ∧ Below v.heap.size v w') := Lib.hid (fun p v h1 h2 => by
      have h := new_calls c A n u x p 2 m v h1 h2 HS.out hu hm6
      rwa [hX, hN] at h)
    have HX := Lib.hid hX
    have HN := Lib.hid hN
    clear hX hN
    go_wp2_with (first
      | (refine wpList_load_part rfl 25 (.tmp 5) rfl w.heap.size 0 rfl (Cr.c c A n).toList _ (S.out.cb).all Try.underlying25 rfl cred_size (Cr.v c A n) rfl ?_)
      | (refine wpList_load_part rfl 31 (.tmp 7) rfl (w.heap.size + 1) 0 rfl (At.c x p).toList _ (S.out.bt).bt0 Try.underlying31 rfl attr_size (At.v x p) rfl ?_))
    refine (HC1.out p w1 S.out.cl S.out.al).mono ?_
    rintro e w2 ⟨q1, rfl, how, hb⟩
    have S := Lib.hid (S.out.on hb)
    have hl := how.lies
    clear hb how
    obtain ⟨C, hC⟩ : ∃ C, C = At.c (X) q1 := ⟨_, rfl⟩
    have hone : C.all (·.oneCell') = true := by rw [hC]; exact c_one _ _
    have hsz : (Try.prog.info? 31).map (·.size) = some C.size := by rw [hC]; exact c_size _ _
    have hold : (zAt : Array Value).size = C.size := by rw [hC]; rfl
    have HZn := Lib.hid (heap_alloc_new w2 (.cells zAt 31))
    obtain ⟨U1, hU⟩ : ∃ Zz, Zz = (w2.alloc (.cells zAt 31)).setRow w2.heap.size C := ⟨_, rfl⟩
    obtain ⟨g1, hg⟩ : ∃ Zz, Zz = w2.heap.size := ⟨_, rfl⟩
    have hb : Below w2.heap.size w2 U1 := by rw [hU]; exact put_below w2 C
    have Hg1 : Hid (Hl U1 g1 (X) q1) := Lib.hid (by rw [hU, hg, hC]; exact Hl.put hl)
    have S := Lib.hid (S.out.on hb)
    have HUU := Lib.hid hU
    rw [show At.v (X) q1 = .agg C by rw [hC]]
    clear hC hb hU hl
    go_upto_region 7 with (refine wpList_store_rowTo rfl 31 (.tmp 12) (.tmp 27) rfl rfl w2.heap.size C rfl rfl 31 _ HZn.out hsz hold hone ?_; rw [← HUU.out])
    clear HUU HZn hsz hold hone
    rw [← hg]
    clear hg
    clear HC1
    cases hv : begB c x 2
    case false =>
      obtain rfl : N = 622 := by rw [← HN.out]; exact newN_no hv
      obtain rfl : X = atZ := by rw [← HX.out]; exact new_no hv u m
      clear hv HX HN
      go_wp2_with (first
      | (refine wpList_load_part rfl 31 (.tmp 12) rfl g1 0 rfl (At.c atZ q1).toList _ (Hg1.out.bt).bt0 Try.underlying31 rfl attr_size (At.v atZ q1) rfl ?_))
      refine (rasame_self atZ q1 alieZ U1 Hg1.out.li (AOw.z _).lies (asm_of HMX.out)).mono ?_
      rintro e w4 ⟨rfl, hb⟩
      have S := Lib.hid (S.out.on hb)
      clear hb
      go_wp2_with (fail)
      refine (alive_calls _).mono ?_
      rintro e w99 ⟨rfl, hb⟩
      have HBZ := Lib.hid ((S.out.be).trans (hb.mono (S.out.be).size))
      clear hb
      go_wp2_with (fail)
      go_ret
      exact ⟨rfl, HBZ.out⟩
    case true =>
      obtain rfl : N = 0 := by rw [← HN.out]; exact newN_yes hv
      have hXv : X = newX c u x 2 m := by rw [← HX.out]; exact new_yes hv u m
      have hxm : amayB x = true := (valid_parts (beg_parts hv).1).2
      have hXa : X.ac = accA x u m := by rw [hXv]; exact newX_ac c u x 2 m (by decide)
      have hXu : X.ui = c.ui := by rw [hXv]; exact newX_ui c u x 2 m
      have hXx : X.xs = [] := by rw [hXv]; exact newX_xs c u x 2 m
      have HXH : Hid (x.hd = false → X.hd = false ∧ X.ac.hm = false) := Lib.hid (fun h0 => ⟨by rw [hXv]; exact newX_hd c u x 2 m (by decide) h0, by rw [hXa]; exact acc_hm h0 u m⟩)
      have HNB := Lib.hid (nb_may (amay_parts HMX.out).2.1)
      have hB1 : bitsN X.ac &&& (65535 - m) = 0 := by rw [hXa]; exact acc_less hxm u m hm6
      have HB2 : Hid (x.hd = false → bitsN X.ac = offW m u &&& 511) := Lib.hid (fun h0 => by rw [hXa]; exact acc_plain h0 u m)
      have hB3 := bits_lt X.ac
      have HXU := Lib.hid hXu
      have HXX := Lib.hid hXx
      clear hv HX HN hXv hxm hXa hXu hXx
      go_wp2_with (refine wpList_load_part rfl 28 (.tmp 41) rfl g1 3 rfl (Ac.c X.ac q1.p).toList _ Hg1.out.bt.ac Try.underlying28 rfl acl_size (Ac.v X.ac q1.p) rfl ?_)
      refine (rbits_calls X.ac q1.p U1 HNB.out).mono ?_
      rintro e w3 ⟨rfl, hb⟩
      have S := Lib.hid (S.out.on hb)
      have Hg1 := Lib.hid (Hg1.out.on hb)
      clear hb
      generalize bitsN X.ac = B at *
      have e1 : bits .andNot .u16 (B : Int) (m : Int) = 0 := by rw [u16_andNot_nat B m hB3 hm6, hB1]; rfl
      go_wp2_with (first
      | (refine wpList_load_part rfl 31 (.tmp 12) rfl g1 0 rfl (At.c X q1).toList _ (Hg1.out.bt).bt0 Try.underlying31 rfl attr_size (At.v X q1) rfl ?_))
      refine (ramay_calls X q1 w3 Hg1.out.li (asm_of HMX.out) (ks_may HMX.out)).mono ?_
      rintro e w4 ⟨rfl, hb⟩
      rw [HMX.out]
      have S := Lib.hid (S.out.on hb)
      have Hg1 := Lib.hid (Hg1.out.on hb)
      clear hb
      have y1 := Hg1.out.bt.c1
      have y18 := Hg1.out.bt.c18
      have y8 : w4.cell? ⟨g1, 8, none⟩ = some (.bool X.ac.hm) := Hg1.out.bt.cell 8
      have y10 := Hg1.out.bt.c10
      have z0 := S.out.cb.c0
      have z10 := S.out.bt.c10
      rw [HXU.out] at y1
      rw [HXX.out] at y18
      generalize c.ui = cu at *
      have dU : ((cu : Int) != (cu : Int)) = false := by rw [bne_eq_false_iff_eq]
      cases hh : x.hd
      case true =>
        rw [hh] at z10
        clear hh HXH HB2 hB1 hB3
        go_wp2_with (fail)
        refine (alive_calls _).mono ?_
        rintro e w99 ⟨rfl, hb⟩
        have HBZ := Lib.hid ((S.out.be).trans (hb.mono (S.out.be).size))
        clear hb
        go_wp2_with (fail)
        go_ret
        exact ⟨rfl, HBZ.out⟩
      case false =>
        have hh2 := HXH.out hh
        have hB4 := HB2.out hh
        rw [hh] at z10
        rw [hh2.1] at y10
        rw [hh2.2] at y8
        have e2 : bits .andNot .u16 (m : Int) (u : Int) = ((offW m u : Nat) : Int) := u16_andNot_nat m u hm6 hu
        have e3 : bits .and .u16 ((offW m u : Nat) : Int) 511 = (B : Int) := by
          rw [show bits .and .u16 ((offW m u : Nat) : Int) 511 = ((offW m u &&& 511 : Nat) : Int) from u16_and_nat (offW m u) 511 (offW_lt m u hm6) (by decide), ← hB4]
        have e4 : ((offW m u : Nat) : Int) % 512 = (B : Int) := by
          have := Nat.and_two_pow_sub_one_eq_mod (offW m u) 9
          simp only [Nat.reducePow, Nat.reduceSub] at this
          omega
        generalize offW m u = o at *
        have dB : ((B : Int) == (B : Int)) = true := beq_self_eq_true _
        clear hh hh2 HXH HB2 hB1 hB3 hB4
        go_wp2_with (fail)
        refine (alive_calls _).mono ?_
        rintro e w99 ⟨rfl, hb⟩
        have HBZ := Lib.hid ((S.out.be).trans (hb.mono (S.out.be).size))
        clear hb
        go_wp2_with (fail)
        go_ret
        exact ⟨rfl, HBZ.out⟩
end Go.Proofs.Ytgdiiicaljidpaa
