/- BirthSet: whatever it is called with, it hands back true. -/
import Derived.Test.YtgdiiicaljidpaaQh
set_option linter.unusedSimpArgs false
set_option linter.unusedVariables false
set_option linter.unusedSimpArgs false
set_option linter.unusedVariables false
namespace Go.Proofs.Ytgdiiicaljidpaa
open Go.RowKit
theorem xor8 (a b : Nat) (ha : a < 256) (hb : b < 256) : bits .xor .u8 (a : Int) (b : Int) = ((a ^^^ b : Nat) : Int) := u8_xor_nat a b ha hb
theorem xor_lt (a b : Nat) (ha : a < 8) (hb : b < 8) : a ^^^ b < 8 := Nat.xor_lt_two_pow (n := 3) ha hb
theorem valid_no {c : Cr} {x : At} {k : Nat} (h : validB c x = false) : begB c x k = false := by
  unfold begB
  rw [h]
  rfl
set_option maxRecDepth 100000 in
set_option maxHeartbeats 16000000 in
theorem set_law (c : Cr) (A : Option Addr) (n : Nat) (x : At) (p : ALie) (m : Nat) (w : World) (hc : CLies w c A) (h : ALies w x p) (hsx : ABg x) (hm6 : m < 65536) :
    Calls Try.prog 6 #[c.v A n, x.v p, .int .u16 (m : Nat)] w fun e w' => e = .returned (.bool true) ∧ Below w.heap.size w w' := by
  obtain ⟨V, hV⟩ : ∃ V, V = (w.alloc (.cells (c.c A n) 25)).alloc (.cells (x.c p) 31) := ⟨_, rfl⟩
  have S0 : Hid (Pb w V c A n x p) := Lib.hid (by rw [hV]; exact Pb.start hc h)
  have HGX := Lib.hid hsx
  clear h hc hsx
  go_enter Try.func6, Try.ntmps6
  go_upto_region 1 with (fail)
  rw [← hV]
  clear hV
  go_wp2_with (first
  | (refine wpList_load_part rfl 25 (.tmp 3) rfl w.heap.size 0 rfl (Cr.c c A n).toList _ (S0.out.cb).all Try.underlying25 rfl cred_size (Cr.v c A n) rfl ?_)
  | (refine wpList_load_part rfl 31 (.tmp 4) rfl (w.heap.size + 1) 0 rfl (At.c x p).toList _ (S0.out.bt).bt0 Try.underlying31 rfl attr_size (At.v x p) rfl ?_))
  refine (glarge_calls c A n x p V S0.out.cl S0.out.al HGX.out).mono ?_
  rintro e w1 ⟨rfl, hb⟩
  have S := Lib.hid (S0.out.on hb)
  clear hb S0
  cases hlx : largeG c x
  case true =>
    clear hlx
    go_wp2_with (fail)
    refine (alive_calls _).mono ?_
    rintro e w99 ⟨rfl, hb⟩
    have HBZ := Lib.hid ((S.out.be).trans (hb.mono (S.out.be).size))
    clear hb
    go_wp2_with (fail)
    go_ret
    exact ⟨rfl, HBZ.out⟩
  case false =>
  have HS := Lib.hid (largeG_no hlx).1
  have HK := Lib.hid (largeG_no hlx).2.1
  clear hlx HGX
  obtain ⟨X, hX⟩ : ∃ X, newA c 0 x 1 m = X := ⟨_, rfl⟩
  obtain ⟨Y, hY⟩ : ∃ X, newA c 0 x 2 m = X := ⟨_, rfl⟩
  obtain ⟨N, hN⟩ : ∃ N, newN c x 1 = N := ⟨_, rfl⟩
  have hN2 : newN c x 2 = N := by rw [← hN]; unfold newN; rw [beg_one, beg_two]
  have HC1 : Hid (∀ (p : ALie) v, CLies v c A → ALies v x p → Calls Try.prog 11 #[c.v A n, .int .u16 0, x.v p, .int .u8 1, .int .u16 (m : Nat)] v fun e w' => ∃ q, e = .returned (.tuple #[At.v X q, .int .i64 N]) ∧ AOw w' X q ∧ Below v.heap.size v w') := Lib.hid (fun p v h1 h2 => by
    have h := new_calls c A n 0 x p 1 m v h1 h2 HS.out (by decide) hm6
    rwa [hX, hN] at h)
  have HC2 : Hid (∀ (p : ALie) v, CLies v c A → ALies v x p → Calls Try.prog 11 #[c.v A n, .int .u16 0, x.v p, .int .u8 2, .int .u16 (m : Nat)] v fun e w' => ∃ q, e = .returned (.tuple #[At.v Y q, .int .i64 N]) ∧ AOw w' Y q ∧ Below v.heap.size v w') := Lib.hid (fun p v h1 h2 => by
    have h := new_calls c A n 0 x p 2 m v h1 h2 HS.out (by decide) hm6
    rwa [hY, hN2] at h)
  have HX := Lib.hid hX
  have HY := Lib.hid hY
  have HN := Lib.hid hN
  clear hX hY hN hN2
  go_wp2_with (first
    | (refine wpList_load_part rfl 25 (.tmp 3) rfl w.heap.size 0 rfl (Cr.c c A n).toList _ (S.out.cb).all Try.underlying25 rfl cred_size (Cr.v c A n) rfl ?_)
    | (refine wpList_load_part rfl 31 (.tmp 4) rfl (w.heap.size + 1) 0 rfl (At.c x p).toList _ (S.out.bt).bt0 Try.underlying31 rfl attr_size (At.v x p) rfl ?_))
  refine (HC1.out p w1 S.out.cl S.out.al).mono ?_
  rintro e w2 ⟨q1, rfl, how, hb⟩
  have S := Lib.hid (S.out.on hb)
  have hl := how.lies
  clear hb how
  obtain ⟨C, hC⟩ : ∃ C, C = At.c (X) q1 := ⟨_, rfl⟩
  have hone : C.all (·.oneCell') = true := by rw [hC]; exact c_one _ _
  have hsz : (Try.prog.info? 31).map (·.size) = some C.size := by rw [hC]; exact c_size _ _
  have hold : (zAt : Array Value).size = C.size := by rw [hC]; rfl
  have HZn := Lib.hid (heap_alloc_new w2 (.cells zAt 31))
  obtain ⟨U1, hU⟩ : ∃ Zz, Zz = (w2.alloc (.cells zAt 31)).setRow w2.heap.size C := ⟨_, rfl⟩
  obtain ⟨g1, hg⟩ : ∃ Zz, Zz = w2.heap.size := ⟨_, rfl⟩
  have hb : Below w2.heap.size w2 U1 := by rw [hU]; exact put_below w2 C
  have Hg1 : Hid (Hl U1 g1 (X) q1) := Lib.hid (by rw [hU, hg, hC]; exact Hl.put hl)
  have S := Lib.hid (S.out.on hb)
  have HUU := Lib.hid hU
  rw [show At.v (X) q1 = .agg C by rw [hC]]
  clear hC hb hU hl
  go_upto_region 4 with (refine wpList_store_rowTo rfl 31 (.tmp 7) (.tmp 22) rfl rfl w2.heap.size C rfl rfl 31 _ HZn.out hsz hold hone ?_; rw [← HUU.out])
  clear HUU HZn hsz hold hone
  rw [← hg]
  clear hg
  go_wp2_with (first
    | (refine wpList_load_part rfl 25 (.tmp 3) rfl w.heap.size 0 rfl (Cr.c c A n).toList _ (S.out.cb).all Try.underlying25 rfl cred_size (Cr.v c A n) rfl ?_)
    | (refine wpList_load_part rfl 31 (.tmp 4) rfl (w.heap.size + 1) 0 rfl (At.c x p).toList _ (S.out.bt).bt0 Try.underlying31 rfl attr_size (At.v x p) rfl ?_))
  refine (HC2.out p U1 S.out.cl S.out.al).mono ?_
  rintro e w3 ⟨q2, rfl, how, hb⟩
  have S := Lib.hid (S.out.on hb)
  have Hg1 := Lib.hid (Hg1.out.on hb)
  have hl := how.lies
  clear hb how
  obtain ⟨C, hC⟩ : ∃ C, C = At.c (Y) q2 := ⟨_, rfl⟩
  have hone : C.all (·.oneCell') = true := by rw [hC]; exact c_one _ _
  have hsz : (Try.prog.info? 31).map (·.size) = some C.size := by rw [hC]; exact c_size _ _
  have hold : (zAt : Array Value).size = C.size := by rw [hC]; rfl
  have HZn := Lib.hid (heap_alloc_new w3 (.cells zAt 31))
  obtain ⟨U2, hU⟩ : ∃ Zz, Zz = (w3.alloc (.cells zAt 31)).setRow w3.heap.size C := ⟨_, rfl⟩
  obtain ⟨g2, hg⟩ : ∃ Zz, Zz = w3.heap.size := ⟨_, rfl⟩
  have hb : Below w3.heap.size w3 U2 := by rw [hU]; exact put_below w3 C
  have Hg2 : Hid (Hl U2 g2 (Y) q2) := Lib.hid (by rw [hU, hg, hC]; exact Hl.put hl)
  have S := Lib.hid (S.out.on hb)
  have Hg1 := Lib.hid (Hg1.out.on hb)
  have HUU := Lib.hid hU
  rw [show At.v (Y) q2 = .agg C by rw [hC]]
  clear hC hb hU hl
  go_upto_region 5 with (refine wpList_store_rowTo rfl 31 (.tmp 9) (.tmp 29) rfl rfl w3.heap.size C rfl rfl 31 _ HZn.out hsz hold hone ?_; rw [← HUU.out])
  clear HUU HZn hsz hold hone
  rw [← hg]
  clear hg
  clear HC1 HC2
  cases hv : validB c x
  case false =>
    obtain rfl : N = 622 := by rw [← HN.out]; exact newN_no (valid_no hv)
    clear hv HX HY HN
    go_wp2_with (fail)
    refine (alive_calls _).mono ?_
    rintro e w99 ⟨rfl, hb⟩
    have HBZ := Lib.hid ((S.out.be).trans (hb.mono (S.out.be).size))
    clear hb
    go_wp2_with (fail)
    go_ret
    exact ⟨rfl, HBZ.out⟩
  case true =>
    obtain rfl : N = 0 := by rw [← HN.out]; exact newN_yes (by rw [beg_one]; exact hv)
    have hXv : X = newX c 0 x 1 m := by rw [← HX.out]; exact new_yes (by rw [beg_one]; exact hv) 0 m
    have hYv : Y = newX c 0 x 2 m := by rw [← HY.out]; exact new_yes (by rw [beg_two]; exact hv) 0 m
    have hx8 : x.bi < 8 := may8 (valid_parts hv).2
    have y0 := Hg1.out.bt.c0
    have y2 := Hg1.out.bt.c2
    have v0 := Hg2.out.bt.c0
    have z0 := S.out.cb.c0
    have hXb : X.bi = setB c x 1 (gidN c x) m := by rw [hXv]; rfl
    have hXg : X.gi = gidN c x := by rw [hXv]; rfl
    have hYb : Y.bi = setB c x 2 (gidN c x) m := by rw [hYv]; rfl
    rw [hXb] at y0
    rw [hXg] at y2
    rw [hYb] at v0
    obtain ⟨b, hb⟩ : ∃ b, m / 512 % 8 = b := ⟨_, rfl⟩
    have h8 : b < 8 := by omega
    have f1 : bits .and .u16 ((m : Int) / 512) 7 = (b : Int) := by
      have e : ((m / 512 : Nat) : Int) = (m : Int) / 512 := by omega
      rw [← e, show bits .and .u16 ((m / 512 : Nat) : Int) 7 = ((m / 512 &&& 7 : Nat) : Int) from u16_and_nat (m / 512) 7 (by omega) (by decide), show m / 512 &&& 7 = m / 512 % 8 from Nat.and_two_pow_sub_one_eq_mod _ 3, hb]
    have f3 : (m : Int) / 512 % 8 = (b : Int) := by omega
    have f4 : IntKind.u8.wrap (b : Int) = (b : Int) := by rw [IntKind.wrap_u8]; omega
    obtain ⟨g, hg⟩ : ∃ g, gidN c x = g := ⟨_, rfl⟩
    rw [hg] at y0 y2 v0
    obtain ⟨f, hf⟩ : ∃ f, setB c x 1 g m = f := ⟨_, rfl⟩
    obtain ⟨d, hd⟩ : ∃ f, setB c x 2 g m = f := ⟨_, rfl⟩
    rw [hf] at y0
    rw [hd] at v0
    have hdv : d = (b &&& 1) ||| (x.bi &&& 2) := by rw [← hd, ← hb]; rfl
    obtain ⟨d1, d2, _, d4⟩ := dir_bits b h8 x.bi hx8
    have hd4 : d &&& 4 = 0 := by rw [hdv]; exact d1
    have hd1 : (d ^^^ b) &&& 1 = 0 := by rw [hdv]; exact d2
    have hd8 : d < 8 := by rw [hdv]; exact d4
    have hfv : f = if (decide (c.ui = 0) || inB c g) then b else offN b 2 := by rw [← hf, ← hb]; rfl
    obtain ⟨k1, k2, k3, k4, k5⟩ := file_bits b h8
    have HFV := Lib.hid hfv
    clear hv HX HY HN hXv hYv hXb hXg hYb hb hg hf hd hdv d1 d2 d4 hx8 hfv k1
    have b2 : bits .and .u8 (b : Int) 2 = ((b &&& 2 : Nat) : Int) := and8 b 2 (by omega) (by decide)
    obtain ⟨cu, hcu⟩ : ∃ z, c.ui = z := ⟨_, rfl⟩
    rw [hcu] at HFV z0
    clear hcu
    by_cases hb2 : b &&& 2 = 0
    case pos =>
      have b3 : (((b &&& 2 : Nat) : Int) != 0) = false := by rw [hb2]; rfl
      have hf8 : f < 8 ∧ f &&& 2 = 0 ∧ offN (f ^^^ b) 2 = 0 := by
        rw [HFV.out]
        split
        · exact ⟨h8, hb2, k4⟩
        · exact ⟨k5, k2, k3⟩
      obtain ⟨hf8, hf2, hfx⟩ := hf8
      have a1 : bits .and .u8 (f : Int) 2 = ((f &&& 2 : Nat) : Int) := and8 f 2 (by omega) (by decide)
      have a2 : bits .xor .u8 (f : Int) (b : Int) = ((f ^^^ b : Nat) : Int) := xor8 f b (by omega) (by omega)
      have a3 : bits .andNot .u8 ((f ^^^ b : Nat) : Int) 2 = 0 := by rw [show bits .andNot .u8 ((f ^^^ b : Nat) : Int) 2 = ((offN (f ^^^ b) 2 : Nat) : Int) from off8' 2 (by decide) (f ^^^ b) (xor_lt f b (by omega) h8), hfx]; rfl
      have a4 : (((f &&& 2 : Nat) : Int) != 0) = false := by rw [hf2]; rfl
      have a5 : bits .and .u8 (d : Int) 4 = 0 := by rw [show bits .and .u8 (d : Int) 4 = ((d &&& 4 : Nat) : Int) from and8 d 4 (by omega) (by decide), hd4]; rfl
      have a6 : bits .xor .u8 (d : Int) (b : Int) = ((d ^^^ b : Nat) : Int) := xor8 d b (by omega) (by omega)
      have a7 : bits .and .u8 ((d ^^^ b : Nat) : Int) 1 = 0 := by rw [show bits .and .u8 ((d ^^^ b : Nat) : Int) 1 = (((d ^^^ b) &&& 1 : Nat) : Int) from and8 (d ^^^ b) 1 (by have := xor_lt d b hd8 h8; omega) (by decide), hd1]; rfl
      generalize f &&& 2 = f2 at *
      generalize f ^^^ b = fx at *
      generalize d ^^^ b = dx at *
      clear hfx hf2 hd4 hd1
      generalize b &&& 2 = bb at *
      clear hb2 k2 k3 k4 HFV
      go_wp2_with (fail)
      refine (alive_calls _).mono ?_
      rintro e w99 ⟨rfl, hb⟩
      have HBZ := Lib.hid ((S.out.be).trans (hb.mono (S.out.be).size))
      clear hb
      go_wp2_with (fail)
      go_ret
      exact ⟨rfl, HBZ.out⟩
    case neg =>
      have b3 : (((b &&& 2 : Nat) : Int) != 0) = true := by rw [bne_iff_ne]; omega
      by_cases h0 : cu = 0
      case pos =>
        have d0 : ((cu : Int) == 0) = true := by rw [h0]; rfl
        have e : f = b := by rw [HFV.out, decide_eq_true h0]; rfl
        have hf8 : f < 8 := by rw [e]; exact h8
        have hf2 : ¬ f &&& 2 = 0 := by rw [e]; exact hb2
        have hfx : offN (f ^^^ b) 2 = 0 := by rw [e]; exact k4
        clear e
        have a1 : bits .and .u8 (f : Int) 2 = ((f &&& 2 : Nat) : Int) := and8 f 2 (by omega) (by decide)
        have a2 : bits .xor .u8 (f : Int) (b : Int) = ((f ^^^ b : Nat) : Int) := xor8 f b (by omega) (by omega)
        have a3 : bits .andNot .u8 ((f ^^^ b : Nat) : Int) 2 = 0 := by rw [show bits .andNot .u8 ((f ^^^ b : Nat) : Int) 2 = ((offN (f ^^^ b) 2 : Nat) : Int) from off8' 2 (by decide) (f ^^^ b) (xor_lt f b (by omega) h8), hfx]; rfl
        have a4 : (((f &&& 2 : Nat) : Int) != 0) = true := by rw [bne_iff_ne]; omega
        have a5 : bits .and .u8 (d : Int) 4 = 0 := by rw [show bits .and .u8 (d : Int) 4 = ((d &&& 4 : Nat) : Int) from and8 d 4 (by omega) (by decide), hd4]; rfl
        have a6 : bits .xor .u8 (d : Int) (b : Int) = ((d ^^^ b : Nat) : Int) := xor8 d b (by omega) (by omega)
        have a7 : bits .and .u8 ((d ^^^ b : Nat) : Int) 1 = 0 := by rw [show bits .and .u8 ((d ^^^ b : Nat) : Int) 1 = (((d ^^^ b) &&& 1 : Nat) : Int) from and8 (d ^^^ b) 1 (by have := xor_lt d b hd8 h8; omega) (by decide), hd1]; rfl
        generalize f &&& 2 = f2 at *
        generalize f ^^^ b = fx at *
        generalize d ^^^ b = dx at *
        clear hfx hf2 hd4 hd1
        generalize b &&& 2 = bb at *
        clear hb2 k2 k3 k4 h0 HFV
        go_wp2_with (fail)
        refine (alive_calls _).mono ?_
        rintro e w99 ⟨rfl, hb⟩
        have HBZ := Lib.hid ((S.out.be).trans (hb.mono (S.out.be).size))
        clear hb
        go_wp2_with (fail)
        go_ret
        exact ⟨rfl, HBZ.out⟩
      case neg =>
        have d0 : ((cu : Int) == 0) = false := by rw [beq_eq_false_iff_ne]; omega
        have HF2 : Hid (f = if inB c g then b else offN b 2) := Lib.hid (by rw [HFV.out, decide_eq_false h0]; rfl)
        have HB2 := Lib.hid hb2
        generalize hbb : b &&& 2 = bb at *
        clear h0 HFV hb2
        go_wp2_with (first
  | (refine wpList_load_part rfl 25 (.tmp 3) rfl w.heap.size 0 rfl (Cr.c c A n).toList _ (S.out.cb).all Try.underlying25 rfl cred_size (Cr.v c A n) rfl ?_))
        refine (rin_calls c A n g U2 S.out.cl).mono ?_
        rintro e w4 ⟨rfl, hb⟩
        have S := Lib.hid (S.out.on hb)
        have y0' : w4.cell? ⟨g1, 0, none⟩ = some (.int .u8 (f : Nat)) := (hb.cell (p := ⟨g1, 0, none⟩) Hg1.out.bt.lt).trans y0
        have v0' : w4.cell? ⟨g2, 0, none⟩ = some (.int .u8 (d : Nat)) := (hb.cell (p := ⟨g2, 0, none⟩) Hg2.out.bt.lt).trans v0
        clear hb y0 y2 v0 z0
        cases hi : inB c g
        case true =>
          have e : f = b := by rw [HF2.out, hi]; rfl
          have hf8 : f < 8 := by rw [e]; exact h8
          have hf2 : ¬ f &&& 2 = 0 := by rw [e, hbb]; exact HB2.out
          have hfx : offN (f ^^^ b) 2 = 0 := by rw [e]; exact k4
          clear e hi HF2
          have a1 : bits .and .u8 (f : Int) 2 = ((f &&& 2 : Nat) : Int) := and8 f 2 (by omega) (by decide)
          have a2 : bits .xor .u8 (f : Int) (b : Int) = ((f ^^^ b : Nat) : Int) := xor8 f b (by omega) (by omega)
          have a3 : bits .andNot .u8 ((f ^^^ b : Nat) : Int) 2 = 0 := by rw [show bits .andNot .u8 ((f ^^^ b : Nat) : Int) 2 = ((offN (f ^^^ b) 2 : Nat) : Int) from off8' 2 (by decide) (f ^^^ b) (xor_lt f b (by omega) h8), hfx]; rfl
          have a4 : (((f &&& 2 : Nat) : Int) != 0) = true := by rw [bne_iff_ne]; omega
          have a5 : bits .and .u8 (d : Int) 4 = 0 := by rw [show bits .and .u8 (d : Int) 4 = ((d &&& 4 : Nat) : Int) from and8 d 4 (by omega) (by decide), hd4]; rfl
          have a6 : bits .xor .u8 (d : Int) (b : Int) = ((d ^^^ b : Nat) : Int) := xor8 d b (by omega) (by omega)
          have a7 : bits .and .u8 ((d ^^^ b : Nat) : Int) 1 = 0 := by rw [show bits .and .u8 ((d ^^^ b : Nat) : Int) 1 = (((d ^^^ b) &&& 1 : Nat) : Int) from and8 (d ^^^ b) 1 (by have := xor_lt d b hd8 h8; omega) (by decide), hd1]; rfl
          generalize f &&& 2 = f2 at *
          generalize f ^^^ b = fx at *
          generalize d ^^^ b = dx at *
          clear hfx hf2 hd4 hd1
          clear k2 k3 k4 hbb
          go_wp2_with (fail)
          refine (alive_calls _).mono ?_
          rintro e w99 ⟨rfl, hb⟩
          have HBZ := Lib.hid ((S.out.be).trans (hb.mono (S.out.be).size))
          clear hb
          go_wp2_with (fail)
          go_ret
          exact ⟨rfl, HBZ.out⟩
        case false =>
          have e : f = offN b 2 := by rw [HF2.out, hi]; rfl
          have hf8 : f < 8 := by rw [e]; exact k5
          have hf2 : f &&& 2 = 0 := by rw [e]; exact k2
          have hfx : offN (f ^^^ b) 2 = 0 := by rw [e]; exact k3
          clear e hi HF2
          have a1 : bits .and .u8 (f : Int) 2 = ((f &&& 2 : Nat) : Int) := and8 f 2 (by omega) (by decide)
          have a2 : bits .xor .u8 (f : Int) (b : Int) = ((f ^^^ b : Nat) : Int) := xor8 f b (by omega) (by omega)
          have a3 : bits .andNot .u8 ((f ^^^ b : Nat) : Int) 2 = 0 := by rw [show bits .andNot .u8 ((f ^^^ b : Nat) : Int) 2 = ((offN (f ^^^ b) 2 : Nat) : Int) from off8' 2 (by decide) (f ^^^ b) (xor_lt f b (by omega) h8), hfx]; rfl
          have a4 : (((f &&& 2 : Nat) : Int) != 0) = false := by rw [hf2]; rfl
          have a5 : bits .and .u8 (d : Int) 4 = 0 := by rw [show bits .and .u8 (d : Int) 4 = ((d &&& 4 : Nat) : Int) from and8 d 4 (by omega) (by decide), hd4]; rfl
          have a6 : bits .xor .u8 (d : Int) (b : Int) = ((d ^^^ b : Nat) : Int) := xor8 d b (by omega) (by omega)
          have a7 : bits .and .u8 ((d ^^^ b : Nat) : Int) 1 = 0 := by rw [show bits .and .u8 ((d ^^^ b : Nat) : Int) 1 = (((d ^^^ b) &&& 1 : Nat) : Int) from and8 (d ^^^ b) 1 (by have := xor_lt d b hd8 h8; omega) (by decide), hd1]; rfl
          generalize f &&& 2 = f2 at *
          generalize f ^^^ b = fx at *
          generalize d ^^^ b = dx at *
          clear hfx hf2 hd4 hd1
          clear k2 k3 k4 hbb
          go_wp2_with (fail)
          refine (alive_calls _).mono ?_
          rintro e w99 ⟨rfl, hb⟩
          have HBZ := Lib.hid ((S.out.be).trans (hb.mono (S.out.be).size))
          clear hb
          go_wp2_with (fail)
          go_ret
          exact ⟨rfl, HBZ.out⟩
end Go.Proofs.Ytgdiiicaljidpaa
