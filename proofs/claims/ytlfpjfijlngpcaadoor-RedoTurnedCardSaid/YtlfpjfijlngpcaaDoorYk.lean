/- RedoReads: for all words, every list and number the law returns true; nothing that was there has turned. -/
import Derived.Test.YtlfpjfijlngpcaaDoorYj
set_option linter.unusedSimpArgs false
set_option linter.unusedVariables false
namespace Go.Proofs.YtlfpjfijlngpcaaDoor
open Go.RowKit WordMath
open SumMath
theorem MineW.other {w w' : World} {A : Option Addr} {n c : Nat} {l : List Nat} (h : MineW w w' A n c l) {a : Addr} (v : Value) (hne : a.block < w.heap.size) : MineW w (w'.setCell a v) A n c l :=
  ⟨h.1.keep fun ad e => Below.heap_setCell w' a v ad.block (by have := h.2 ad e; omega), h.2⟩
theorem xor_key (a b : Nat) (ha : a < 18446744073709551616) (hb : b < 18446744073709551616) : bits .xor .u64 (a : Int) (b : Int) = ((a ^^^ b : Nat) : Int) ∧ a ^^^ b < 18446744073709551616 :=
  ⟨u64_xor_nat _ _ ha hb, Nat.xor_lt_two_pow (n := 64) ha hb⟩
set_option maxRecDepth 100000 in
set_option maxHeartbeats 1000000 in
theorem reads_law (W : Option Addr) (s : List Nat) (d : Nat) (A : Option Addr) (L : List Re) (c : Nat) (by' : Int) (n : Sn) (w : World) (h20 : 0 ≤ by') (h21 : by' < 18446744073709551616) (hr : Row w W s) (hwd : Wd s) (hl : s.length ≤ 9223372036854775807) (ha : Cel w A (ev L)) (hll : L.length ≤ 9223372036854775807) (hn : RN L) (hT : TabAt w) (hE : ErrAt w) (hN : SnAt w n) :
    Calls Tryd.prog 4 #[.slice W s.length d, .slice A L.length c, .int .u64 by'] w fun e w' => e = .returned (.bool true) ∧ Below w.heap.size w w' := by
  have HT := Lib.hid hT
  have HE := Lib.hid hE
  have HSN := Lib.hid hN
  obtain ⟨x, rfl⟩ := Int.eq_ofNat_of_zero_le h20
  have hx : x < 18446744073709551616 := by omega
  clear h20 h21
  by_cases h0 : 300 < s.length
  · have d0 : decide ((300 : Int) < (s.length : Int)) = true := by rw [decide_eq_true_eq]; omega
    go_enter Tryd.func4, Tryd.ntmps4
    go_wp2_with (fail)
    have c1 := alive_calls n w HT.out HE.out HSN.out
    refine c1.mono ?_
    clear c1
    rintro e w' ⟨rfl, hb⟩
    go_wp2_with (fail)
    go_ret
    exact ⟨rfl, hb⟩
  have d0 : decide ((300 : Int) < (s.length : Int)) = false := by rw [decide_eq_false_iff_not]; omega
  by_cases h1 : 300 < L.length
  · have d1 : decide (300 < L.length) = true := decide_eq_true h1
    go_enter Tryd.func4, Tryd.ntmps4
    go_wp2_with (fail)
    have c1 := large_calls A L c w hll
    rw [d1] at c1
    refine c1.mono ?_
    clear c1
    rintro e w' ⟨rfl, rfl⟩
    go_wp2_with (fail)
    have c1 := alive_calls n w HT.out HE.out HSN.out
    refine c1.mono ?_
    clear c1
    rintro e w' ⟨rfl, hb⟩
    go_wp2_with (fail)
    go_ret
    exact ⟨rfl, hb⟩
  have d1 : decide (300 < L.length) = false := decide_eq_false h1
  have HL0 := Lib.hid h0
  have HL1 := Lib.hid h1
  have HWD := Lib.hid hwd
  have HLL := Lib.hid hll
  have HRN := Lib.hid hn
  have HX := Lib.hid hx
  obtain ⟨j0, hj0, hy0, ht0, hu0⟩ := info_parts u64_info
  have HJ := Lib.hid hj0
  have HY := Lib.hid hy0
  have HTT := Lib.hid ht0
  have HU := Lib.hid hu0
  have ha0 := Lib.hid ha
  clear hT hE hN hj0 hy0 ht0 hu0 hwd hn hx hll
  by_cases h136 : s.length = 136
  · have H136 := Lib.hid h136
    rw [h136] at d0 ⊢
    clear h0 h1 h136 hl
    go_enter Tryd.func4, Tryd.ntmps4
    go_wp2_with (fail)
    have c1 := large_calls A L c w HLL.out
    rw [d1] at c1
    refine c1.mono ?_
    clear c1
    rintro e w' ⟨rfl, rfl⟩
    clear d0 d1
    have B0 := Lib.hid (Below.refl w.heap.size w)
    have RA := Lib.hid (ha)
    have RW := Lib.hid (hr)
    clear ha hr
    go_wp2_with (fail)
    have c1 := reads_calls W s d n w RW.out HWD.out (by have := HL0.out; omega) HT.out HE.out HSN.out
    rw [H136.out] at c1
    refine c1.mono ?_
    clear c1
    rintro e w1 ⟨rfl, hb⟩
    have hbb := hb
    have B1 := Lib.hid (B0.out.trans (hbb.mono B0.out.size))
    replace RA := Lib.hid (RA.out.below hbb)
    replace RW := Lib.hid (RW.out.below hbb)
    clear B0 hbb
    clear hb
    go_wp2_with (fail)
    have c2 := rmay_calls A L c w1 RA.out HLL.out
    refine c2.mono ?_
    clear c2
    rintro e w' ⟨rfl, rfl⟩
    by_cases h0 : rmayE L = 0
    · have HGD := Lib.hid (good_may HRN.out h0)
      have H64 := Lib.hid ((rmay_0 h0).1)
      rw [h0]
      clear h0
      go_wp2_with (at_builtin; refine wpList_cloneC rfl (.const (.slice none 0 0)) (.tmp 30) 25 rfl 26 j0 Tryd.underlying25 HJ.out HY.out HTT.out HU.out W s d rfl (by rw [H136.out]; rfl) RW.out (by have := HL0.out; omega) ?_; intro W1 d1 w2 hr1 hf1 hb1 hk1 hcap1)
      obtain ⟨g, rfl, hwg, hbk⟩ := hk1 (by rw [H136.out]; decide)
      have HWG := Lib.hid (Nat.le_trans B1.out.size hwg)
      have HGL := Lib.hid hbk.lt
      have HBK := Lib.hid hbk
      rw [H136.out]
      have hbb := hb1
      have B2 := Lib.hid (B1.out.trans (hbb.mono B1.out.size))
      replace RA := Lib.hid (RA.out.below hbb)
      replace RW := Lib.hid (RW.out.below hbb)
      clear B1 hbb
      clear hr1 hf1 hb1 hk1 hcap1 hwg hbk
      have c2 := rbody_calls A L c w2 RA.out HGD.out (by have := H64.out; omega)
      refine c2.mono ?_
      clear c2
      rintro e w3 ⟨R3, cr3, rfl, hm, hb⟩
      obtain ⟨Y, hY⟩ : ∃ Y, bodyL L = Y := ⟨_, rfl⟩
      obtain ⟨M, hM⟩ : ∃ M, Y.length = M := ⟨_, rfl⟩
      have HM := Lib.hid hM
      have hM2 : M ≤ 128 := by rw [← hM, ← hY, body_len]; have := H64.out; omega
      have HYW : Hid (Wd Y) := Lib.hid (by rw [← hY]; exact HGD.out.wd)
      rw [hY] at hm
      rw [hY]
      rw [hM] at hm
      rw [hM]
      have HM3 := Lib.hid hm
      have HB3 := Lib.hid (HBK.out.below hb HGL.out)
      have hb3 := hb
      have hbb := hb
      have B3 := Lib.hid (B2.out.trans (hbb.mono B2.out.size))
      replace RA := Lib.hid (RA.out.below hbb)
      replace RW := Lib.hid (RW.out.below hbb)
      clear B2 hbb
      clear hm hb hM hY HBK
      go_wp2_with (fail)
      have hwb := B3.out
      go_loopw [9] (fun i wr => ∃ (k : Nat) (S : List Nat), i = .int .i64 k ∧ k ≤ M ∧ Hid (S.length = 136) ∧ Hid (Wd S) ∧ Hid (Blkp 26 wr g S) ∧ Below w.heap.size w wr ∧ Hid (MineW w2 wr R3 M cr3 Y) ∧ Hid (Below w.heap.size w3 wr)) (fun i _ => M - (intOf i).toNat)
      case atStart => exact ⟨0, s, rfl, by omega, H136, HWD, HB3, hwb, HM3, Lib.hid (Below.refl _ _)⟩
      case round =>
        obtain ⟨k, S, rfl, hk, hS, hSW, hBk, hBr, hMw, hB3r⟩ := hrel
        by_cases h1 : k < M
        · obtain ⟨bR, oR, rfl, hlR, hcR⟩ := hMw.out.row.at0 (by rw [HM.out]; omega)
          have e1 := hcR k (by rw [HM.out]; exact h1)
          have e2 := hBk.out.cell (8 + k) (by rw [hS.out]; omega)
          have f2 := hBk.out.frozen (8 + k)
          have hy := HYW.out k
          have HBR := Lib.hid hBr
          have i1 : (8 : Int) + (k : Int) < 136 := by omega
          clear hcR hwb hBr
          generalize Y.getD k 0 = y at *
          generalize S.getD (8 + k) 0 = old at *
          go_wp2_with (fail)
          have hst := hBk.out.set (8 + k) y
          have hmo := hMw.out.other (a := ⟨g, 8 + k, none⟩) (.int .u64 (y : Int)) HGL.out
          have hbo := HBR.out.setCell (p := ⟨g, 8 + k, none⟩) HWG.out (.int .u64 (y : Int))
          have hbp := hB3r.out.setCell (p := ⟨g, 8 + k, none⟩) HWG.out (.int .u64 (y : Int))
          have hsw := hSW.out.set (8 + k) y hy
          go_roundw
          case rel => exact ⟨k + 1, _, by go_num, by omega, Lib.hid (by rw [List.length_set]; exact hS.out), Lib.hid hsw, Lib.hid hst, hbo, Lib.hid hmo, Lib.hid hbp⟩
          case measure => simp [intOf]; omega
        · obtain rfl : k = M := by omega
          have hrA := ha0.out.below hBr
          have HBR := Lib.hid hBr
          clear hwb hBr
          have cm := rcommit_calls A L c wr hrA HGD.out H64.out
          have hcl := commit_lt H64.out HGD.out.wd.mem
          obtain ⟨C, hC⟩ : ∃ C, commitN L = C := ⟨_, rfl⟩
          rw [hC] at cm hcl
          have hxk := xor_key C x hcl HX.out
          clear hC hcl
          go_wp2_with (fail)
          refine cm.mono ?_
          clear cm
          rintro e w5 ⟨rfl, hb5⟩
          have hB5 := hBk.out.below hb5 hBk.out.lt
          have e5 := hB5.cell 0 (by rw [hS.out]; decide)
          have f5 := hB5.frozen 0
          have HB5 := Lib.hid hB5
          have hbw := Lib.hid (HBR.out.trans (hb5.mono HBR.out.size))
          obtain ⟨hx1, hx2⟩ := hxk
          generalize C ^^^ x = z at *
          generalize S.getD 0 0 = old at *
          clear hB5 hb5
          go_wp2_with (fail)
          have hst := HB5.out.set 0 z
          have hbo := hbw.out.setCell (p := ⟨g, 0, none⟩) HWG.out (.int .u64 (z : Int))
          have hsw := hSW.out.set 0 z hx2
          have hsl : (S.set 0 z).length = 136 := by rw [List.length_set]; exact hS.out
          generalize w5.setCell ⟨g, 0, none⟩ (.int .u64 (z : Int)) = w6 at *
          have c3 := reads_calls (some ⟨g, 0, none⟩) (S.set 0 z) d1 n w6 hst.row hsw (by rw [hsl]; decide) (HT.out.below hbo) (HE.out.below hbo) (HSN.out.below hbo)
          rw [hsl] at c3
          refine c3.mono ?_
          rintro e w7 ⟨rfl, hb7⟩
          have hbo7 := Lib.hid (hbo.trans (hb7.mono hbo.size))
          clear c3 hst hbo hsw hsl hb7 e5 f5
          go_wp2_with (fail)
          have c4 := alive_calls n w7 (HT.out.below hbo7.out) (HE.out.below hbo7.out) (HSN.out.below hbo7.out)
          refine c4.mono ?_
          rintro e w8 ⟨rfl, hb8⟩
          go_wp2_with (fail)
          go_ret
          exact ⟨rfl, hbo7.out.trans (hb8.mono hbo7.out.size)⟩
    · have hne : (rmayE L != 0) = true := by rw [bne_iff_ne]; exact h0
      clear h0
      generalize rmayE L = E at *
      go_wp2_with (fail)
      have c2 := alive_calls n w1 (HT.out.below B1.out) (HE.out.below B1.out) (HSN.out.below B1.out)
      refine c2.mono ?_
      clear c2
      rintro e w7 ⟨rfl, hb⟩
      go_wp2_with (fail)
      go_ret
      exact ⟨rfl, B1.out.trans (hb.mono B1.out.size)⟩
  · have hne : ((s.length : Int) != 136) = true := by rw [bne_iff_ne]; omega
    go_enter Tryd.func4, Tryd.ntmps4
    go_wp2_with (fail)
    have c1 := large_calls A L c w HLL.out
    rw [d1] at c1
    refine c1.mono ?_
    clear c1
    rintro e w' ⟨rfl, rfl⟩
    clear d0 d1
    have B0 := Lib.hid (Below.refl w.heap.size w)
    have RA := Lib.hid (ha)
    have RW := Lib.hid (hr)
    clear ha hr
    go_wp2_with (fail)
    have c1 := reads_calls W s d n w RW.out HWD.out (by have := HL0.out; omega) HT.out HE.out HSN.out
    refine c1.mono ?_
    clear c1
    rintro e w1 ⟨rfl, hb⟩
    have hbb := hb
    have B1 := Lib.hid (B0.out.trans (hbb.mono B0.out.size))
    replace RA := Lib.hid (RA.out.below hbb)
    replace RW := Lib.hid (RW.out.below hbb)
    clear B0 hbb
    clear hb
    go_wp2_with (fail)
    have c2 := alive_calls n w1 (HT.out.below B1.out) (HE.out.below B1.out) (HSN.out.below B1.out)
    refine c2.mono ?_
    clear c2
    rintro e w7 ⟨rfl, hb⟩
    go_wp2_with (fail)
    go_ret
    exact ⟨rfl, B1.out.trans (hb.mono B1.out.size)⟩
end Go.Proofs.YtlfpjfijlngpcaaDoor
