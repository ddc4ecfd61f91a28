/- RedoBack: for every list, slot and words the law returns true; nothing that was there has turned. -/
import Derived.Test.YtlfpjfijlngpcaaDoorYk
set_option linter.unusedSimpArgs false
set_option linter.unusedVariables false
namespace Go.Proofs.YtlfpjfijlngpcaaDoor
open Go.RowKit WordMath
open SumMath
theorem rmay_five {L : List Re} (h : rmayE L = 5) : 64 < L.length := by
  unfold rmayE at h
  split at h
  · assumption
  · split at h
    · cases h
    · cases h
theorem rmay_two {L : List Re} (h : rmayE L = 2) : ¬ 64 < L.length := by
  unfold rmayE at h
  split at h
  · cases h
  · assumption
theorem appE_or (l : List Nat) (L : List Re) : appE l L = 0 ∨ appE l L = 2 := by
  unfold appE
  split
  · exact .inl rfl
  · exact .inr rfl
theorem appE_all {l : List Nat} {L : List Re} (h : appE l L = 0) : L.all (inB l.length) = true := by
  unfold appE at h
  split at h
  · assumption
  · cases h
theorem appE_same {l m : List Nat} {L : List Re} (h : appE l L = 0) (hl : m.length = l.length) : appE m L = 0 := by
  unfold appE
  rw [hl, if_pos (appE_all h)]
theorem last_more {L : List Re} {k : Nat} (h : k < L.length) (a d : Nat) : lastW (L.take (k + 1)) a d = if (L.getD k re0).pos = (a : Int) then (L.getD k re0).word else lastW (L.take k) a d := by
  rw [take_more h, last_snoc]
set_option maxRecDepth 100000 in
set_option maxHeartbeats 2000000 in
theorem back_law (A : Option Addr) (L : List Re) (c : Nat) (W : Option Addr) (s : List Nat) (d : Nat) (X : Option Addr) (l : List Nat) (e0 : Nat) (n : Sn) (w : World) (ha : Cel w A (ev L)) (hll : L.length ≤ 9223372036854775807) (hn : RN L) (hr : Row w W s) (hwd : Wd s) (hl : s.length ≤ 9223372036854775807) (hx : Row w X l) (hxl : l.length ≤ 9223372036854775807) (hT : TabAt w) (hE : ErrAt w) (hN : SnAt w n) :
    Calls Tryd.prog 6 #[.slice A L.length c, .slice W s.length d, .slice X l.length e0] w fun e w' => e = .returned (.bool true) ∧ Below w.heap.size w w' := by
  have HT := Lib.hid hT
  have HE := Lib.hid hE
  have HSN := Lib.hid hN
  have HLL := Lib.hid hll
  by_cases h1 : 300 < L.length
  · have d1 : decide (300 < L.length) = true := decide_eq_true h1
    go_enter Tryd.func6, Tryd.ntmps6
    go_wp2_with (fail)
    have c1 := large_calls A L c w HLL.out
    rw [d1] at c1
    refine c1.mono ?_
    rintro e w' ⟨rfl, rfl⟩
    go_wp2_with (fail)
    refine (alive_calls n w HT.out HE.out HSN.out).mono ?_
    rintro e w' ⟨rfl, hb⟩
    go_wp2_with (fail)
    go_ret
    exact ⟨rfl, hb⟩
  have d1 : decide (300 < L.length) = false := decide_eq_false h1
  have HL1 := Lib.hid h1
  clear h1
  by_cases h136 : ¬ s.length = 136
  · have hne : ((s.length : Int) != 136) = true := by rw [bne_iff_ne]; omega
    generalize s.length = sl at *
    go_enter Tryd.func6, Tryd.ntmps6
    go_wp2_with (fail)
    have c1 := large_calls A L c w HLL.out
    rw [d1] at c1
    refine c1.mono ?_
    rintro e w' ⟨rfl, rfl⟩
    go_wp2_with (fail)
    refine (alive_calls n w HT.out HE.out HSN.out).mono ?_
    rintro e w' ⟨rfl, hb⟩
    go_wp2_with (fail)
    go_ret
    exact ⟨rfl, hb⟩
  have h136 := Classical.not_not.1 h136
  rw [h136]
  have H136 := Lib.hid h136
  clear h136 hl
  by_cases h0 : 300 < l.length
  · have d0 : decide ((300 : Int) < (l.length : Int)) = true := by rw [decide_eq_true_eq]; omega
    go_enter Tryd.func6, Tryd.ntmps6
    go_wp2_with (fail)
    have c1 := large_calls A L c w HLL.out
    rw [d1] at c1
    refine c1.mono ?_
    rintro e w' ⟨rfl, rfl⟩
    go_wp2_with (fail)
    refine (alive_calls n w HT.out HE.out HSN.out).mono ?_
    rintro e w' ⟨rfl, hb⟩
    go_wp2_with (fail)
    go_ret
    exact ⟨rfl, hb⟩
  have d0 : decide ((300 : Int) < (l.length : Int)) = false := by rw [decide_eq_false_iff_not]; omega
  have HL0 := Lib.hid h0
  have HWD := Lib.hid hwd
  have HRN := Lib.hid hn
  obtain ⟨j0, hj0, hy0, ht0, hu0⟩ := info_parts u64_info
  have HJ := Lib.hid hj0
  have HY := Lib.hid hy0
  have HTT := Lib.hid ht0
  have HU := Lib.hid hu0
  have cL := large_calls A L c w HLL.out
  have cl := lay_calls A L c w ha HRN.out HLL.out HT.out
  unfold LayP at cl
  obtain ⟨nL, hnL⟩ : ∃ z, L.length = z := ⟨_, rfl⟩
  have HNL := Lib.hid hnL
  rw [d1] at cL
  rw [hnL] at cL cl ⊢
  have CL := Lib.hid cl
  clear cl d1 hT hE hN hj0 hy0 ht0 hu0 hwd hn h0 hll hnL hxl
  rcases (rmay_or L) with hm | hm | hm
  · obtain ⟨hm64, _⟩ := rmay_0 hm
    have HGD := Lib.hid (good_may HRN.out hm)
    have CL2 := CL.out
    rw [layL_yes hm, layC_yes hm, hm] at CL2
    have HM0 := Lib.hid hm
    have CL := Lib.hid CL2
    clear CL2
    rw [HNL.out] at hm64
    have hYL := body_len L
    rw [HNL.out] at hYL
    have hcne := commit_ne L
    have hclt := commit_lt (l := L) (by rw [HNL.out]; exact hm64) HGD.out.wd.mem
    have HYW := Lib.hid HGD.out.wd
    obtain ⟨Y, hY⟩ : ∃ Y, bodyL L = Y := ⟨_, rfl⟩
    have HYE := Lib.hid hY
    obtain ⟨C, hC⟩ : ∃ C, commitN L = C := ⟨_, rfl⟩
    have HCE := Lib.hid hC
    rw [hY] at CL HYW hYL
    rw [hC] at CL hcne hclt
    obtain ⟨M, hM⟩ : ∃ M, Y.length = M := ⟨_, rfl⟩
    rw [hM] at CL hYL
    have HM := Lib.hid hM
    have HMN := Lib.hid hYL
    have q0 : ((C : Int) == 0) = false := by rw [beq_eq_false_iff_ne]; omega
    have q1 : ((M : Int) != 2 * (nL : Int)) = false := by rw [hYL]; simp
    have q2 : decide ((136 : Int) < 8 + (M : Int)) = false := by rw [decide_eq_false_iff_not]; omega
    have hM2 : M ≤ 128 := by omega
    clear hm hY hC hM hYL hcne
    go_enter Tryd.func6, Tryd.ntmps6
    go_wp2_with (fail)
    refine cL.mono ?_
    clear cL
    rintro e w' ⟨rfl, rfl⟩
    go_wp2_with (fail)
    refine CL.out.mono ?_
    clear CL
    rintro e w1 ⟨R2, cr2, rfl, hmw, hb1⟩
    have HB1 := Lib.hid hb1
    have HMW := Lib.hid hmw
    have HA := Lib.hid (ha.below hb1)
    have HX := Lib.hid (hx.below hb1)
    have hrw := hr.below hb1
    clear ha hx hr hb1 hmw d0
    go_wp2_with (at_builtin; refine wpList_cloneC rfl (.const (.slice none 0 0)) (.tmp 78) 25 rfl 26 j0 Tryd.underlying25 HJ.out HY.out HTT.out HU.out W s d rfl (by rw [H136.out]; rfl) hrw (by rw [H136.out]; decide) ?_; intro W1 d1 w2 hr1 hf1 hb2 hk1 hcap1; obtain ⟨g, rfl, hwg, hbk⟩ := hk1 (by rw [H136.out]; decide); have z0 := hbk.cell 0 (by rw [H136.out]; decide); have z1 := hbk.frozen 0; rw [H136.out])
    have HCAP := Lib.hid hcap1
    have HWG := Lib.hid hwg
    have HB2 := Lib.hid hb2
    have HBK := Lib.hid hbk
    clear q0 q1 q2 hr1 hf1 hb2 hk1 hcap1 hrw hbk hwg z0 z1
    have HBW : Hid (Below w1.heap.size w1 (w2.setCell ⟨g, 0, none⟩ (.int .u64 (C : Int)))) := Lib.hid (HB2.out.setCell (p := ⟨g, 0, none⟩) HWG.out _)
    have HBS := Lib.hid (HBK.out.set 0 C)
    have HLY := Lib.hid (Ly.start (s := s) (b := Y) (c := C) H136.out (by rw [HM.out]; exact hM2))
    have HSW := Lib.hid (HWD.out.set 0 C hclt)
    clear HBK HB2
    generalize w2.setCell ⟨g, 0, none⟩ (.int .u64 (C : Int)) = w3 at *
    go_loopw [11] (fun i wr => ∃ (k : Nat) (S : List Nat), i = .int .i64 k ∧ k ≤ M ∧ Hid (Ly S Y k C) ∧ Hid (Wd S) ∧ Hid (Blkp 26 wr g S) ∧ Hid (Below w1.heap.size w1 wr)) (fun i _ => M - (intOf i).toNat)
    case atStart => exact ⟨0, _, rfl, by omega, HLY, HSW, HBS, HBW⟩
    case round =>
      obtain ⟨k, S, rfl, hk, hLy, hSW, hBk, hBr⟩ := hrel
      by_cases h1 : k < M
      · obtain ⟨bR, oR, rfl, hlR, hcR⟩ := (HMW.out.row.below hBr.out).at0 (by rw [HM.out]; omega)
        have e1 := hcR k (by rw [HM.out]; exact h1)
        have e2 := hBk.out.cell (8 + k) (by rw [hLy.out.len]; omega)
        have f2 := hBk.out.frozen (8 + k)
        have hst := hLy.out.step (by rw [HM.out]; exact h1)
        have hsw := hSW.out.set (8 + k) (Y.getD k 0) (HYW.out k)
        have hsb := hBk.out.set (8 + k) (Y.getD k 0)
        have HST := Lib.hid hst
        have HSS := Lib.hid hsw
        have HSB := Lib.hid hsb
        have i1 : (8 : Int) + (k : Int) < 136 := by omega
        clear hcR hst hsw hsb
        generalize Y.getD k 0 = y at *
        generalize S.getD (8 + k) 0 = old at *
        go_wp2_with (fail)
        have hbo := hBr.out.setCell (p := ⟨g, 8 + k, none⟩) HWG.out (.int .u64 (y : Int))
        go_roundw
        case rel => exact ⟨k + 1, _, by go_num, by omega, HST, HSS, HSB, Lib.hid hbo⟩
        case measure => simp [intOf]; omega
      · obtain rfl : k = M := by omega
        have hL2 := hLy.out
        rw [← HM.out] at hL2
        have hBd := hL2.done
        obtain ⟨r1, r2, r3⟩ := read_laid (s := S) (l := L) HM0.out hBd.len (hBd.zero.trans HCE.out.symm) (fun i hi => by rw [HYE.out]; exact hBd.at' i (by rw [HM.out, HMN.out]; rw [HNL.out] at hi; exact hi))
        have cr := read_calls (some ⟨g, 0, none⟩) S d1 n wr hBk.out.row hSW.out (by rw [hBd.len]; decide) (by rw [hBd.len]; have := HCAP.out; omega) ((HSN.out.below HB1.out).below hBr.out) ((HT.out.below HB1.out).below hBr.out)
        unfold ReadsP at cr
        rw [hBd.len, r1, r2, r3] at cr
        rw [HNL.out] at cr
        have CR := Lib.hid cr
        clear hL2 hBd r1 r2 r3 cr hLy hSW hBk
        go_wp2_with (fail)
        refine CR.out.mono ?_
        clear CR
        rintro e w4 ⟨xq, R4, cr4, rfl, hm4, hb4⟩
        rw [show errR xq 0 = .nilIface from rfl]
        have HB4 := Lib.hid (hBr.out.trans (hb4.mono hBr.out.size))
        have HM4 := Lib.hid hm4.cel
        clear hm4 hb4 hBr
        go_wp2_with (fail)
        have cs := rsame_calls R4 A L L cr4 c w4 HM4.out (HA.out.below HB4.out) (by rw [HNL.out]; omega) (by rw [HNL.out]; omega)
        rw [rowsB_self, HNL.out] at cs
        refine cs.mono ?_
        clear cs
        rintro e w' ⟨rfl, qq, rfl⟩
        have HB5 := Lib.hid (below_drewN HB4.out qq)
        have HM5 : Hid (Cel (w4.drewN qq) R4 (ev L)) := HM4
        clear HB4 HM4
        generalize w4.drewN qq = w5 at *
        go_wp2_with (fail)
        have ca := apply_calls X l e0 R4 L cr4 w5 (HX.out.below HB5.out) (by have := HL0.out; omega) HM5.out (by rw [HNL.out]; omega)
        unfold ApplyP at ca
        rw [HNL.out] at ca
        rcases appE_or l L with hae | hae
        · have hal := appE_all hae
          rw [appR_yes hae, hae, app_len] at ca
          refine ca.mono ?_
          clear ca
          rintro e w6 ⟨R6, cr6, rfl, hr6, hb6⟩
          have HB6 := Lib.hid (HB5.out.trans (hb6.mono HB5.out.size))
          have HM6 := Lib.hid (HM5.out.below hb6)
          have HR6 := Lib.hid hr6
          have cb := apply_calls R6 (appL l L) cr6 R4 L cr4 w6 HR6.out (by rw [app_len]; have := HL0.out; omega) HM6.out (by rw [HNL.out]; omega)
          have hae2 := appE_same hae (app_len L l)
          unfold ApplyP at cb
          rw [appR_yes hae2, hae2, app_twice hal, app_len, HNL.out] at cb
          have CB := Lib.hid cb
          have HAT := Lib.hid (fun a (h : a < l.length) => app_at L l hal a h)
          have HAE := Lib.hid hae
          clear hr6 hb6 cb hal hae hae2 HM5 HB5
          go_wp2_with (fail)
          refine CB.out.mono ?_
          clear CB
          rintro e w7 ⟨R7, cr7, rfl, hr7, hb7⟩
          have HB7 := Lib.hid (HB6.out.trans (hb7.mono HB6.out.size))
          have HR7 := Lib.hid hr7
          have HR67 := Lib.hid (HR6.out.below hb7)
          clear hr7 hb7 HB6 HM6 HR6
          go_wp2_with (fail)
          have cs := same_calls R6 R7 (appL l L) (appL l L) cr6 cr7 w7 HR67.out HR7.out (by rw [app_len]; have := HL0.out; omega) (by rw [app_len]; have := HL0.out; omega)
          rw [sameV_self, app_len] at cs
          refine cs.mono ?_
          clear cs
          rintro e w' ⟨rfl, q8, rfl⟩
          have HB8 := Lib.hid (below_drewN HB7.out q8)
          have HR8 : Hid (Row (w7.drewN q8) R6 (appL l L)) := HR67
          have HXR := Lib.hid (HX.out.below HB8.out)
          have HAR := Lib.hid (HA.out.below HB8.out)
          clear HR67 HR7 HB7
          generalize w7.drewN q8 = w8 at *
          obtain ⟨N, hN⟩ : ∃ N, l.length = N := ⟨_, rfl⟩
          have HN := Lib.hid hN
          have hN3 : N ≤ 300 := by have := HL0.out; omega
          rw [hN]
          clear hN
          go_wp2_with (fail)
          go_loop [19] (fun i => ∃ a : Nat, i = .int .i64 a ∧ a ≤ N) (fun i => N - (intOf i).toNat)
          case atStart => exact ⟨0, rfl, by omega⟩
          case round =>
            obtain ⟨a, rfl, haN⟩ := hrel
            by_cases h1 : a < N
            · obtain ⟨bX, oX, rfl, _, hcX⟩ := HXR.out.at0 (by rw [HN.out]; omega)
              have e1 := hcX a (by rw [HN.out]; exact h1)
              obtain ⟨b6, o6, rfl, _, hc6⟩ := HR8.out.at0 (by rw [app_len, HN.out]; omega)
              have e6 := hc6 a (by rw [app_len, HN.out]; exact h1)
              rw [HAT.out a (by rw [HN.out]; exact h1)] at e6
              have HLN := Lib.hid (show L.take nL = L by rw [← HNL.out]; exact List.take_length)
              clear hcX hc6
              obtain ⟨v0, hv0⟩ : ∃ v, l.getD a 0 = v := ⟨_, rfl⟩
              rw [hv0] at e1 e6
              clear hv0
              go_wp2_with (fail)
              go_loop [20, 21] (fun want i => ∃ k v : Nat, i = .int .i64 k ∧ k ≤ nL ∧ want = .int .u64 (v : Nat) ∧ Hid (lastW (L.take k) a v0 = v)) (fun _ i => nL - (intOf i).toNat)
              case atStart => exact ⟨0, v0, rfl, by omega, rfl, rfl⟩
              case round =>
                obtain ⟨k, v, rfl, hk, rfl, hv⟩ := hrel
                by_cases h2 : k < nL
                · obtain ⟨bA, oA, rfl, _, hcA⟩ := HAR.out.re (by rw [HNL.out]; omega)
                  obtain ⟨y1, y2⟩ := hcA k (by rw [HNL.out]; exact h2)
                  have hlm := last_more (L := L) (k := k) (by rw [HNL.out]; exact h2) a v0
                  rw [hv.out] at hlm
                  clear hcA
                  generalize (L.getD k re0).pos = p at *
                  generalize (L.getD k re0).word = x at *
                  by_cases hp : p = (a : Int)
                  · subst hp
                    rw [if_pos rfl] at hlm
                    have HLM := Lib.hid hlm
                    clear hlm
                    go_wp2_with (fail)
                    go_round
                    case rel => exact ⟨k + 1, x, by go_num, by omega, rfl, HLM⟩
                    case measure => simp [intOf]; omega
                  · rw [if_neg hp] at hlm
                    have HLM := Lib.hid hlm
                    have d2 : (p == (a : Int)) = false := by rw [beq_eq_false_iff_ne]; exact hp
                    clear hlm hp
                    go_wp2_with (fail)
                    go_round
                    case rel => exact ⟨k + 1, v, by go_num, by omega, rfl, HLM⟩
                    case measure => simp [intOf]; omega
                · obtain rfl : k = nL := by omega
                  have e7 := hv.out
                  rw [HLN.out] at e7
                  rw [e7] at e6
                  clear e7 hv
                  go_wp2_with (fail)
                  go_round
                  case rel => exact ⟨a + 1, by go_num, by omega⟩
                  case measure => simp [intOf]; omega
            · obtain rfl : a = N := by omega
              have hbw := Lib.hid (HB1.out.trans (HB8.out.mono HB1.out.size))
              go_wp2_with (fail)
              refine (alive_calls n w8 (HT.out.below hbw.out) (HE.out.below hbw.out) (HSN.out.below hbw.out)).mono ?_
              rintro e w9 ⟨rfl, hb⟩
              go_wp2_with (fail)
              go_ret
              exact ⟨rfl, hbw.out.trans (hb.mono hbw.out.size)⟩
        · have hne : ((2 : Int) != 0) = true := by decide
          rw [appR_no (by rw [hae]; decide), hae] at ca
          refine ca.mono ?_
          clear ca
          rintro e w6 ⟨R6, cr6, rfl, hr6, hb6⟩
          have hbw := Lib.hid ((HB1.out.trans (HB5.out.mono HB1.out.size)).trans (hb6.mono (HB1.out.trans (HB5.out.mono HB1.out.size)).size))
          clear hr6 hb6
          go_wp2_with (fail)
          refine (alive_calls n w6 (HT.out.below hbw.out) (HE.out.below hbw.out) (HSN.out.below hbw.out)).mono ?_
          rintro e w9 ⟨rfl, hb⟩
          go_wp2_with (fail)
          go_ret
          exact ⟨rfl, hbw.out.trans (hb.mono hbw.out.size)⟩
  · have hne : ((2 : Int) != 0) = true := by decide
    have d5 : decide ((64 : Int) < (nL : Int)) = false := by rw [decide_eq_false_iff_not]; have := rmay_two hm; rw [HNL.out] at this; omega
    have CL2 := CL.out
    rw [layL_no (by rw [hm]; decide), layC_no (by rw [hm]; decide), hm] at CL2
    have CL := Lib.hid CL2
    clear CL2 hm
    go_enter Tryd.func6, Tryd.ntmps6
    go_wp2_with (fail)
    refine cL.mono ?_
    clear cL
    rintro e w' ⟨rfl, rfl⟩
    go_wp2_with (fail)
    refine CL.out.mono ?_
    clear CL
    rintro e w1 ⟨R2, cr2, rfl, hmw, hb1⟩
    go_wp2_with (fail)
    refine (alive_calls n w1 (HT.out.below hb1) (HE.out.below hb1) (HSN.out.below hb1)).mono ?_
    rintro e w2 ⟨rfl, hb⟩
    go_wp2_with (fail)
    go_ret
    exact ⟨rfl, hb1.trans (hb.mono hb1.size)⟩
  · have d5 : decide ((64 : Int) < (nL : Int)) = true := by rw [decide_eq_true_eq]; have := rmay_five hm; rw [HNL.out] at this; omega
    have CL2 := CL.out
    rw [layL_no (by rw [hm]; decide), layC_no (by rw [hm]; decide), hm] at CL2
    have CL := Lib.hid CL2
    clear CL2 hm
    go_enter Tryd.func6, Tryd.ntmps6
    go_wp2_with (fail)
    refine cL.mono ?_
    clear cL
    rintro e w' ⟨rfl, rfl⟩
    go_wp2_with (fail)
    refine CL.out.mono ?_
    clear CL
    rintro e w1 ⟨R2, cr2, rfl, hmw, hb1⟩
    go_wp2_with (fail)
    refine (alive_calls n w1 (HT.out.below hb1) (HE.out.below hb1) (HSN.out.below hb1)).mono ?_
    rintro e w2 ⟨rfl, hb⟩
    go_wp2_with (fail)
    go_ret
    exact ⟨rfl, hb1.trans (hb.mono hb1.size)⟩
end Go.Proofs.YtlfpjfijlngpcaaDoor
