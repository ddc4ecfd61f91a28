/- The law XattrAsks, walked. -/
import Derived.Test.YthfafejjjmdpbaaVa
set_option linter.unusedSimpArgs false
set_option linter.unusedVariables false
namespace Go.Proofs.Ythfafejjjmdpbaa
open Go.RowKit Go.Lib
theorem remR_len {L : List Xt} {k : ByteArray} : (remR L k).length ≤ 1000 := by
  unfold remR
  split
  · rename_i h
    obtain ⟨_, h2, h3⟩ := xsB_up_iff.1 (getN_zero.1 h).1
    have := length_rem (k := k) h2
    omega
  · exact Nat.zero_le _
set_option maxRecDepth 100000 in
set_option maxHeartbeats 4000000 in
theorem asks_law (A : Option Addr) (L : List Xt) (c : Nat) (key : ByteArray) (w : World) (hc : Cel w A (xv L)) (hl : L.length ≤ 9223372036854775807) :
    Calls Try.prog 4 #[.slice A L.length c, .string key] w fun e w' => e = .returned (.bool true) ∧ Below w.heap.size w w' := by
  have cL := long_calls A L c w hc hl
  have HC := Lib.hid hc
  have CL := Lib.hid cL
  have cA := fun W => alive_calls W
  clear hc cL
  go_enter Try.func4, Try.ntmps4
  go_wp2_with (fail)
  refine CL.out.mono ?_
  rintro e w1 ⟨b, rfl, hS, q, rfl⟩
  cases b
  case true =>
    go_wp2_with (fail)
    refine (cA _).mono ?_
    rintro e w2 ⟨rfl, hb⟩
    go_wp2_with (fail)
    go_ret
    exact ⟨rfl, (below_drewN (Below.refl _ _) _).trans hb⟩
  case false =>
  by_cases hk : 200 < key.size
  case pos =>
    have d1 : decide ((200 : Int) < (key.size : Int)) = true := by rw [decide_eq_true_eq]; omega
    clear hk
    go_wp2_with (fail)
    refine (cA _).mono ?_
    rintro e w2 ⟨rfl, hb⟩
    go_wp2_with (fail)
    go_ret
    exact ⟨rfl, (below_drewN (Below.refl _ _) _).trans hb⟩
  case neg =>
  have d1 : decide ((200 : Int) < (key.size : Int)) = false := by rw [decide_eq_false_iff_not]; omega
  have hS' := hS.out rfl
  have HSH := Lib.hid hS'
  have h40 : L.length ≤ 40 := hS'.len
  clear hS hS' CL
  go_wp2_with (at_builtin; refine wpList_xcl rfl (.const (.slice none 0 0)) (.tmp 26) rfl A L c rfl rfl (HC.out.drewN q) (by omega) ?_; intro B0 c0 w2 hM2 hb2)
  have HB2 : Hid (Below w.heap.size w w2) := Lib.hid ((below_drewN (Below.refl _ _) q).trans hb2)
  have HM2 : Hid (MineX w w2 B0 L.length c0 L) := Lib.hid hM2
  clear hM2 hb2
  refine (get_calls B0 L c0 key w2 HM2.out.cel (by omega) HM2.out.1.2.1).mono ?_
  rintro e w3 ⟨rfl, hb3⟩
  have HB3 := Lib.hid (HB2.out.trans (hb3.mono HB2.out.size))
  have HM3 := Lib.hid (HM2.out.on hb3)
  clear hb3 HM2 HB2
  have cG := fun W (h : Cel W A (xv L)) => rget_calls A L c key W h (by omega) HSH.out.keys (by omega)
  have cR := fun W (h : Cel W B0 (xv L)) (h2 : L.length ≤ c0) => remove_calls B0 L c0 key W h (by omega) h2
  have cS := fun W (h : Cel W A (xv L)) => rremove_calls A L c key W h (by omega) HSH.out.keys (by omega)
  have hRl := remR_len (L := L) (k := key)
  generalize getR L key = v at *
  generalize getN L key = m at *
  generalize remR L key = R at *
  have CG := Lib.hid cG
  have CR := Lib.hid cR
  have CS := Lib.hid cS
  clear cG cR cS
  go_wp2_with (fail)
  refine (CG.out _ (HC.out.below HB3.out)).mono ?_
  rintro e w4 ⟨rfl, hb4⟩
  have HB4 := Lib.hid (HB3.out.trans (hb4.mono HB3.out.size))
  have HM4 := Lib.hid (HM3.out.on hb4)
  clear hb4 HM3 HB3
  go_wp2_with (fail)
  refine (CR.out _ HM4.out.cel HM4.out.1.2.1).mono ?_
  rintro e w5 ⟨B1, d1', rfl, hM5, hb5⟩
  have HB5 := Lib.hid (HB4.out.trans (hb5.mono HB4.out.size))
  have HM5 := Lib.hid (HM4.out.on hb5)
  have HR5 := Lib.hid (hM5.from HB4.out.size)
  clear hM5 hb5 HM4 HB4
  go_wp2_with (fail)
  refine (CS.out _ (HC.out.below HB5.out)).mono ?_
  rintro e w6 ⟨B2, d2', rfl, hM6, hb6⟩
  have HB6 := Lib.hid (HB5.out.trans (hb6.mono HB5.out.size))
  have HM6 := Lib.hid (HM5.out.on hb6)
  have HR6 := Lib.hid (HR5.out.on hb6)
  have HS6 := Lib.hid (hM6.from HB5.out.size)
  clear hM6 hb6 HM5 HB5 HR5
  go_wp2_with (fail)
  refine (keys_calls B0 L c0 w6 HM6.out.cel (by omega)).mono ?_
  rintro e w7 ⟨B3, d3', rfl, hK, hb7⟩
  have HB7 := Lib.hid (HB6.out.trans (hb7.mono HB6.out.size))
  have HM7 := Lib.hid (HM6.out.on hb7)
  have HR7 := Lib.hid (HR6.out.on hb7)
  have HS7 := Lib.hid (HS6.out.on hb7)
  clear hb7 HM6 HB6 HR6 HS6 CG CR CS
  have cX := fun k => samex_calls B1 B2 R R d1' d2' (w7.drewN k) (HR7.out.cel.drewN k) (HS7.out.cel.drewN k) (by omega) (by omega)
  have cY := fun k => samex_calls B0 A L L c0 c (w7.drewN k) (HM7.out.cel.drewN k) ((HC.out.below HB7.out).drewN k) (by omega) (by omega)
  rw [xrowsB_self] at cX cY
  have hkl : (keysR L).length ≤ 1000 := by
    unfold keysR
    split
    · omega
    · exact Nat.zero_le _
  obtain ⟨KL, hKL⟩ : ∃ KL, keysR L = KL := ⟨_, rfl⟩
  rw [hKL] at hK hkl ⊢
  obtain ⟨nm, hnm⟩ : ∃ nm, chN L = nm := ⟨_, rfl⟩
  rw [hnm]
  have HKL := Lib.hid hKL
  have HNM := Lib.hid hnm
  clear hKL hnm
  go_wp2_with (fail)
  refine (cX 0).mono ?_
  rintro e w8 ⟨rfl, q8, rfl⟩
  go_wp2_with (fail)
  refine (cY _).mono ?_
  rintro e w9 ⟨rfl, q9, rfl⟩
  clear cX cY
  have HBq : ∀ k, Below w.heap.size w (w7.drewN k) := fun k => below_drewN HB7.out k
  go_wp2_with (fail)
  have cY := fun W (h : Cel W A (xv L)) => rxmay_calls A L c W h (by omega) HSH.out.keys
  have CY := Lib.hid cY
  clear cY
  have hK7 := hK.out
  refine (CY.out _ ((HC.out.below HB7.out).drewN _)).mono ?_
  rintro e w10 ⟨rfl, hb10⟩
  have HB10 := Lib.hid ((HBq _).trans (hb10.mono (HBq _).size))
  have HC10 := Lib.hid (HC.out.below HB10.out)
  have HK10 := Lib.hid (Cel.below (Cel.drewN hK7 _) hb10)
  clear hb10 hK7 hK HBq CY HM7 HR7 HS7
  cases hx : xsB L
  case false =>
    have e1 : KL = [] := by rw [← HKL.out]; unfold keysR; rw [if_neg (by rw [hx]; decide)]
    have e2 : nm = 622 := by rw [← HNM.out]; unfold chN; rw [if_pos hx]
    subst e1 e2
    clear hx
    go_wp2_with (fail)
    refine (cA _).mono ?_
    rintro e w11 ⟨rfl, hb⟩
    go_wp2_with (fail)
    go_ret
    exact ⟨rfl, HB10.out.trans (hb.mono HB10.out.size)⟩
  case true =>
    have e1 : KL = L := by rw [← HKL.out]; unfold keysR; rw [if_pos hx]
    have e2 : nm = 0 := by rw [← HNM.out]; unfold chN; rw [if_neg (by rw [hx]; decide)]
    subst e1 e2
    clear hx hkl
    obtain ⟨n, hn⟩ : ∃ n, KL.length = n := ⟨_, rfl⟩
    have HN := Lib.hid hn
    have cW := rkeys_calls A KL c w10 HC10.out (by omega)
    rw [hn] at cW h40 hl ⊢
    have CW := Lib.hid cW
    clear hn cW
    go_wp2_with (fail)
    refine CW.out.mono ?_
    rintro e w11 ⟨B4, d4', rfl, hK4, hb11⟩
    have HB11 := Lib.hid (HB10.out.trans (hb11.mono HB10.out.size))
    have HK11 := Lib.hid (HK10.out.below hb11)
    clear hb11 HK10 HB10 CW
    go_wp2_with (fail)
    go_loopw [17] (fun i wr => ∃ k : Nat, i = .int .i64 k ∧ k ≤ n ∧ ∃ q, wr = w11.drewN q) (fun i _ => n - (intOf i).toNat)
    case atStart => exact ⟨0, rfl, by omega, 0, rfl⟩
    case round =>
      obtain ⟨k, rfl, hk, q', rfl⟩ := hrel
      by_cases hkn : k < n
      · obtain ⟨p, hp⟩ : ∃ p, KL[k]? = some p := ⟨_, List.getElem?_eq_getElem (by rw [HN.out]; omega)⟩
        obtain ⟨b1, o1, rfl, _, hc1⟩ := HK11.out.at0 (by rw [kv_length, HN.out]; omega)
        obtain ⟨b2, o2, rfl, _, hc2⟩ := hK4.out.at0 (by rw [kv_length, HN.out]; omega)
        have f1 := hc1 k _ (kv_get hp)
        have f2 := hc2 k _ (kv_get hp)
        generalize p.key = pk at *
        clear hc1 hc2 hp
        go_wp2_with (fail)
        go_quiet (fail)
        go_wp2_with (fail)
        go_roundw
        case rel => exact ⟨k + 1, by go_num, by omega, _, rfl⟩
        case measure => simp [intOf]; omega
      · obtain rfl : k = n := by omega
        go_wp2_with (fail)
        refine (cA _).mono ?_
        rintro e w12 ⟨rfl, hb⟩
        go_wp2_with (fail)
        go_ret
        exact ⟨rfl, (below_drewN HB11.out _).trans (hb.mono (below_drewN HB11.out _).size)⟩
end Go.Proofs.Ythfafejjjmdpbaa
