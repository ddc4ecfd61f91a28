/- long; the calls that show that the program is alive. -/
import Derived.Test.YthfafejjjmdpbaaVt
set_option linter.unusedSimpArgs false
set_option linter.unusedVariables false
namespace Go.Proofs.Ythfafejjjmdpbaa
open Go.RowKit Go.Lib
/-- No more than a statement looks at. -/
structure Short (L : List Xt) : Prop where
  len : L.length ≤ 40
  sz : ∀ (k : Nat) (p : Xt), L[k]? = some p → p.key.size ≤ 100 ∧ p.val.size ≤ 100
theorem Short.keys {L : List Xt} (h : Short L) : ∀ (k : Nat) (q : Xt), L[k]? = some q → q.key.size ≤ 1099511627776 := fun k q hq => by have := (h.sz k q hq).1; omega
set_option maxRecDepth 100000 in
set_option maxHeartbeats 2000000 in
theorem long_calls (A : Option Addr) (L : List Xt) (c : Nat) (w : World) (hc : Cel w A (xv L)) (hl : L.length ≤ 9223372036854775807) :
    Calls Try.prog 7 #[.slice A L.length c] w fun e w' => ∃ b, e = .returned (.bool b) ∧ Hid (b = false → Short L) ∧ ∃ q, w' = w.drewN q := by
  obtain ⟨n, hn⟩ : ∃ n, L.length = n := ⟨_, rfl⟩
  have HN := Lib.hid hn
  have HC := Lib.hid hc
  rw [hn] at hl ⊢
  clear hn hc
  go_enter Try.func7, Try.ntmps7
  go_wp2_with (fail)
  go_loopw [3] (fun i wr => ∃ k : Nat, i = .int .i64 k ∧ k ≤ n ∧ k ≤ 50 ∧ Hid (∀ j p, j < k → L[j]? = some p → p.key.size ≤ 100 ∧ p.val.size ≤ 100) ∧ ∃ q, wr = w.drewN q) (fun i _ => n - (intOf i).toNat)
  case atStart => exact ⟨0, rfl, by omega, by omega, Lib.hid (fun j p h => absurd h (by omega)), 0, rfl⟩
  case round =>
    obtain ⟨k, rfl, hk, hk5, HR, q, rfl⟩ := hrel
    by_cases hkn : k < n ∧ k < 50
    · obtain ⟨hkn, hk50⟩ := hkn
      obtain ⟨b, o, rfl, hbl, hcell⟩ := HC.out.xt (by rw [HN.out]; omega)
      obtain ⟨p, hp⟩ : ∃ p, L[k]? = some p := ⟨_, List.getElem?_eq_getElem (by rw [HN.out]; omega)⟩
      obtain ⟨f1, f2⟩ := hcell k p hp
      have HP := Lib.hid hp
      clear hcell hp
      by_cases h1 : 100 < p.key.size
      · have d1 : decide ((100 : Int) < (p.key.size : Int)) = true := by rw [decide_eq_true_eq]; omega
        clear h1
        generalize p.key = pk at *
        go_wp2_with (fail)
        go_ret
        exact ⟨true, rfl, Lib.hid (fun e => (nomatch e)), _, rfl⟩
      · have d1 : decide ((100 : Int) < (p.key.size : Int)) = false := by rw [decide_eq_false_iff_not]; omega
        by_cases h2 : 100 < p.val.size
        · have d2 : decide ((100 : Int) < (p.val.size : Int)) = true := by rw [decide_eq_true_eq]; omega
          clear h1 h2
          generalize p.key = pk at *
          generalize p.val = pv at *
          go_wp2_with (fail)
          go_ret
          exact ⟨true, rfl, Lib.hid (fun e => (nomatch e)), _, rfl⟩
        · have d2 : decide ((100 : Int) < (p.val.size : Int)) = false := by rw [decide_eq_false_iff_not]; omega
          have HR' := Lib.hid (show ∀ j q, j < k + 1 → L[j]? = some q → q.key.size ≤ 100 ∧ q.val.size ≤ 100 from fun j q hj hq => by
            by_cases e : j = k
            · subst e; rw [HP.out] at hq; cases hq; exact ⟨by omega, by omega⟩
            · exact HR.out j q (by omega) hq)
          clear h1 h2
          generalize p.key = pk at *
          generalize p.val = pv at *
          go_wp2_with (fail)
          go_roundw
          case rel => exact ⟨k + 1, by go_num, by omega, by omega, HR', q, rfl⟩
          case measure => simp [intOf]; omega
    · by_cases h3 : k < n
      · have d3 : decide ((k : Int) < 50) = false := by rw [decide_eq_false_iff_not]; omega
        have d4 : decide ((40 : Int) < (n : Int)) = true := by rw [decide_eq_true_eq]; omega
        go_wp2_with (fail)
        go_ret
        exact ⟨true, rfl, Lib.hid (fun e => (nomatch e)), _, rfl⟩
      · obtain rfl : k = n := by omega
        by_cases h4 : 40 < k
        · have d4 : decide ((40 : Int) < (k : Int)) = true := by rw [decide_eq_true_eq]; omega
          go_wp2_with (fail)
          go_ret
          exact ⟨true, rfl, Lib.hid (fun e => (nomatch e)), _, rfl⟩
        · have d4 : decide ((40 : Int) < (k : Int)) = false := by rw [decide_eq_false_iff_not]; omega
          go_wp2_with (fail)
          go_ret
          exact ⟨false, rfl, Lib.hid (fun _ => ⟨by rw [HN.out]; omega, fun j p hp => HR.out j p (by rw [← HN.out]; exact (List.getElem?_eq_some_iff.1 hp).1) hp⟩), _, rfl⟩
/-! ### alive -/
theorem ltS_data (a b : ByteArray) : ltS a b = Op.bytesLess a.data.toList b.data.toList := by unfold ltS; rw [bdata, bdata]
abbrev tA : ByteArray := ⟨#[97]⟩
abbrev tB : ByteArray := ⟨#[98]⟩
abbrev t1 : ByteArray := ⟨#[49]⟩
abbrev t2 : ByteArray := ⟨#[50]⟩
abbrev t3 : ByteArray := ⟨#[51]⟩
theorem ab_lt : ltS tA tB = true := by rw [ltS_data]; decide +kernel
theorem ba_lt : ltS tB tA = false := ltS_asymm ab_lt
theorem kA : keyB tA = true := by decide +kernel
theorem kB : keyB tB = true := by decide +kernel
theorem kA0 : keyN tA = 0 := keyN_iff.2 kA
theorem kB0 : keyN tB = 0 := keyN_iff.2 kB
theorem al_kK0 : keyN ⟨#[107]⟩ = 0 := by decide +kernel
abbrev M1 : List Xt := [⟨tB, t1⟩]
abbrev M2 : List Xt := [⟨tA, t2⟩, ⟨tB, t1⟩]
theorem al_x0 : xsB [] = true := by decide +kernel
theorem ab_ne : tA ≠ tB := ltS_ne ab_lt
theorem al_x1 : xsB M1 = true := xsB_up_iff.2 ⟨fun p hp => by obtain rfl := List.mem_singleton.1 hp; exact ⟨kB, by decide⟩, List.pairwise_singleton _ _, by decide⟩
theorem al_x2 : xsB M2 = true := xsB_up_iff.2 ⟨fun p hp => by
    rcases List.mem_cons.1 hp with rfl | hp
    · exact ⟨kA, by decide⟩
    · obtain rfl := List.mem_singleton.1 hp; exact ⟨kB, by decide⟩, List.pairwise_cons.2 ⟨fun q hq => by obtain rfl := List.mem_singleton.1 hq; exact ab_lt, List.pairwise_singleton _ _⟩, by decide⟩
theorem al_l1 : loL M1 tA = [] := lo_one_no ba_lt
theorem al_g1 : hiL M1 tA = M1 := hi_one_yes ab_lt
theorem al_h0 (k : ByteArray) : hasB [] k = false := rfl
theorem al_h1 : hasB M1 tA = false := by rw [hasB_no]; unfold smL; rw [List.filter_cons_of_neg (by simp)]; rfl
theorem al_s2 : smL M2 tA = [⟨tA, t2⟩] := by
  unfold smL
  rw [List.filter_cons_of_pos (by simp), List.filter_cons_of_neg (by simp)]
  rfl
theorem al_s2' : smL M2 tB = [⟨tB, t1⟩] := by
  unfold smL
  rw [List.filter_cons_of_neg (by simp), List.filter_cons_of_pos (by simp)]
  rfl
theorem has_of {L : List Xt} {k : ByteArray} {p : Xt} {r : List Xt} (h : smL L k = p :: r) : hasB L k = true := by
  cases hb : hasB L k
  · rw [hasB_no, h] at hb; cases hb
  · rfl
theorem al_n1 : setN [] tB t1 0 = 0 := setN_zero.2 ⟨al_x0, by decide, kB0, by decide, by rw [al_h0, barN_zero]; rfl⟩
theorem al_r1 : setR [] tB t1 0 = M1 := by unfold setR; rw [if_pos al_n1]; rfl
theorem al_n2 : setN M1 tA t2 1 = 0 := setN_zero.2 ⟨al_x1, by decide, kA0, by decide, by rw [al_h1]; rfl⟩
theorem al_r2 : setR M1 tA t2 1 = M2 := by unfold setR setL; rw [if_pos al_n2, al_l1, al_g1]; rfl
theorem al_n3 : getN M2 tA = 0 := getN_zero.2 ⟨al_x2, kA0, has_of al_s2⟩
theorem al_r3 : getR M2 tA = t2 := by rw [getR_yes al_n3]; unfold getV; rw [al_s2]
theorem al_n4 : setN M2 tA t3 1 = 617 := by
  have e : misN tA t3 1 = 0 := by unfold misN; rw [if_neg (by decide), kA0, if_neg (by decide), if_neg (by decide)]
  unfold setN
  rw [if_neg (by rw [al_x2]; decide), e, has_of al_s2]
  rfl
theorem al_n5 : getN M2 tB = 0 := getN_zero.2 ⟨al_x2, kB0, has_of al_s2'⟩
theorem al_r5 : remR M2 tB = [⟨tA, t2⟩] := by
  rw [remR_yes al_n5, lo_cons_yes _ ab_lt, lo_one_no (ltS_irr tB), hi_cons_no _ ba_lt, hi_one_no (ltS_irr tB)]
  rfl
theorem al_n6 : chN M2 = 0 := by unfold chN; rw [if_neg (by rw [al_x2]; decide)]
theorem al_r6 : keysR M2 = M2 := by unfold keysR; rw [if_pos al_x2]
theorem al_r4 : setR M2 tA t3 1 = [] := setR_no (by rw [al_n4]; decide)
set_option maxRecDepth 100000 in
set_option maxHeartbeats 4000000 in
theorem alive_calls (w : World) : Calls Try.prog 8 #[] w fun e w' => e = .returned (.bool true) ∧ Below w.heap.size w w' := by
  have c1 := set_calls none [] 0 tB t1 0 w (Cel.nil _ _) (by decide) (by decide) (by decide) (by decide)
  unfold SetPost at c1
  rw [al_n1, al_r1] at c1
  go_enter Try.func8, Try.ntmps8
  go_wp2_with (fail)
  refine c1.mono ?_
  rintro e w1 ⟨B1, d1, rfl, hM1, hb1⟩
  have HB1 := Lib.hid hb1
  have HM1 := Lib.hid hM1
  have c2 := set_calls B1 M1 d1 tA t2 1 w1 hM1.cel (by decide) hM1.1.2.1 (by decide) (by decide)
  unfold SetPost at c2
  rw [al_n2, al_r2] at c2
  have C2 := Lib.hid c2
  clear c1 c2 hb1 hM1
  go_wp2_with (fail)
  refine C2.out.mono ?_
  rintro e w2 ⟨B2, d2, rfl, hM2, hb2⟩
  have HB2 := Lib.hid (HB1.out.trans (hb2.mono HB1.out.size))
  have HM2 := Lib.hid (hM2.from HB1.out.size)
  clear C2 HM1 hb2 hM2 HB1
  have c3 := get_calls B2 M2 d2 tA w2 HM2.out.cel (by decide) HM2.out.1.2.1
  rw [al_n3, al_r3] at c3
  have C3 := Lib.hid c3
  clear c3
  go_wp2_with (fail)
  refine C3.out.mono ?_
  rintro e w3 ⟨rfl, hb3⟩
  have HB3 := Lib.hid (HB2.out.trans (hb3.mono HB2.out.size))
  have HM3 := Lib.hid (HM2.out.on hb3)
  clear C3 HB2 HM2 hb3
  have c4 := set_calls B2 M2 d2 tA t3 1 w3 HM3.out.cel (by decide) HM3.out.1.2.1 (by decide) (by decide)
  unfold SetPost at c4
  rw [al_n4, al_r4] at c4
  have C4 := Lib.hid c4
  clear c4
  go_wp2_with (fail)
  refine C4.out.mono ?_
  rintro e w4 ⟨B4, d4, rfl, hM4, hb4⟩
  have HB4 := Lib.hid (HB3.out.trans (hb4.mono HB3.out.size))
  have HM4 := Lib.hid (HM3.out.on hb4)
  clear C4 HB3 HM3 hb4 hM4
  have c5 := remove_calls B2 M2 d2 tB w4 HM4.out.cel (by decide) HM4.out.1.2.1
  rw [al_n5, al_r5] at c5
  have C5 := Lib.hid c5
  clear c5
  go_wp2_with (fail)
  refine C5.out.mono ?_
  rintro e w5 ⟨B5, d5, rfl, hM5, hb5⟩
  have HB5 := Lib.hid (HB4.out.trans (hb5.mono HB4.out.size))
  have HM5 := Lib.hid (HM4.out.on hb5)
  clear C5 HB4 HM4 hb5 hM5
  have c6 := keys_calls B2 M2 d2 w5 HM5.out.cel (by decide)
  rw [al_n6, al_r6] at c6
  have C6 := Lib.hid c6
  clear c6
  go_wp2_with (fail)
  refine C6.out.mono ?_
  rintro e w6 ⟨B6, d6, rfl, hK, hb6⟩
  have HB6 := Lib.hid (HB5.out.trans (hb6.mono HB5.out.size))
  have HM6 := Lib.hid (HM5.out.on hb6)
  clear C6 HB5 HM5 hb6
  obtain ⟨b, o, rfl, hlt, hcell⟩ := HM6.out.cel.xt (Nat.zero_lt_succ _)
  obtain ⟨f1, f2⟩ := hcell 0 _ rfl
  simp only [Nat.zero_mul, Nat.add_zero] at f1 f2
  obtain ⟨g, u, rfl, hlt2, hkc⟩ := hK.out.at0 (Nat.zero_lt_succ _)
  have f3 := hkc 1 _ rfl
  have cK := fun W => key_calls ⟨#[]⟩ W
  have cJ := fun W => key_calls ⟨#[107]⟩ W
  rw [keyN_empty] at cK
  rw [al_kK0] at cJ
  have CK := Lib.hid cK
  have CJ := Lib.hid cJ
  clear hcell hkc f2 cK cJ hK HM6
  go_wp2_with (fail)
  refine (CK.out _).mono ?_
  rintro e w7 ⟨rfl, rfl⟩
  go_wp2_with (fail)
  refine (CJ.out _).mono ?_
  rintro e w8 ⟨rfl, rfl⟩
  go_wp2_with (fail)
  go_ret
  exact ⟨rfl, HB6.out⟩
end Go.Proofs.Ythfafejjjmdpbaa
