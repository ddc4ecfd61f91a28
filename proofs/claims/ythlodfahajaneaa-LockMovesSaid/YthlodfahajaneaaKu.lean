/- As long as somebody waits, there is one who moves: the law. -/
import Derived.Test.YthlodfahajaneaaKt
import Derived.Deep.DeepCutAuto
import Derived.BigQuiet
set_option linter.unusedSimpArgs false
set_option linter.unusedVariables false
namespace Go.Proofs.Ythlodfahajaneaa
open Go Go.RowKit LockMath Go.Shelf
set_option maxRecDepth 100000 in
set_option maxHeartbeats 4000000 in
theorem moves_law (w : World) (A0 : Option Addr) (l : List St) (c : Nat) (hr : SRow w A0 l) (hlen : l.length ≤ 9223372036854775807) :
    Calls Try.prog 4 #[.slice A0 l.length c] w fun e w' => e = .returned (.bool true) ∧ Below w.heap.size w w' := by
  have CM := Lib.hid (made_calls w A0 l c hr hlen)
  obtain ⟨N, hN⟩ : ∃ N, l.length = N := ⟨_, rfl⟩
  rw [hN] at hlen CM ⊢
  clear hr hN
  by_cases hbig : 200 < N
  · have hbig2 : (200 : Int) < (N : Int) := by omega
    go_enter Try.func4, Try.ntmps4
    go_wp2_with (fail)
    refine (alive_calls _).mono ?_
    rintro e w' ⟨rfl, hb⟩
    replace hb := Lib.hid hb
    go_wp2_with (fail)
    go_ret
    exact ⟨rfl, hb.out⟩
  have hsm : ¬ ((200 : Int) < (N : Int)) := by omega
  clear hbig
  go_enter Try.func4, Try.ntmps4
  go_wp2_with (fail)
  refine CM.out.mono ?_
  rintro e w1 ⟨T, G, As, Q, rfl, h1, hQ⟩
  replace h1 := Lib.hid h1
  have HQ := Lib.hid hQ
  have HNM := Lib.hid h1.out.tb.nm
  clear CM hQ
  go_wp2_with (fail)
  go_loopg [4, 5, 6] 8 (fun g s4 s5 s6 wx => ∃ (k : Nat) (sB gB : Bool), k + g = 8 ∧ s6 = .int .i64 k ∧ s4 = .bool sB ∧ s5 = .bool gB ∧ Hid (someB Q k = sB) ∧ Hid (goesB Q k = gB) ∧ Hid (Lk w wx T G As 8 Q))
  case atStart => exact ⟨0, false, false, by omega, rfl, rfl, rfl, rfl, rfl, h1⟩
  case round =>
    obtain ⟨k, sB, gB, hkg, rfl, rfl, rfl, hS, hG, hT⟩ := hrel
    clear h1
    cases gk with
    | zero =>
      obtain rfl : k = 8 := by omega
      have hF : Hid (sB = true → gB = true) := Lib.hid (fun e => by
        rw [← hS.out] at e
        rw [← hG.out]
        exact some_goes HNM.out e)
      cases sB with
      | true =>
        have hg := hF.out rfl
        subst hg
        go_wp2_with (fail)
        refine (alive_calls _).mono ?_
        rintro e w' ⟨rfl, hb⟩
        replace hb := Lib.hid (hT.out.on.trans (hb.mono hT.out.on.size))
        go_wp2_with (fail)
        go_ret
        exact ⟨rfl, hb.out⟩
      | false =>
        go_wp2_with (fail)
        refine (alive_calls _).mono ?_
        rintro e w' ⟨rfl, hb⟩
        replace hb := Lib.hid (hT.out.on.trans (hb.mono hT.out.on.size))
        go_wp2_with (fail)
        go_ret
        exact ⟨rfl, hb.out⟩
    | succ g =>
      have hk8 : k < 8 := by omega
      obtain ⟨wv, hwv⟩ : ∃ wv : Int, (((waitsF Q (k : Int)).getD 0 : Nat) : Int) = wv := ⟨_, rfl⟩
      obtain ⟨wb, hwb⟩ : ∃ wb, (waitsF Q (k : Int)).isSome = wb := ⟨_, rfl⟩
      have HW : Hid (twoN (waitsF Q (k : Int)) = .tuple #[.int .i64 wv, .bool wb]) := Lib.hid (by unfold twoN; rw [hwv, hwb])
      have HUP : Hid (∀ j, wb = true → j < (ni (holdsL Q (k : Int))).length → (ni (holdsL Q (k : Int))).getD j 0 < wv) := Lib.hid (fun j e hj => by
        rw [ni_len] at hj
        cases hc : waitsF Q (k : Int) with
        | none => rw [hc] at hwb; rw [← hwb] at e; cases e
        | some v =>
          rw [hc] at hwv
          rw [← hwv]
          exact held_below HNM.out.inv hc hj)
      have HWB := Lib.hid hwb
      have hwv64 : 0 ≤ wv := by omega
      clear hwv hwb
      go_wp2_with (fail)
      refine (waits_calls hT.out.tb (k : Int)).mono ?_
      rw [HW.out]
      rintro e w' ⟨rfl, rfl⟩
      go_wp2_with (fail)
      refine (holds_calls hT.out.tb (k : Int)).mono ?_
      rintro e w2 ⟨R, cr, rfl, hO, hb2⟩
      replace hO := Lib.hid hO
      have h2 := Lib.hid (hT.out.below hb2)
      clear hT hb2
      obtain ⟨M, hM⟩ : ∃ M, (ni (holdsL Q (k : Int))).length = M := ⟨_, rfl⟩
      have HM := Lib.hid hM
      have hM12 : M ≤ 12 := by
        have := holds_len Q (k : Int)
        rw [ni_len] at hM
        have := HQ.out
        omega
      rw [hM]
      clear hM
      obtain ⟨sB2, hsB⟩ : ∃ b, (sB || wb) = b := ⟨_, rfl⟩
      have HS2 := Lib.hid hsB
      obtain ⟨gB2, hgB⟩ : ∃ b, (gB || (!wb && decide (0 < M))) = b := ⟨_, rfl⟩
      have HG2 := Lib.hid hgB
      clear hsB hgB
      go_upto_region 13 with (fail)
      go_cut [4] (fun s wx => s = .bool sB2 ∧ wx = w2)
      case first =>
        cases sB with
        | true =>
          obtain rfl : sB2 = true := by rw [← HS2.out]; rfl
          go_wp2_with (fail)
          go_meet
          exact ⟨rfl, rfl⟩
        | false =>
          obtain rfl : sB2 = wb := by rw [← HS2.out, Bool.false_or]
          go_wp2_with (fail)
          go_meet
          exact ⟨rfl, rfl⟩
      case rest =>
        obtain ⟨rfl, hw⟩ := hcut
        replace hw := hw.symm
        subst hw
        go_upto_region 14 with (fail)
        go_cut [5] (fun s wx => s = .bool gB2 ∧ wx = w2)
        case first =>
          cases gB with
          | true =>
            obtain rfl : gB2 = true := by rw [← HG2.out]; rfl
            go_wp2_with (fail)
            go_meet
            exact ⟨rfl, rfl⟩
          | false =>
            cases wb with
            | true =>
              obtain rfl : gB2 = false := by rw [← HG2.out]; rfl
              go_wp2_with (fail)
              go_meet
              exact ⟨rfl, rfl⟩
            | false =>
              obtain rfl : gB2 = decide (0 < M) := by rw [← HG2.out, Bool.false_or, Bool.not_false, Bool.true_and]
              go_wp2_with (fail)
              go_meet
              exact ⟨rfl, rfl⟩
        case rest =>
          obtain ⟨rfl, hw⟩ := hcut
          replace hw := hw.symm
          subst hw
          go_wp2_with (fail)
          go_loopg [10] M (fun g s10 wx => ∃ i : Nat, i + g = M ∧ s10 = .int .i64 i ∧ Hid (Below w2.heap.size w2 wx))
          case atStart => exact ⟨0, by omega, rfl, Lib.hid (Below.refl _ _)⟩
          case round =>
            obtain ⟨i, hig, rfl, hB⟩ := hrel
            cases gk with
            | succ g2 =>
              have hiM : i < M := by omega
              have hiM2 : (i : Int) < (M : Int) := by omega
              have hOB := hO.out.below hB.out
              obtain ⟨gb, rfl, yc⟩ := hOB.spot (k := i) (by rw [HM.out]; exact hiM)
              obtain ⟨x, hx⟩ : ∃ x, (ni (holdsL Q (k : Int))).getD i 0 = x := ⟨_, rfl⟩
              rw [hx] at yc
              have hUP : wb = true → x < wv := fun e => by
                have := HUP.out i e (by rw [HM.out]; exact hiM)
                rwa [hx] at this
              cases i with
              | zero =>
                clear hx hOB
                cases wb with
                | true =>
                  have hd : decide (wv ≤ x) = false := by simpa using hUP rfl
                  clear hUP
                  go_wp2_with (fail)
                  go_quiet (fail)
                  go_wp2_with (fail)
                  go_roundg g2
                  case measure => omega
                  case rel => exact ⟨1, by omega, by go_num, Lib.hid (below_drewN hB.out _)⟩
                | false =>
                  clear hUP
                  go_wp2_with (fail)
                  go_quiet (fail)
                  go_wp2_with (fail)
                  go_roundg g2
                  case measure => omega
                  case rel => exact ⟨1, by omega, by go_num, Lib.hid (below_drewN hB.out _)⟩
              | succ i =>
                obtain ⟨gb2, hgb2, yd⟩ := hOB.spot (k := i) (by rw [HM.out]; omega)
                injection hgb2 with hgb2
                injection hgb2 with hgb2
                subst hgb2
                obtain ⟨y, hy⟩ : ∃ y, (ni (holdsL Q (k : Int))).getD i 0 = y := ⟨_, rfl⟩
                rw [hy] at yd
                have hyx : y < x := by
                  have := held_rise (Q := Q) (p := (k : Int)) (k := i) (by have := HM.out; rw [ni_len] at this; omega)
                  rwa [hx, hy] at this
                have hd2 : decide (x ≤ y) = false := by simpa using hyx
                have hi1 : ((i + 1 : Nat) : Int) - 1 = (i : Int) := by omega
                have hi2 : (0 : Int) < ((i + 1 : Nat) : Int) := by omega
                have hi3 : decide ((0 : Int) < ((i + 1 : Nat) : Int)) = true := decide_eq_true hi2
                have hiM3 : (i : Int) < (M : Int) := by omega
                clear hx hy hyx hOB
                cases wb with
                | true =>
                  have hd : decide (wv ≤ x) = false := by simpa using hUP rfl
                  clear hUP
                  go_wp2_with (fail)
                  go_quiet (fail)
                  go_wp2_with (fail)
                  go_roundg g2
                  case measure => omega
                  case rel => exact ⟨i + 1 + 1, by omega, by go_num, Lib.hid (below_drewN hB.out _)⟩
                | false =>
                  clear hUP
                  go_wp2_with (fail)
                  go_quiet (fail)
                  go_wp2_with (fail)
                  go_roundg g2
                  case measure => omega
                  case rel => exact ⟨i + 1 + 1, by omega, by go_num, Lib.hid (below_drewN hB.out _)⟩
            | zero =>
              obtain rfl : i = M := by omega
              have h3 := Lib.hid (h2.out.below hB.out)
              clear h2 hO hB HUP
              go_wp2_with (fail)
              go_loopg [11, 12] 12 (fun g s11 s12 wx => ∃ id t : Nat, id + g = 12 ∧ s12 = .int .i64 id ∧ s11 = .int .i64 t ∧ t ≤ 1 ∧ Hid (tmL Q (k : Int) id = t) ∧ Hid (Lk w wx T G As 8 Q))
              case atStart => exact ⟨0, 0, by omega, rfl, rfl, by omega, rfl, h3⟩
              case round =>
                obtain ⟨id, t, hidg, rfl, rfl, ht1, ht, hT⟩ := hrel
                clear h3
                cases gk with
                | zero =>
                  obtain rfl : id = 12 := by omega
                  have hwt : (t == 1) = wb := by
                    rw [← ht.out, ← HWB.out, ← tm_waits HNM.out.inv (k : Int), HQ.out]
                  have hS3 : Hid (someB Q (k + 1) = sB2) := Lib.hid (by rw [some_succ, hS.out, HWB.out]; exact HS2.out)
                  have hG3 : Hid (goesB Q (k + 1) = gB2) := Lib.hid (by
                    have := HM.out
                    rw [ni_len] at this
                    rw [goes_succ, hG.out, HWB.out, this]; exact HG2.out)
                  cases wb with
                  | true =>
                    have ht3 : t = 1 := by simpa using hwt
                    subst ht3
                    clear hwt
                    go_wp2_with (fail)
                    go_roundg g
                    case measure => omega
                    case rel => exact ⟨k + 1, _, _, by omega, by go_num, rfl, rfl, hS3, hG3, hT⟩
                  | false =>
                    have ht3 : t = 0 := by
                      have : ¬ t = 1 := by simpa using hwt
                      omega
                    subst ht3
                    clear hwt
                    go_wp2_with (fail)
                    go_roundg g
                    case measure => omega
                    case rel => exact ⟨k + 1, _, _, by omega, by go_num, rfl, rfl, hS3, hG3, hT⟩
                | succ g3 =>
                  have hid12 : id < 12 := by omega
                  go_wp2_with (fail)
                  refine (queue_calls hT.out.tb (id : Int)).mono ?_
                  have hqq : queueL Q (id : Int) = qu Q id := by
                    unfold queueL
                    rw [if_pos (by omega), Int.toNat_natCast]
                  rw [hqq]
                  rintro e wq ⟨Rq, cq, rfl, hq, hbq⟩
                  have hT2 := Lib.hid (hT.out.below hbq)
                  clear hqq hT hbq
                  have hN1 := Lib.hid (cN_le (HNM.out.inv.once id) (k : Int))
                  have hT1 := Lib.hid (cT_all HNM.out.inv (k : Int) id)
                  have hl16 := HNM.out.len id
                  have HQI := Lib.hid hq
                  clear hq
                  generalize qu Q id = q at *
                  obtain ⟨L, hL⟩ : ∃ L, q.length = L := ⟨_, rfl⟩
                  have HL := Lib.hid hL
                  rw [hL] at hN1 hT1 hl16 ⊢
                  clear hL
                  go_wp2_with (fail)
                  go_loopg [11, 14, 15] L (fun g s11 s14 s15 wx => ∃ j a b : Nat, j + g = L ∧ s15 = .int .i64 j ∧ s14 = .int .i64 a ∧ s11 = .int .i64 b ∧ a ≤ j ∧ b ≤ 1 + j ∧ Hid (cN q (k : Int) j = a) ∧ Hid (t + cT q (k : Int) j = b) ∧ wx = wq)
                  case atStart => exact ⟨0, 0, t, by omega, rfl, rfl, rfl, by omega, by omega, Lib.hid (by simp [cN]), Lib.hid (by simp [cT]), rfl⟩
                  case round =>
                    obtain ⟨j, a, b, hjg, rfl, rfl, rfl, haj, hbj, ha, hb, rfl⟩ := hrel
                    cases gk with
                    | zero =>
                      obtain rfl : j = L := by omega
                      have ha1 : a ≤ 1 := by rw [← ha.out]; exact hN1.out
                      have hb2 : Hid (tmL Q (k : Int) (id + 1) = b) := Lib.hid (by
                        show tmL Q (k : Int) id + wE Q (k : Int) id = b
                        rw [← hT1.out, ht.out]; exact hb.out)
                      have hb1 : b ≤ 1 := by rw [← hb2.out]; exact (tm_le HNM.out.inv (k : Int) _).1
                      go_wp2_with (fail)
                      go_roundg g3
                      case measure => omega
                      case rel => exact ⟨id + 1, b, by omega, by go_num, rfl, hb1, hb2, hT2⟩
                    | succ g4 =>
                      have hjL : j < L := by omega
                      have hjL2 : (j : Int) < (L : Int) := by omega
                      obtain ⟨gq, rfl, yc⟩ := HQI.out.spot (k := j) (by rw [HL.out]; exact hjL)
                      have e1 := cN_succ (p := (k : Int)) (q := q) (k := j) (by rw [HL.out]; exact hjL)
                      have e2 := cT_succ (p := (k : Int)) (q := q) (k := j) (by rw [HL.out]; exact hjL)
                      rw [ha.out] at e1
                      generalize q.getD j 0 = x at *
                      by_cases hxp : x = (k : Int)
                      · subst hxp
                        rw [if_pos rfl] at e1
                        have E1 := Lib.hid e1
                        by_cases hj0 : j = 0
                        · subst hj0
                          rw [if_neg (fun h => absurd h.2 (Nat.lt_irrefl _))] at e2
                          have E2 : Hid (t + cT q (k : Int) (0 + 1) = b) := Lib.hid (by rw [e2, Nat.add_zero]; exact hb.out)
                          clear e1 e2
                          go_wp2_with (fail)
                          go_roundg g4
                          case measure => omega
                          case rel => exact ⟨0 + 1, a + 1, b, by omega, by go_num, by go_num, rfl, by omega, by omega, E1, E2, rfl⟩
                        · rw [if_pos ⟨rfl, by omega⟩] at e2
                          have E2 : Hid (t + cT q (k : Int) (j + 1) = b + 1) := Lib.hid (by rw [e2, ← Nat.add_assoc, hb.out])
                          have hj1 : (0 : Int) < (j : Int) := by omega
                          clear e1 e2 hj0
                          go_wp2_with (fail)
                          go_roundg g4
                          case measure => omega
                          case rel => exact ⟨j + 1, a + 1, b + 1, by omega, by go_num, by go_num, by go_num, by omega, by omega, E1, E2, rfl⟩
                      · rw [if_neg hxp] at e1
                        rw [if_neg (fun h => hxp h.1)] at e2
                        have E1 := Lib.hid e1
                        have E2 : Hid (t + cT q (k : Int) (j + 1) = b) := Lib.hid (by rw [e2, Nat.add_zero]; exact hb.out)
                        have hx2 : (x == (k : Int)) = false := by rw [beq_eq_false_iff_ne]; exact hxp
                        clear e1 e2 hxp
                        go_wp2_with (fail)
                        go_roundg g4
                        case measure => omega
                        case rel => exact ⟨j + 1, a, b, by omega, by go_num, rfl, rfl, by omega, by omega, E1, E2, rfl⟩
end Go.Proofs.Ythlodfahajaneaa
