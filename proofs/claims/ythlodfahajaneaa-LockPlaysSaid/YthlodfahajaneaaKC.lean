/- Do both tables tell the same? -/
import Derived.Test.YthlodfahajaneaaKB
import Derived.Test.YthlodfahajaneaaKA
import Derived.Test.YthlodfahajaneaaKw
set_option linter.unusedSimpArgs false
set_option linter.unusedVariables false
namespace Go.Proofs.Ythlodfahajaneaa
open Go Go.RowKit LockMath Go.Shelf
set_option maxRecDepth 100000 in
set_option maxHeartbeats 4000000 in
theorem same_calls {w0 w : World} {T G T' G' : Nat} {As As' : List (Option Addr × Nat)} {Q : List (List Int)} {n : Int} (h : Pt w0 w T G As Q T' G' As' Q n) :
    Calls Try.prog 15 #[.pointer (some ⟨T, 0, none⟩), .pointer (some ⟨T', 0, none⟩)] w fun e w' => e = .returned (.bool true) ∧ Below w.heap.size w w' := by
  have HP := Lib.hid h
  have HNM := Lib.hid h.tb.nm
  have hm := h.tb.nm.l1
  have hn1 := h.tb.nm.n0
  have hn2 := h.tb.nm.n1
  obtain ⟨m, hM⟩ : ∃ m, Q.length = m := ⟨_, rfl⟩
  have HM := Lib.hid hM
  obtain ⟨nn, hnn⟩ : ∃ nn : Nat, n = (nn : Int) := ⟨n.toNat, by omega⟩
  subst hnn
  rw [hM] at hm
  clear h hM
  go_enter Try.func15, Try.ntmps15
  go_wp2_with (fail)
  go_loopg [5] (m + 2) (fun g s5 wx => ∃ (k : Nat) (i : Int), k + g = m + 2 ∧ s5 = .int .i64 i ∧ Hid (i = (k : Int) - 1) ∧ Hid (Below w.heap.size w wx))
  case atStart => exact ⟨0, -1, by omega, rfl, Lib.hid rfl, Lib.hid (Below.refl _ _)⟩
  case round =>
    obtain ⟨k, i, hkg, rfl, hi, HB⟩ := hrel
    have hP := Lib.hid (HP.out.below HB.out)
    have y0 := hP.out.rb.c0
    rw [HM.out] at y0
    cases gk with
    | zero =>
      have hik : i = (m : Int) + 1 := by have := hi.out; omega
      subst hik
      have hle : ¬ ((m : Int) + 1 ≤ (m : Int)) := by omega
      have hle2 : decide ((m : Int) + 1 ≤ (m : Int)) = false := decide_eq_false hle
      clear hP
      go_wp2_with (fail)
      clear y0
      go_loopg [8] (nn + 2) (fun g s8 wx => ∃ (k : Nat) (p : Int), k + g = nn + 2 ∧ s8 = .int .i64 p ∧ Hid (p = (k : Int) - 1) ∧ Hid (Below w.heap.size w wx))
      case atStart => exact ⟨0, -1, by omega, rfl, Lib.hid rfl, HB⟩
      case round =>
        clear HB hi
        obtain ⟨k, p, hkg, rfl, hp, HB⟩ := hrel
        have hP := Lib.hid (HP.out.below HB.out)
        have y1 := hP.out.rb.c1
        cases gk with
        | zero =>
          have hpk : p = (nn : Int) + 1 := by have := hp.out; omega
          subst hpk
          have hle : ¬ ((nn : Int) + 1 ≤ (nn : Int)) := by omega
          have hle2 : decide ((nn : Int) + 1 ≤ (nn : Int)) = false := decide_eq_false hle
          go_wp2_with (fail)
          go_ret
          exact ⟨rfl, HB.out⟩
        | succ g =>
          have hpn : p ≤ (nn : Int) := by have := hp.out; omega
          have hp1 : -1 ≤ p := by have := hp.out; omega
          obtain ⟨wv, hwv⟩ : ∃ wv : Int, (((waitsF Q p).getD 0 : Nat) : Int) = wv := ⟨_, rfl⟩
          obtain ⟨wb, hwb⟩ : ∃ wb, (waitsF Q p).isSome = wb := ⟨_, rfl⟩
          have HW : Hid (twoN (waitsF Q p) = .tuple #[.int .i64 wv, .bool wb]) := Lib.hid (by unfold twoN; rw [hwv, hwb])
          have hwne : (wv != wv) = false := by simp
          have hbne : (wb != wb) = false := by simp
          clear hwv hwb
          go_wp2_with (fail)
          refine (waits_calls hP.out.tb p).mono ?_
          rw [HW.out]
          rintro e w' ⟨rfl, rfl⟩
          go_wp2_with (fail)
          refine (rwaits_calls hP.out.rb p).mono ?_
          rw [HW.out]
          rintro e w' ⟨rfl, rfl⟩
          clear y1
          go_wp2_with (fail)
          refine (holds_calls hP.out.tb p).mono ?_
          rintro e w3 ⟨R3, c3, rfl, hO3, hb3⟩
          have hP3 := Lib.hid (hP.out.below hb3)
          have HB3 := Lib.hid (HB.out.trans (hb3.mono HB.out.size))
          replace hO3 := Lib.hid hO3
          clear hP hb3
          go_wp2_with (fail)
          refine (rholds_calls hP3.out.rb p).mono ?_
          rintro e w4 ⟨R4, c4, rfl, hO4, hb4⟩
          have HB4 := Lib.hid (HB3.out.trans (hb4.mono HB3.out.size))
          have hr3 := Lib.hid (hO3.out.cel.below hb4)
          replace hO4 := Lib.hid hO4.cel
          clear hP3 hb4 hO3
          go_wp2_with (fail)
          refine (isame_at (q := ni (holdsL Q p)) ⟨R3, c3, rfl, hr3.out⟩ ⟨R4, c4, rfl, hO4.out⟩ (by rw [ni_len]; have := holds_len Q p; have := HM.out; omega)).mono ?_
          rintro e w5 ⟨rfl, qn, rfl⟩
          have HB5 := Lib.hid (below_drewN HB4.out qn)
          go_wp2_with (fail)
          go_roundg g
          case measure => omega
          case rel => exact ⟨k + 1, p + 1, by omega, by go_num, Lib.hid (by have := hp.out; omega), HB5⟩
    | succ g =>
      rcases Nat.eq_zero_or_pos k with hk0 | hk0
      · have hik : i = -1 := by have := hi.out; omega
        subst hik
        have ho : headO Q (-1) = none := rfl
        have hq : queueL Q (-1) = [] := rfl
        go_wp2_with (fail)
        refine (holder_calls hP.out.tb (-1)).mono ?_
        rw [ho, show two none = .tuple #[.int .i64 0, .bool false] from rfl]
        rintro e w' ⟨rfl, rfl⟩
        go_wp2_with (fail)
        refine (queue_calls hP.out.tb (-1)).mono ?_
        rw [hq]
        rintro e w3 ⟨R3, c3, rfl, _, hb3⟩
        have HB3 := Lib.hid (HB.out.trans (hb3.mono HB.out.size))
        rw [show ([] : List Int).length = 0 from rfl]
        clear hP y0 hb3
        go_wp2_with (fail)
        go_roundg g
        case measure => omega
        case rel => exact ⟨k + 1, 0, by omega, by go_num, Lib.hid (by omega), HB3⟩
      · by_cases hkm : k = m + 1
        · have hik : i = (m : Int) := by have := hi.out; omega
          subst hik
          have hout : qu Q m = [] := qu_out (by rw [HM.out]; exact Nat.le_refl _)
          have ho : headO Q (m : Int) = none := by
            unfold headO
            rw [if_pos (by omega), Int.toNat_natCast, hout]; rfl
          have hq : queueL Q (m : Int) = [] := by rw [queueL_nat, hout]
          go_wp2_with (fail)
          refine (holder_calls hP.out.tb (m : Int)).mono ?_
          rw [ho, show two none = .tuple #[.int .i64 0, .bool false] from rfl]
          rintro e w' ⟨rfl, rfl⟩
          go_wp2_with (fail)
          refine (queue_calls hP.out.tb (m : Int)).mono ?_
          rw [hq]
          rintro e w3 ⟨R3, c3, rfl, _, hb3⟩
          have HB3 := Lib.hid (HB.out.trans (hb3.mono HB.out.size))
          rw [show ([] : List Int).length = 0 from rfl]
          clear hP y0 hb3
          go_wp2_with (fail)
          go_roundg g
          case measure => omega
          case rel => exact ⟨k + 1, (m : Int) + 1, by omega, by go_num, Lib.hid (by omega), HB3⟩
        · obtain ⟨j, rfl⟩ : ∃ j, k = j + 1 := ⟨k - 1, by omega⟩
          have hik : i = (j : Int) := by have := hi.out; omega
          subst hik
          have hjm : j < m := by omega
          have hjm2 : (j : Int) < (m : Int) := by omega
          have hjm3 : (j : Int) ≤ (m : Int) := by omega
          have hjm4 : ((j : Int) == (m : Int)) = false := by rw [beq_eq_false_iff_ne]; omega
          have hjm5 : decide ((j : Int) < 0) = false := decide_eq_false (by omega)
          have hjm6 : ¬ j = m := by omega
          have hjm7 : (j == m) = false := by rw [beq_eq_false_iff_ne]; exact hjm6
          clear hk0 hkm
          have HCQ : Hid (∀ u, Below wr.heap.size wr u → Calls Try.prog 19 #[.pointer (some ⟨T, 0, none⟩), .int .i64 (j : Int)] u (GivesI (qu Q j) u)) := Lib.hid (fun u hu => by
            have := queue_calls (hP.out.tb.below hu) (j : Int)
            rwa [queueL_nat] at this)
          have HL16 : Hid ((qu Q j).length ≤ 1000) := Lib.hid (Nat.le_trans (HNM.out.len j) (by decide))
          have hjQ : j < Q.length := by rw [HM.out]; exact hjm
          have yT := hP.out.rb.c0
          rw [HM.out] at yT
          have yG := hP.out.rb.tg.q.cell hjQ
          have hltT := hP.out.rb.tg.ltT
          have hltG := hP.out.rb.tg.q.ltG
          have hn16 := HNM.out.len j
          have HHD : Hid (headO Q (j : Int) = (qu Q j).head?) := Lib.hid (by
            unfold headO
            rw [if_pos (by omega), Int.toNat_natCast])
          obtain ⟨N, hNN⟩ : ∃ N, (qu Q j).length = N := ⟨_, rfl⟩
          have HRW : Hid (RowAt (qu Q j) (.slice (qA As' j) N (qC As' j)) wr) := Lib.hid ⟨_, _, by rw [hNN], hP.out.rb.tg.q.row hjQ⟩
          rw [hNN] at yG hn16
          have HNN := Lib.hid hNN
          have hAT : Hid (0 < N → ∃ gx, qA As' j = some ⟨gx, 0, none⟩ ∧ gx < wr.heap.size ∧ wr.cell? ⟨gx, 0, none⟩ = some (.int .i64 ((qu Q j).getD 0 0))) := Lib.hid (fun h0 => by
            obtain ⟨gx, e1, e2⟩ := hP.out.rb.tg.q.at hjQ (k := 0) (by rw [hNN]; exact h0)
            exact ⟨gx, e1, hP.out.rb.tg.q.lt hjQ e1, e2⟩)
          clear hNN hjQ
          generalize qA As' j = A at *
          generalize qC As' j = C at *
          go_wp2_with (fail)
          refine (holder_calls hP.out.tb (j : Int)).mono ?_
          rw [HHD.out]
          rintro e w' ⟨rfl, rfl⟩
          clear hP
          cases hh : (qu Q j).head? with
          | none =>
            have hN0 : N = 0 := by
              rw [List.head?_eq_none_iff] at hh
              rw [← HNN.out, hh]; rfl
            have hN : ¬ ((0 : Int) < (N : Int)) := by omega
            rw [show two none = .tuple #[.int .i64 0, .bool false] from rfl]
            have hN2 : N = 0 := hN0
            clear hh hN0 hAT
            go_wp2_with (fail)
            refine wp_region4 [.val (.pointer (some ⟨T, 0, none⟩)), .val (.int .i64 (j : Nat)), .row (qu Q j), .val (.pointer (some ⟨T', 0, none⟩)), .val (.pointer (some ⟨T', 0, none⟩)), .val (.pointer (some ⟨T', 0, none⟩)), .val (.slice (some ⟨G', 0, none⟩) m m), .val (.int .i64 (j : Nat)), .val (.pointer (some ⟨G', j, none⟩)), .val (.slice A N C), .val (.bool true), .val (.bool false), .val (.bool false), .val (.bool false), .val (.pointer (some ⟨T', 0, none⟩)), .val (.pointer (some ⟨T', 0, none⟩)), .val (.pointer (some ⟨T', 0, none⟩)), .val (.slice (some ⟨G', 0, none⟩) m m), .val (.int .i64 (j : Nat)), .val (.pointer (some ⟨G', j, none⟩)), .val (.slice A N C), .val (.int .i64 (N : Nat)), .val (.bool false), .val (.bool false), .val (.bool false), .val (.bool false), .val (.bool false), .val (.bool false), .any, .any, .any, .any, .any, .any, .any, .any, .any, .any, .any, .val (.bool false), .val (.bool false), .val (.bool false), .val (.bool false), .val (.bool true), .val (.bool true), .val (.int .i64 0), .val (.bool false), .val (.bool false), .val (.bool false)] (by kernel_rfl) (by kernel_rfl) (by rfl) ?steps ?fin
            case steps =>
              refine ⟨?s0, ?s1, ?s2, ?s3, ?s4, ?s5, ?s6, ?s7, ?s8, ?s9, ?s10, ?s11, ?s12, ?s13, ?s14, ?s15, ?s16, ?s17, ?s18, ?s19, ?s20, ?s21, ?s22, ?s23, ?s24, ?s25, ?s26, ?s27, ?s28, ?s29, ?s30, ?s31, ?s32, ?s33, ?s34, ?s35, ?s36, ?s37, ?s38, ?s39, ?s40, ?s41, ?s42, ?s43, ?s44, ?s45, ?s46, ?s47, ?s48, trivial⟩
              case s0 =>
                refine st4_val (.pointer (some ⟨T, 0, none⟩)) rfl (.inl rfl) (fun ac u hT hA hd => ?_)
                have q0 := ev_of (show ac.eval (.tmp 0) = .pointer (some ⟨T, 0, none⟩) from hA.eval 0 rfl)
                unfold execOp
                simp [go_sem, q0]
              case s1 =>
                refine st4_val (.int .i64 (j : Nat)) rfl (.inl rfl) (fun ac u hT hA hd => ?_)
                have q0 := ev_of (show ac.eval (.tmp 5) = .int .i64 (j : Nat) from hA.eval 5 rfl)
                unfold execOp
                simp [go_sem, q0]
              case s2 =>
                refine st4_call (.row (qu Q j)) rfl (.inl rfl) 19 (fun ac u hT hA hd => ?_)
                have q0 := ev_of (show ac.eval (.tmp 51) = .pointer (some ⟨T, 0, none⟩) from hd 0 51 rfl rfl _ rfl)
                have q1 := ev_of (show ac.eval (.tmp 52) = .int .i64 (j : Nat) from hd 1 52 rfl rfl _ rfl)
                refine ⟨#[.pointer (some ⟨T, 0, none⟩), .int .i64 (j : Nat)], ?_, (HCQ.out u (hT)).mono ?_⟩
                · unfold execOp
                  simp [go_sem, q0, q1]
                · rintro e w2 ⟨R2, c2, rfl, hO2, hb2⟩
                  exact ⟨_, rfl, ⟨R2, c2, rfl, hO2.cel⟩, hb2⟩
              case s3 =>
                refine st4_val (.pointer (some ⟨T', 0, none⟩)) rfl (.inl rfl) (fun ac u hT hA hd => ?_)
                have q0 := ev_of (show ac.eval (.tmp 1) = .pointer (some ⟨T', 0, none⟩) from hA.eval 1 rfl)
                unfold execOp
                simp [go_sem, q0]
              case s4 =>
                refine st4_val (.pointer (some ⟨T', 0, none⟩)) rfl (.inl rfl) (fun ac u hT hA hd => ?_)
                have q0 := ev_of (show ac.eval (.tmp 54) = .pointer (some ⟨T', 0, none⟩) from hd 3 54 rfl rfl _ rfl)
                unfold execOp
                simp [go_sem, q0]
              case s5 =>
                refine st4_val (.pointer (some ⟨T', 0, none⟩)) rfl (.inl rfl) (fun ac u hT hA hd => ?_)
                have q0 := ev_of (show ac.eval (.tmp 55) = .pointer (some ⟨T', 0, none⟩) from hd 4 55 rfl rfl _ rfl)
                unfold execOp
                simp [go_sem, q0]
              case s6 =>
                refine st4_val (.slice (some ⟨G', 0, none⟩) m m) rfl (.inl rfl) (fun ac u hT hA hd => ?_)
                have q0 := ev_of (show ac.eval (.tmp 56) = .pointer (some ⟨T', 0, none⟩) from hd 5 56 rfl rfl _ rfl)
                have y0 := (hT.cell (p := ⟨T', 0, none⟩) hltT).trans yT
                unfold execOp
                simp [go_sem, q0, y0]
              case s7 =>
                refine st4_val (.int .i64 (j : Nat)) rfl (.inl rfl) (fun ac u hT hA hd => ?_)
                have q0 := ev_of (show ac.eval (.tmp 5) = .int .i64 (j : Nat) from hA.eval 5 rfl)
                unfold execOp
                simp [go_sem, q0]
              case s8 =>
                refine st4_val (.pointer (some ⟨G', j, none⟩)) rfl (.inl rfl) (fun ac u hT hA hd => ?_)
                have q0 := ev_of (show ac.eval (.tmp 57) = .slice (some ⟨G', 0, none⟩) m m from hd 6 57 rfl rfl _ rfl)
                have q1 := ev_of (show ac.eval (.tmp 58) = .int .i64 (j : Nat) from hd 7 58 rfl rfl _ rfl)
                unfold execOp
                simp [go_sem, q0, q1, hjm2]
              case s9 =>
                refine st4_val (.slice A N C) rfl (.inl rfl) (fun ac u hT hA hd => ?_)
                have q0 := ev_of (show ac.eval (.tmp 59) = .pointer (some ⟨G', j, none⟩) from hd 8 59 rfl rfl _ rfl)
                have y0 := (hT.cell (p := ⟨G', j, none⟩) hltG).trans yG
                unfold execOp
                simp [go_sem, q0, y0]
              case s10 =>
                refine st4_call (.val (.bool true)) rfl (.inl rfl) 21 (fun ac u hT hA hd => ?_)
                obtain ⟨R2, c2, e2, hc2⟩ := hd 2 53 rfl rfl _ rfl
                have q0 := ev_of e2
                have q1 := ev_of (show ac.eval (.tmp 60) = .slice A N C from hd 9 60 rfl rfl _ rfl)
                refine ⟨#[.slice R2 (qu Q j).length c2, .slice A N C], ?_, (isame_at ⟨R2, c2, rfl, hc2⟩ (HRW.out.below hT) HL16.out).mono ?_⟩
                · unfold execOp
                  simp [go_sem, q0, q1]
                · rintro e w2 ⟨rfl, qn, rfl⟩
                  exact ⟨_, rfl, rfl, below_drewN (Below.refl _ _) qn⟩
              case s11 =>
                refine st4_val (.bool false) rfl (.inl rfl) (fun ac u hT hA hd => ?_)
                have q0 := ev_of (show ac.eval (.tmp 61) = .bool true from hd 10 61 rfl rfl _ rfl)
                unfold execOp
                simp [go_sem, q0]
              case s12 =>
                refine st4_val (.bool false) rfl (.inl rfl) (fun ac u hT hA hd => ?_)
                have q0 := ev_of (show ac.eval (.tmp 62) = .bool false from hd 11 62 rfl rfl _ rfl)
                unfold execOp
                simp [go_sem, q0]
              case s13 =>
                refine st4_val (.bool false) rfl (.inr ⟨12, 63, false, rfl, rfl, rfl, rfl⟩) (fun ac u hT hA hd => ?_)
                have q0 := ev_of (show ac.eval (.tmp 7) = .bool false from hA.eval 7 rfl)
                unfold execOp
                simp [go_sem, q0]
              case s14 =>
                refine st4_val (.pointer (some ⟨T', 0, none⟩)) rfl (.inr ⟨12, 63, false, rfl, rfl, rfl, rfl⟩) (fun ac u hT hA hd => ?_)
                have q0 := ev_of (show ac.eval (.tmp 1) = .pointer (some ⟨T', 0, none⟩) from hA.eval 1 rfl)
                unfold execOp
                simp [go_sem, q0]
              case s15 =>
                refine st4_val (.pointer (some ⟨T', 0, none⟩)) rfl (.inr ⟨12, 63, false, rfl, rfl, rfl, rfl⟩) (fun ac u hT hA hd => ?_)
                have q0 := ev_of (show ac.eval (.tmp 65) = .pointer (some ⟨T', 0, none⟩) from hd 14 65 rfl rfl _ rfl)
                unfold execOp
                simp [go_sem, q0]
              case s16 =>
                refine st4_val (.pointer (some ⟨T', 0, none⟩)) rfl (.inr ⟨12, 63, false, rfl, rfl, rfl, rfl⟩) (fun ac u hT hA hd => ?_)
                have q0 := ev_of (show ac.eval (.tmp 66) = .pointer (some ⟨T', 0, none⟩) from hd 15 66 rfl rfl _ rfl)
                unfold execOp
                simp [go_sem, q0]
              case s17 =>
                refine st4_val (.slice (some ⟨G', 0, none⟩) m m) rfl (.inr ⟨12, 63, false, rfl, rfl, rfl, rfl⟩) (fun ac u hT hA hd => ?_)
                have q0 := ev_of (show ac.eval (.tmp 67) = .pointer (some ⟨T', 0, none⟩) from hd 16 67 rfl rfl _ rfl)
                have y0 := (hT.cell (p := ⟨T', 0, none⟩) hltT).trans yT
                unfold execOp
                simp [go_sem, q0, y0]
              case s18 =>
                refine st4_val (.int .i64 (j : Nat)) rfl (.inr ⟨12, 63, false, rfl, rfl, rfl, rfl⟩) (fun ac u hT hA hd => ?_)
                have q0 := ev_of (show ac.eval (.tmp 5) = .int .i64 (j : Nat) from hA.eval 5 rfl)
                unfold execOp
                simp [go_sem, q0]
              case s19 =>
                refine st4_val (.pointer (some ⟨G', j, none⟩)) rfl (.inr ⟨12, 63, false, rfl, rfl, rfl, rfl⟩) (fun ac u hT hA hd => ?_)
                have q0 := ev_of (show ac.eval (.tmp 68) = .slice (some ⟨G', 0, none⟩) m m from hd 17 68 rfl rfl _ rfl)
                have q1 := ev_of (show ac.eval (.tmp 69) = .int .i64 (j : Nat) from hd 18 69 rfl rfl _ rfl)
                unfold execOp
                simp [go_sem, q0, q1, hjm2]
              case s20 =>
                refine st4_val (.slice A N C) rfl (.inr ⟨12, 63, false, rfl, rfl, rfl, rfl⟩) (fun ac u hT hA hd => ?_)
                have q0 := ev_of (show ac.eval (.tmp 70) = .pointer (some ⟨G', j, none⟩) from hd 19 70 rfl rfl _ rfl)
                have y0 := (hT.cell (p := ⟨G', j, none⟩) hltG).trans yG
                unfold execOp
                simp [go_sem, q0, y0]
              case s21 =>
                refine st4_val (.int .i64 (N : Nat)) rfl (.inr ⟨12, 63, false, rfl, rfl, rfl, rfl⟩) (fun ac u hT hA hd => ?_)
                have q0 := ev_of (show ac.eval (.tmp 71) = .slice A N C from hd 20 71 rfl rfl _ rfl)
                unfold execOp
                simp [go_sem, q0]
              case s22 =>
                refine st4_val (.bool false) rfl (.inr ⟨12, 63, false, rfl, rfl, rfl, rfl⟩) (fun ac u hT hA hd => ?_)
                have q0 := ev_of (show ac.eval (.tmp 72) = .int .i64 (N : Nat) from hd 21 72 rfl rfl _ rfl)
                unfold execOp
                simp [go_sem, q0, hN, hN2]
              case s23 =>
                refine st4_val (.bool false) rfl (.inr ⟨12, 63, false, rfl, rfl, rfl, rfl⟩) (fun ac u hT hA hd => ?_)
                have q0 := ev_of (show ac.eval (.tmp 64) = .bool false from hd 13 64 rfl rfl _ rfl)
                have q1 := ev_of (show ac.eval (.tmp 73) = .bool false from hd 22 73 rfl rfl _ rfl)
                unfold execOp
                simp [go_sem, q0, q1]
              case s24 =>
                refine st4_val (.bool false) rfl (.inl rfl) (fun ac u hT hA hd => ?_)
                have q0 := ev_of (show ac.eval (.tmp 63) = .bool false from hd 12 63 rfl rfl _ rfl)
                have q1 := ev_of (show ac.eval (.tmp 74) = .bool false from hd 23 74 rfl rfl _ rfl)
                unfold execOp
                simp [go_sem, q0, q1]
              case s25 =>
                refine st4_val (.bool false) rfl (.inl rfl) (fun ac u hT hA hd => ?_)
                have q0 := ev_of (show ac.eval (.tmp 75) = .bool false from hd 24 75 rfl rfl _ rfl)
                unfold execOp
                simp [go_sem, q0]
              case s26 =>
                refine st4_val (.bool false) rfl (.inr ⟨25, 76, false, rfl, rfl, rfl, rfl⟩) (fun ac u hT hA hd => ?_)
                have q0 := ev_of (show ac.eval (.tmp 7) = .bool false from hA.eval 7 rfl)
                unfold execOp
                simp [go_sem, q0]
              case s27 =>
                refine st4_val (.bool false) rfl (.inr ⟨25, 76, false, rfl, rfl, rfl, rfl⟩) (fun ac u hT hA hd => ?_)
                have q0 := ev_of (show ac.eval (.tmp 77) = .bool false from hd 26 77 rfl rfl _ rfl)
                unfold execOp
                simp [go_sem, q0]
              case s28 =>
                exact st4_skip 27 78 false rfl rfl rfl rfl rfl
              case s29 =>
                exact st4_skip 27 78 false rfl rfl rfl rfl rfl
              case s30 =>
                exact st4_skip 27 78 false rfl rfl rfl rfl rfl
              case s31 =>
                exact st4_skip 27 78 false rfl rfl rfl rfl rfl
              case s32 =>
                exact st4_skip 27 78 false rfl rfl rfl rfl rfl
              case s33 =>
                exact st4_skip 27 78 false rfl rfl rfl rfl rfl
              case s34 =>
                exact st4_skip 27 78 false rfl rfl rfl rfl rfl
              case s35 =>
                exact st4_skip 27 78 false rfl rfl rfl rfl rfl
              case s36 =>
                exact st4_skip 27 78 false rfl rfl rfl rfl rfl
              case s37 =>
                exact st4_skip 27 78 false rfl rfl rfl rfl rfl
              case s38 =>
                exact st4_skip 27 78 false rfl rfl rfl rfl rfl
              case s39 =>
                refine st4_val (.bool false) rfl (.inr ⟨25, 76, false, rfl, rfl, rfl, rfl⟩) (fun ac u hT hA hd => ?_)
                have q0 := ev_of (show ac.eval (.tmp 78) = .bool false from hd 27 78 rfl rfl _ rfl)
                unfold execOp
                simp [go_sem, q0]
              case s40 =>
                refine st4_val (.bool false) rfl (.inl rfl) (fun ac u hT hA hd => ?_)
                have q0 := ev_of (show ac.eval (.tmp 76) = .bool false from hd 25 76 rfl rfl _ rfl)
                have q1 := ev_of (show ac.eval (.tmp 90) = .bool false from hd 39 90 rfl rfl _ rfl)
                unfold execOp
                simp [go_sem, q0, q1]
              case s41 =>
                refine st4_val (.bool false) rfl (.inl rfl) (fun ac u hT hA hd => ?_)
                have q0 := ev_of (show ac.eval (.tmp 91) = .bool false from hd 40 91 rfl rfl _ rfl)
                unfold execOp
                simp [go_sem, q0]
              case s42 =>
                refine st4_val (.bool false) rfl (.inr ⟨41, 92, false, rfl, rfl, rfl, rfl⟩) (fun ac u hT hA hd => ?_)
                have q0 := ev_of (show ac.eval (.tmp 7) = .bool false from hA.eval 7 rfl)
                unfold execOp
                simp [go_sem, q0]
              case s43 =>
                refine st4_val (.bool true) rfl (.inr ⟨41, 92, false, rfl, rfl, rfl, rfl⟩) (fun ac u hT hA hd => ?_)
                have q0 := ev_of (show ac.eval (.tmp 93) = .bool false from hd 42 93 rfl rfl _ rfl)
                unfold execOp
                simp [go_sem, q0]
              case s44 =>
                refine st4_val (.bool true) rfl (.inr ⟨41, 92, false, rfl, rfl, rfl, rfl⟩) (fun ac u hT hA hd => ?_)
                have q0 := ev_of (show ac.eval (.tmp 94) = .bool true from hd 43 94 rfl rfl _ rfl)
                unfold execOp
                simp [go_sem, q0]
              case s45 =>
                refine st4_val (.int .i64 0) rfl (.inr ⟨44, 95, true, rfl, rfl, rfl, rfl⟩) (fun ac u hT hA hd => ?_)
                have q0 := ev_of (show ac.eval (.tmp 6) = .int .i64 0 from hA.eval 6 rfl)
                unfold execOp
                simp [go_sem, q0]
              case s46 =>
                refine st4_val (.bool false) rfl (.inr ⟨44, 95, true, rfl, rfl, rfl, rfl⟩) (fun ac u hT hA hd => ?_)
                have q0 := ev_of (show ac.eval (.tmp 96) = .int .i64 0 from hd 45 96 rfl rfl _ rfl)
                unfold execOp
                simp [go_sem, q0]
              case s47 =>
                refine st4_val (.bool false) rfl (.inr ⟨41, 92, false, rfl, rfl, rfl, rfl⟩) (fun ac u hT hA hd => ?_)
                have q0 := ev_of (show ac.eval (.tmp 95) = .bool true from hd 44 95 rfl rfl _ rfl)
                have q1 := ev_of (show ac.eval (.tmp 97) = .bool false from hd 46 97 rfl rfl _ rfl)
                unfold execOp
                simp [go_sem, q0, q1]
              case s48 =>
                refine st4_val (.bool false) rfl (.inl rfl) (fun ac u hT hA hd => ?_)
                have q0 := ev_of (show ac.eval (.tmp 92) = .bool false from hd 41 92 rfl rfl _ rfl)
                have q1 := ev_of (show ac.eval (.tmp 98) = .bool false from hd 47 98 rfl rfl _ rfl)
                unfold execOp
                simp [go_sem, q0, q1]
            case fin =>
              intro vs u hb hR
              have e0 : vs 0 = .pointer (some ⟨T, 0, none⟩) := hR 0 (by decide)
              have e1 : vs 1 = .int .i64 (j : Nat) := hR 1 (by decide)
              have e3 : vs 3 = .pointer (some ⟨T', 0, none⟩) := hR 3 (by decide)
              have e4 : vs 4 = .pointer (some ⟨T', 0, none⟩) := hR 4 (by decide)
              have e5 : vs 5 = .pointer (some ⟨T', 0, none⟩) := hR 5 (by decide)
              have e6 : vs 6 = .slice (some ⟨G', 0, none⟩) m m := hR 6 (by decide)
              have e7 : vs 7 = .int .i64 (j : Nat) := hR 7 (by decide)
              have e8 : vs 8 = .pointer (some ⟨G', j, none⟩) := hR 8 (by decide)
              have e9 : vs 9 = .slice A N C := hR 9 (by decide)
              have e10 : vs 10 = .bool true := hR 10 (by decide)
              have e11 : vs 11 = .bool false := hR 11 (by decide)
              have e12 : vs 12 = .bool false := hR 12 (by decide)
              have e13 : vs 13 = .bool false := hR 13 (by decide)
              have e14 : vs 14 = .pointer (some ⟨T', 0, none⟩) := hR 14 (by decide)
              have e15 : vs 15 = .pointer (some ⟨T', 0, none⟩) := hR 15 (by decide)
              have e16 : vs 16 = .pointer (some ⟨T', 0, none⟩) := hR 16 (by decide)
              have e17 : vs 17 = .slice (some ⟨G', 0, none⟩) m m := hR 17 (by decide)
              have e18 : vs 18 = .int .i64 (j : Nat) := hR 18 (by decide)
              have e19 : vs 19 = .pointer (some ⟨G', j, none⟩) := hR 19 (by decide)
              have e20 : vs 20 = .slice A N C := hR 20 (by decide)
              have e21 : vs 21 = .int .i64 (N : Nat) := hR 21 (by decide)
              have e22 : vs 22 = .bool false := hR 22 (by decide)
              have e23 : vs 23 = .bool false := hR 23 (by decide)
              have e24 : vs 24 = .bool false := hR 24 (by decide)
              have e25 : vs 25 = .bool false := hR 25 (by decide)
              have e26 : vs 26 = .bool false := hR 26 (by decide)
              have e27 : vs 27 = .bool false := hR 27 (by decide)
              have e39 : vs 39 = .bool false := hR 39 (by decide)
              have e40 : vs 40 = .bool false := hR 40 (by decide)
              have e41 : vs 41 = .bool false := hR 41 (by decide)
              have e42 : vs 42 = .bool false := hR 42 (by decide)
              have e43 : vs 43 = .bool true := hR 43 (by decide)
              have e44 : vs 44 = .bool true := hR 44 (by decide)
              have e45 : vs 45 = .int .i64 0 := hR 45 (by decide)
              have e46 : vs 46 = .bool false := hR 46 (by decide)
              have e47 : vs 47 = .bool false := hR 47 (by decide)
              have e48 : vs 48 = .bool false := hR 48 (by decide)
              simp only [putsFrom, Act.put, List.setIfInBounds_toArray, List.set_cons_succ, List.set_cons_zero, Nat.reduceAdd, e0, e1, e3, e4, e5, e6, e7, e8, e9, e10, e11, e12, e13, e14, e15, e16, e17, e18, e19, e20, e21, e22, e23, e24, e25, e26, e27, e39, e40, e41, e42, e43, e44, e45, e46, e47, e48]
              generalize vs 2 = z2 at *
              generalize vs 28 = z28 at *
              generalize vs 29 = z29 at *
              generalize vs 30 = z30 at *
              generalize vs 31 = z31 at *
              generalize vs 32 = z32 at *
              generalize vs 33 = z33 at *
              generalize vs 34 = z34 at *
              generalize vs 35 = z35 at *
              generalize vs 36 = z36 at *
              generalize vs 37 = z37 at *
              generalize vs 38 = z38 at *
              clear e0 e1 e3 e4 e5 e6 e7 e8 e9 e10 e11 e12 e13 e14 e15 e16 e17 e18 e19 e20 e21 e22 e23 e24 e25 e26 e27 e39 e40 e41 e42 e43 e44 e45 e46 e47 e48 hR
              have HB2 := Lib.hid (HB.out.trans ((show Below wr.heap.size wr u from hb).mono HB.out.size))
              go_wp2_with (fail)
              go_roundg g
              case measure => omega
              case rel => exact ⟨j + 1 + 1, (j : Int) + 1, by omega, by go_num, Lib.hid (by omega), HB2⟩
          | some x =>
            have hN0 : 0 < N := by
              rw [← HNN.out]
              cases hq : qu Q j with
              | nil => rw [hq] at hh; cases hh
              | cons a r => simp
            have hN : (0 : Int) < (N : Int) := by omega
            obtain ⟨gx, hA0, hltX, yX⟩ := hAT.out hN0
            have hx0 : (qu Q j).getD 0 0 = x := by
              cases hq : qu Q j with
              | nil => rw [hq] at hh; cases hh
              | cons a r => rw [hq] at hh; injection hh
            rw [hx0] at yX
            rw [show two (some x) = .tuple #[.int .i64 x, .bool true] from rfl]
            have hN2 : 0 < N := hN0
            have hN3 : ¬ N = 0 := by omega
            clear hh hx0 hAT
            go_wp2_with (fail)
            refine wp_region4 [.val (.pointer (some ⟨T, 0, none⟩)), .val (.int .i64 (j : Nat)), .row (qu Q j), .val (.pointer (some ⟨T', 0, none⟩)), .val (.pointer (some ⟨T', 0, none⟩)), .val (.pointer (some ⟨T', 0, none⟩)), .val (.slice (some ⟨G', 0, none⟩) m m), .val (.int .i64 (j : Nat)), .val (.pointer (some ⟨G', j, none⟩)), .val (.slice A N C), .val (.bool true), .val (.bool false), .val (.bool false), .val (.bool true), .val (.pointer (some ⟨T', 0, none⟩)), .val (.pointer (some ⟨T', 0, none⟩)), .val (.pointer (some ⟨T', 0, none⟩)), .val (.slice (some ⟨G', 0, none⟩) m m), .val (.int .i64 (j : Nat)), .val (.pointer (some ⟨G', j, none⟩)), .val (.slice A N C), .val (.int .i64 (N : Nat)), .val (.bool true), .val (.bool false), .val (.bool false), .val (.bool false), .val (.bool true), .val (.bool true), .val (.int .i64 x), .val (.pointer (some ⟨T', 0, none⟩)), .val (.pointer (some ⟨T', 0, none⟩)), .val (.pointer (some ⟨T', 0, none⟩)), .val (.slice (some ⟨G', 0, none⟩) m m), .val (.int .i64 (j : Nat)), .val (.pointer (some ⟨G', j, none⟩)), .val (.slice A N C), .val (.pointer (some ⟨gx, 0, none⟩)), .val (.int .i64 x), .val (.bool false), .val (.bool false), .val (.bool false), .val (.bool false), .val (.bool true), .val (.bool false), .val (.bool false), .any, .any, .val (.bool false), .val (.bool false)] (by kernel_rfl) (by kernel_rfl) (by rfl) ?steps ?fin
            case steps =>
              refine ⟨?s0, ?s1, ?s2, ?s3, ?s4, ?s5, ?s6, ?s7, ?s8, ?s9, ?s10, ?s11, ?s12, ?s13, ?s14, ?s15, ?s16, ?s17, ?s18, ?s19, ?s20, ?s21, ?s22, ?s23, ?s24, ?s25, ?s26, ?s27, ?s28, ?s29, ?s30, ?s31, ?s32, ?s33, ?s34, ?s35, ?s36, ?s37, ?s38, ?s39, ?s40, ?s41, ?s42, ?s43, ?s44, ?s45, ?s46, ?s47, ?s48, trivial⟩
              case s0 =>
                refine st4_val (.pointer (some ⟨T, 0, none⟩)) rfl (.inl rfl) (fun ac u hT hA hd => ?_)
                have q0 := ev_of (show ac.eval (.tmp 0) = .pointer (some ⟨T, 0, none⟩) from hA.eval 0 rfl)
                unfold execOp
                simp [go_sem, q0]
              case s1 =>
                refine st4_val (.int .i64 (j : Nat)) rfl (.inl rfl) (fun ac u hT hA hd => ?_)
                have q0 := ev_of (show ac.eval (.tmp 5) = .int .i64 (j : Nat) from hA.eval 5 rfl)
                unfold execOp
                simp [go_sem, q0]
              case s2 =>
                refine st4_call (.row (qu Q j)) rfl (.inl rfl) 19 (fun ac u hT hA hd => ?_)
                have q0 := ev_of (show ac.eval (.tmp 51) = .pointer (some ⟨T, 0, none⟩) from hd 0 51 rfl rfl _ rfl)
                have q1 := ev_of (show ac.eval (.tmp 52) = .int .i64 (j : Nat) from hd 1 52 rfl rfl _ rfl)
                refine ⟨#[.pointer (some ⟨T, 0, none⟩), .int .i64 (j : Nat)], ?_, (HCQ.out u (hT)).mono ?_⟩
                · unfold execOp
                  simp [go_sem, q0, q1]
                · rintro e w2 ⟨R2, c2, rfl, hO2, hb2⟩
                  exact ⟨_, rfl, ⟨R2, c2, rfl, hO2.cel⟩, hb2⟩
              case s3 =>
                refine st4_val (.pointer (some ⟨T', 0, none⟩)) rfl (.inl rfl) (fun ac u hT hA hd => ?_)
                have q0 := ev_of (show ac.eval (.tmp 1) = .pointer (some ⟨T', 0, none⟩) from hA.eval 1 rfl)
                unfold execOp
                simp [go_sem, q0]
              case s4 =>
                refine st4_val (.pointer (some ⟨T', 0, none⟩)) rfl (.inl rfl) (fun ac u hT hA hd => ?_)
                have q0 := ev_of (show ac.eval (.tmp 54) = .pointer (some ⟨T', 0, none⟩) from hd 3 54 rfl rfl _ rfl)
                unfold execOp
                simp [go_sem, q0]
              case s5 =>
                refine st4_val (.pointer (some ⟨T', 0, none⟩)) rfl (.inl rfl) (fun ac u hT hA hd => ?_)
                have q0 := ev_of (show ac.eval (.tmp 55) = .pointer (some ⟨T', 0, none⟩) from hd 4 55 rfl rfl _ rfl)
                unfold execOp
                simp [go_sem, q0]
              case s6 =>
                refine st4_val (.slice (some ⟨G', 0, none⟩) m m) rfl (.inl rfl) (fun ac u hT hA hd => ?_)
                have q0 := ev_of (show ac.eval (.tmp 56) = .pointer (some ⟨T', 0, none⟩) from hd 5 56 rfl rfl _ rfl)
                have y0 := (hT.cell (p := ⟨T', 0, none⟩) hltT).trans yT
                unfold execOp
                simp [go_sem, q0, y0]
              case s7 =>
                refine st4_val (.int .i64 (j : Nat)) rfl (.inl rfl) (fun ac u hT hA hd => ?_)
                have q0 := ev_of (show ac.eval (.tmp 5) = .int .i64 (j : Nat) from hA.eval 5 rfl)
                unfold execOp
                simp [go_sem, q0]
              case s8 =>
                refine st4_val (.pointer (some ⟨G', j, none⟩)) rfl (.inl rfl) (fun ac u hT hA hd => ?_)
                have q0 := ev_of (show ac.eval (.tmp 57) = .slice (some ⟨G', 0, none⟩) m m from hd 6 57 rfl rfl _ rfl)
                have q1 := ev_of (show ac.eval (.tmp 58) = .int .i64 (j : Nat) from hd 7 58 rfl rfl _ rfl)
                unfold execOp
                simp [go_sem, q0, q1, hjm2]
              case s9 =>
                refine st4_val (.slice A N C) rfl (.inl rfl) (fun ac u hT hA hd => ?_)
                have q0 := ev_of (show ac.eval (.tmp 59) = .pointer (some ⟨G', j, none⟩) from hd 8 59 rfl rfl _ rfl)
                have y0 := (hT.cell (p := ⟨G', j, none⟩) hltG).trans yG
                unfold execOp
                simp [go_sem, q0, y0]
              case s10 =>
                refine st4_call (.val (.bool true)) rfl (.inl rfl) 21 (fun ac u hT hA hd => ?_)
                obtain ⟨R2, c2, e2, hc2⟩ := hd 2 53 rfl rfl _ rfl
                have q0 := ev_of e2
                have q1 := ev_of (show ac.eval (.tmp 60) = .slice A N C from hd 9 60 rfl rfl _ rfl)
                refine ⟨#[.slice R2 (qu Q j).length c2, .slice A N C], ?_, (isame_at ⟨R2, c2, rfl, hc2⟩ (HRW.out.below hT) HL16.out).mono ?_⟩
                · unfold execOp
                  simp [go_sem, q0, q1]
                · rintro e w2 ⟨rfl, qn, rfl⟩
                  exact ⟨_, rfl, rfl, below_drewN (Below.refl _ _) qn⟩
              case s11 =>
                refine st4_val (.bool false) rfl (.inl rfl) (fun ac u hT hA hd => ?_)
                have q0 := ev_of (show ac.eval (.tmp 61) = .bool true from hd 10 61 rfl rfl _ rfl)
                unfold execOp
                simp [go_sem, q0]
              case s12 =>
                refine st4_val (.bool false) rfl (.inl rfl) (fun ac u hT hA hd => ?_)
                have q0 := ev_of (show ac.eval (.tmp 62) = .bool false from hd 11 62 rfl rfl _ rfl)
                unfold execOp
                simp [go_sem, q0]
              case s13 =>
                refine st4_val (.bool true) rfl (.inr ⟨12, 63, false, rfl, rfl, rfl, rfl⟩) (fun ac u hT hA hd => ?_)
                have q0 := ev_of (show ac.eval (.tmp 7) = .bool true from hA.eval 7 rfl)
                unfold execOp
                simp [go_sem, q0]
              case s14 =>
                refine st4_val (.pointer (some ⟨T', 0, none⟩)) rfl (.inr ⟨12, 63, false, rfl, rfl, rfl, rfl⟩) (fun ac u hT hA hd => ?_)
                have q0 := ev_of (show ac.eval (.tmp 1) = .pointer (some ⟨T', 0, none⟩) from hA.eval 1 rfl)
                unfold execOp
                simp [go_sem, q0]
              case s15 =>
                refine st4_val (.pointer (some ⟨T', 0, none⟩)) rfl (.inr ⟨12, 63, false, rfl, rfl, rfl, rfl⟩) (fun ac u hT hA hd => ?_)
                have q0 := ev_of (show ac.eval (.tmp 65) = .pointer (some ⟨T', 0, none⟩) from hd 14 65 rfl rfl _ rfl)
                unfold execOp
                simp [go_sem, q0]
              case s16 =>
                refine st4_val (.pointer (some ⟨T', 0, none⟩)) rfl (.inr ⟨12, 63, false, rfl, rfl, rfl, rfl⟩) (fun ac u hT hA hd => ?_)
                have q0 := ev_of (show ac.eval (.tmp 66) = .pointer (some ⟨T', 0, none⟩) from hd 15 66 rfl rfl _ rfl)
                unfold execOp
                simp [go_sem, q0]
              case s17 =>
                refine st4_val (.slice (some ⟨G', 0, none⟩) m m) rfl (.inr ⟨12, 63, false, rfl, rfl, rfl, rfl⟩) (fun ac u hT hA hd => ?_)
                have q0 := ev_of (show ac.eval (.tmp 67) = .pointer (some ⟨T', 0, none⟩) from hd 16 67 rfl rfl _ rfl)
                have y0 := (hT.cell (p := ⟨T', 0, none⟩) hltT).trans yT
                unfold execOp
                simp [go_sem, q0, y0]
              case s18 =>
                refine st4_val (.int .i64 (j : Nat)) rfl (.inr ⟨12, 63, false, rfl, rfl, rfl, rfl⟩) (fun ac u hT hA hd => ?_)
                have q0 := ev_of (show ac.eval (.tmp 5) = .int .i64 (j : Nat) from hA.eval 5 rfl)
                unfold execOp
                simp [go_sem, q0]
              case s19 =>
                refine st4_val (.pointer (some ⟨G', j, none⟩)) rfl (.inr ⟨12, 63, false, rfl, rfl, rfl, rfl⟩) (fun ac u hT hA hd => ?_)
                have q0 := ev_of (show ac.eval (.tmp 68) = .slice (some ⟨G', 0, none⟩) m m from hd 17 68 rfl rfl _ rfl)
                have q1 := ev_of (show ac.eval (.tmp 69) = .int .i64 (j : Nat) from hd 18 69 rfl rfl _ rfl)
                unfold execOp
                simp [go_sem, q0, q1, hjm2]
              case s20 =>
                refine st4_val (.slice A N C) rfl (.inr ⟨12, 63, false, rfl, rfl, rfl, rfl⟩) (fun ac u hT hA hd => ?_)
                have q0 := ev_of (show ac.eval (.tmp 70) = .pointer (some ⟨G', j, none⟩) from hd 19 70 rfl rfl _ rfl)
                have y0 := (hT.cell (p := ⟨G', j, none⟩) hltG).trans yG
                unfold execOp
                simp [go_sem, q0, y0]
              case s21 =>
                refine st4_val (.int .i64 (N : Nat)) rfl (.inr ⟨12, 63, false, rfl, rfl, rfl, rfl⟩) (fun ac u hT hA hd => ?_)
                have q0 := ev_of (show ac.eval (.tmp 71) = .slice A N C from hd 20 71 rfl rfl _ rfl)
                unfold execOp
                simp [go_sem, q0]
              case s22 =>
                refine st4_val (.bool true) rfl (.inr ⟨12, 63, false, rfl, rfl, rfl, rfl⟩) (fun ac u hT hA hd => ?_)
                have q0 := ev_of (show ac.eval (.tmp 72) = .int .i64 (N : Nat) from hd 21 72 rfl rfl _ rfl)
                unfold execOp
                simp [go_sem, q0, hN, hN2]
              case s23 =>
                refine st4_val (.bool false) rfl (.inr ⟨12, 63, false, rfl, rfl, rfl, rfl⟩) (fun ac u hT hA hd => ?_)
                have q0 := ev_of (show ac.eval (.tmp 64) = .bool true from hd 13 64 rfl rfl _ rfl)
                have q1 := ev_of (show ac.eval (.tmp 73) = .bool true from hd 22 73 rfl rfl _ rfl)
                unfold execOp
                simp [go_sem, q0, q1]
              case s24 =>
                refine st4_val (.bool false) rfl (.inl rfl) (fun ac u hT hA hd => ?_)
                have q0 := ev_of (show ac.eval (.tmp 63) = .bool false from hd 12 63 rfl rfl _ rfl)
                have q1 := ev_of (show ac.eval (.tmp 74) = .bool false from hd 23 74 rfl rfl _ rfl)
                unfold execOp
                simp [go_sem, q0, q1]
              case s25 =>
                refine st4_val (.bool false) rfl (.inl rfl) (fun ac u hT hA hd => ?_)
                have q0 := ev_of (show ac.eval (.tmp 75) = .bool false from hd 24 75 rfl rfl _ rfl)
                unfold execOp
                simp [go_sem, q0]
              case s26 =>
                refine st4_val (.bool true) rfl (.inr ⟨25, 76, false, rfl, rfl, rfl, rfl⟩) (fun ac u hT hA hd => ?_)
                have q0 := ev_of (show ac.eval (.tmp 7) = .bool true from hA.eval 7 rfl)
                unfold execOp
                simp [go_sem, q0]
              case s27 =>
                refine st4_val (.bool true) rfl (.inr ⟨25, 76, false, rfl, rfl, rfl, rfl⟩) (fun ac u hT hA hd => ?_)
                have q0 := ev_of (show ac.eval (.tmp 77) = .bool true from hd 26 77 rfl rfl _ rfl)
                unfold execOp
                simp [go_sem, q0]
              case s28 =>
                refine st4_val (.int .i64 x) rfl (.inr ⟨27, 78, true, rfl, rfl, rfl, rfl⟩) (fun ac u hT hA hd => ?_)
                have q0 := ev_of (show ac.eval (.tmp 6) = .int .i64 x from hA.eval 6 rfl)
                unfold execOp
                simp [go_sem, q0]
              case s29 =>
                refine st4_val (.pointer (some ⟨T', 0, none⟩)) rfl (.inr ⟨27, 78, true, rfl, rfl, rfl, rfl⟩) (fun ac u hT hA hd => ?_)
                have q0 := ev_of (show ac.eval (.tmp 1) = .pointer (some ⟨T', 0, none⟩) from hA.eval 1 rfl)
                unfold execOp
                simp [go_sem, q0]
              case s30 =>
                refine st4_val (.pointer (some ⟨T', 0, none⟩)) rfl (.inr ⟨27, 78, true, rfl, rfl, rfl, rfl⟩) (fun ac u hT hA hd => ?_)
                have q0 := ev_of (show ac.eval (.tmp 80) = .pointer (some ⟨T', 0, none⟩) from hd 29 80 rfl rfl _ rfl)
                unfold execOp
                simp [go_sem, q0]
              case s31 =>
                refine st4_val (.pointer (some ⟨T', 0, none⟩)) rfl (.inr ⟨27, 78, true, rfl, rfl, rfl, rfl⟩) (fun ac u hT hA hd => ?_)
                have q0 := ev_of (show ac.eval (.tmp 81) = .pointer (some ⟨T', 0, none⟩) from hd 30 81 rfl rfl _ rfl)
                unfold execOp
                simp [go_sem, q0]
              case s32 =>
                refine st4_val (.slice (some ⟨G', 0, none⟩) m m) rfl (.inr ⟨27, 78, true, rfl, rfl, rfl, rfl⟩) (fun ac u hT hA hd => ?_)
                have q0 := ev_of (show ac.eval (.tmp 82) = .pointer (some ⟨T', 0, none⟩) from hd 31 82 rfl rfl _ rfl)
                have y0 := (hT.cell (p := ⟨T', 0, none⟩) hltT).trans yT
                unfold execOp
                simp [go_sem, q0, y0]
              case s33 =>
                refine st4_val (.int .i64 (j : Nat)) rfl (.inr ⟨27, 78, true, rfl, rfl, rfl, rfl⟩) (fun ac u hT hA hd => ?_)
                have q0 := ev_of (show ac.eval (.tmp 5) = .int .i64 (j : Nat) from hA.eval 5 rfl)
                unfold execOp
                simp [go_sem, q0]
              case s34 =>
                refine st4_val (.pointer (some ⟨G', j, none⟩)) rfl (.inr ⟨27, 78, true, rfl, rfl, rfl, rfl⟩) (fun ac u hT hA hd => ?_)
                have q0 := ev_of (show ac.eval (.tmp 83) = .slice (some ⟨G', 0, none⟩) m m from hd 32 83 rfl rfl _ rfl)
                have q1 := ev_of (show ac.eval (.tmp 84) = .int .i64 (j : Nat) from hd 33 84 rfl rfl _ rfl)
                unfold execOp
                simp [go_sem, q0, q1, hjm2]
              case s35 =>
                refine st4_val (.slice A N C) rfl (.inr ⟨27, 78, true, rfl, rfl, rfl, rfl⟩) (fun ac u hT hA hd => ?_)
                have q0 := ev_of (show ac.eval (.tmp 85) = .pointer (some ⟨G', j, none⟩) from hd 34 85 rfl rfl _ rfl)
                have y0 := (hT.cell (p := ⟨G', j, none⟩) hltG).trans yG
                unfold execOp
                simp [go_sem, q0, y0]
              case s36 =>
                refine st4_val (.pointer (some ⟨gx, 0, none⟩)) rfl (.inr ⟨27, 78, true, rfl, rfl, rfl, rfl⟩) (fun ac u hT hA hd => ?_)
                have q0 := ev_of (show ac.eval (.tmp 86) = .slice A N C from hd 35 86 rfl rfl _ rfl)
                unfold execOp
                simp [go_sem, q0, hA0, hN, hN3]
              case s37 =>
                refine st4_val (.int .i64 x) rfl (.inr ⟨27, 78, true, rfl, rfl, rfl, rfl⟩) (fun ac u hT hA hd => ?_)
                have q0 := ev_of (show ac.eval (.tmp 87) = .pointer (some ⟨gx, 0, none⟩) from hd 36 87 rfl rfl _ rfl)
                have y0 := (hT.cell (p := ⟨gx, 0, none⟩) hltX).trans yX
                unfold execOp
                simp [go_sem, q0, y0]
              case s38 =>
                refine st4_val (.bool false) rfl (.inr ⟨27, 78, true, rfl, rfl, rfl, rfl⟩) (fun ac u hT hA hd => ?_)
                have q0 := ev_of (show ac.eval (.tmp 79) = .int .i64 x from hd 28 79 rfl rfl _ rfl)
                have q1 := ev_of (show ac.eval (.tmp 88) = .int .i64 x from hd 37 88 rfl rfl _ rfl)
                unfold execOp
                simp [go_sem, q0, q1]
              case s39 =>
                refine st4_val (.bool false) rfl (.inr ⟨25, 76, false, rfl, rfl, rfl, rfl⟩) (fun ac u hT hA hd => ?_)
                have q0 := ev_of (show ac.eval (.tmp 78) = .bool true from hd 27 78 rfl rfl _ rfl)
                have q1 := ev_of (show ac.eval (.tmp 89) = .bool false from hd 38 89 rfl rfl _ rfl)
                unfold execOp
                simp [go_sem, q0, q1]
              case s40 =>
                refine st4_val (.bool false) rfl (.inl rfl) (fun ac u hT hA hd => ?_)
                have q0 := ev_of (show ac.eval (.tmp 76) = .bool false from hd 25 76 rfl rfl _ rfl)
                have q1 := ev_of (show ac.eval (.tmp 90) = .bool false from hd 39 90 rfl rfl _ rfl)
                unfold execOp
                simp [go_sem, q0, q1]
              case s41 =>
                refine st4_val (.bool false) rfl (.inl rfl) (fun ac u hT hA hd => ?_)
                have q0 := ev_of (show ac.eval (.tmp 91) = .bool false from hd 40 91 rfl rfl _ rfl)
                unfold execOp
                simp [go_sem, q0]
              case s42 =>
                refine st4_val (.bool true) rfl (.inr ⟨41, 92, false, rfl, rfl, rfl, rfl⟩) (fun ac u hT hA hd => ?_)
                have q0 := ev_of (show ac.eval (.tmp 7) = .bool true from hA.eval 7 rfl)
                unfold execOp
                simp [go_sem, q0]
              case s43 =>
                refine st4_val (.bool false) rfl (.inr ⟨41, 92, false, rfl, rfl, rfl, rfl⟩) (fun ac u hT hA hd => ?_)
                have q0 := ev_of (show ac.eval (.tmp 93) = .bool true from hd 42 93 rfl rfl _ rfl)
                unfold execOp
                simp [go_sem, q0]
              case s44 =>
                refine st4_val (.bool false) rfl (.inr ⟨41, 92, false, rfl, rfl, rfl, rfl⟩) (fun ac u hT hA hd => ?_)
                have q0 := ev_of (show ac.eval (.tmp 94) = .bool false from hd 43 94 rfl rfl _ rfl)
                unfold execOp
                simp [go_sem, q0]
              case s45 =>
                exact st4_skip 44 95 false rfl rfl rfl rfl rfl
              case s46 =>
                exact st4_skip 44 95 false rfl rfl rfl rfl rfl
              case s47 =>
                refine st4_val (.bool false) rfl (.inr ⟨41, 92, false, rfl, rfl, rfl, rfl⟩) (fun ac u hT hA hd => ?_)
                have q0 := ev_of (show ac.eval (.tmp 95) = .bool false from hd 44 95 rfl rfl _ rfl)
                unfold execOp
                simp [go_sem, q0]
              case s48 =>
                refine st4_val (.bool false) rfl (.inl rfl) (fun ac u hT hA hd => ?_)
                have q0 := ev_of (show ac.eval (.tmp 92) = .bool false from hd 41 92 rfl rfl _ rfl)
                have q1 := ev_of (show ac.eval (.tmp 98) = .bool false from hd 47 98 rfl rfl _ rfl)
                unfold execOp
                simp [go_sem, q0, q1]
            case fin =>
              intro vs u hb hR
              have e0 : vs 0 = .pointer (some ⟨T, 0, none⟩) := hR 0 (by decide)
              have e1 : vs 1 = .int .i64 (j : Nat) := hR 1 (by decide)
              have e3 : vs 3 = .pointer (some ⟨T', 0, none⟩) := hR 3 (by decide)
              have e4 : vs 4 = .pointer (some ⟨T', 0, none⟩) := hR 4 (by decide)
              have e5 : vs 5 = .pointer (some ⟨T', 0, none⟩) := hR 5 (by decide)
              have e6 : vs 6 = .slice (some ⟨G', 0, none⟩) m m := hR 6 (by decide)
              have e7 : vs 7 = .int .i64 (j : Nat) := hR 7 (by decide)
              have e8 : vs 8 = .pointer (some ⟨G', j, none⟩) := hR 8 (by decide)
              have e9 : vs 9 = .slice A N C := hR 9 (by decide)
              have e10 : vs 10 = .bool true := hR 10 (by decide)
              have e11 : vs 11 = .bool false := hR 11 (by decide)
              have e12 : vs 12 = .bool false := hR 12 (by decide)
              have e13 : vs 13 = .bool true := hR 13 (by decide)
              have e14 : vs 14 = .pointer (some ⟨T', 0, none⟩) := hR 14 (by decide)
              have e15 : vs 15 = .pointer (some ⟨T', 0, none⟩) := hR 15 (by decide)
              have e16 : vs 16 = .pointer (some ⟨T', 0, none⟩) := hR 16 (by decide)
              have e17 : vs 17 = .slice (some ⟨G', 0, none⟩) m m := hR 17 (by decide)
              have e18 : vs 18 = .int .i64 (j : Nat) := hR 18 (by decide)
              have e19 : vs 19 = .pointer (some ⟨G', j, none⟩) := hR 19 (by decide)
              have e20 : vs 20 = .slice A N C := hR 20 (by decide)
              have e21 : vs 21 = .int .i64 (N : Nat) := hR 21 (by decide)
              have e22 : vs 22 = .bool true := hR 22 (by decide)
              have e23 : vs 23 = .bool false := hR 23 (by decide)
              have e24 : vs 24 = .bool false := hR 24 (by decide)
              have e25 : vs 25 = .bool false := hR 25 (by decide)
              have e26 : vs 26 = .bool true := hR 26 (by decide)
              have e27 : vs 27 = .bool true := hR 27 (by decide)
              have e28 : vs 28 = .int .i64 x := hR 28 (by decide)
              have e29 : vs 29 = .pointer (some ⟨T', 0, none⟩) := hR 29 (by decide)
              have e30 : vs 30 = .pointer (some ⟨T', 0, none⟩) := hR 30 (by decide)
              have e31 : vs 31 = .pointer (some ⟨T', 0, none⟩) := hR 31 (by decide)
              have e32 : vs 32 = .slice (some ⟨G', 0, none⟩) m m := hR 32 (by decide)
              have e33 : vs 33 = .int .i64 (j : Nat) := hR 33 (by decide)
              have e34 : vs 34 = .pointer (some ⟨G', j, none⟩) := hR 34 (by decide)
              have e35 : vs 35 = .slice A N C := hR 35 (by decide)
              have e36 : vs 36 = .pointer (some ⟨gx, 0, none⟩) := hR 36 (by decide)
              have e37 : vs 37 = .int .i64 x := hR 37 (by decide)
              have e38 : vs 38 = .bool false := hR 38 (by decide)
              have e39 : vs 39 = .bool false := hR 39 (by decide)
              have e40 : vs 40 = .bool false := hR 40 (by decide)
              have e41 : vs 41 = .bool false := hR 41 (by decide)
              have e42 : vs 42 = .bool true := hR 42 (by decide)
              have e43 : vs 43 = .bool false := hR 43 (by decide)
              have e44 : vs 44 = .bool false := hR 44 (by decide)
              have e47 : vs 47 = .bool false := hR 47 (by decide)
              have e48 : vs 48 = .bool false := hR 48 (by decide)
              simp only [putsFrom, Act.put, List.setIfInBounds_toArray, List.set_cons_succ, List.set_cons_zero, Nat.reduceAdd, e0, e1, e3, e4, e5, e6, e7, e8, e9, e10, e11, e12, e13, e14, e15, e16, e17, e18, e19, e20, e21, e22, e23, e24, e25, e26, e27, e28, e29, e30, e31, e32, e33, e34, e35, e36, e37, e38, e39, e40, e41, e42, e43, e44, e47, e48]
              generalize vs 2 = z2 at *
              generalize vs 45 = z45 at *
              generalize vs 46 = z46 at *
              clear e0 e1 e3 e4 e5 e6 e7 e8 e9 e10 e11 e12 e13 e14 e15 e16 e17 e18 e19 e20 e21 e22 e23 e24 e25 e26 e27 e28 e29 e30 e31 e32 e33 e34 e35 e36 e37 e38 e39 e40 e41 e42 e43 e44 e47 e48 hR
              have HB2 := Lib.hid (HB.out.trans ((show Below wr.heap.size wr u from hb).mono HB.out.size))
              go_wp2_with (fail)
              go_roundg g
              case measure => omega
              case rel => exact ⟨j + 1 + 1, (j : Int) + 1, by omega, by go_num, Lib.hid (by omega), HB2⟩
end Go.Proofs.Ythlodfahajaneaa
