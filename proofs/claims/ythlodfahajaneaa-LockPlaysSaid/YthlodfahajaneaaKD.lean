/- Whoever asks, whoever is freed: the program's table answers as the document's: the law. -/
import Derived.Test.YthlodfahajaneaaKC
import Derived.Test.YthlodfahajaneaaZj
import Derived.Test.YthlodfahajaneaaKr
import Derived.Deep.DeepCutAuto
set_option linter.unusedSimpArgs false
set_option linter.unusedVariables false
namespace Go.Proofs.Ythlodfahajaneaa
open Go Go.RowKit LockMath Go.Shelf
set_option maxRecDepth 100000 in
set_option maxHeartbeats 4000000 in
theorem plays_law (w : World) (a b : Int) (A0 : Option Addr) (l : List St) (c : Nat) (hr : SRow w A0 l) (hlen : l.length ≤ 9223372036854775807) :
    Calls Try.prog 3 #[.int .i64 a, .int .i64 b, .slice A0 l.length c] w fun e w' => e = .returned (.bool true) ∧ Below w.heap.size w w' := by
  have HR := Lib.hid hr
  obtain ⟨N, hN⟩ : ∃ N, l.length = N := ⟨_, rfl⟩
  have HL := Lib.hid hN
  rw [hN] at hlen ⊢
  clear hr hN
  by_cases hbig : 200 < N
  · have hbig2 : (200 : Int) < (N : Int) := by omega
    go_enter Try.func3, Try.ntmps3
    go_wp2_with (fail)
    refine (alive_calls _).mono ?_
    rintro e w' ⟨rfl, hb⟩
    replace hb := Lib.hid hb
    go_wp2_with (fail)
    go_ret
    exact ⟨rfl, hb.out⟩
  have hsm : ¬ ((200 : Int) < (N : Int)) := by omega
  clear hbig
  cases hmt : mayT a b with
  | false =>
    have CN := Lib.hid (new_bad a b w hmt)
    have CR := Lib.hid (rnew_bad a b w hmt)
    clear hmt
    go_enter Try.func3, Try.ntmps3
    go_wp2_with (fail)
    refine CN.out.mono ?_
    rintro e w' ⟨rfl, rfl⟩
    go_wp2_with (fail)
    refine CR.out.mono ?_
    rintro e w' ⟨rfl, rfl⟩
    clear CN CR
    go_wp2_with (fail)
    refine (alive_calls _).mono ?_
    rintro e w' ⟨rfl, hb⟩
    replace hb := Lib.hid hb
    go_wp2_with (fail)
    go_ret
    exact ⟨rfl, hb.out⟩
  | true =>
    obtain ⟨m, rfl⟩ := Int.eq_ofNat_of_zero_le (show 0 ≤ a by have := of_decide_eq_true hmt; omega)
    have CN := Lib.hid (new_calls m b w hmt)
    have CR := Lib.hid (fun u => rnew_calls m b u hmt)
    clear hmt
    go_enter Try.func3, Try.ntmps3
    go_wp2_with (fail)
    refine CN.out.mono ?_
    rintro e w1 ⟨T, G, rfl, h1, hb1⟩
    replace h1 := Lib.hid h1
    replace hb1 := Lib.hid hb1
    clear CN
    go_wp2_with (fail)
    refine (CR.out w1).mono ?_
    rintro e w2 ⟨T', G', rfl, h2, hb2⟩
    have HP0 := Lib.hid (Pt.start h1.out hb1.out h2 hb2)
    clear CR h1 hb1 h2 hb2
    generalize List.replicate m ((none, 0) : Option Addr × Nat) = As0 at *
    generalize List.replicate m ([] : List Int) = Q0 at *
    go_wp2_with (fail)
    go_loopg [10] N (fun g s10 wx => ∃ (k : Nat) (As As' : List (Option Addr × Nat)) (Q : List (List Int)), k + g = N ∧ s10 = .int .i64 k ∧ Hid (Pt w wx T G As Q T' G' As' Q b))
    case atStart => exact ⟨0, As0, As0, Q0, by omega, rfl, HP0⟩
    case round =>
      obtain ⟨k, As, As', Q, hkg, rfl, HP⟩ := hrel
      clear HP0
      cases gk with
      | zero =>
        obtain rfl : N = k := by omega
        go_wp2_with (fail)
        refine (same_calls HP.out).mono ?_
        rintro e w3 ⟨rfl, hb3⟩
        have HB3 := Lib.hid (HP.out.below hb3).on
        clear HP hb3
        go_wp2_with (fail)
        refine (alive_calls _).mono ?_
        rintro e w4 ⟨rfl, hb4⟩
        have HB4 := Lib.hid (HB3.out.trans (hb4.mono HB3.out.size))
        clear HB3 hb4
        go_wp2_with (fail)
        go_ret
        exact ⟨rfl, HB4.out⟩
      | succ g =>
        have hkN : k < N := by omega
        have hkN2 : (k : Int) < (N : Int) := by omega
        obtain ⟨b1, o1, rfl, hlt, hc⟩ := (HR.out.below HP.out.on) (by rw [HL.out]; omega)
        obtain ⟨c0, c1, c2⟩ := hc k (by rw [HL.out]; exact hkN)
        clear hc hlt
        generalize l.getD k s0 = s at *
        obtain ⟨fr, sp, sid⟩ := s
        simp only at c0 c1 c2
        have HZ := Lib.hid (Pz.start HP.out (X := #[.bool fr, .int .i64 sp, .int .i64 sid]))
        clear HP
        go_upto_region 13 with (fail)
        generalize wr.alloc (.cells #[.bool fr, .int .i64 sp, .int .i64 sid] 31) = V at HZ ⊢
        clear c0 c1 c2
        generalize wr.heap.size = gx at *
        have y0 : V.cell? ⟨gx, 0, none⟩ = some (.bool fr) := HZ.out.cell 0
        cases fr with
        | true =>
          obtain ⟨er, her⟩ : ∃ er, freeE b sp = er := ⟨_, rfl⟩
          obtain ⟨Q2, hQ2⟩ : ∃ Q2, freeQ' Q b sp = Q2 := ⟨_, rfl⟩
          have HFR : Hid (∀ u, Pz w u gx (#[.bool true, .int .i64 sp, .int .i64 sid]) T G As Q T' G' As' Q b → Calls Try.prog 11 #[.pointer (some ⟨T, 0, none⟩), .int .i64 sp] u (FreeP w u T G As b er Q2)) := Lib.hid (fun u h => by
            have := free_calls h.pt.tb h.pt.on.size sp
            rwa [her, hQ2] at this)
          have HRF : Hid (∀ u A2, Pz w u gx (#[.bool true, .int .i64 sp, .int .i64 sid]) T G A2 Q2 T' G' As' Q b → Calls Try.prog 12 #[.pointer (some ⟨T', 0, none⟩), .int .i64 sp] u (RFreeP w u T' G' As' b er Q2)) := Lib.hid (fun u A2 h => by
            have := rfree_calls h.pt.rb h.pt.on.size sp
            rwa [her, hQ2] at this)
          clear her hQ2
          go_wp2_with (fail)
          refine wp_region_phase (T := (fun _ _ => True)) (Vals [.pointer (some ⟨T, 0, none⟩), .pointer (some ⟨gx, 1, none⟩), .int .i64 sp, .int .i64 er, .pointer (some ⟨T', 0, none⟩), .pointer (some ⟨gx, 1, none⟩), .int .i64 sp, .int .i64 er, .bool false]) (PH2 3 7 (fun x => Pz w x gx (#[.bool true, .int .i64 sp, .int .i64 sid]) T G As Q T' G' As' Q b) (fun x => ∃ A2, Pz w x gx (#[.bool true, .int .i64 sp, .int .i64 sid]) T G A2 Q2 T' G' As' Q b) (fun x => ∃ A2 A3, Pz w x gx (#[.bool true, .int .i64 sp, .int .i64 sid]) T G A2 Q2 T' G' A3 Q2 b)) (by kernel_rfl) (by kernel_rfl) (by kernel_rfl) (fun i v w w2 h _ => h) (PH2.start (HZ.out.below (Below.refl _ _).drew)) ?steps ?fin
          case steps =>
            refine ⟨?s0, ?s1, ?s2, ?s3, ?s4, ?s5, ?s6, ?s7, ?s8, trivial⟩
            case s0 =>
              intro Lb ac u hA hp hl hd
              have q0 := ev_of (show ac.eval (.tmp 7) = .pointer (some ⟨T, 0, none⟩) from hA.eval 7 rfl)
              refine ⟨rfl, StepOK.run (.pointer (some ⟨T, 0, none⟩)) ?_ ⟨Vals.mk rfl, hp.keep (i := 0) (by decide) (by decide) id id id⟩ trivial⟩
              unfold execOp
              simp [go_sem, q0]
            case s1 =>
              intro Lb ac u hA hp hl hd
              have q0 := ev_of (show ac.eval (.tmp 11) = .pointer (some ⟨gx, 0, none⟩) from hA.eval 11 rfl)
              refine ⟨rfl, StepOK.run (.pointer (some ⟨gx, 1, none⟩)) ?_ ⟨Vals.mk rfl, hp.keep (i := 1) (by decide) (by decide) id id id⟩ trivial⟩
              unfold execOp
              simp [go_sem, q0]
            case s2 =>
              intro Lb ac u hA hp hl hd
              have r0 := depP hd 1 59 rfl rfl
              have q0 := ev_of (show ac.eval (.tmp 59) = .pointer (some ⟨gx, 1, none⟩) from r0)
              have y0 := (hp.any (D := fun x => x.cell? ⟨gx, 1, none⟩ = some (.int .i64 sp)) (fun h => by rw [h.cell 1]; rfl) (fun ⟨_, h⟩ => by rw [h.cell 1]; rfl) (fun ⟨_, _, h⟩ => by rw [h.cell 1]; rfl))
              refine ⟨rfl, StepOK.run (.int .i64 sp) ?_ ⟨Vals.mk rfl, hp.keep (i := 2) (by decide) (by decide) id id id⟩ trivial⟩
              unfold execOp
              simp [go_sem, q0, y0]
            case s3 =>
              intro Lb ac u hA hp hl hd
              have r0 := depP hd 0 58 rfl rfl
              have q0 := ev_of (show ac.eval (.tmp 58) = .pointer (some ⟨T, 0, none⟩) from r0)
              have r1 := depP hd 2 60 rfl rfl
              have q1 := ev_of (show ac.eval (.tmp 60) = .int .i64 sp from r1)
              refine ⟨rfl, StepOK.call 11 #[.pointer (some ⟨T, 0, none⟩), .int .i64 sp] ?_ ((HFR.out u (hp.1 hl).2).mono ?_)⟩
              · unfold execOp
                simp [go_sem, q0, q1]
              · rintro e w2 ⟨rfl, As2, h2, t2⟩
                exact ⟨_, rfl, ⟨Vals.mk rfl, hp.first (by decide) hl ⟨As2, (hp.1 hl).2.turnA h2 t2⟩⟩, trivial⟩
            case s4 =>
              intro Lb ac u hA hp hl hd
              have q0 := ev_of (show ac.eval (.tmp 9) = .pointer (some ⟨T', 0, none⟩) from hA.eval 9 rfl)
              refine ⟨rfl, StepOK.run (.pointer (some ⟨T', 0, none⟩)) ?_ ⟨Vals.mk rfl, hp.keep (i := 4) (by decide) (by decide) id id id⟩ trivial⟩
              unfold execOp
              simp [go_sem, q0]
            case s5 =>
              intro Lb ac u hA hp hl hd
              have q0 := ev_of (show ac.eval (.tmp 11) = .pointer (some ⟨gx, 0, none⟩) from hA.eval 11 rfl)
              refine ⟨rfl, StepOK.run (.pointer (some ⟨gx, 1, none⟩)) ?_ ⟨Vals.mk rfl, hp.keep (i := 5) (by decide) (by decide) id id id⟩ trivial⟩
              unfold execOp
              simp [go_sem, q0]
            case s6 =>
              intro Lb ac u hA hp hl hd
              have r0 := depP hd 5 63 rfl rfl
              have q0 := ev_of (show ac.eval (.tmp 63) = .pointer (some ⟨gx, 1, none⟩) from r0)
              have y0 := (hp.any (D := fun x => x.cell? ⟨gx, 1, none⟩ = some (.int .i64 sp)) (fun h => by rw [h.cell 1]; rfl) (fun ⟨_, h⟩ => by rw [h.cell 1]; rfl) (fun ⟨_, _, h⟩ => by rw [h.cell 1]; rfl))
              refine ⟨rfl, StepOK.run (.int .i64 sp) ?_ ⟨Vals.mk rfl, hp.keep (i := 6) (by decide) (by decide) id id id⟩ trivial⟩
              unfold execOp
              simp [go_sem, q0, y0]
            case s7 =>
              intro Lb ac u hA hp hl hd
              have r0 := depP hd 4 62 rfl rfl
              have q0 := ev_of (show ac.eval (.tmp 62) = .pointer (some ⟨T', 0, none⟩) from r0)
              have r1 := depP hd 6 64 rfl rfl
              have q1 := ev_of (show ac.eval (.tmp 64) = .int .i64 sp from r1)
              have l3 := depL hd 3 rfl
              obtain ⟨As2, hz⟩ := hp.2.1 l3 hl
              refine ⟨rfl, StepOK.call 12 #[.pointer (some ⟨T', 0, none⟩), .int .i64 sp] ?_ ((HRF.out u As2 hz).mono ?_)⟩
              · unfold execOp
                simp [go_sem, q0, q1]
              · rintro e w2 ⟨rfl, As3, h3, t3⟩
                exact ⟨_, rfl, ⟨Vals.mk rfl, hp.second (by decide) l3 ⟨As2, As3, hz.turnB h3 t3⟩⟩, trivial⟩
            case s8 =>
              intro Lb ac u hA hp hl hd
              have r0 := depP hd 3 61 rfl rfl
              have q0 := ev_of (show ac.eval (.tmp 61) = .int .i64 er from r0)
              have r1 := depP hd 7 65 rfl rfl
              have q1 := ev_of (show ac.eval (.tmp 65) = .int .i64 er from r1)
              refine ⟨rfl, StepOK.run (.bool false) ?_ ⟨Vals.mk rfl, hp.keep (i := 8) (by decide) (by decide) id id id⟩ trivial⟩
              unfold execOp
              simp [go_sem, q0, q1]
          case fin =>
            intro Lb vs u hp hv hall
            have e0 : vs 0 = .pointer (some ⟨T, 0, none⟩) := hv 0 (by decide)
            have e1 : vs 1 = .pointer (some ⟨gx, 1, none⟩) := hv 1 (by decide)
            have e2 : vs 2 = .int .i64 sp := hv 2 (by decide)
            have e3 : vs 3 = .int .i64 er := hv 3 (by decide)
            have e4 : vs 4 = .pointer (some ⟨T', 0, none⟩) := hv 4 (by decide)
            have e5 : vs 5 = .pointer (some ⟨gx, 1, none⟩) := hv 5 (by decide)
            have e6 : vs 6 = .int .i64 sp := hv 6 (by decide)
            have e7 : vs 7 = .int .i64 er := hv 7 (by decide)
            have e8 : vs 8 = .bool false := hv 8 (by decide)
            simp only [putsFrom, Act.put, List.setIfInBounds_toArray, List.set_cons_succ, List.set_cons_zero, Nat.reduceAdd, e0, e1, e2, e3, e4, e5, e6, e7, e8]
            clear e0 e1 e2 e3 e4 e5 e6 e7 e8 hv
            obtain ⟨As2, As3, hz⟩ := hp.2.2 (hall 3 (by decide)) (hall 7 (by decide))
            have HZ2 := Lib.hid hz.pt
            clear hp hall hz y0
            by_cases hk7 : k % 8 = 7
            · have hk1 : ((k : Int).tmod 8 == 7) = true := by rw [beq_iff_eq, Int.tmod_eq_emod_of_nonneg (by omega)]; omega
              have hk2 : ((k : Int) % 8 == 7) = true := by rw [beq_iff_eq]; omega
              go_wp2_with (fail)
              refine (same_calls HZ2.out).mono ?_
              rintro e w9 ⟨rfl, hb9⟩
              have HZ9 := Lib.hid (HZ2.out.below hb9)
              clear HZ2 hb9
              go_wp2_with (fail)
              go_roundg g
              case measure => omega
              case rel => exact ⟨k + 1, _, _, _, by omega, by go_num, HZ9⟩
            · have hk1 : ((k : Int).tmod 8 == 7) = false := by rw [beq_eq_false_iff_ne, Int.tmod_eq_emod_of_nonneg (by omega)]; omega
              have hk2 : ((k : Int) % 8 == 7) = false := by rw [beq_eq_false_iff_ne]; omega
              go_wp2_with (fail)
              go_roundg g
              case measure => omega
              case rel => exact ⟨k + 1, _, _, _, by omega, by go_num, HZ2⟩
        | false =>
          have y1 : V.cell? ⟨gx, 1, none⟩ = some (.int .i64 sp) := HZ.out.cell 1
          have y2 : V.cell? ⟨gx, 2, none⟩ = some (.int .i64 sid) := HZ.out.cell 2
          obtain ⟨er, her⟩ : ∃ er, wantE Q b sp sid = er := ⟨_, rfl⟩
          obtain ⟨bv, hbv⟩ : ∃ bv, wantB Q b sp sid = bv := ⟨_, rfl⟩
          obtain ⟨Q2, hQ2⟩ : ∃ Q2, wantQ Q b sp sid = Q2 := ⟨_, rfl⟩
          have CW := Lib.hid (want_calls HZ.out.pt.tb HZ.out.pt.on.size sp sid)
          have CRW : Hid (∀ u A2, Pz w u gx (#[.bool false, .int .i64 sp, .int .i64 sid]) T G A2 Q2 T' G' As' Q b → Calls Try.prog 14 #[.pointer (some ⟨T', 0, none⟩), .int .i64 sp, .int .i64 sid] u (RWantP w u T' G' As' b bv er Q2)) := Lib.hid (fun u A2 h => by
            have := rwant_calls h.pt.rb h.pt.on.size sp sid
            rwa [her, hbv, hQ2] at this)
          rw [her, hbv, hQ2] at CW
          have hene : (er != er) = false := by simp
          have hbne : (bv != bv) = false := by simp
          clear her hbv hQ2
          go_wp2_with (fail)
          refine CW.out.mono ?_
          rintro e w3 ⟨rfl, As2, h3, t3⟩
          have HZ3 := Lib.hid (HZ.out.turnA h3 t3)
          clear HZ CW h3 t3 y0 y1 y2
          have y1 : w3.cell? ⟨gx, 1, none⟩ = some (.int .i64 sp) := HZ3.out.cell 1
          have y2 : w3.cell? ⟨gx, 2, none⟩ = some (.int .i64 sid) := HZ3.out.cell 2
          go_wp2_with (fail)
          refine (CRW.out w3 As2 HZ3.out).mono ?_
          rintro e w4 ⟨rfl, As3, h4, t4⟩
          have HZ2 := Lib.hid (HZ3.out.turnB h4 t4).pt
          clear HZ3 CRW h4 t4 y1 y2
          by_cases hk7 : k % 8 = 7
          · have hk1 : ((k : Int).tmod 8 == 7) = true := by rw [beq_iff_eq, Int.tmod_eq_emod_of_nonneg (by omega)]; omega
            have hk2 : ((k : Int) % 8 == 7) = true := by rw [beq_iff_eq]; omega
            go_wp2_with (fail)
            refine (same_calls HZ2.out).mono ?_
            rintro e w9 ⟨rfl, hb9⟩
            have HZ9 := Lib.hid (HZ2.out.below hb9)
            clear HZ2 hb9
            go_wp2_with (fail)
            go_roundg g
            case measure => omega
            case rel => exact ⟨k + 1, _, _, _, by omega, by go_num, HZ9⟩
          · have hk1 : ((k : Int).tmod 8 == 7) = false := by rw [beq_eq_false_iff_ne, Int.tmod_eq_emod_of_nonneg (by omega)]; omega
            have hk2 : ((k : Int) % 8 == 7) = false := by rw [beq_eq_false_iff_ne]; omega
            go_wp2_with (fail)
            go_roundg g
            case measure => omega
            case rel => exact ⟨k + 1, _, _, _, by omega, by go_num, HZ2⟩
end Go.Proofs.Ythlodfahajaneaa
