/- Who asks again has what he had; who is freed leaves the others in their order: the law. -/
import Derived.Test.YthlodfahajaneaaKv
import Derived.Test.YthlodfahajaneaaKo
import Derived.Deep.DeepCutAuto
import Derived.BigQuiet
set_option linter.unusedSimpArgs false
set_option linter.unusedVariables false
namespace Go.Proofs.Ythlodfahajaneaa
open Go Go.RowKit LockMath Go.Shelf
theorem again_held {Q : List (List Int)} (hn : Nm 8 Q) {p : Int} (hp : 0 ≤ p ∧ p < 8) {k : Nat} (hk : k < (holdsL Q p).length) : wantB Q 8 p ((ni (holdsL Q p)).getD k 0) = true ∧ wantE Q 8 p ((ni (holdsL Q p)).getD k 0) = 0 ∧ wantQ Q 8 p ((ni (holdsL Q p)).getD k 0) = Q := by
  rw [ni_get _ _ hk]
  obtain ⟨a, b, c⟩ := want_held hp (holds_lt hk).2
  exact ⟨b, a, c⟩
theorem isame_at {u : World} {q : List Int} {x y : Value} (hx : RowAt q x u) (hy : RowAt q y u) (hlen : q.length ≤ 1000) : Calls Try.prog 21 #[x, y] u (Q (.bool true) u) := by
  obtain ⟨R, c, rfl, h1⟩ := hx
  obtain ⟨S, d, rfl, h2⟩ := hy
  exact isame_calls R S q c d u h1 h2 (by omega)
theorem queueL_nat (Q : List (List Int)) (i : Nat) : queueL Q (i : Int) = qu Q i := by
  unfold queueL
  rw [if_pos (by omega), Int.toNat_natCast]
set_option maxRecDepth 100000 in
set_option maxHeartbeats 4000000 in
theorem again_law (w : World) (A0 : Option Addr) (l : List St) (c : Nat) (by_ : Nat) (hr : SRow w A0 l) (hlen : l.length ≤ 9223372036854775807) (hby : by_ < 256) :
    Calls Try.prog 6 #[.slice A0 l.length c, .int .u8 (by_ : Int)] w fun e w' => e = .returned (.bool true) ∧ Below w.heap.size w w' := by
  have CM := Lib.hid (made_calls w A0 l c hr hlen)
  obtain ⟨N, hN⟩ : ∃ N, l.length = N := ⟨_, rfl⟩
  rw [hN] at hlen CM ⊢
  clear hr hN
  by_cases hbig : 200 < N
  · have hbig2 : (200 : Int) < (N : Int) := by omega
    go_enter Try.func6, Try.ntmps6
    go_wp2_with (fail)
    refine (alive_calls _).mono ?_
    rintro e w' ⟨rfl, hb⟩
    replace hb := Lib.hid hb
    go_wp2_with (fail)
    go_ret
    exact ⟨rfl, hb.out⟩
  have hsm : ¬ ((200 : Int) < (N : Int)) := by omega
  clear hbig
  go_enter Try.func6, Try.ntmps6
  go_wp2_with (fail)
  refine CM.out.mono ?_
  rintro e w1 ⟨T, G, As, Q, rfl, h1, hQ⟩
  replace h1 := Lib.hid h1
  have HQ := Lib.hid hQ
  have HNM := Lib.hid h1.out.tb.nm
  clear CM hQ
  obtain ⟨i0, hi0, hz0, hs0, hb0⟩ := info_parts i64_info
  have HI := Lib.hid hi0
  have HZ := Lib.hid hz0
  have HS := Lib.hid hs0
  have HB := Lib.hid hb0
  clear hi0 hz0 hs0 hb0
  go_wp2_with (fail)
  have hp8 : 0 ≤ (by_ : Int) % 8 ∧ (by_ : Int) % 8 < 8 := by omega
  generalize ((by_ : Int) % 8) = p at hp8 ⊢
  have HA0 := Lib.hid (Ag.start h1.out (cs := #[.slice none 0 0, .slice none 0 0, .slice none 0 0, .slice none 0 0, .slice none 0 0, .slice none 0 0, .slice none 0 0, .slice none 0 0, .slice none 0 0, .slice none 0 0, .slice none 0 0, .slice none 0 0]) rfl)
  obtain ⟨B0, hB0⟩ : ∃ B0, B0 = List.replicate 12 ((none, 0) : Option Addr × Nat) := ⟨_, rfl⟩
  obtain ⟨W0, hW0⟩ : ∃ W0, W0 = List.replicate 12 ([] : List Int) := ⟨_, rfl⟩
  have HW0 : Hid (W0.length = 12) := Lib.hid (by rw [hW0]; rfl)
  rw [← hB0, ← hW0] at HA0
  clear hB0 hW0 h1
  generalize w1.alloc _ = V at HA0 ⊢
  generalize w1.heap.size = gW at *
  go_loopg [8] 12 (fun g s8 wx => ∃ (id : Nat) (Bs : List (Option Addr × Nat)) (W : List (List Int)), id + g = 12 ∧ s8 = .int .i64 id ∧ Hid (Ag w wx T G As gW Bs Q W) ∧ Hid (W.length = 12) ∧ Hid (∀ j, j < id → qu W j = qu Q j))
  case atStart => exact ⟨0, B0, W0, by omega, rfl, HA0, HW0, Lib.hid (fun j hj => absurd hj (Nat.not_lt_zero _))⟩
  case round =>
    obtain ⟨id, Bs, W, hidg, rfl, HA, HWL, HWQ⟩ := hrel
    clear HA0 HW0
    cases gk with
    | succ g =>
      have hid : id < 12 := by omega
      have hid2 : (id : Int) < 12 := by omega
      go_wp2_with (fail)
      refine (queue_calls HA.out.lk.tb (id : Int)).mono ?_
      rw [queueL_nat]
      rintro e w2 ⟨R, cr, rfl, hO, hb2⟩
      have hA2 := HA.out.below hb2
      have y0 := hA2.cell (i := id) (by rw [HWL.out]; exact hid)
      have hfz := hA2.qm.frozen id
      have HP := Lib.hid (HA.out.put (i := id) (by rw [HWL.out]; exact hid) hO hb2 rfl)
      have HL2 : Hid ((W.set id (qu Q id)).length = 12) := Lib.hid (by rw [List.length_set]; exact HWL.out)
      have HQ2 : Hid (∀ j, j < id + 1 → qu (W.set id (qu Q id)) j = qu Q j) := Lib.hid (fun j hj => by
        rw [qu_set]
        by_cases hij : id = j
        · rw [if_pos ⟨hij, by rw [HWL.out]; omega⟩, hij]
        · rw [if_neg (fun h => hij h.1)]
          exact HWQ.out j (by omega))
      generalize (qu W id).length = L9 at *
      generalize qA Bs id = A9 at *
      generalize qC Bs id = C9 at *
      generalize (qu Q id).length = L8 at *
      clear hA2 hO hb2
      go_wp2_with (fail)
      go_roundg g
      case measure => omega
      case rel => exact ⟨id + 1, _, _, by omega, by go_num, HP, HL2, HQ2⟩
    | zero =>
      obtain rfl : id = 12 := by omega
      go_wp2_with (fail)
      refine (holds_calls HA.out.lk.tb p).mono ?_
      rintro e w2 ⟨R, cr, rfl, hO, hb2⟩
      have HSD := Lib.hid (Sd.new HA.out.lk.tb.tg hO)
      have HA2 := Lib.hid (HA.out.below hb2)
      clear HA hO hb2
      obtain ⟨M, hM⟩ : ∃ M, (ni (holdsL Q p)).length = M := ⟨_, rfl⟩
      have HM := Lib.hid hM
      have hM12 : M ≤ 12 := by
        have := holds_len Q p
        rw [ni_len] at hM
        have := HQ.out
        omega
      rw [hM]
      clear hM
      go_wp2_with (fail)
      go_loopg [10] M (fun g s10 wx => ∃ (k : Nat) (As' : List (Option Addr × Nat)), k + g = M ∧ s10 = .int .i64 k ∧ Hid (Ag w wx T G As' gW Bs Q W) ∧ Hid (Sd wx T G As' R cr (ni (holdsL Q p))))
      case atStart => exact ⟨0, As, by omega, rfl, HA2, HSD⟩
      case round =>
        obtain ⟨k, As', hkg, rfl, HA, HSD'⟩ := hrel
        clear HA2 HSD
        cases gk with
        | succ g =>
          have hkM : k < M := by omega
          have hkM2 : (k : Int) < (M : Int) := by omega
          obtain ⟨gb, rfl, yc⟩ := HSD'.out.spot (k := k) (by rw [HM.out]; exact hkM)
          obtain ⟨a1, a2, a3⟩ := again_held HNM.out hp8 (k := k) (by have := HM.out; rw [ni_len] at this; omega)
          generalize (ni (holdsL Q p)).getD k 0 = x at *
          have CW := Lib.hid (HA.out.lk.want p x a1 a2 a3)
          clear a1 a2 a3
          go_wp2_with (fail)
          refine CW.out.mono ?_
          rintro e w3 ⟨rfl, As3, h3, t3⟩
          have HA3 := Lib.hid (HA.out.turn h3 t3)
          have HSD3 := Lib.hid (HSD'.out.turn t3)
          clear h3 t3 HA HSD' yc
          go_wp2_with (fail)
          go_roundg g
          case measure => omega
          case rel => exact ⟨k + 1, As3, by omega, by go_num, HA3, HSD3⟩
        | zero =>
          clear HSD'
          generalize As' = As at *
          go_wp2_with (fail)
          refine (waits_calls HA.out.lk.tb p).mono ?_
          rintro e w' ⟨rfl, rfl⟩
          cases hw : waitsF Q p with
          | none =>
            rw [show twoN none = .tuple #[.int .i64 0, .bool false] from rfl]
            clear hw
            go_wp2_with (fail)
            go_loopg [17] 12 (fun g s17 wx => ∃ id : Nat, id + g = 12 ∧ s17 = .int .i64 id ∧ Hid (Ag w wx T G As gW Bs Q W))
            case atStart => exact ⟨0, by omega, rfl, HA⟩
            case round =>
              obtain ⟨id, hidg, rfl, HA3⟩ := hrel
              clear HA
              cases gk with
              | succ g =>
                have hid : id < 12 := by omega
                have hid2 : (id : Int) < 12 := by omega
                obtain ⟨N1, hN1⟩ : ∃ N1, (qu Q id).length = N1 := ⟨_, rfl⟩
                have HN1 := Lib.hid hN1
                have HL16 : Hid ((qu Q id).length ≤ 1000) := Lib.hid (Nat.le_trans (HNM.out.len id) (by decide))
                have HCW : Hid (∀ u, Ag w u T G As gW Bs Q W → u.cell? ⟨gW, id, none⟩ = some (.slice (qA Bs id) N1 (qC Bs id))) := Lib.hid (fun u h => by
                  have := h.cell (i := id) (by rw [HWL.out]; exact hid)
                  rwa [HWQ.out id hid, HN1.out] at this)
                have HRW : Hid (∀ u, Ag w u T G As gW Bs Q W → RowAt (qu Q id) (.slice (qA Bs id) N1 (qC Bs id)) u) := Lib.hid (fun u h => by
                  have := h.row (i := id) (by rw [HWL.out]; exact hid)
                  rw [HWQ.out id hid] at this
                  exact ⟨_, _, by rw [HN1.out], this⟩)
                have HAD : Hid (Ag w wr.drew T G As gW Bs Q W) := Lib.hid (HA3.out.below (Below.refl _ _).drew)
                clear hN1
                go_wp2_with (fail)
                refine wp_region_slots (lv [.pointer (some ⟨T, 0, none⟩), .int .i64 (id : Nat), undef, .int .i64 (id : Nat), .pointer (some ⟨gW, id, none⟩), .slice (qA Bs id) N1 (qC Bs id), .bool true, .bool false]) 2 2 91 91 (RowS (fun u => Ag w u T G As gW Bs Q W) (qu Q id) 2) (by kernel_rfl) (by kernel_rfl) (by rfl) (by rfl) (RowS.start HAD.out) ?steps ?tail
                case steps =>
                  refine ⟨?s0, ?s1, ?s2, ?s3, ?s4, ?s5, ?s6, ?s7, trivial⟩
                  case s0 =>
                    intro Lb ac u hAg hp hl hd
                    have q0 := ev_of (show ac.eval (.tmp 5) = .pointer (some ⟨T, 0, none⟩) from hAg.eval 5 rfl)
                    refine ⟨rfl, StepOK.run (.pointer (some ⟨T, 0, none⟩)) ?_ ⟨fun _ _ => rfl, hp.keep (by decide) hp.1 (Below.refl _ _)⟩ trivial⟩
                    unfold execOp
                    simp [go_sem, q0]
                  case s1 =>
                    intro Lb ac u hAg hp hl hd
                    have q0 := ev_of (show ac.eval (.tmp 17) = .int .i64 (id : Nat) from hAg.eval 17 rfl)
                    refine ⟨rfl, StepOK.run (.int .i64 (id : Nat)) ?_ ⟨fun _ _ => rfl, hp.keep (by decide) hp.1 (Below.refl _ _)⟩ trivial⟩
                    unfold execOp
                    simp [go_sem, q0]
                  case s2 =>
                    intro Lb ac u hAg hp hl hd
                    have q0 := ev_of (show ac.eval (.tmp 89) = .pointer (some ⟨T, 0, none⟩) from depS hd 0 89 rfl rfl (by decide) (by decide))
                    have q1 := ev_of (show ac.eval (.tmp 90) = .int .i64 (id : Nat) from depS hd 1 90 rfl rfl (by decide) (by decide))
                    refine ⟨rfl, StepOK.call 19 #[.pointer (some ⟨T, 0, none⟩), .int .i64 (id : Nat)] ?_ ((queue_calls hp.1.lk.tb (id : Int)).mono ?_)⟩
                    · unfold execOp
                      simp [go_sem, q0, q1]
                    · rw [queueL_nat]
                      rintro e w2 ⟨R2, c2, rfl, hO2, hb2⟩
                      exact ⟨_, rfl, ⟨fun h1 _ => absurd rfl h1, RowS.turn (hp.1.below hb2) ⟨R2, c2, rfl, hO2.cel⟩⟩, trivial⟩
                  case s3 =>
                    intro Lb ac u hAg hp hl hd
                    have q0 := ev_of (show ac.eval (.tmp 17) = .int .i64 (id : Nat) from hAg.eval 17 rfl)
                    refine ⟨rfl, StepOK.run (.int .i64 (id : Nat)) ?_ ⟨fun _ _ => rfl, hp.keep (by decide) hp.1 (Below.refl _ _)⟩ trivial⟩
                    unfold execOp
                    simp [go_sem, q0]
                  case s4 =>
                    intro Lb ac u hAg hp hl hd
                    have q0 := ev_of (show ac.eval (.tmp 92) = .int .i64 (id : Nat) from depS hd 3 92 rfl rfl (by decide) (by decide))
                    have q1 := ev_of (show ac.eval (.tmp 7) = .pointer (some ⟨gW, 0, none⟩) from hAg.eval 7 rfl)
                    refine ⟨rfl, StepOK.run (.pointer (some ⟨gW, id, none⟩)) ?_ ⟨fun _ _ => rfl, hp.keep (by decide) hp.1 (Below.refl _ _)⟩ trivial⟩
                    unfold execOp
                    simp [go_sem, q0, q1, hid2]
                  case s5 =>
                    intro Lb ac u hAg hp hl hd
                    have q0 := ev_of (show ac.eval (.tmp 93) = .pointer (some ⟨gW, id, none⟩) from depS hd 4 93 rfl rfl (by decide) (by decide))
                    have y0 := HCW.out u hp.1
                    refine ⟨rfl, StepOK.run (.slice (qA Bs id) N1 (qC Bs id)) ?_ ⟨fun _ _ => rfl, hp.keep (by decide) hp.1 (Below.refl _ _)⟩ trivial⟩
                    unfold execOp
                    simp [go_sem, q0, y0]
                  case s6 =>
                    intro Lb ac u hAg hp hl hd
                    have q1 := ev_of (show ac.eval (.tmp 94) = .slice (qA Bs id) N1 (qC Bs id) from depS hd 5 94 rfl rfl (by decide) (by decide))
                    have l2 := depSL hd 2 rfl
                    have hx := hp.2 l2
                    obtain ⟨R2, c2, e2, hc2⟩ := hx
                    have q0 := ev_of e2
                    refine ⟨rfl, StepOK.call 21 #[.slice R2 (qu Q id).length c2, .slice (qA Bs id) N1 (qC Bs id)] ?_ ((isame_at ⟨R2, c2, rfl, hc2⟩ (HRW.out u hp.1) HL16.out).mono ?_)⟩
                    · unfold execOp
                      simp [go_sem, q0, q1]
                    · rintro e w2 ⟨rfl, qn, rfl⟩
                      exact ⟨_, rfl, ⟨fun _ _ => rfl, hp.keep (by decide) (hp.1.below (below_drewN (Below.refl _ _) qn)) (below_drewN (Below.refl _ _) qn)⟩, trivial⟩
                  case s7 =>
                    intro Lb ac u hAg hp hl hd
                    have q0 := ev_of (show ac.eval (.tmp 95) = .bool true from depS hd 6 95 rfl rfl (by decide) (by decide))
                    refine ⟨rfl, StepOK.run (.bool false) ?_ ⟨fun _ _ => rfl, hp.keep (by decide) hp.1 (Below.refl _ _)⟩ trivial⟩
                    unfold execOp
                    simp [go_sem, q0]
                case tail =>
                  intro Lb vs u hp hv hall
                  have e0 : vs 0 = .pointer (some ⟨T, 0, none⟩) := hv 0 rfl (by decide) (by decide)
                  have e1 : vs 1 = .int .i64 (id : Nat) := hv 1 rfl (by decide) (by decide)
                  have e3 : vs 3 = .int .i64 (id : Nat) := hv 3 rfl (by decide) (by decide)
                  have e4 : vs 4 = .pointer (some ⟨gW, id, none⟩) := hv 4 rfl (by decide) (by decide)
                  have e5 : vs 5 = .slice (qA Bs id) N1 (qC Bs id) := hv 5 rfl (by decide) (by decide)
                  have e6 : vs 6 = .bool true := hv 6 rfl (by decide) (by decide)
                  have e7 : vs 7 = .bool false := hv 7 rfl (by decide) (by decide)
                  simp only [putsFrom, Act.put, List.setIfInBounds_toArray, List.set_cons_succ, List.set_cons_zero, Nat.reduceAdd, e0, e1, e3, e4, e5, e6, e7]
                  replace hp := Lib.hid hp
                  generalize vs 2 = z2 at *
                  clear e0 e1 e3 e4 e5 e6 e7 hv hall
                  have HA2 := Lib.hid hp.out.1
                  go_wp2_with (fail)
                  go_roundg g
                  case measure => omega
                  case rel => exact ⟨id + 1, by omega, by go_num, HA2⟩
              | zero =>
                obtain rfl : id = 12 := by omega
                go_wp2_with (fail)
                refine (HA3.out.lk.free p (er := 0) (Q' := freeQ Q p) (by unfold freeE; rw [if_pos hp8]) (by unfold freeQ'; rw [if_pos hp8])).mono ?_
                rintro e w4 ⟨rfl, As4, h4, t4⟩
                have HA4 := Lib.hid (HA3.out.turn h4 t4)
                clear HA3 h4 t4
                go_wp2_with (fail)
                refine (holds_calls HA4.out.lk.tb p).mono ?_
                rw [free_holds, show ni [] = [] from rfl]
                rintro e w5 ⟨R5, c5, rfl, _, hb5⟩
                have HA5 := Lib.hid (HA4.out.below hb5)
                clear HA4 hb5
                rw [show ([] : List Int).length = 0 from rfl]
                go_wp2_with (fail)
                go_loopg [18] 12 (fun g s18 wx => ∃ id : Nat, id + g = 12 ∧ s18 = .int .i64 id ∧ Hid (Ag w wx T G As4 gW Bs (freeQ Q p) W))
                case atStart => exact ⟨0, by omega, rfl, HA5⟩
                case round =>
                  obtain ⟨id, hidg, rfl, HA6⟩ := hrel
                  clear HA5
                  cases gk with
                  | zero =>
                    go_wp2_with (fail)
                    refine (alive_calls _).mono ?_
                    rintro e w' ⟨rfl, hb⟩
                    replace hb := Lib.hid (HA6.out.lk.on.trans (hb.mono HA6.out.lk.on.size))
                    go_wp2_with (fail)
                    go_ret
                    exact ⟨rfl, hb.out⟩
                  | succ g =>
                    have hid : id < 12 := by omega
                    have hid2 : (id : Int) < 12 := by omega
                    obtain ⟨q, hq⟩ : ∃ q, qu Q id = q := ⟨_, rfl⟩
                    have HQI := Lib.hid hq
                    have hl16 := HNM.out.len id
                    have HFQ : Hid (qu (freeQ Q p) id = offQ p q) := Lib.hid (by rw [qu_free, hq])
                    rw [hq] at hl16
                    obtain ⟨N1, hN1⟩ : ∃ N1, q.length = N1 := ⟨_, rfl⟩
                    have HN1 := Lib.hid hN1
                    rw [hN1] at hl16
                    obtain ⟨A, hA⟩ : ∃ A, qA Bs id = A := ⟨_, rfl⟩
                    have HAA := Lib.hid hA
                    obtain ⟨C, hC⟩ : ∃ C, qC Bs id = C := ⟨_, rfl⟩
                    have HCC := Lib.hid hC
                    have HCW : Hid (∀ u, Ag w u T G As4 gW Bs (freeQ Q p) W → u.cell? ⟨gW, id, none⟩ = some (.slice A N1 C)) := Lib.hid (fun u h => by
                      have := h.cell (i := id) (by rw [HWL.out]; exact hid)
                      rwa [HWQ.out id hid, HQI.out, HN1.out, HAA.out, HCC.out] at this)
                    have HRW : Hid (∀ u j, j < N1 → Ag w u T G As4 gW Bs (freeQ Q p) W → ∃ g, A = some ⟨g, 0, none⟩ ∧ u.cell? ⟨g, j, none⟩ = some (.int .i64 (q.getD j 0))) := Lib.hid (fun u j hj h => by
                      obtain ⟨g, e1, e2⟩ := h.qm.at (i := id) (k := j) (by rw [HWL.out]; exact hid) (by rw [HWQ.out id hid, HQI.out, HN1.out]; exact hj)
                      rw [HWQ.out id hid, HQI.out] at e2
                      exact ⟨g, by rw [← HAA.out]; exact e1, e2⟩)
                    clear hN1 hA hC hq
                    generalize hwI : wr = wI at *
                    clear hwI
                    have y0 := HCW.out wI HA6.out
                    go_wp2_with (fail)
                    clear y0
                    go_loopg [19, 20] N1 (fun g2 s19 s20 wx => ∃ (j : Nat) (L : List Int) (n' : Nat) (R : Option Addr) (cr : Nat), j + g2 = N1 ∧ s20 = .int .i64 j ∧ s19 = .slice R n' cr ∧ Hid (L.length = n') ∧ n' ≤ j ∧ Hid (offQ p (q.take j) = L) ∧ Hid (IOwn wI.heap.size wx R cr L) ∧ Hid (Below wI.heap.size wI wx))
                    case atStart => exact ⟨0, [], 0, none, 0, by omega, rfl, rfl, rfl, by omega, rfl, Lib.hid (IOwn.nil _ _), Lib.hid (Below.refl _ _)⟩
                    case round =>
                      obtain ⟨j, L, n', R, cr, hjg, rfl, rfl, hn, hnj, hL, hO, hBr⟩ := hrel
                      have hAr := Lib.hid (HA6.out.below hBr.out)
                      have yq := HCW.out wr hAr.out
                      have hsz := Lib.hid hBr.out.size
                      cases gk with
                      | zero =>
                        obtain rfl : j = N1 := by omega
                        have HLL : Hid (L = offQ p q) := Lib.hid (by rw [← hL.out, ← HN1.out, List.take_length])
                        go_wp2_with (fail)
                        refine (queue_calls hAr.out.lk.tb (id : Int)).mono ?_
                        rw [queueL_nat, HFQ.out]
                        rintro e w7 ⟨R7, c7, rfl, hO7, hb7⟩
                        have HA7 := Lib.hid (hAr.out.below hb7)
                        have hRO := Lib.hid (hO.out.cel.below hb7)
                        replace hO7 := Lib.hid hO7.cel
                        clear hAr hO hb7 yq
                        go_wp2_with (fail)
                        refine (isame_at ⟨R7, c7, rfl, hO7.out⟩ ⟨R, cr, by rw [← HLL.out, hn.out], by rw [← HLL.out]; exact hRO.out⟩ (by have := off_len p q; have := HN1.out; omega)).mono ?_
                        rintro e w8 ⟨rfl, qn, rfl⟩
                        have HA8 := Lib.hid (HA7.out.below (below_drewN (Below.refl _ _) qn))
                        go_wp2_with (fail)
                        go_roundg g
                        case measure => omega
                        case rel => exact ⟨id + 1, by omega, by go_num, HA8⟩
                      | succ g2 =>
                        have hjN : j < N1 := by omega
                        have hjN2 : (j : Int) < (N1 : Int) := by omega
                        obtain ⟨gb, rfl, yc⟩ := HRW.out wr j hjN hAr.out
                        have hs := off_take (p := p) (l := q) (j := j) (by rw [HN1.out]; exact hjN)
                        rw [hL.out] at hs
                        generalize q.getD j 0 = x at *
                        by_cases hxp : x = p
                        · subst hxp
                          rw [if_pos rfl] at hs
                          have HS2 := Lib.hid hs
                          clear hs
                          go_wp2_with (fail)
                          go_roundg g2
                          case measure => omega
                          case rel => exact ⟨j + 1, L, n', R, cr, by omega, by go_num, rfl, hn, by omega, HS2, hO, hBr⟩
                        · rw [if_neg hxp] at hs
                          have HS2 := Lib.hid hs.symm
                          have hxp2 : (x != p) = true := by rw [bne_iff_ne]; exact hxp
                          clear hs hxp
                          go_wp2_with (at_builtin; refine wpList_append_r rfl (.tmp 128) (.tmp 135) 40 rfl 3 i0 _ 1 8 Try.underlying40 HI.out HZ.out HS.out HB.out rfl R n' cr (iv L) rfl ((hO.out.two 0 _).at hn.out) ⟨wr.heap.size, 0, none⟩ 1 1 (iv [x]) rfl rfl (cells_one (heap_alloc_new _ _)) (iv_one _) (by decide) (by unfold maxLen; omega) (by omega) ?_; intro g' c2 w1 hown2 hgr hg)
                          have hst := (hO.out.two 0 _).step (by simp; have := hsz.out; omega) ((below_drewN hBr.out 0).alloc hsz.out _) hn.out hown2 hgr hg HS2.out
                          go_roundg g2
                          case measure => omega
                          case rel => exact ⟨j + 1, _, n' + 1, _, c2, by omega, by go_num, rfl, hst.2.2, by omega, rfl, Lib.hid hst.1, Lib.hid hst.2.1⟩
          | some v =>
            rw [show twoN (some v) = .tuple #[.int .i64 (v : Int), .bool true] from rfl]
            obtain ⟨a1, a2, a3⟩ := want_again HNM.out.inv hp8 hw
            have CW := Lib.hid (HA.out.lk.want p (v : Int) a2 a1 a3)
            clear a1 a2 a3 hw
            go_wp2_with (fail)
            refine CW.out.mono ?_
            rintro e w3 ⟨rfl, As3, h3, t3⟩
            replace HA := Lib.hid (HA.out.turn h3 t3)
            clear h3 t3 CW
            generalize As3 = As at *
            go_wp2_with (fail)
            go_loopg [17] 12 (fun g s17 wx => ∃ id : Nat, id + g = 12 ∧ s17 = .int .i64 id ∧ Hid (Ag w wx T G As gW Bs Q W))
            case atStart => exact ⟨0, by omega, rfl, HA⟩
            case round =>
              obtain ⟨id, hidg, rfl, HA3⟩ := hrel
              clear HA
              cases gk with
              | succ g =>
                have hid : id < 12 := by omega
                have hid2 : (id : Int) < 12 := by omega
                obtain ⟨N1, hN1⟩ : ∃ N1, (qu Q id).length = N1 := ⟨_, rfl⟩
                have HN1 := Lib.hid hN1
                have HL16 : Hid ((qu Q id).length ≤ 1000) := Lib.hid (Nat.le_trans (HNM.out.len id) (by decide))
                have HCW : Hid (∀ u, Ag w u T G As gW Bs Q W → u.cell? ⟨gW, id, none⟩ = some (.slice (qA Bs id) N1 (qC Bs id))) := Lib.hid (fun u h => by
                  have := h.cell (i := id) (by rw [HWL.out]; exact hid)
                  rwa [HWQ.out id hid, HN1.out] at this)
                have HRW : Hid (∀ u, Ag w u T G As gW Bs Q W → RowAt (qu Q id) (.slice (qA Bs id) N1 (qC Bs id)) u) := Lib.hid (fun u h => by
                  have := h.row (i := id) (by rw [HWL.out]; exact hid)
                  rw [HWQ.out id hid] at this
                  exact ⟨_, _, by rw [HN1.out], this⟩)
                have HAD : Hid (Ag w wr.drew T G As gW Bs Q W) := Lib.hid (HA3.out.below (Below.refl _ _).drew)
                clear hN1
                go_wp2_with (fail)
                refine wp_region_slots (lv [.pointer (some ⟨T, 0, none⟩), .int .i64 (id : Nat), undef, .int .i64 (id : Nat), .pointer (some ⟨gW, id, none⟩), .slice (qA Bs id) N1 (qC Bs id), .bool true, .bool false]) 2 2 91 91 (RowS (fun u => Ag w u T G As gW Bs Q W) (qu Q id) 2) (by kernel_rfl) (by kernel_rfl) (by rfl) (by rfl) (RowS.start HAD.out) ?steps ?tail
                case steps =>
                  refine ⟨?s0, ?s1, ?s2, ?s3, ?s4, ?s5, ?s6, ?s7, trivial⟩
                  case s0 =>
                    intro Lb ac u hAg hp hl hd
                    have q0 := ev_of (show ac.eval (.tmp 5) = .pointer (some ⟨T, 0, none⟩) from hAg.eval 5 rfl)
                    refine ⟨rfl, StepOK.run (.pointer (some ⟨T, 0, none⟩)) ?_ ⟨fun _ _ => rfl, hp.keep (by decide) hp.1 (Below.refl _ _)⟩ trivial⟩
                    unfold execOp
                    simp [go_sem, q0]
                  case s1 =>
                    intro Lb ac u hAg hp hl hd
                    have q0 := ev_of (show ac.eval (.tmp 17) = .int .i64 (id : Nat) from hAg.eval 17 rfl)
                    refine ⟨rfl, StepOK.run (.int .i64 (id : Nat)) ?_ ⟨fun _ _ => rfl, hp.keep (by decide) hp.1 (Below.refl _ _)⟩ trivial⟩
                    unfold execOp
                    simp [go_sem, q0]
                  case s2 =>
                    intro Lb ac u hAg hp hl hd
                    have q0 := ev_of (show ac.eval (.tmp 89) = .pointer (some ⟨T, 0, none⟩) from depS hd 0 89 rfl rfl (by decide) (by decide))
                    have q1 := ev_of (show ac.eval (.tmp 90) = .int .i64 (id : Nat) from depS hd 1 90 rfl rfl (by decide) (by decide))
                    refine ⟨rfl, StepOK.call 19 #[.pointer (some ⟨T, 0, none⟩), .int .i64 (id : Nat)] ?_ ((queue_calls hp.1.lk.tb (id : Int)).mono ?_)⟩
                    · unfold execOp
                      simp [go_sem, q0, q1]
                    · rw [queueL_nat]
                      rintro e w2 ⟨R2, c2, rfl, hO2, hb2⟩
                      exact ⟨_, rfl, ⟨fun h1 _ => absurd rfl h1, RowS.turn (hp.1.below hb2) ⟨R2, c2, rfl, hO2.cel⟩⟩, trivial⟩
                  case s3 =>
                    intro Lb ac u hAg hp hl hd
                    have q0 := ev_of (show ac.eval (.tmp 17) = .int .i64 (id : Nat) from hAg.eval 17 rfl)
                    refine ⟨rfl, StepOK.run (.int .i64 (id : Nat)) ?_ ⟨fun _ _ => rfl, hp.keep (by decide) hp.1 (Below.refl _ _)⟩ trivial⟩
                    unfold execOp
                    simp [go_sem, q0]
                  case s4 =>
                    intro Lb ac u hAg hp hl hd
                    have q0 := ev_of (show ac.eval (.tmp 92) = .int .i64 (id : Nat) from depS hd 3 92 rfl rfl (by decide) (by decide))
                    have q1 := ev_of (show ac.eval (.tmp 7) = .pointer (some ⟨gW, 0, none⟩) from hAg.eval 7 rfl)
                    refine ⟨rfl, StepOK.run (.pointer (some ⟨gW, id, none⟩)) ?_ ⟨fun _ _ => rfl, hp.keep (by decide) hp.1 (Below.refl _ _)⟩ trivial⟩
                    unfold execOp
                    simp [go_sem, q0, q1, hid2]
                  case s5 =>
                    intro Lb ac u hAg hp hl hd
                    have q0 := ev_of (show ac.eval (.tmp 93) = .pointer (some ⟨gW, id, none⟩) from depS hd 4 93 rfl rfl (by decide) (by decide))
                    have y0 := HCW.out u hp.1
                    refine ⟨rfl, StepOK.run (.slice (qA Bs id) N1 (qC Bs id)) ?_ ⟨fun _ _ => rfl, hp.keep (by decide) hp.1 (Below.refl _ _)⟩ trivial⟩
                    unfold execOp
                    simp [go_sem, q0, y0]
                  case s6 =>
                    intro Lb ac u hAg hp hl hd
                    have q1 := ev_of (show ac.eval (.tmp 94) = .slice (qA Bs id) N1 (qC Bs id) from depS hd 5 94 rfl rfl (by decide) (by decide))
                    have l2 := depSL hd 2 rfl
                    have hx := hp.2 l2
                    obtain ⟨R2, c2, e2, hc2⟩ := hx
                    have q0 := ev_of e2
                    refine ⟨rfl, StepOK.call 21 #[.slice R2 (qu Q id).length c2, .slice (qA Bs id) N1 (qC Bs id)] ?_ ((isame_at ⟨R2, c2, rfl, hc2⟩ (HRW.out u hp.1) HL16.out).mono ?_)⟩
                    · unfold execOp
                      simp [go_sem, q0, q1]
                    · rintro e w2 ⟨rfl, qn, rfl⟩
                      exact ⟨_, rfl, ⟨fun _ _ => rfl, hp.keep (by decide) (hp.1.below (below_drewN (Below.refl _ _) qn)) (below_drewN (Below.refl _ _) qn)⟩, trivial⟩
                  case s7 =>
                    intro Lb ac u hAg hp hl hd
                    have q0 := ev_of (show ac.eval (.tmp 95) = .bool true from depS hd 6 95 rfl rfl (by decide) (by decide))
                    refine ⟨rfl, StepOK.run (.bool false) ?_ ⟨fun _ _ => rfl, hp.keep (by decide) hp.1 (Below.refl _ _)⟩ trivial⟩
                    unfold execOp
                    simp [go_sem, q0]
                case tail =>
                  intro Lb vs u hp hv hall
                  have e0 : vs 0 = .pointer (some ⟨T, 0, none⟩) := hv 0 rfl (by decide) (by decide)
                  have e1 : vs 1 = .int .i64 (id : Nat) := hv 1 rfl (by decide) (by decide)
                  have e3 : vs 3 = .int .i64 (id : Nat) := hv 3 rfl (by decide) (by decide)
                  have e4 : vs 4 = .pointer (some ⟨gW, id, none⟩) := hv 4 rfl (by decide) (by decide)
                  have e5 : vs 5 = .slice (qA Bs id) N1 (qC Bs id) := hv 5 rfl (by decide) (by decide)
                  have e6 : vs 6 = .bool true := hv 6 rfl (by decide) (by decide)
                  have e7 : vs 7 = .bool false := hv 7 rfl (by decide) (by decide)
                  simp only [putsFrom, Act.put, List.setIfInBounds_toArray, List.set_cons_succ, List.set_cons_zero, Nat.reduceAdd, e0, e1, e3, e4, e5, e6, e7]
                  replace hp := Lib.hid hp
                  generalize vs 2 = z2 at *
                  clear e0 e1 e3 e4 e5 e6 e7 hv hall
                  have HA2 := Lib.hid hp.out.1
                  go_wp2_with (fail)
                  go_roundg g
                  case measure => omega
                  case rel => exact ⟨id + 1, by omega, by go_num, HA2⟩
              | zero =>
                obtain rfl : id = 12 := by omega
                go_wp2_with (fail)
                refine (HA3.out.lk.free p (er := 0) (Q' := freeQ Q p) (by unfold freeE; rw [if_pos hp8]) (by unfold freeQ'; rw [if_pos hp8])).mono ?_
                rintro e w4 ⟨rfl, As4, h4, t4⟩
                have HA4 := Lib.hid (HA3.out.turn h4 t4)
                clear HA3 h4 t4
                go_wp2_with (fail)
                refine (holds_calls HA4.out.lk.tb p).mono ?_
                rw [free_holds, show ni [] = [] from rfl]
                rintro e w5 ⟨R5, c5, rfl, _, hb5⟩
                have HA5 := Lib.hid (HA4.out.below hb5)
                clear HA4 hb5
                rw [show ([] : List Int).length = 0 from rfl]
                go_wp2_with (fail)
                go_loopg [18] 12 (fun g s18 wx => ∃ id : Nat, id + g = 12 ∧ s18 = .int .i64 id ∧ Hid (Ag w wx T G As4 gW Bs (freeQ Q p) W))
                case atStart => exact ⟨0, by omega, rfl, HA5⟩
                case round =>
                  obtain ⟨id, hidg, rfl, HA6⟩ := hrel
                  clear HA5
                  cases gk with
                  | zero =>
                    go_wp2_with (fail)
                    refine (alive_calls _).mono ?_
                    rintro e w' ⟨rfl, hb⟩
                    replace hb := Lib.hid (HA6.out.lk.on.trans (hb.mono HA6.out.lk.on.size))
                    go_wp2_with (fail)
                    go_ret
                    exact ⟨rfl, hb.out⟩
                  | succ g =>
                    have hid : id < 12 := by omega
                    have hid2 : (id : Int) < 12 := by omega
                    obtain ⟨q, hq⟩ : ∃ q, qu Q id = q := ⟨_, rfl⟩
                    have HQI := Lib.hid hq
                    have hl16 := HNM.out.len id
                    have HFQ : Hid (qu (freeQ Q p) id = offQ p q) := Lib.hid (by rw [qu_free, hq])
                    rw [hq] at hl16
                    obtain ⟨N1, hN1⟩ : ∃ N1, q.length = N1 := ⟨_, rfl⟩
                    have HN1 := Lib.hid hN1
                    rw [hN1] at hl16
                    obtain ⟨A, hA⟩ : ∃ A, qA Bs id = A := ⟨_, rfl⟩
                    have HAA := Lib.hid hA
                    obtain ⟨C, hC⟩ : ∃ C, qC Bs id = C := ⟨_, rfl⟩
                    have HCC := Lib.hid hC
                    have HCW : Hid (∀ u, Ag w u T G As4 gW Bs (freeQ Q p) W → u.cell? ⟨gW, id, none⟩ = some (.slice A N1 C)) := Lib.hid (fun u h => by
                      have := h.cell (i := id) (by rw [HWL.out]; exact hid)
                      rwa [HWQ.out id hid, HQI.out, HN1.out, HAA.out, HCC.out] at this)
                    have HRW : Hid (∀ u j, j < N1 → Ag w u T G As4 gW Bs (freeQ Q p) W → ∃ g, A = some ⟨g, 0, none⟩ ∧ u.cell? ⟨g, j, none⟩ = some (.int .i64 (q.getD j 0))) := Lib.hid (fun u j hj h => by
                      obtain ⟨g, e1, e2⟩ := h.qm.at (i := id) (k := j) (by rw [HWL.out]; exact hid) (by rw [HWQ.out id hid, HQI.out, HN1.out]; exact hj)
                      rw [HWQ.out id hid, HQI.out] at e2
                      exact ⟨g, by rw [← HAA.out]; exact e1, e2⟩)
                    clear hN1 hA hC hq
                    generalize hwI : wr = wI at *
                    clear hwI
                    have y0 := HCW.out wI HA6.out
                    go_wp2_with (fail)
                    clear y0
                    go_loopg [19, 20] N1 (fun g2 s19 s20 wx => ∃ (j : Nat) (L : List Int) (n' : Nat) (R : Option Addr) (cr : Nat), j + g2 = N1 ∧ s20 = .int .i64 j ∧ s19 = .slice R n' cr ∧ Hid (L.length = n') ∧ n' ≤ j ∧ Hid (offQ p (q.take j) = L) ∧ Hid (IOwn wI.heap.size wx R cr L) ∧ Hid (Below wI.heap.size wI wx))
                    case atStart => exact ⟨0, [], 0, none, 0, by omega, rfl, rfl, rfl, by omega, rfl, Lib.hid (IOwn.nil _ _), Lib.hid (Below.refl _ _)⟩
                    case round =>
                      obtain ⟨j, L, n', R, cr, hjg, rfl, rfl, hn, hnj, hL, hO, hBr⟩ := hrel
                      have hAr := Lib.hid (HA6.out.below hBr.out)
                      have yq := HCW.out wr hAr.out
                      have hsz := Lib.hid hBr.out.size
                      cases gk with
                      | zero =>
                        obtain rfl : j = N1 := by omega
                        have HLL : Hid (L = offQ p q) := Lib.hid (by rw [← hL.out, ← HN1.out, List.take_length])
                        go_wp2_with (fail)
                        refine (queue_calls hAr.out.lk.tb (id : Int)).mono ?_
                        rw [queueL_nat, HFQ.out]
                        rintro e w7 ⟨R7, c7, rfl, hO7, hb7⟩
                        have HA7 := Lib.hid (hAr.out.below hb7)
                        have hRO := Lib.hid (hO.out.cel.below hb7)
                        replace hO7 := Lib.hid hO7.cel
                        clear hAr hO hb7 yq
                        go_wp2_with (fail)
                        refine (isame_at ⟨R7, c7, rfl, hO7.out⟩ ⟨R, cr, by rw [← HLL.out, hn.out], by rw [← HLL.out]; exact hRO.out⟩ (by have := off_len p q; have := HN1.out; omega)).mono ?_
                        rintro e w8 ⟨rfl, qn, rfl⟩
                        have HA8 := Lib.hid (HA7.out.below (below_drewN (Below.refl _ _) qn))
                        go_wp2_with (fail)
                        go_roundg g
                        case measure => omega
                        case rel => exact ⟨id + 1, by omega, by go_num, HA8⟩
                      | succ g2 =>
                        have hjN : j < N1 := by omega
                        have hjN2 : (j : Int) < (N1 : Int) := by omega
                        obtain ⟨gb, rfl, yc⟩ := HRW.out wr j hjN hAr.out
                        have hs := off_take (p := p) (l := q) (j := j) (by rw [HN1.out]; exact hjN)
                        rw [hL.out] at hs
                        generalize q.getD j 0 = x at *
                        by_cases hxp : x = p
                        · subst hxp
                          rw [if_pos rfl] at hs
                          have HS2 := Lib.hid hs
                          clear hs
                          go_wp2_with (fail)
                          go_roundg g2
                          case measure => omega
                          case rel => exact ⟨j + 1, L, n', R, cr, by omega, by go_num, rfl, hn, by omega, HS2, hO, hBr⟩
                        · rw [if_neg hxp] at hs
                          have HS2 := Lib.hid hs.symm
                          have hxp2 : (x != p) = true := by rw [bne_iff_ne]; exact hxp
                          clear hs hxp
                          go_wp2_with (at_builtin; refine wpList_append_r rfl (.tmp 128) (.tmp 135) 40 rfl 3 i0 _ 1 8 Try.underlying40 HI.out HZ.out HS.out HB.out rfl R n' cr (iv L) rfl ((hO.out.two 0 _).at hn.out) ⟨wr.heap.size, 0, none⟩ 1 1 (iv [x]) rfl rfl (cells_one (heap_alloc_new _ _)) (iv_one _) (by decide) (by unfold maxLen; omega) (by omega) ?_; intro g' c2 w1 hown2 hgr hg)
                          have hst := (hO.out.two 0 _).step (by simp; have := hsz.out; omega) ((below_drewN hBr.out 0).alloc hsz.out _) hn.out hown2 hgr hg HS2.out
                          go_roundg g2
                          case measure => omega
                          case rel => exact ⟨j + 1, _, n' + 1, _, c2, by omega, by go_num, rfl, hst.2.2, by omega, rfl, Lib.hid hst.1, Lib.hid hst.2.1⟩
end Go.Proofs.Ythlodfahajaneaa
