/- The document's May, over attributes of any size. -/
import Derived.Test.YtgdiiicaljidpaaQj
import Derived.Deep.DeepCutAuto
import Derived.Deep.LoopGhost
set_option linter.unusedSimpArgs false
set_option linter.unusedVariables false
set_option linter.unusedSimpArgs false
set_option linter.unusedVariables false
namespace Go.Proofs.Ytgdiiicaljidpaa
open Go.RowKit Go.Sort Go.Lib
theorem bg_acZ : Bg acZ := ⟨by decide, by decide⟩
set_option maxRecDepth 100000 in
theorem rnamedG_calls (A : Option Addr) (L : List Nm) (c : Nat) (w : World) (hc : Cel w A (nv L)) (hlen : L.length ≤ 9223372036854775807) :
    Calls Try.prog 42 #[.slice A L.length c] w (Q (.bool (namedB L)) w) := by
  obtain ⟨n, hn⟩ : ∃ n, L.length = n := ⟨_, rfl⟩
  have HN := Lib.hid hn
  rw [hn] at hlen ⊢
  clear hn
  go_enter Try.func42, Try.ntmps42
  go_wp2_with (fail)
  go_loopw [3] (fun i wr => ∃ k : Nat, i = .int .i64 k ∧ k ≤ n ∧ Hid (Rise L k) ∧ ∃ q, wr = w.drewN q) (fun i _ => n - (intOf i).toNat)
  case atStart => exact ⟨0, rfl, by omega, Lib.hid (Rise.zero L), 0, rfl⟩
  case round =>
    obtain ⟨k, rfl, hk, hR, q, rfl⟩ := hrel
    by_cases hkn : k < n
    · obtain ⟨b, o, rfl, hlt, hcell⟩ := hc.nm (by rw [HN.out]; omega)
      obtain ⟨p, hp⟩ : ∃ p, L[k]? = some p := ⟨_, List.getElem?_eq_getElem (by rw [HN.out]; exact hkn)⟩
      obtain ⟨e1, e2⟩ := hcell k p hp
      have HP := Lib.hid hp
      clear hp
      by_cases h7 : p.pm ≤ 7
      · have h7' : decide (7 < (p.pm : Int)) = false := by rw [decide_eq_false_iff_not]; omega
        cases k with
        | zero =>
          have HR2 := Lib.hid (Rise.first HP.out h7)
          clear hcell
          go_wp2_with (fail)
          go_quiet (fail)
          go_wp2_with (fail)
          go_roundw
          case rel => exact ⟨1, by go_num, by omega, HR2, _, rfl⟩
          case measure => simp [intOf]; omega
        | succ k =>
          obtain ⟨r, hr⟩ : ∃ r, L[k]? = some r := ⟨_, List.getElem?_eq_getElem (by rw [HN.out]; omega)⟩
          obtain ⟨e3, e4⟩ := hcell k r hr
          have HR1 := Lib.hid hr
          have h0 : decide ((0 : Int) < ((k + 1 : Nat) : Int)) = true := by rw [decide_eq_true_eq]; omega
          have h0' : decide ((0 : Int) < (k : Int) + 1) = true := by rw [decide_eq_true_eq]; omega
          have hk1 : (k : Int) + 1 - 1 = (k : Int) := by omega
          clear hcell hr
          by_cases hid : r.id < p.id
          · have hid' : decide ((p.id : Int) ≤ (r.id : Int)) = false := by rw [decide_eq_false_iff_not]; omega
            have HR2 := Lib.hid (hR.out.more HR1.out HP.out h7 hid)
            go_wp2_with (fail)
            go_quiet (fail)
            go_wp2_with (fail)
            go_roundw
            case rel => exact ⟨k + 2, by go_num, by omega, HR2, _, rfl⟩
            case measure => simp [intOf]; omega
          · have hid' : decide ((p.id : Int) ≤ (r.id : Int)) = true := by rw [decide_eq_true_eq]; omega
            have HV := Lib.hid (namedB_id HR1.out HP.out (by omega))
            go_wp2_with (fail)
            go_quiet (fail)
            go_wp2_with (fail)
            go_ret
            rw [HV.out, World.drewN_drewN]
            exact Q.of
      · have h7' : decide (7 < (p.pm : Int)) = true := by rw [decide_eq_true_eq]; omega
        have HV := Lib.hid (namedB_pm HP.out (by omega))
        clear hcell
        go_wp2_with (fail)
        go_quiet (fail)
        go_wp2_with (fail)
        go_ret
        rw [HV.out, World.drewN_drewN]
        exact Q.of
    · obtain rfl : k = n := by omega
      have HV : Hid (namedB L = decide (k ≤ 4)) := by have h := hR.out; rw [← HN.out] at h; have := namedB_len h; rw [HN.out] at this; exact this
      go_wp2_with (fail)
      go_ret
      rw [HV.out]
      have : decide ((k : Int) ≤ 4) = decide (k ≤ 4) := by rw [decide_eq_decide]; omega
      try rw [this]
      exact Q.of
set_option maxRecDepth 100000 in
theorem rsameG_calls (A B : Option Addr) (L M : List Nm) (c d : Nat) (w : World) (ha : Cel w A (nv L)) (hb : Cel w B (nv M)) (hlen : L.length ≤ 9223372036854775807) (hlen2 : M.length ≤ 9223372036854775807) :
    Calls Try.prog 34 #[.slice A L.length c, .slice B M.length d] w (Q (.bool (rowsB L M)) w) := by
  by_cases hn : L.length = M.length
  · obtain ⟨n, hLn⟩ : ∃ n, L.length = n := ⟨_, rfl⟩
    have hMn : M.length = n := by omega
    have HL := Lib.hid hLn
    have HM := Lib.hid hMn
    rw [hLn, hMn]
    rw [hLn] at hlen
    clear hn hLn hMn hlen2
    go_enter Try.func34, Try.ntmps34
    go_wp2_with (fail)
    go_loopw [5] (fun i wr => ∃ k : Nat, i = .int .i64 k ∧ k ≤ n ∧ Hid (Alike L M k) ∧ ∃ q, wr = w.drewN q) (fun i _ => n - (intOf i).toNat)
    case atStart => exact ⟨0, rfl, by omega, Lib.hid (fun j hj => absurd hj (by omega)), 0, rfl⟩
    case round =>
      obtain ⟨k, rfl, hk, hs, q, rfl⟩ := hrel
      by_cases h1 : k < n
      · obtain ⟨b1, o1, rfl, _, hca⟩ := ha.nm (by rw [HL.out]; omega)
        obtain ⟨b2, o2, rfl, _, hcb⟩ := hb.nm (by rw [HM.out]; omega)
        obtain ⟨p, hp⟩ : ∃ p, L[k]? = some p := ⟨_, List.getElem?_eq_getElem (by rw [HL.out]; exact h1)⟩
        obtain ⟨r, hr⟩ : ∃ r, M[k]? = some r := ⟨_, List.getElem?_eq_getElem (by rw [HM.out]; exact h1)⟩
        obtain ⟨e1, e2⟩ := hca k p hp
        obtain ⟨e3, e4⟩ := hcb k r hr
        have HP := Lib.hid hp
        have HR := Lib.hid hr
        clear hca hcb hp hr
        by_cases he : p = r
        · subst he
          have hE := fun w => eqNm p.id p.pm p.id p.pm w
          rw [eqN_yes] at hE
          have hs' := Lib.hid (hs.out.more (HP.out.trans HR.out.symm))
          go_wp2_with (fail)
          go_quiet (fail)
          go_wp2_with (fail)
          go_roundw
          case rel => exact ⟨k + 1, by go_num, by omega, hs', _, rfl⟩
          case measure => simp [intOf]; omega
        · have hE := fun w => eqNm p.id p.pm r.id r.pm w
          rw [eqN_no he] at hE
          have HV := Lib.hid (rowsB_at HP.out HR.out he)
          clear he
          go_wp2_with (fail)
          go_quiet (fail)
          go_wp2_with (fail)
          go_ret
          rw [HV.out, World.drewN_drewN]
          exact Q.of
      · obtain rfl : k = n := by omega
        have HV : Hid (rowsB L M = true) := Lib.hid (rowsB_iff.2 (by have h := hs.out; rw [← HL.out] at h; exact h.eq (HL.out.trans HM.out.symm)))
        go_wp2_with (fail)
        go_ret
        rw [HV.out]
        exact Q.of
  · have HV : Hid (rowsB L M = false) := Lib.hid (rowsB_no (by rintro rfl; exact hn rfl))
    have hne : ((L.length : Int) == (M.length : Nat)) = false := by rw [beq_eq_false_iff_ne]; omega
    go_enter Try.func34, Try.ntmps34
    go_wp2_with (fail)
    go_ret
    rw [HV.out]
    exact Q.self
set_option maxRecDepth 100000 in
set_option maxHeartbeats 2000000 in
theorem rmayG_calls (x : Ac) (p : Lie) (w : World) (h : Lies w x p) (hs : Bg x) : Calls Try.prog 32 #[x.v p] w fun e w' => e = .returned (.bool (mayB x)) ∧ Below w.heap.size w w' := by
  obtain ⟨ow, gr, ot, us, gs, hm, ms⟩ := x
  obtain ⟨A, c, B, d⟩ := p
  obtain ⟨hus, hgs⟩ := h
  obtain ⟨s1, s2⟩ := hs
  simp only at hus hgs s1 s2
  unfold Ac.v Ac.c
  simp only
  obtain ⟨n, hn⟩ : ∃ n, us.length = n := ⟨_, rfl⟩
  obtain ⟨m, hm'⟩ : ∃ m, gs.length = m := ⟨_, rfl⟩
  rw [hn, hm']
  have hb0 : Below w.heap.size w (w.alloc (.cells #[.int .u8 (ow : Nat), .int .u8 (gr : Nat), .int .u8 (ot : Nat), .slice A n c, .slice B m d, .bool hm, .int .u8 (ms : Nat)] 28)) := (Below.refl _ _).alloc (Nat.le_refl _) _
  have HU := Lib.hid (hus.below hb0)
  have HG := Lib.hid (hgs.below hb0)
  have HB := Lib.hid hb0
  have s1' : n ≤ 9223372036854775807 := by omega
  have s2' : m ≤ 9223372036854775807 := by omega
  have S1 := Lib.hid s1
  have S2 := Lib.hid s2
  have HN := Lib.hid hn
  have HM := Lib.hid hm'
  clear hb0 hus hgs s1 s2 hn hm'
  by_cases t0 : ow ≤ 7
  case neg =>
    have HV : Hid (mayB ⟨ow, gr, ot, us, gs, hm, ms⟩ = false) := Lib.hid (mayB_no fun h => t0 h.ow)
    have b0 : decide ((7 : Int) < (ow : Int)) = true := by rw [decide_eq_true_eq]; omega
    go_enter Try.func32, Try.ntmps32
    go_wp2_with (fail)
    go_ret
    exact ⟨by rw [HV.out]; rfl, HB.out⟩
  case pos =>
  by_cases t1 : gr ≤ 7
  case neg =>
    have HV : Hid (mayB ⟨ow, gr, ot, us, gs, hm, ms⟩ = false) := Lib.hid (mayB_no fun h => t1 h.gr)
    have b0 : decide ((7 : Int) < (ow : Int)) = false := by rw [decide_eq_false_iff_not]; omega
    have b1 : decide ((7 : Int) < (gr : Int)) = true := by rw [decide_eq_true_eq]; omega
    go_enter Try.func32, Try.ntmps32
    go_wp2_with (fail)
    go_ret
    exact ⟨by rw [HV.out]; rfl, HB.out⟩
  case pos =>
  by_cases t2 : ot ≤ 7
  case neg =>
    have HV : Hid (mayB ⟨ow, gr, ot, us, gs, hm, ms⟩ = false) := Lib.hid (mayB_no fun h => t2 h.ot)
    have b0 : decide ((7 : Int) < (ow : Int)) = false := by rw [decide_eq_false_iff_not]; omega
    have b1 : decide ((7 : Int) < (gr : Int)) = false := by rw [decide_eq_false_iff_not]; omega
    have b2 : decide ((7 : Int) < (ot : Int)) = true := by rw [decide_eq_true_eq]; omega
    go_enter Try.func32, Try.ntmps32
    go_wp2_with (fail)
    go_ret
    exact ⟨by rw [HV.out]; rfl, HB.out⟩
  case pos =>
  by_cases t3 : ms ≤ 7
  case neg =>
    have HV : Hid (mayB ⟨ow, gr, ot, us, gs, hm, ms⟩ = false) := Lib.hid (mayB_no fun h => t3 h.ms)
    have b0 : decide ((7 : Int) < (ow : Int)) = false := by rw [decide_eq_false_iff_not]; omega
    have b1 : decide ((7 : Int) < (gr : Int)) = false := by rw [decide_eq_false_iff_not]; omega
    have b2 : decide ((7 : Int) < (ot : Int)) = false := by rw [decide_eq_false_iff_not]; omega
    have b3 : decide ((7 : Int) < (ms : Int)) = true := by rw [decide_eq_true_eq]; omega
    go_enter Try.func32, Try.ntmps32
    go_wp2_with (fail)
    go_ret
    exact ⟨by rw [HV.out]; rfl, HB.out⟩
  case pos =>
  have b0 : decide ((7 : Int) < (ow : Int)) = false := by rw [decide_eq_false_iff_not]; omega
  have b1 : decide ((7 : Int) < (gr : Int)) = false := by rw [decide_eq_false_iff_not]; omega
  have b2 : decide ((7 : Int) < (ot : Int)) = false := by rw [decide_eq_false_iff_not]; omega
  have b3 : decide ((7 : Int) < (ms : Int)) = false := by rw [decide_eq_false_iff_not]; omega
  have CU := rnamedG_calls A us c _ HU.out S1.out
  rw [HN.out] at CU
  have CG := fun q => rnamedG_calls B gs d _ (HG.out.drewN q) S2.out
  rw [HM.out] at CG
  cases hu : namedB us
  case false =>
    have HV : Hid (mayB ⟨ow, gr, ot, us, gs, hm, ms⟩ = false) := Lib.hid (mayB_no fun h => by have := h.us; simp [hu] at this)
    rw [hu] at CU
    clear CG
    go_enter Try.func32, Try.ntmps32
    go_wp2_with (fail)
    refine CU.mono ?_
    rintro e w1 ⟨rfl, q1, rfl⟩
    go_wp2_with (fail)
    go_ret
    exact ⟨by rw [HV.out]; rfl, below_drewN HB.out _⟩
  case true =>
  rw [hu] at CU
  cases hg : namedB gs
  case false =>
    have HV : Hid (mayB ⟨ow, gr, ot, us, gs, hm, ms⟩ = false) := Lib.hid (mayB_no fun h => by have := h.gs; simp [hg] at this)
    rw [hg] at CG
    go_enter Try.func32, Try.ntmps32
    go_wp2_with (fail)
    refine CU.mono ?_
    rintro e w1 ⟨rfl, q1, rfl⟩
    go_wp2_with (fail)
    refine (CG _).mono ?_
    rintro e w2 ⟨rfl, q2, rfl⟩
    go_wp2_with (fail)
    go_ret
    exact ⟨by rw [HV.out]; rfl, by first | exact below_drewN HB.out _ | exact below_drewN (below_drewN HB.out _) _⟩
  case true =>
  rw [hg] at CG
  cases hm
  case true =>
    have HV : Hid (mayB ⟨ow, gr, ot, us, gs, true, ms⟩ = true) := Lib.hid (mayB_iff.2 ⟨t0, t1, t2, t3, hu, hg, fun h => by cases h⟩)
    go_enter Try.func32, Try.ntmps32
    go_wp2_with (fail)
    refine CU.mono ?_
    rintro e w1 ⟨rfl, q1, rfl⟩
    go_wp2_with (fail)
    refine (CG _).mono ?_
    rintro e w2 ⟨rfl, q2, rfl⟩
    go_wp2_with (fail)
    go_ret
    exact ⟨by rw [HV.out]; rfl, by first | exact below_drewN HB.out _ | exact below_drewN (below_drewN HB.out _) _⟩
  case false =>
  by_cases z0 : ms = 0
  case neg =>
    have HV : Hid (mayB ⟨ow, gr, ot, us, gs, false, ms⟩ = false) := Lib.hid (mayB_no fun h => by have := h.small rfl; have := HN.out; have := HM.out; simp only at *; omega)
    have y0 : ((ms : Int) == 0) = false := by rw [beq_eq_false_iff_ne]; omega
    go_enter Try.func32, Try.ntmps32
    go_wp2_with (fail)
    refine CU.mono ?_
    rintro e w1 ⟨rfl, q1, rfl⟩
    go_wp2_with (fail)
    refine (CG _).mono ?_
    rintro e w2 ⟨rfl, q2, rfl⟩
    go_wp2_with (fail)
    go_ret
    exact ⟨by rw [HV.out]; rfl, by first | exact below_drewN HB.out _ | exact below_drewN (below_drewN HB.out _) _⟩
  case pos =>
  subst z0
  by_cases z1 : n = 0
  case neg =>
    have HV : Hid (mayB ⟨ow, gr, ot, us, gs, false, 0⟩ = false) := Lib.hid (mayB_no fun h => by have := h.small rfl; have := HN.out; have := HM.out; simp only at *; omega)
    have y1 : ((n : Int) == 0) = false := by rw [beq_eq_false_iff_ne]; omega
    go_enter Try.func32, Try.ntmps32
    go_wp2_with (fail)
    refine CU.mono ?_
    rintro e w1 ⟨rfl, q1, rfl⟩
    go_wp2_with (fail)
    refine (CG _).mono ?_
    rintro e w2 ⟨rfl, q2, rfl⟩
    go_wp2_with (fail)
    go_ret
    exact ⟨by rw [HV.out]; rfl, by first | exact below_drewN HB.out _ | exact below_drewN (below_drewN HB.out _) _⟩
  case pos =>
  subst z1
  by_cases z2 : m = 0
  case neg =>
    have HV : Hid (mayB ⟨ow, gr, ot, us, gs, false, 0⟩ = false) := Lib.hid (mayB_no fun h => by have := h.small rfl; have := HN.out; have := HM.out; simp only at *; omega)
    have y2 : ((m : Int) == 0) = false := by rw [beq_eq_false_iff_ne]; omega
    go_enter Try.func32, Try.ntmps32
    go_wp2_with (fail)
    refine CU.mono ?_
    rintro e w1 ⟨rfl, q1, rfl⟩
    go_wp2_with (fail)
    refine (CG _).mono ?_
    rintro e w2 ⟨rfl, q2, rfl⟩
    go_wp2_with (fail)
    go_ret
    exact ⟨by rw [HV.out]; rfl, by first | exact below_drewN HB.out _ | exact below_drewN (below_drewN HB.out _) _⟩
  case pos =>
  subst z2
  have HV : Hid (mayB ⟨ow, gr, ot, us, gs, false, 0⟩ = true) := Lib.hid (mayB_iff.2 ⟨t0, t1, t2, t3, hu, hg, fun _ => ⟨rfl, HN.out, HM.out⟩⟩)
  go_enter Try.func32, Try.ntmps32
  go_wp2_with (fail)
  refine CU.mono ?_
  rintro e w1 ⟨rfl, q1, rfl⟩
  go_wp2_with (fail)
  refine (CG _).mono ?_
  rintro e w2 ⟨rfl, q2, rfl⟩
  go_wp2_with (fail)
  go_ret
  exact ⟨by rw [HV.out]; rfl, by first | exact below_drewN HB.out _ | exact below_drewN (below_drewN HB.out _) _⟩
set_option maxRecDepth 100000 in
set_option maxHeartbeats 2000000 in
theorem rlsameG_calls (x y : Ac) (p q : Lie) (w : World) (h1 : Lies w x p) (h2 : Lies w y q) (hs1 : Bg x) (hs2 : Bg y) : Calls Try.prog 16 #[x.v p, y.v q] w fun e w' => e = .returned (.bool (sameB x y)) ∧ Below w.heap.size w w' := by
  obtain ⟨ow, gr, ot, us, gs, hm, ms⟩ := x
  obtain ⟨ow2, gr2, ot2, us2, gs2, hm2, ms2⟩ := y
  obtain ⟨A, c, B, d⟩ := p
  obtain ⟨A2, c2, B2, d2⟩ := q
  have hb : Below w.heap.size w ((w.alloc (.cells #[.int .u8 (ow : Nat), .int .u8 (gr : Nat), .int .u8 (ot : Nat), .slice A us.length c, .slice B gs.length d, .bool hm, .int .u8 (ms : Nat)] 28)).alloc (.cells #[.int .u8 (ow2 : Nat), .int .u8 (gr2 : Nat), .int .u8 (ot2 : Nat), .slice A2 us2.length c2, .slice B2 gs2.length d2, .bool hm2, .int .u8 (ms2 : Nat)] 28)) := ((Below.refl _ _).alloc (Nat.le_refl _) _).alloc (by simp) _
  have k1 := h1.below hb
  have k2 := h2.below hb
  have CU := rsameG_calls A A2 us us2 c c2 _ k1.us k2.us hs1.us hs2.us
  have CG := fun n => rsameG_calls B B2 gs gs2 d d2 _ (k1.gs.drewN n) (k2.gs.drewN n) hs1.gs hs2.gs
  obtain ⟨n1, hn1⟩ : ∃ n, us.length = n := ⟨_, rfl⟩
  obtain ⟨n2, hn2⟩ : ∃ n, us2.length = n := ⟨_, rfl⟩
  obtain ⟨m1, hm1⟩ : ∃ n, gs.length = n := ⟨_, rfl⟩
  obtain ⟨m2, hm2'⟩ : ∃ n, gs2.length = n := ⟨_, rfl⟩
  have HB := Lib.hid hb
  unfold Ac.v Ac.c
  simp only [hn1, hn2, hm1, hm2'] at CU CG HB ⊢
  have CUH := Lib.hid CU
  have CGH := Lib.hid CG
  clear CU CG h1 h2 k1 k2 hs1 hs2 hn1 hn2 hm1 hm2' hb
  by_cases e0 : ow = ow2
  case neg =>
    have HV := Lib.hid (sameB_no (x := ⟨ow, gr, ot, us, gs, hm, ms⟩) (y := ⟨ow2, gr2, ot2, us2, gs2, hm2, ms2⟩) (fun h => by injection h with z0 z1 z2 z3 z4 z5 z6; exact e0 z0))
    have f : ((ow : Int) == (ow2 : Nat)) = false := by rw [beq_eq_false_iff_ne]; omega
    go_enter Try.func16, Try.ntmps16
    go_wp2_with (fail)
    go_ret
    exact ⟨by rw [HV.out]; rfl, HB.out⟩
  case pos =>
  subst e0
  by_cases e1 : gr = gr2
  case neg =>
    have HV := Lib.hid (sameB_no (x := ⟨ow, gr, ot, us, gs, hm, ms⟩) (y := ⟨ow, gr2, ot2, us2, gs2, hm2, ms2⟩) (fun h => by injection h with z0 z1 z2 z3 z4 z5 z6; exact e1 z1))
    have f : ((gr : Int) == (gr2 : Nat)) = false := by rw [beq_eq_false_iff_ne]; omega
    go_enter Try.func16, Try.ntmps16
    go_wp2_with (fail)
    go_ret
    exact ⟨by rw [HV.out]; rfl, HB.out⟩
  case pos =>
  subst e1
  by_cases e2 : ot = ot2
  case neg =>
    have HV := Lib.hid (sameB_no (x := ⟨ow, gr, ot, us, gs, hm, ms⟩) (y := ⟨ow, gr, ot2, us2, gs2, hm2, ms2⟩) (fun h => by injection h with z0 z1 z2 z3 z4 z5 z6; exact e2 z2))
    have f : ((ot : Int) == (ot2 : Nat)) = false := by rw [beq_eq_false_iff_ne]; omega
    go_enter Try.func16, Try.ntmps16
    go_wp2_with (fail)
    go_ret
    exact ⟨by rw [HV.out]; rfl, HB.out⟩
  case pos =>
  subst e2
  by_cases e3 : hm = hm2
  case neg =>
    have HV := Lib.hid (sameB_no (x := ⟨ow, gr, ot, us, gs, hm, ms⟩) (y := ⟨ow, gr, ot, us2, gs2, hm2, ms2⟩) (fun h => by injection h with z0 z1 z2 z3 z4 z5 z6; exact e3 z5))
    cases hm <;> cases hm2 <;> first | exact absurd rfl e3 | skip
    all_goals
      go_enter Try.func16, Try.ntmps16
      go_wp2_with (fail)
      go_ret
      exact ⟨by rw [HV.out]; rfl, HB.out⟩
  case pos =>
  subst e3
  by_cases e4 : ms = ms2
  case neg =>
    have HV := Lib.hid (sameB_no (x := ⟨ow, gr, ot, us, gs, hm, ms⟩) (y := ⟨ow, gr, ot, us2, gs2, hm, ms2⟩) (fun h => by injection h with z0 z1 z2 z3 z4 z5 z6; exact e4 z6))
    have f : ((ms : Int) == (ms2 : Nat)) = false := by rw [beq_eq_false_iff_ne]; omega
    go_enter Try.func16, Try.ntmps16
    go_wp2_with (fail)
    go_ret
    exact ⟨by rw [HV.out]; rfl, HB.out⟩
  case pos =>
  subst e4
  cases hu : rowsB us us2
  case false =>
    have HV := Lib.hid (sameB_no (x := ⟨ow, gr, ot, us, gs, hm, ms⟩) (y := ⟨ow, gr, ot, us2, gs2, hm, ms⟩) (fun h => by injection h with z0 z1 z2 z3 z4 z5 z6; rw [z3, rowsB_self] at hu; cases hu))
    have CU := CUH.out
    rw [hu] at CU
    go_enter Try.func16, Try.ntmps16
    go_wp2_with (fail)
    refine CU.mono ?_
    rintro e w1 ⟨rfl, q1, rfl⟩
    go_wp2_with (fail)
    go_ret
    exact ⟨by rw [HV.out]; rfl, below_drewN HB.out _⟩
  case true =>
  have HV : Hid (sameB ⟨ow, gr, ot, us, gs, hm, ms⟩ ⟨ow, gr, ot, us2, gs2, hm, ms⟩ = rowsB gs gs2) := Lib.hid (by
    have h := rowsB_iff.1 hu
    subst h
    cases hg : rowsB gs gs2
    · exact sameB_no fun h => by injection h with z0 z1 z2 z3 z4 z5 z6; rw [z4, rowsB_self] at hg; cases hg
    · rw [rowsB_iff.1 hg]; exact sameB_self _)
  have CU := CUH.out
  rw [hu] at CU
  go_enter Try.func16, Try.ntmps16
  go_wp2_with (fail)
  refine CU.mono ?_
  rintro e w1 ⟨rfl, q1, rfl⟩
  go_wp2_with (fail)
  refine (CGH.out _).mono ?_
  rintro e w2 ⟨rfl, q2, rfl⟩
  go_wp2_with (fail)
  go_ret
  exact ⟨by rw [HV.out]; rfl, by first | exact below_drewN HB.out _ | exact below_drewN (below_drewN HB.out _) _⟩
set_option maxRecDepth 100000 in
theorem rkeyG_calls (s : ByteArray) (w : World) (hs : s.size ≤ 9223372036854775807) :
    Calls Try.prog 33 #[.string s] w (Q (.bool (keyB s)) w) := by
  go_enter Try.func33, Try.ntmps33
  go_wp2_with (fail)
  go_loopw [3] (fun i wr => ∃ k : Nat, i = .int .i64 k ∧ k ≤ s.size ∧ Hid (∀ j (hj : j < s.size), j < k → s[j] ≠ 0) ∧ ∃ q, wr = w.drewN q) (fun i _ => s.size - (intOf i).toNat)
  case atStart => exact ⟨0, rfl, by omega, Lib.hid (fun j hj h => absurd h (by omega)), 0, rfl⟩
  case round =>
    obtain ⟨k, rfl, hk, hR, q, rfl⟩ := hrel
    by_cases hks : k < s.size
    · by_cases h0 : s[k] = 0
      · have HV : Hid (keyB s = false) := Lib.hid (keyB_no fun h => h.2.2 (by
          have hm : s.data.toList[k]? = some s[k] := by rw [Array.getElem?_toList]; exact Array.getElem?_eq_getElem hks
          rw [h0] at hm
          exact List.mem_of_getElem? hm))
        have h0' : s[k].toNat = 0 := by rw [h0]; rfl
        clear h0
        go_wp2_with (fail)
        go_ret
        rw [HV.out]
        exact Q.of
      · have h0' : ((s[k].toNat : Int) == 0) = false := by
          rw [beq_eq_false_iff_ne]
          intro e
          exact h0 (UInt8.toNat_inj.1 (by simpa using e))
        have hR' := Lib.hid (show ∀ j (hj : j < s.size), j < k + 1 → s[j] ≠ 0 from fun j hj h => by
          by_cases e : j = k
          · subst e; exact h0
          · exact hR.out j hj (by omega))
        clear h0
        go_wp2_with (fail)
        go_roundw
        case rel => exact ⟨k + 1, by go_num, by omega, hR', q, rfl⟩
        case measure => simp [intOf]; omega
    · obtain rfl : k = s.size := by omega
      have hno : (0 : UInt8) ∉ s.data.toList := fun h => by
        obtain ⟨j, hj⟩ := List.getElem?_of_mem h
        have hl : j < s.size := by have := (List.getElem?_eq_some_iff.1 hj).1; simpa using this
        rw [Array.getElem?_toList] at hj
        have e : s.data[j]? = some s[j] := Array.getElem?_eq_getElem hl
        rw [e] at hj
        injection hj with hj
        exact hR.out j hl hl hj
      by_cases h0 : 1 ≤ s.size
      case neg =>
        have HV := Lib.hid (keyB_no (s := s) (fun h => h0 h.1))
        have d0 : decide ((1 : Int) ≤ (s.size : Int)) = false := by rw [decide_eq_false_iff_not]; omega
        clear h0 hno
        go_wp2_with (fail)
        go_ret
        rw [HV.out]
        exact Q.of
      case pos =>
      have HV : Hid (keyB s = decide ((s.size : Int) ≤ 8)) := Lib.hid (by
        by_cases h8 : s.size ≤ 8
        · rw [keyB_iff.2 ⟨h0, h8, hno⟩]; symm; rw [decide_eq_true_eq]; omega
        · rw [keyB_no fun h => h8 h.2.1]; symm; rw [decide_eq_false_iff_not]; omega)
      have d0 : decide ((1 : Int) ≤ (s.size : Int)) = true := by rw [decide_eq_true_eq]; omega
      clear h0 hno
      go_wp2_with (fail)
      go_ret
      rw [HV.out]
      exact Q.of
set_option maxRecDepth 100000 in
set_option maxHeartbeats 4000000 in
theorem ramayG_calls (x : At) (p : ALie) (w : World) (h : ALies w x p) (hs : ABg x) (hks : ∀ (k : Nat) q, x.xs[k]? = some q → q.key.size ≤ 9223372036854775807) :
    Calls Try.prog 15 #[x.v p] w fun e w' => e = .returned (.bool (amayB x)) ∧ Below w.heap.size w w' := by
  obtain ⟨V, hV⟩ : ∃ V, V = w.alloc (.cells (x.c p) 31) := ⟨_, rfl⟩
  have hb : Below w.heap.size w V := by rw [hV]; exact (Below.refl _ _).alloc (Nat.le_refl _) _
  have hz : Bt V w.heap.size x p := by rw [hV]; exact Bt.new w x p
  have HZ := Lib.hid hz
  have HB := Lib.hid hb
  have HL := Lib.hid (h.below hb)
  have HS := Lib.hid hs
  have HK := Lib.hid hks
  have y0 := hz.c0
  clear h hz hb hs hks
  by_cases hbi : x.bi ≤ 7
  case neg =>
    have HV : Hid (amayB x = false) := Lib.hid (by unfold amayB; rw [decide_eq_false hbi]; rfl)
    have d0 : decide ((7 : Int) < (x.bi : Int)) = true := by rw [decide_eq_true_eq]; omega
    go_enter Try.func15, Try.ntmps15
    go_upto_region 1 with (fail)
    rw [← hV]
    clear hV
    go_wp2_with (fail)
    go_ret
    exact ⟨by rw [HV.out]; rfl, HB.out⟩
  case pos =>
  have d0 : decide ((7 : Int) < (x.bi : Int)) = false := by rw [decide_eq_false_iff_not]; omega
  have HV0 : Hid (amayB x = (mayB x.ac && (defB x.hd x.df && xsB x.xs))) := Lib.hid (by unfold amayB; rw [decide_eq_true hbi, Bool.true_and])
  clear hbi
  have c := rmayG_calls x.ac p.p V HL.out.ac HS.out.ac
  cases hm : mayB x.ac
  case false =>
    rw [hm] at c
    have HV : Hid (amayB x = false) := Lib.hid (by rw [HV0.out, hm]; rfl)
    have HC := Lib.hid c
    clear hm c
    go_enter Try.func15, Try.ntmps15
    go_upto_region 1 with (fail)
    rw [← hV]
    clear hV
    go_wp2_with (refine wpList_load_part rfl 28 (.tmp 9) rfl w.heap.size 3 rfl (x.ac.c p.p).toList _ HZ.out.ac Try.underlying28 rfl acl_size (x.ac.v p.p) rfl ?_)
    refine HC.out.mono ?_
    rintro e w1 ⟨rfl, hb1⟩
    have HB1 := Lib.hid (HB.out.trans (hb1.mono HB.out.size))
    clear hb1
    go_wp2_with (fail)
    go_ret
    exact ⟨by rw [HV.out]; rfl, HB1.out⟩
  case true =>
  rw [hm] at c
  have HV1 : Hid (amayB x = (defB x.hd x.df && xsB x.xs)) := Lib.hid (by rw [HV0.out, hm, Bool.true_and])
  have HC := Lib.hid c
  clear hm c HV0
  go_enter Try.func15, Try.ntmps15
  go_upto_region 1 with (fail)
  rw [← hV]
  clear hV
  go_wp2_with (refine wpList_load_part rfl 28 (.tmp 9) rfl w.heap.size 3 rfl (x.ac.c p.p).toList _ HZ.out.ac Try.underlying28 rfl acl_size (x.ac.v p.p) rfl ?_)
  refine HC.out.mono ?_
  rintro e w1 ⟨rfl, hb1⟩
  have HB1 := Lib.hid (HB.out.trans (hb1.mono HB.out.size))
  have HZ1 := Lib.hid (HZ.out.on hb1)
  have HL1 := Lib.hid (HL.out.below hb1)
  clear hb1 HC HZ HB HL y0 d0
  have y18 := HZ1.out.c18
  have y10 := HZ1.out.c10
  by_cases h4 : x.xs.length ≤ 4
  case neg =>
    have HV : Hid (amayB x = false) := Lib.hid (by rw [HV1.out, xsB_long (by omega), Bool.and_false])
    have d1 : decide ((4 : Int) < (x.xs.length : Int)) = true := by rw [decide_eq_true_eq]; omega
    clear h4
    go_wp2_with (fail)
    go_ret
    exact ⟨by rw [HV.out]; rfl, HB1.out⟩
  case pos =>
  have d1 : decide ((4 : Int) < (x.xs.length : Int)) = false := by rw [decide_eq_false_iff_not]; omega
  cases hh : x.hd
  case true =>
    rw [hh] at y10
    have HH := Lib.hid hh
    clear hh
    go_wp2_with (refine wpList_load_part rfl 28 (.tmp 23) rfl w.heap.size 11 rfl (x.df.c p.q).toList _ HZ1.out.df Try.underlying28 rfl acl_size (x.df.v p.q) rfl ?_)
    refine (rmayG_calls x.df p.q w1 HL1.out.df HS.out.df).mono ?_
    rintro e w2 ⟨rfl, hb2⟩
    have HV2 : Hid (amayB x = (mayB x.df && xsB x.xs)) := Lib.hid (by rw [HV1.out, HH.out, defB_yes])
    obtain ⟨m, hm⟩ : ∃ m, mayB x.df = m := ⟨_, rfl⟩
    rw [hm] at HV2 ⊢
    clear hm
    have HB2 := Lib.hid (HB1.out.trans (hb2.mono HB1.out.size))
    have HZ2 := Lib.hid (HZ1.out.on hb2)
    have HL2 := Lib.hid (HL1.out.below hb2)
    clear hb2 HZ1 HB1 HL1 y10 y18 HV1
    cases m
    case false =>
      have HV : Hid (amayB x = false) := Lib.hid (by rw [HV2.out]; rfl)
      go_wp2_with (fail)
      go_ret
      exact ⟨by rw [HV.out]; rfl, HB2.out⟩
    case true =>
    have HV3 : Hid (amayB x = xsB x.xs) := Lib.hid (by rw [HV2.out, Bool.true_and])
    have y10 := HZ2.out.c10
    rw [HH.out] at y10
    go_wp2_with (fail)
    clear y10 d1
    obtain ⟨n, hn⟩ : ∃ n, x.xs.length = n := ⟨_, rfl⟩
    have HN := Lib.hid hn
    rw [hn] at h4
    clear hn
    go_loopw [3] (fun i wr => ∃ k : Nat, i = .int .i64 k ∧ k ≤ n ∧ Hid (XRise x.xs k) ∧ Hid (Bt wr w.heap.size x p) ∧ Below w.heap.size w wr ∧ Hid (Cel wr p.X (xv x.xs))) (fun i _ => n - (intOf i).toNat)
    case atStart => exact ⟨0, rfl, by omega, Lib.hid (XRise.zero _), HZ2, HB2.out, Lib.hid HL2.out.xs⟩
    case round =>
      obtain ⟨k, rfl, hk, hR, hZ, hbw, hCX⟩ := hrel
      have y18 := hZ.out.c18
      rw [HN.out] at y18
      by_cases hkn : k < n
      · obtain ⟨b, o, hX, hlt, hcell⟩ := hCX.out.xt (by rw [HN.out]; omega)
        rw [hX] at y18
        obtain ⟨r, hp⟩ : ∃ r, x.xs[k]? = some r := ⟨_, List.getElem?_eq_getElem (by rw [HN.out]; exact hkn)⟩
        obtain ⟨e1, e2⟩ := hcell k r hp
        have HP := Lib.hid hp
        have HBW := Lib.hid hbw
        have hks := HK.out k r hp
        clear hp hbw
        have HX := Lib.hid hX
        clear hX
        generalize hpi : r.key = pk at *
        generalize hpp : r.val = pv at *
        have HPI := Lib.hid hpi
        have HPP := Lib.hid hpp
        clear hpi hpp
        have hK := fun W => rkeyG_calls pk W hks
        clear hks
        cases hkb : keyB pk
        case false =>
          rw [hkb] at hK
          have HV : Hid (amayB x = false) := Lib.hid (by rw [HV3.out]; exact xsB_key HP.out (by rw [HPI.out]; exact hkb))
          clear hkb hcell
          go_wp2_with (fail)
          obtain ⟨V, hV⟩ : ∃ V, V = wr.alloc (Obj.cells #[.string pk, .string pv] 63) := ⟨_, rfl⟩
          rw [← hV]
          have hAB : Below wr.heap.size wr V := by rw [hV]; exact (Below.refl _ _).alloc (Nat.le_refl _) _
          have HBV := Lib.hid (HBW.out.trans (hAB.mono HBW.out.size))
          have HZV := Lib.hid (hZ.out.on hAB)
          have HCV := Lib.hid (hCX.out.below hAB)
          obtain ⟨q0, q1⟩ := two_cells (w0 := V) (B := wr.heap.size) (x := .string pk) (y := .string pv) (t := 63) (by rw [hV]; exact heap_alloc_new _ _)
          have g18 := HZV.out.c18
          rw [HN.out, HX.out] at g18
          have k0 := cell_regrown q0
          have k1 := cell_regrown q1
          have k18 := cell_regrown g18
          have cM : ∀ dq os, Calls Try.prog 33 #[.string pk] (grow (redrawn V dq) os) fun e w'' => e = .returned (.bool false) ∧ ∃ p : Regrown, w'' = grow (redrawn V p.d) p.os := fun dq os => Calls.regrown_of ((hK _).mono fun e w1 h => ⟨h.1, by obtain ⟨_, m, h⟩ := h; rw [h]; exact below_drewN (Below.refl _ _) m⟩)
          clear hV hAB e1 e2 q0 q1 g18 y18
          refine wp_region_quiet_below (by kernel_rfl) (by kernel_rfl) ?_
          repeat (first | go_big_quiet_step (first | exact cM _ _) | quiet_step (first | exact cM _ _))
          refine wpQuiet_nil ?_
          intro _ hw'
          obtain ⟨⟨dq, osq⟩, hw''⟩ := hw'
          subst hw''
          go_wp2_with (fail)
          go_ret
          exact ⟨by rw [HV.out]; rfl, HBV.out.trans ((below_regrown V dq osq).mono HBV.out.size)⟩
        case true =>
        rw [hkb] at hK
        have HKB := Lib.hid hkb
        clear hkb
        by_cases h16 : pv.size ≤ 16
        case neg =>
          have HV : Hid (amayB x = false) := Lib.hid (by rw [HV3.out]; exact xsB_val HP.out (by rw [HPP.out]; omega))
          have d1 : decide ((16 : Int) < (pv.size : Int)) = true := by rw [decide_eq_true_eq]; omega
          clear hcell h16
          go_wp2_with (fail)
          obtain ⟨V, hV⟩ : ∃ V, V = wr.alloc (Obj.cells #[.string pk, .string pv] 63) := ⟨_, rfl⟩
          rw [← hV]
          have hAB : Below wr.heap.size wr V := by rw [hV]; exact (Below.refl _ _).alloc (Nat.le_refl _) _
          have HBV := Lib.hid (HBW.out.trans (hAB.mono HBW.out.size))
          have HZV := Lib.hid (hZ.out.on hAB)
          have HCV := Lib.hid (hCX.out.below hAB)
          obtain ⟨q0, q1⟩ := two_cells (w0 := V) (B := wr.heap.size) (x := .string pk) (y := .string pv) (t := 63) (by rw [hV]; exact heap_alloc_new _ _)
          have g18 := HZV.out.c18
          rw [HN.out, HX.out] at g18
          have k0 := cell_regrown q0
          have k1 := cell_regrown q1
          have k18 := cell_regrown g18
          have cM : ∀ dq os, Calls Try.prog 33 #[.string pk] (grow (redrawn V dq) os) fun e w'' => e = .returned (.bool true) ∧ ∃ p : Regrown, w'' = grow (redrawn V p.d) p.os := fun dq os => Calls.regrown_of ((hK _).mono fun e w1 h => ⟨h.1, by obtain ⟨_, m, h⟩ := h; rw [h]; exact below_drewN (Below.refl _ _) m⟩)
          clear hV hAB e1 e2 q0 q1 g18 y18
          refine wp_region_quiet_below (by kernel_rfl) (by kernel_rfl) ?_
          repeat (first | go_big_quiet_step (first | exact cM _ _) | quiet_step (first | exact cM _ _))
          refine wpQuiet_nil ?_
          intro _ hw'
          obtain ⟨⟨dq, osq⟩, hw''⟩ := hw'
          subst hw''
          go_wp2_with (fail)
          go_ret
          exact ⟨by rw [HV.out]; rfl, HBV.out.trans ((below_regrown V dq osq).mono HBV.out.size)⟩
        case pos =>
        have d1 : decide ((16 : Int) < (pv.size : Int)) = false := by rw [decide_eq_false_iff_not]; omega
        cases k with
        | zero =>
          have HR2 := Lib.hid (XRise.first HP.out (by rw [HPI.out]; exact HKB.out) (by rw [HPP.out]; exact h16))
          simp only [Nat.zero_mul, Nat.add_zero] at e1 e2
          clear hcell h16
          go_wp2_with (fail)
          obtain ⟨V, hV⟩ : ∃ V, V = wr.alloc (Obj.cells #[.string pk, .string pv] 63) := ⟨_, rfl⟩
          rw [← hV]
          have hAB : Below wr.heap.size wr V := by rw [hV]; exact (Below.refl _ _).alloc (Nat.le_refl _) _
          have HBV := Lib.hid (HBW.out.trans (hAB.mono HBW.out.size))
          have HZV := Lib.hid (hZ.out.on hAB)
          have HCV := Lib.hid (hCX.out.below hAB)
          obtain ⟨q0, q1⟩ := two_cells (w0 := V) (B := wr.heap.size) (x := .string pk) (y := .string pv) (t := 63) (by rw [hV]; exact heap_alloc_new _ _)
          have g18 := HZV.out.c18
          rw [HN.out, HX.out] at g18
          have k0 := cell_regrown q0
          have k1 := cell_regrown q1
          have k18 := cell_regrown g18
          have cM : ∀ dq os, Calls Try.prog 33 #[.string pk] (grow (redrawn V dq) os) fun e w'' => e = .returned (.bool true) ∧ ∃ p : Regrown, w'' = grow (redrawn V p.d) p.os := fun dq os => Calls.regrown_of ((hK _).mono fun e w1 h => ⟨h.1, by obtain ⟨_, m, h⟩ := h; rw [h]; exact below_drewN (Below.refl _ _) m⟩)
          clear hV hAB e1 e2 q0 q1 g18 y18
          refine wp_region_quiet_below (by kernel_rfl) (by kernel_rfl) ?_
          repeat (first | go_big_quiet_step (first | exact cM _ _) | quiet_step (first | exact cM _ _))
          refine wpQuiet_nil ?_
          intro _ hw'
          obtain ⟨⟨dq, osq⟩, hw''⟩ := hw'
          subst hw''
          go_wp2_with (fail)
          go_roundw
          case rel => exact ⟨1, by go_num, by omega, HR2, Lib.hid (HZV.out.on (below_regrown V dq osq)), HBV.out.trans ((below_regrown V dq osq).mono HBV.out.size), Lib.hid (HCV.out.below (below_regrown V dq osq))⟩
          case measure => simp [intOf]; omega
        | succ k =>
          obtain ⟨r2, hr⟩ : ∃ r2, x.xs[k]? = some r2 := ⟨_, List.getElem?_eq_getElem (by rw [HN.out]; omega)⟩
          obtain ⟨e3, e4⟩ := hcell k r2 hr
          have HR1 := Lib.hid hr
          generalize hri : r2.key = rk at *
          have HRI := Lib.hid hri
          have h0 : decide ((0 : Int) < ((k + 1 : Nat) : Int)) = true := by rw [decide_eq_true_eq]; omega
          have h0' : decide ((0 : Int) < (k : Int) + 1) = true := by rw [decide_eq_true_eq]; omega
          have hk1 : (k : Int) + 1 - 1 = (k : Int) := by omega
          clear hcell hr hri
          cases hlt2 : ltS rk pk
          case false =>
            have HV : Hid (amayB x = false) := Lib.hid (by rw [HV3.out]; exact xsB_up HR1.out HP.out (by rw [HPI.out, HRI.out]; exact hlt2))
            clear h16
            go_wp2_with (fail)
            obtain ⟨V, hV⟩ : ∃ V, V = wr.alloc (Obj.cells #[.string pk, .string pv] 63) := ⟨_, rfl⟩
            rw [← hV]
            have hAB : Below wr.heap.size wr V := by rw [hV]; exact (Below.refl _ _).alloc (Nat.le_refl _) _
            have HBV := Lib.hid (HBW.out.trans (hAB.mono HBW.out.size))
            have HZV := Lib.hid (hZ.out.on hAB)
            have HCV := Lib.hid (hCX.out.below hAB)
            obtain ⟨q0, q1⟩ := two_cells (w0 := V) (B := wr.heap.size) (x := .string pk) (y := .string pv) (t := 63) (by rw [hV]; exact heap_alloc_new _ _)
            have g18 := HZV.out.c18
            rw [HN.out, HX.out] at g18
            have g3 := (hAB.cell (p := ⟨b, o + k * 2, none⟩) hlt).trans e3
            clear e3 e4
            have k0 := cell_regrown q0
            have k1 := cell_regrown q1
            have k18 := cell_regrown g18
            have k2 := cell_regrown g3
            clear g3
            have cM : ∀ dq os, Calls Try.prog 33 #[.string pk] (grow (redrawn V dq) os) fun e w'' => e = .returned (.bool true) ∧ ∃ p : Regrown, w'' = grow (redrawn V p.d) p.os := fun dq os => Calls.regrown_of ((hK _).mono fun e w1 h => ⟨h.1, by obtain ⟨_, m, h⟩ := h; rw [h]; exact below_drewN (Below.refl _ _) m⟩)
            clear hV hAB e1 e2 q0 q1 g18 y18
            refine wp_region_quiet_below (by kernel_rfl) (by kernel_rfl) ?_
            repeat (first | go_big_quiet_step (first | exact cM _ _) | quiet_step (first | exact cM _ _))
            refine wpQuiet_nil ?_
            intro _ hw'
            obtain ⟨⟨dq, osq⟩, hw''⟩ := hw'
            subst hw''
            go_wp2_with (fail)
            go_ret
            exact ⟨by rw [HV.out]; rfl, HBV.out.trans ((below_regrown V dq osq).mono HBV.out.size)⟩
          case true =>
            have HR2 := Lib.hid (hR.out.more HR1.out HP.out (by rw [HPI.out]; exact HKB.out) (by rw [HPP.out]; exact h16) (by rw [HPI.out, HRI.out]; exact hlt2))
            clear h16
            go_wp2_with (fail)
            obtain ⟨V, hV⟩ : ∃ V, V = wr.alloc (Obj.cells #[.string pk, .string pv] 63) := ⟨_, rfl⟩
            rw [← hV]
            have hAB : Below wr.heap.size wr V := by rw [hV]; exact (Below.refl _ _).alloc (Nat.le_refl _) _
            have HBV := Lib.hid (HBW.out.trans (hAB.mono HBW.out.size))
            have HZV := Lib.hid (hZ.out.on hAB)
            have HCV := Lib.hid (hCX.out.below hAB)
            obtain ⟨q0, q1⟩ := two_cells (w0 := V) (B := wr.heap.size) (x := .string pk) (y := .string pv) (t := 63) (by rw [hV]; exact heap_alloc_new _ _)
            have g18 := HZV.out.c18
            rw [HN.out, HX.out] at g18
            have g3 := (hAB.cell (p := ⟨b, o + k * 2, none⟩) hlt).trans e3
            clear e3 e4
            have k0 := cell_regrown q0
            have k1 := cell_regrown q1
            have k18 := cell_regrown g18
            have k2 := cell_regrown g3
            clear g3
            have cM : ∀ dq os, Calls Try.prog 33 #[.string pk] (grow (redrawn V dq) os) fun e w'' => e = .returned (.bool true) ∧ ∃ p : Regrown, w'' = grow (redrawn V p.d) p.os := fun dq os => Calls.regrown_of ((hK _).mono fun e w1 h => ⟨h.1, by obtain ⟨_, m, h⟩ := h; rw [h]; exact below_drewN (Below.refl _ _) m⟩)
            clear hV hAB e1 e2 q0 q1 g18 y18
            refine wp_region_quiet_below (by kernel_rfl) (by kernel_rfl) ?_
            repeat (first | go_big_quiet_step (first | exact cM _ _) | quiet_step (first | exact cM _ _))
            refine wpQuiet_nil ?_
            intro _ hw'
            obtain ⟨⟨dq, osq⟩, hw''⟩ := hw'
            subst hw''
            go_wp2_with (fail)
            go_roundw
            case rel => exact ⟨k + 2, by go_num, by omega, HR2, Lib.hid (HZV.out.on (below_regrown V dq osq)), HBV.out.trans ((below_regrown V dq osq).mono HBV.out.size), Lib.hid (HCV.out.below (below_regrown V dq osq))⟩
            case measure => simp [intOf]; omega
      · obtain rfl : k = n := by omega
        have HV : Hid (amayB x = true) := Lib.hid (by rw [HV3.out]; exact xsB_iff.2 ⟨by have h := hR.out; rw [← HN.out] at h; exact h, by rw [HN.out]; exact h4⟩)
        go_wp2_with (fail)
        go_ret
        exact ⟨by rw [HV.out]; rfl, hbw⟩
  case false =>
    rw [hh] at y10
    have HH := Lib.hid hh
    clear hh
    go_wp2_with (refine wpList_load_part rfl 28 (.tmp 33) rfl w.heap.size 11 rfl (x.df.c p.q).toList _ HZ1.out.df Try.underlying28 rfl acl_size (x.df.v p.q) rfl ?_)
    refine (rlsameG_calls x.df acZ p.q lieZ w1 HL1.out.df (lies_acZ _) HS.out.df bg_acZ).mono ?_
    rintro e w2 ⟨rfl, hb2⟩
    have HV2 : Hid (amayB x = (sameB x.df acZ && xsB x.xs)) := Lib.hid (by rw [HV1.out, HH.out, defB_no])
    obtain ⟨m, hm⟩ : ∃ m, sameB x.df acZ = m := ⟨_, rfl⟩
    rw [hm] at HV2 ⊢
    clear hm
    have HB2 := Lib.hid (HB1.out.trans (hb2.mono HB1.out.size))
    have HZ2 := Lib.hid (HZ1.out.on hb2)
    have HL2 := Lib.hid (HL1.out.below hb2)
    clear hb2 HZ1 HB1 HL1 y10 y18 HV1
    cases m
    case false =>
      have HV : Hid (amayB x = false) := Lib.hid (by rw [HV2.out]; rfl)
      go_wp2_with (fail)
      go_ret
      exact ⟨by rw [HV.out]; rfl, HB2.out⟩
    case true =>
    have HV3 : Hid (amayB x = xsB x.xs) := Lib.hid (by rw [HV2.out, Bool.true_and])
    have y10 := HZ2.out.c10
    rw [HH.out] at y10
    go_wp2_with (fail)
    clear y10 d1
    obtain ⟨n, hn⟩ : ∃ n, x.xs.length = n := ⟨_, rfl⟩
    have HN := Lib.hid hn
    rw [hn] at h4
    clear hn
    go_loopw [3] (fun i wr => ∃ k : Nat, i = .int .i64 k ∧ k ≤ n ∧ Hid (XRise x.xs k) ∧ Hid (Bt wr w.heap.size x p) ∧ Below w.heap.size w wr ∧ Hid (Cel wr p.X (xv x.xs))) (fun i _ => n - (intOf i).toNat)
    case atStart => exact ⟨0, rfl, by omega, Lib.hid (XRise.zero _), HZ2, HB2.out, Lib.hid HL2.out.xs⟩
    case round =>
      obtain ⟨k, rfl, hk, hR, hZ, hbw, hCX⟩ := hrel
      have y18 := hZ.out.c18
      rw [HN.out] at y18
      by_cases hkn : k < n
      · obtain ⟨b, o, hX, hlt, hcell⟩ := hCX.out.xt (by rw [HN.out]; omega)
        rw [hX] at y18
        obtain ⟨r, hp⟩ : ∃ r, x.xs[k]? = some r := ⟨_, List.getElem?_eq_getElem (by rw [HN.out]; exact hkn)⟩
        obtain ⟨e1, e2⟩ := hcell k r hp
        have HP := Lib.hid hp
        have HBW := Lib.hid hbw
        have hks := HK.out k r hp
        clear hp hbw
        have HX := Lib.hid hX
        clear hX
        generalize hpi : r.key = pk at *
        generalize hpp : r.val = pv at *
        have HPI := Lib.hid hpi
        have HPP := Lib.hid hpp
        clear hpi hpp
        have hK := fun W => rkeyG_calls pk W hks
        clear hks
        cases hkb : keyB pk
        case false =>
          rw [hkb] at hK
          have HV : Hid (amayB x = false) := Lib.hid (by rw [HV3.out]; exact xsB_key HP.out (by rw [HPI.out]; exact hkb))
          clear hkb hcell
          go_wp2_with (fail)
          obtain ⟨V, hV⟩ : ∃ V, V = wr.alloc (Obj.cells #[.string pk, .string pv] 63) := ⟨_, rfl⟩
          rw [← hV]
          have hAB : Below wr.heap.size wr V := by rw [hV]; exact (Below.refl _ _).alloc (Nat.le_refl _) _
          have HBV := Lib.hid (HBW.out.trans (hAB.mono HBW.out.size))
          have HZV := Lib.hid (hZ.out.on hAB)
          have HCV := Lib.hid (hCX.out.below hAB)
          obtain ⟨q0, q1⟩ := two_cells (w0 := V) (B := wr.heap.size) (x := .string pk) (y := .string pv) (t := 63) (by rw [hV]; exact heap_alloc_new _ _)
          have g18 := HZV.out.c18
          rw [HN.out, HX.out] at g18
          have k0 := cell_regrown q0
          have k1 := cell_regrown q1
          have k18 := cell_regrown g18
          have cM : ∀ dq os, Calls Try.prog 33 #[.string pk] (grow (redrawn V dq) os) fun e w'' => e = .returned (.bool false) ∧ ∃ p : Regrown, w'' = grow (redrawn V p.d) p.os := fun dq os => Calls.regrown_of ((hK _).mono fun e w1 h => ⟨h.1, by obtain ⟨_, m, h⟩ := h; rw [h]; exact below_drewN (Below.refl _ _) m⟩)
          clear hV hAB e1 e2 q0 q1 g18 y18
          refine wp_region_quiet_below (by kernel_rfl) (by kernel_rfl) ?_
          repeat (first | go_big_quiet_step (first | exact cM _ _) | quiet_step (first | exact cM _ _))
          refine wpQuiet_nil ?_
          intro _ hw'
          obtain ⟨⟨dq, osq⟩, hw''⟩ := hw'
          subst hw''
          go_wp2_with (fail)
          go_ret
          exact ⟨by rw [HV.out]; rfl, HBV.out.trans ((below_regrown V dq osq).mono HBV.out.size)⟩
        case true =>
        rw [hkb] at hK
        have HKB := Lib.hid hkb
        clear hkb
        by_cases h16 : pv.size ≤ 16
        case neg =>
          have HV : Hid (amayB x = false) := Lib.hid (by rw [HV3.out]; exact xsB_val HP.out (by rw [HPP.out]; omega))
          have d1 : decide ((16 : Int) < (pv.size : Int)) = true := by rw [decide_eq_true_eq]; omega
          clear hcell h16
          go_wp2_with (fail)
          obtain ⟨V, hV⟩ : ∃ V, V = wr.alloc (Obj.cells #[.string pk, .string pv] 63) := ⟨_, rfl⟩
          rw [← hV]
          have hAB : Below wr.heap.size wr V := by rw [hV]; exact (Below.refl _ _).alloc (Nat.le_refl _) _
          have HBV := Lib.hid (HBW.out.trans (hAB.mono HBW.out.size))
          have HZV := Lib.hid (hZ.out.on hAB)
          have HCV := Lib.hid (hCX.out.below hAB)
          obtain ⟨q0, q1⟩ := two_cells (w0 := V) (B := wr.heap.size) (x := .string pk) (y := .string pv) (t := 63) (by rw [hV]; exact heap_alloc_new _ _)
          have g18 := HZV.out.c18
          rw [HN.out, HX.out] at g18
          have k0 := cell_regrown q0
          have k1 := cell_regrown q1
          have k18 := cell_regrown g18
          have cM : ∀ dq os, Calls Try.prog 33 #[.string pk] (grow (redrawn V dq) os) fun e w'' => e = .returned (.bool true) ∧ ∃ p : Regrown, w'' = grow (redrawn V p.d) p.os := fun dq os => Calls.regrown_of ((hK _).mono fun e w1 h => ⟨h.1, by obtain ⟨_, m, h⟩ := h; rw [h]; exact below_drewN (Below.refl _ _) m⟩)
          clear hV hAB e1 e2 q0 q1 g18 y18
          refine wp_region_quiet_below (by kernel_rfl) (by kernel_rfl) ?_
          repeat (first | go_big_quiet_step (first | exact cM _ _) | quiet_step (first | exact cM _ _))
          refine wpQuiet_nil ?_
          intro _ hw'
          obtain ⟨⟨dq, osq⟩, hw''⟩ := hw'
          subst hw''
          go_wp2_with (fail)
          go_ret
          exact ⟨by rw [HV.out]; rfl, HBV.out.trans ((below_regrown V dq osq).mono HBV.out.size)⟩
        case pos =>
        have d1 : decide ((16 : Int) < (pv.size : Int)) = false := by rw [decide_eq_false_iff_not]; omega
        cases k with
        | zero =>
          have HR2 := Lib.hid (XRise.first HP.out (by rw [HPI.out]; exact HKB.out) (by rw [HPP.out]; exact h16))
          simp only [Nat.zero_mul, Nat.add_zero] at e1 e2
          clear hcell h16
          go_wp2_with (fail)
          obtain ⟨V, hV⟩ : ∃ V, V = wr.alloc (Obj.cells #[.string pk, .string pv] 63) := ⟨_, rfl⟩
          rw [← hV]
          have hAB : Below wr.heap.size wr V := by rw [hV]; exact (Below.refl _ _).alloc (Nat.le_refl _) _
          have HBV := Lib.hid (HBW.out.trans (hAB.mono HBW.out.size))
          have HZV := Lib.hid (hZ.out.on hAB)
          have HCV := Lib.hid (hCX.out.below hAB)
          obtain ⟨q0, q1⟩ := two_cells (w0 := V) (B := wr.heap.size) (x := .string pk) (y := .string pv) (t := 63) (by rw [hV]; exact heap_alloc_new _ _)
          have g18 := HZV.out.c18
          rw [HN.out, HX.out] at g18
          have k0 := cell_regrown q0
          have k1 := cell_regrown q1
          have k18 := cell_regrown g18
          have cM : ∀ dq os, Calls Try.prog 33 #[.string pk] (grow (redrawn V dq) os) fun e w'' => e = .returned (.bool true) ∧ ∃ p : Regrown, w'' = grow (redrawn V p.d) p.os := fun dq os => Calls.regrown_of ((hK _).mono fun e w1 h => ⟨h.1, by obtain ⟨_, m, h⟩ := h; rw [h]; exact below_drewN (Below.refl _ _) m⟩)
          clear hV hAB e1 e2 q0 q1 g18 y18
          refine wp_region_quiet_below (by kernel_rfl) (by kernel_rfl) ?_
          repeat (first | go_big_quiet_step (first | exact cM _ _) | quiet_step (first | exact cM _ _))
          refine wpQuiet_nil ?_
          intro _ hw'
          obtain ⟨⟨dq, osq⟩, hw''⟩ := hw'
          subst hw''
          go_wp2_with (fail)
          go_roundw
          case rel => exact ⟨1, by go_num, by omega, HR2, Lib.hid (HZV.out.on (below_regrown V dq osq)), HBV.out.trans ((below_regrown V dq osq).mono HBV.out.size), Lib.hid (HCV.out.below (below_regrown V dq osq))⟩
          case measure => simp [intOf]; omega
        | succ k =>
          obtain ⟨r2, hr⟩ : ∃ r2, x.xs[k]? = some r2 := ⟨_, List.getElem?_eq_getElem (by rw [HN.out]; omega)⟩
          obtain ⟨e3, e4⟩ := hcell k r2 hr
          have HR1 := Lib.hid hr
          generalize hri : r2.key = rk at *
          have HRI := Lib.hid hri
          have h0 : decide ((0 : Int) < ((k + 1 : Nat) : Int)) = true := by rw [decide_eq_true_eq]; omega
          have h0' : decide ((0 : Int) < (k : Int) + 1) = true := by rw [decide_eq_true_eq]; omega
          have hk1 : (k : Int) + 1 - 1 = (k : Int) := by omega
          clear hcell hr hri
          cases hlt2 : ltS rk pk
          case false =>
            have HV : Hid (amayB x = false) := Lib.hid (by rw [HV3.out]; exact xsB_up HR1.out HP.out (by rw [HPI.out, HRI.out]; exact hlt2))
            clear h16
            go_wp2_with (fail)
            obtain ⟨V, hV⟩ : ∃ V, V = wr.alloc (Obj.cells #[.string pk, .string pv] 63) := ⟨_, rfl⟩
            rw [← hV]
            have hAB : Below wr.heap.size wr V := by rw [hV]; exact (Below.refl _ _).alloc (Nat.le_refl _) _
            have HBV := Lib.hid (HBW.out.trans (hAB.mono HBW.out.size))
            have HZV := Lib.hid (hZ.out.on hAB)
            have HCV := Lib.hid (hCX.out.below hAB)
            obtain ⟨q0, q1⟩ := two_cells (w0 := V) (B := wr.heap.size) (x := .string pk) (y := .string pv) (t := 63) (by rw [hV]; exact heap_alloc_new _ _)
            have g18 := HZV.out.c18
            rw [HN.out, HX.out] at g18
            have g3 := (hAB.cell (p := ⟨b, o + k * 2, none⟩) hlt).trans e3
            clear e3 e4
            have k0 := cell_regrown q0
            have k1 := cell_regrown q1
            have k18 := cell_regrown g18
            have k2 := cell_regrown g3
            clear g3
            have cM : ∀ dq os, Calls Try.prog 33 #[.string pk] (grow (redrawn V dq) os) fun e w'' => e = .returned (.bool true) ∧ ∃ p : Regrown, w'' = grow (redrawn V p.d) p.os := fun dq os => Calls.regrown_of ((hK _).mono fun e w1 h => ⟨h.1, by obtain ⟨_, m, h⟩ := h; rw [h]; exact below_drewN (Below.refl _ _) m⟩)
            clear hV hAB e1 e2 q0 q1 g18 y18
            refine wp_region_quiet_below (by kernel_rfl) (by kernel_rfl) ?_
            repeat (first | go_big_quiet_step (first | exact cM _ _) | quiet_step (first | exact cM _ _))
            refine wpQuiet_nil ?_
            intro _ hw'
            obtain ⟨⟨dq, osq⟩, hw''⟩ := hw'
            subst hw''
            go_wp2_with (fail)
            go_ret
            exact ⟨by rw [HV.out]; rfl, HBV.out.trans ((below_regrown V dq osq).mono HBV.out.size)⟩
          case true =>
            have HR2 := Lib.hid (hR.out.more HR1.out HP.out (by rw [HPI.out]; exact HKB.out) (by rw [HPP.out]; exact h16) (by rw [HPI.out, HRI.out]; exact hlt2))
            clear h16
            go_wp2_with (fail)
            obtain ⟨V, hV⟩ : ∃ V, V = wr.alloc (Obj.cells #[.string pk, .string pv] 63) := ⟨_, rfl⟩
            rw [← hV]
            have hAB : Below wr.heap.size wr V := by rw [hV]; exact (Below.refl _ _).alloc (Nat.le_refl _) _
            have HBV := Lib.hid (HBW.out.trans (hAB.mono HBW.out.size))
            have HZV := Lib.hid (hZ.out.on hAB)
            have HCV := Lib.hid (hCX.out.below hAB)
            obtain ⟨q0, q1⟩ := two_cells (w0 := V) (B := wr.heap.size) (x := .string pk) (y := .string pv) (t := 63) (by rw [hV]; exact heap_alloc_new _ _)
            have g18 := HZV.out.c18
            rw [HN.out, HX.out] at g18
            have g3 := (hAB.cell (p := ⟨b, o + k * 2, none⟩) hlt).trans e3
            clear e3 e4
            have k0 := cell_regrown q0
            have k1 := cell_regrown q1
            have k18 := cell_regrown g18
            have k2 := cell_regrown g3
            clear g3
            have cM : ∀ dq os, Calls Try.prog 33 #[.string pk] (grow (redrawn V dq) os) fun e w'' => e = .returned (.bool true) ∧ ∃ p : Regrown, w'' = grow (redrawn V p.d) p.os := fun dq os => Calls.regrown_of ((hK _).mono fun e w1 h => ⟨h.1, by obtain ⟨_, m, h⟩ := h; rw [h]; exact below_drewN (Below.refl _ _) m⟩)
            clear hV hAB e1 e2 q0 q1 g18 y18
            refine wp_region_quiet_below (by kernel_rfl) (by kernel_rfl) ?_
            repeat (first | go_big_quiet_step (first | exact cM _ _) | quiet_step (first | exact cM _ _))
            refine wpQuiet_nil ?_
            intro _ hw'
            obtain ⟨⟨dq, osq⟩, hw''⟩ := hw'
            subst hw''
            go_wp2_with (fail)
            go_roundw
            case rel => exact ⟨k + 2, by go_num, by omega, HR2, Lib.hid (HZV.out.on (below_regrown V dq osq)), HBV.out.trans ((below_regrown V dq osq).mono HBV.out.size), Lib.hid (HCV.out.below (below_regrown V dq osq))⟩
            case measure => simp [intOf]; omega
      · obtain rfl : k = n := by omega
        have HV : Hid (amayB x = true) := Lib.hid (by rw [HV3.out]; exact xsB_iff.2 ⟨by have h := hR.out; rw [← HN.out] at h; exact h, by rw [HN.out]; exact h4⟩)
        go_wp2_with (fail)
        go_ret
        exact ⟨by rw [HV.out]; rfl, hbw⟩
end Go.Proofs.Ytgdiiicaljidpaa
