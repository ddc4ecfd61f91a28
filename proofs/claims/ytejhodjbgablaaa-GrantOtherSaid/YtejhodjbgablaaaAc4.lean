/- Which lists may be; which are too large for a statement. -/
import Derived.Test.YtejhodjbgablaaaAc3
set_option linter.unusedSimpArgs false
set_option linter.unusedVariables false
namespace Go.Proofs.Ytejhodjbgablaaa
open Go.RowKit
/-- Such a list may be. -/
structure May (x : Ac) : Prop where
  ow : x.ow ≤ 7
  gr : x.gr ≤ 7
  ot : x.ot ≤ 7
  ms : x.ms ≤ 7
  us : namedB x.us = true
  gs : namedB x.gs = true
  small : x.hm = false → x.ms = 0 ∧ x.us.length = 0 ∧ x.gs.length = 0
def mayB (x : Ac) : Bool := decide (x.ow ≤ 7) && (decide (x.gr ≤ 7) && (decide (x.ot ≤ 7) && (decide (x.ms ≤ 7) && (namedB x.us && (namedB x.gs && (x.hm || (decide (x.ms = 0) && (decide (x.us.length = 0) && decide (x.gs.length = 0)))))))))
theorem mayB_iff {x : Ac} : mayB x = true ↔ May x := by
  unfold mayB
  simp only [Bool.and_eq_true, Bool.or_eq_true, decide_eq_true_eq]
  constructor
  · rintro ⟨h1, h2, h3, h4, h5, h6, h7⟩
    exact ⟨h1, h2, h3, h4, h5, h6, fun h => by
      rcases h7 with h7 | h7
      · rw [h] at h7; cases h7
      · exact h7⟩
  · intro h
    refine ⟨h.ow, h.gr, h.ot, h.ms, h.us, h.gs, ?_⟩
    cases hm : x.hm
    · exact .inr (h.small hm)
    · exact .inl rfl
theorem mayB_no {x : Ac} (h : ¬ May x) : mayB x = false := by
  cases hb : mayB x
  · rfl
  · exact absurd (mayB_iff.1 hb) h
/-- Its rows are no longer than a slice may be. -/
structure Bg (x : Ac) : Prop where
  us : x.us.length ≤ 9223372036854775807
  gs : x.gs.length ≤ 9223372036854775807
theorem sm_of_small {x : Ac} (h : (decide (100 < x.us.length) || decide (100 < x.gs.length)) = false) : Sm x := by
  rw [Bool.or_eq_false_iff, decide_eq_false_iff_not, decide_eq_false_iff_not] at h
  exact ⟨by omega, by omega⟩
theorem large_calls (x : Ac) (p : Lie) (w : World) (hs : Bg x) : Calls Try.prog 33 #[x.v p] w fun e w' => e = .returned (.bool (decide (100 < x.us.length) || decide (100 < x.gs.length))) ∧ Below w.heap.size w w' := by
  obtain ⟨h1, h2⟩ := hs
  obtain ⟨n, hn⟩ : ∃ n, x.us.length = n := ⟨_, rfl⟩
  obtain ⟨m, hm⟩ : ∃ m, x.gs.length = m := ⟨_, rfl⟩
  unfold Ac.v Ac.c
  rw [hn, hm]
  rw [hn] at h1
  rw [hm] at h2
  clear hn hm
  by_cases c1 : 100 < n
  · have d1 : decide ((100 : Int) < (n : Int)) = true := by rw [decide_eq_true_eq]; omega
    go_enter Try.func33, Try.ntmps33
    go_wp2_with (fail)
    go_ret
    exact ⟨by simp [c1], (Below.refl _ _).alloc (Nat.le_refl _) _⟩
  · have d1 : decide ((100 : Int) < (n : Int)) = false := by rw [decide_eq_false_iff_not]; omega
    have d2 : decide ((100 : Int) < (m : Int)) = decide (100 < m) := by rw [decide_eq_decide]; omega
    go_enter Try.func33, Try.ntmps33
    go_wp2_with (fail)
    go_ret
    exact ⟨by simp [c1, d2], (Below.refl _ _).alloc (Nat.le_refl _) _⟩
set_option maxRecDepth 100000 in
set_option maxHeartbeats 2000000 in
theorem rmay_calls (x : Ac) (p : Lie) (w : World) (h : Lies w x p) (hs : Sm x) : Calls Try.prog 30 #[x.v p] w fun e w' => e = .returned (.bool (mayB x)) ∧ Below w.heap.size w w' := by
  obtain ⟨ow, gr, ot, us, gs, hm, ms⟩ := x
  obtain ⟨A, c, B, d⟩ := p
  obtain ⟨hus, hgs⟩ := h
  obtain ⟨s1, s2⟩ := hs
  simp only at hus hgs s1 s2
  unfold Ac.v Ac.c
  simp only
  obtain ⟨n, hn⟩ : ∃ n, us.length = n := ⟨_, rfl⟩
  obtain ⟨m, hm'⟩ : ∃ m, gs.length = m := ⟨_, rfl⟩
  rw [hn, hm']
  have hb0 : Below w.heap.size w (w.alloc (.cells #[.int .u8 (ow : Nat), .int .u8 (gr : Nat), .int .u8 (ot : Nat), .slice A n c, .slice B m d, .bool hm, .int .u8 (ms : Nat)] 28)) := (Below.refl _ _).alloc (Nat.le_refl _) _
  have HU := Lib.hid (hus.below hb0)
  have HG := Lib.hid (hgs.below hb0)
  have HB := Lib.hid hb0
  have s1' : n ≤ 1099511627776 := by omega
  have s2' : m ≤ 1099511627776 := by omega
  have S1 := Lib.hid s1
  have S2 := Lib.hid s2
  have HN := Lib.hid hn
  have HM := Lib.hid hm'
  clear hb0 hus hgs s1 s2 hn hm'
  by_cases t0 : ow ≤ 7
  case neg =>
    have HV : Hid (mayB ⟨ow, gr, ot, us, gs, hm, ms⟩ = false) := Lib.hid (mayB_no fun h => t0 h.ow)
    have b0 : decide ((7 : Int) < (ow : Int)) = true := by rw [decide_eq_true_eq]; omega
    go_enter Try.func30, Try.ntmps30
    go_wp2_with (fail)
    go_ret
    exact ⟨by rw [HV.out]; rfl, HB.out⟩
  case pos =>
  by_cases t1 : gr ≤ 7
  case neg =>
    have HV : Hid (mayB ⟨ow, gr, ot, us, gs, hm, ms⟩ = false) := Lib.hid (mayB_no fun h => t1 h.gr)
    have b0 : decide ((7 : Int) < (ow : Int)) = false := by rw [decide_eq_false_iff_not]; omega
    have b1 : decide ((7 : Int) < (gr : Int)) = true := by rw [decide_eq_true_eq]; omega
    go_enter Try.func30, Try.ntmps30
    go_wp2_with (fail)
    go_ret
    exact ⟨by rw [HV.out]; rfl, HB.out⟩
  case pos =>
  by_cases t2 : ot ≤ 7
  case neg =>
    have HV : Hid (mayB ⟨ow, gr, ot, us, gs, hm, ms⟩ = false) := Lib.hid (mayB_no fun h => t2 h.ot)
    have b0 : decide ((7 : Int) < (ow : Int)) = false := by rw [decide_eq_false_iff_not]; omega
    have b1 : decide ((7 : Int) < (gr : Int)) = false := by rw [decide_eq_false_iff_not]; omega
    have b2 : decide ((7 : Int) < (ot : Int)) = true := by rw [decide_eq_true_eq]; omega
    go_enter Try.func30, Try.ntmps30
    go_wp2_with (fail)
    go_ret
    exact ⟨by rw [HV.out]; rfl, HB.out⟩
  case pos =>
  by_cases t3 : ms ≤ 7
  case neg =>
    have HV : Hid (mayB ⟨ow, gr, ot, us, gs, hm, ms⟩ = false) := Lib.hid (mayB_no fun h => t3 h.ms)
    have b0 : decide ((7 : Int) < (ow : Int)) = false := by rw [decide_eq_false_iff_not]; omega
    have b1 : decide ((7 : Int) < (gr : Int)) = false := by rw [decide_eq_false_iff_not]; omega
    have b2 : decide ((7 : Int) < (ot : Int)) = false := by rw [decide_eq_false_iff_not]; omega
    have b3 : decide ((7 : Int) < (ms : Int)) = true := by rw [decide_eq_true_eq]; omega
    go_enter Try.func30, Try.ntmps30
    go_wp2_with (fail)
    go_ret
    exact ⟨by rw [HV.out]; rfl, HB.out⟩
  case pos =>
  have b0 : decide ((7 : Int) < (ow : Int)) = false := by rw [decide_eq_false_iff_not]; omega
  have b1 : decide ((7 : Int) < (gr : Int)) = false := by rw [decide_eq_false_iff_not]; omega
  have b2 : decide ((7 : Int) < (ot : Int)) = false := by rw [decide_eq_false_iff_not]; omega
  have b3 : decide ((7 : Int) < (ms : Int)) = false := by rw [decide_eq_false_iff_not]; omega
  have CU := rnamed_calls A us c _ HU.out S1.out
  rw [HN.out] at CU
  have CG := fun q => rnamed_calls B gs d _ (HG.out.drewN q) S2.out
  rw [HM.out] at CG
  cases hu : namedB us
  case false =>
    have HV : Hid (mayB ⟨ow, gr, ot, us, gs, hm, ms⟩ = false) := Lib.hid (mayB_no fun h => by have := h.us; simp [hu] at this)
    rw [hu] at CU
    clear CG
    go_enter Try.func30, Try.ntmps30
    go_wp2_with (fail)
    refine CU.mono ?_
    rintro e w1 ⟨rfl, q1, rfl⟩
    go_wp2_with (fail)
    go_ret
    exact ⟨by rw [HV.out]; rfl, below_drewN HB.out _⟩
  case true =>
  rw [hu] at CU
  cases hg : namedB gs
  case false =>
    have HV : Hid (mayB ⟨ow, gr, ot, us, gs, hm, ms⟩ = false) := Lib.hid (mayB_no fun h => by have := h.gs; simp [hg] at this)
    rw [hg] at CG
    go_enter Try.func30, Try.ntmps30
    go_wp2_with (fail)
    refine CU.mono ?_
    rintro e w1 ⟨rfl, q1, rfl⟩
    go_wp2_with (fail)
    refine (CG _).mono ?_
    rintro e w2 ⟨rfl, q2, rfl⟩
    go_wp2_with (fail)
    go_ret
    exact ⟨by rw [HV.out]; rfl, by first | exact below_drewN HB.out _ | exact below_drewN (below_drewN HB.out _) _⟩
  case true =>
  rw [hg] at CG
  cases hm
  case true =>
    have HV : Hid (mayB ⟨ow, gr, ot, us, gs, true, ms⟩ = true) := Lib.hid (mayB_iff.2 ⟨t0, t1, t2, t3, hu, hg, fun h => by cases h⟩)
    go_enter Try.func30, Try.ntmps30
    go_wp2_with (fail)
    refine CU.mono ?_
    rintro e w1 ⟨rfl, q1, rfl⟩
    go_wp2_with (fail)
    refine (CG _).mono ?_
    rintro e w2 ⟨rfl, q2, rfl⟩
    go_wp2_with (fail)
    go_ret
    exact ⟨by rw [HV.out]; rfl, by first | exact below_drewN HB.out _ | exact below_drewN (below_drewN HB.out _) _⟩
  case false =>
  by_cases z0 : ms = 0
  case neg =>
    have HV : Hid (mayB ⟨ow, gr, ot, us, gs, false, ms⟩ = false) := Lib.hid (mayB_no fun h => by have := h.small rfl; have := HN.out; have := HM.out; simp only at *; omega)
    have y0 : ((ms : Int) == 0) = false := by rw [beq_eq_false_iff_ne]; omega
    go_enter Try.func30, Try.ntmps30
    go_wp2_with (fail)
    refine CU.mono ?_
    rintro e w1 ⟨rfl, q1, rfl⟩
    go_wp2_with (fail)
    refine (CG _).mono ?_
    rintro e w2 ⟨rfl, q2, rfl⟩
    go_wp2_with (fail)
    go_ret
    exact ⟨by rw [HV.out]; rfl, by first | exact below_drewN HB.out _ | exact below_drewN (below_drewN HB.out _) _⟩
  case pos =>
  subst z0
  by_cases z1 : n = 0
  case neg =>
    have HV : Hid (mayB ⟨ow, gr, ot, us, gs, false, 0⟩ = false) := Lib.hid (mayB_no fun h => by have := h.small rfl; have := HN.out; have := HM.out; simp only at *; omega)
    have y1 : ((n : Int) == 0) = false := by rw [beq_eq_false_iff_ne]; omega
    go_enter Try.func30, Try.ntmps30
    go_wp2_with (fail)
    refine CU.mono ?_
    rintro e w1 ⟨rfl, q1, rfl⟩
    go_wp2_with (fail)
    refine (CG _).mono ?_
    rintro e w2 ⟨rfl, q2, rfl⟩
    go_wp2_with (fail)
    go_ret
    exact ⟨by rw [HV.out]; rfl, by first | exact below_drewN HB.out _ | exact below_drewN (below_drewN HB.out _) _⟩
  case pos =>
  subst z1
  by_cases z2 : m = 0
  case neg =>
    have HV : Hid (mayB ⟨ow, gr, ot, us, gs, false, 0⟩ = false) := Lib.hid (mayB_no fun h => by have := h.small rfl; have := HN.out; have := HM.out; simp only at *; omega)
    have y2 : ((m : Int) == 0) = false := by rw [beq_eq_false_iff_ne]; omega
    go_enter Try.func30, Try.ntmps30
    go_wp2_with (fail)
    refine CU.mono ?_
    rintro e w1 ⟨rfl, q1, rfl⟩
    go_wp2_with (fail)
    refine (CG _).mono ?_
    rintro e w2 ⟨rfl, q2, rfl⟩
    go_wp2_with (fail)
    go_ret
    exact ⟨by rw [HV.out]; rfl, by first | exact below_drewN HB.out _ | exact below_drewN (below_drewN HB.out _) _⟩
  case pos =>
  subst z2
  have HV : Hid (mayB ⟨ow, gr, ot, us, gs, false, 0⟩ = true) := Lib.hid (mayB_iff.2 ⟨t0, t1, t2, t3, hu, hg, fun _ => ⟨rfl, HN.out, HM.out⟩⟩)
  go_enter Try.func30, Try.ntmps30
  go_wp2_with (fail)
  refine CU.mono ?_
  rintro e w1 ⟨rfl, q1, rfl⟩
  go_wp2_with (fail)
  refine (CG _).mono ?_
  rintro e w2 ⟨rfl, q2, rfl⟩
  go_wp2_with (fail)
  go_ret
  exact ⟨by rw [HV.out]; rfl, by first | exact below_drewN HB.out _ | exact below_drewN (below_drewN HB.out _) _⟩
/-- The greatest of four. -/
def mx4 (a b c d : Int) : Int := max (max (max a b) c) d
@[go_sem high] theorem run_mx4 {P : Program} (w : World) (ts : Array TypeId) (t : TypeId) (k : IntKind) (a b c d : Int) : (Builtin.max_ ts t #[.int k a, .int k b, .int k c, .int k d]).run P w = .ok (.int k (mx4 a b c d)) w := by
  have e : ∀ x y : Int, (if y > x then y else x) = max x y := fun x y => by
    rw [Int.max_def]
    split <;> split <;> omega
  simp [Builtin.max_, Builtin.max2, e, mx4]
set_option maxRecDepth 100000 in
set_option maxHeartbeats 2000000 in
theorem valid_calls (x : Ac) (p : Lie) (w : World) (h : Lies w x p) (hs : Sm x) : Calls Try.prog 54 #[x.v p] w fun e w' => e = .returned (.bool (mayB x)) ∧ Below w.heap.size w w' := by
  obtain ⟨ow, gr, ot, us, gs, hm, ms⟩ := x
  obtain ⟨A, c, B, d⟩ := p
  obtain ⟨hus, hgs⟩ := h
  obtain ⟨s1, s2⟩ := hs
  simp only at hus hgs s1 s2
  unfold Ac.v Ac.c
  simp only
  obtain ⟨n, hn⟩ : ∃ n, us.length = n := ⟨_, rfl⟩
  obtain ⟨m, hm'⟩ : ∃ m, gs.length = m := ⟨_, rfl⟩
  rw [hn, hm']
  have hb0 : Below w.heap.size w (w.alloc (.cells #[.int .u8 (ow : Nat), .int .u8 (gr : Nat), .int .u8 (ot : Nat), .slice A n c, .slice B m d, .bool hm, .int .u8 (ms : Nat)] 28)) := (Below.refl _ _).alloc (Nat.le_refl _) _
  have HU := Lib.hid (hus.below hb0)
  have HG := Lib.hid (hgs.below hb0)
  have HB := Lib.hid hb0
  have s1' : n ≤ 1099511627776 := by omega
  have s2' : m ≤ 1099511627776 := by omega
  have S1 := Lib.hid s1
  have S2 := Lib.hid s2
  have HN := Lib.hid hn
  have HM := Lib.hid hm'
  clear hb0 hus hgs s1 s2 hn hm'
  by_cases t : ow ≤ 7 ∧ gr ≤ 7 ∧ ot ≤ 7 ∧ ms ≤ 7
  case neg =>
    have HV : Hid (mayB ⟨ow, gr, ot, us, gs, hm, ms⟩ = false) := Lib.hid (mayB_no fun h => t ⟨h.ow, h.gr, h.ot, h.ms⟩)
    have t' : (7 : Int) < mx4 ow gr ot ms := by unfold mx4; omega
    go_enter Try.func54, Try.ntmps54
    go_wp2_with (fail)
    go_ret
    exact ⟨by rw [HV.out]; rfl, HB.out⟩
  case pos =>
  obtain ⟨t0, t1, t2, t3⟩ := t
  have t' : ¬ (7 : Int) < mx4 ow gr ot ms := by unfold mx4; omega
  cases hm
  case true =>
    have CU := fits_calls A us c _ HU.out
    rw [HN.out] at CU
    have CG := fun V (hV : Below _ _ V) => fits_calls B gs d V (HG.out.below hV)
    rw [HM.out] at CG
    cases hu : namedB us
    case false =>
      have HV : Hid (mayB ⟨ow, gr, ot, us, gs, true, ms⟩ = false) := Lib.hid (mayB_no fun h => by have := h.us; simp [hu] at this)
      rw [hu] at CU
      clear CG
      go_enter Try.func54, Try.ntmps54
      go_wp2_with (fail)
      refine CU.mono ?_
      rintro e w1 ⟨rfl, hb1⟩
      go_wp2_with (fail)
      go_ret
      exact ⟨by rw [HV.out]; rfl, HB.out.trans (hb1.mono HB.out.size)⟩
    case true =>
    rw [hu] at CU
    have HV : Hid (mayB ⟨ow, gr, ot, us, gs, true, ms⟩ = namedB gs) := Lib.hid (by
      cases hg : namedB gs
      · exact mayB_no fun h => by have := h.gs; simp [hg] at this
      · exact mayB_iff.2 ⟨t0, t1, t2, t3, hu, hg, fun h => by cases h⟩)
    have z := Ab.new w ⟨ow, gr, ot, us, gs, true, ms⟩ ⟨A, c, B, d⟩
    unfold Ab Ac.c at z
    simp only [HN.out, HM.out] at z
    have HZ := Lib.hid z
    clear z
    go_enter Try.func54, Try.ntmps54
    go_wp2_with (fail)
    refine CU.mono ?_
    rintro e w1 ⟨rfl, hb1⟩
    have z := (hb1.block _ (by simp)).trans HZ.out
    have z4 := cell_of_row w1 w.heap.size 4 _ _ (0, 0) z
    have HB1 := Lib.hid hb1
    clear z hb1
    go_wp2_with (fail)
    refine (CG _ HB1.out).mono ?_
    rintro e w2 ⟨rfl, hb2⟩
    go_wp2_with (fail)
    go_ret
    exact ⟨by rw [HV.out]; rfl, (HB.out.trans (HB1.out.mono HB.out.size)).trans (hb2.mono (by have := HB.out.size; have := HB1.out.size; omega))⟩
  case false =>
  by_cases z0 : ms = 0
  case neg =>
    have HV : Hid (mayB ⟨ow, gr, ot, us, gs, false, ms⟩ = false) := Lib.hid (mayB_no fun h => by have := h.small rfl; have := HN.out; have := HM.out; simp only at *; omega)
    have y0 : ((ms : Int) == 0) = false := by rw [beq_eq_false_iff_ne]; omega
    go_enter Try.func54, Try.ntmps54
    go_wp2_with (fail)
    go_ret
    exact ⟨by rw [HV.out]; rfl, HB.out⟩
  case pos =>
  subst z0
  by_cases z1 : n = 0
  case neg =>
    have HV : Hid (mayB ⟨ow, gr, ot, us, gs, false, 0⟩ = false) := Lib.hid (mayB_no fun h => by have := h.small rfl; have := HN.out; have := HM.out; simp only at *; omega)
    have y1 : ((n : Int) == 0) = false := by rw [beq_eq_false_iff_ne]; omega
    go_enter Try.func54, Try.ntmps54
    go_wp2_with (fail)
    go_ret
    exact ⟨by rw [HV.out]; rfl, HB.out⟩
  case pos =>
  subst z1
  by_cases z2 : m = 0
  case neg =>
    have HV : Hid (mayB ⟨ow, gr, ot, us, gs, false, 0⟩ = false) := Lib.hid (mayB_no fun h => by have := h.small rfl; have := HN.out; have := HM.out; simp only at *; omega)
    have y2 : ((m : Int) == 0) = false := by rw [beq_eq_false_iff_ne]; omega
    go_enter Try.func54, Try.ntmps54
    go_wp2_with (fail)
    go_ret
    exact ⟨by rw [HV.out]; rfl, HB.out⟩
  case pos =>
  subst z2
  have HV : Hid (mayB ⟨ow, gr, ot, us, gs, false, 0⟩ = true) := Lib.hid (mayB_iff.2 ⟨t0, t1, t2, t3, by rw [List.eq_nil_of_length_eq_zero HN.out]; exact namedB_nil, by rw [List.eq_nil_of_length_eq_zero HM.out]; exact namedB_nil, fun _ => ⟨rfl, HN.out, HM.out⟩⟩)
  go_enter Try.func54, Try.ntmps54
  go_wp2_with (fail)
  go_ret
  exact ⟨by rw [HV.out]; rfl, HB.out⟩
theorem check_calls (x : Ac) (p : Lie) (w : World) (h : Lies w x p) (hs : Sm x) : Calls Try.prog 48 #[x.v p] w fun e w' => e = .returned (.int .i64 (if mayB x then 0 else 622)) ∧ Below w.heap.size w w' := by
  have hb0 : Below w.heap.size w (w.alloc (.cells (x.c p) 28)) := (Below.refl _ _).alloc (Nat.le_refl _) _
  have CV := valid_calls x p _ (h.below hb0) hs
  have HB := Lib.hid hb0
  clear hb0
  unfold Ac.v Ac.c at *
  cases hm : mayB x
  all_goals
    rw [hm] at CV
    go_enter Try.func48, Try.ntmps48
    go_wp2_with (fail)
    refine CV.mono ?_
    rintro e w1 ⟨rfl, hb1⟩
    go_wp2_with (fail)
    go_ret
    exact ⟨rfl, HB.out.trans (hb1.mono HB.out.size)⟩
end Go.Proofs.Ytejhodjbgablaaa
