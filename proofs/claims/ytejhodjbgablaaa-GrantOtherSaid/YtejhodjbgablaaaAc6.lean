/- Which lists are the same. -/
import Derived.Test.YtejhodjbgablaaaAc5
set_option linter.unusedSimpArgs false
set_option linter.unusedVariables false
namespace Go.Proofs.Ytejhodjbgablaaa
open Go.RowKit
instance : DecidableEq Ac := fun x y => if h : x.ow = y.ow ∧ x.gr = y.gr ∧ x.ot = y.ot ∧ x.us = y.us ∧ x.gs = y.gs ∧ x.hm = y.hm ∧ x.ms = y.ms then isTrue (by
    obtain ⟨h1, h2, h3, h4, h5, h6, h7⟩ := h
    cases x; cases y
    simp only at h1 h2 h3 h4 h5 h6 h7
    rw [h1, h2, h3, h4, h5, h6, h7]) else isFalse (by rintro rfl; exact h ⟨rfl, rfl, rfl, rfl, rfl, rfl, rfl⟩)
def sameB (x y : Ac) : Bool := decide (x = y)
theorem sameB_iff {x y : Ac} : sameB x y = true ↔ x = y := decide_eq_true_iff
theorem sameB_no {x y : Ac} (h : x ≠ y) : sameB x y = false := decide_eq_false h
theorem sameB_self (x : Ac) : sameB x x = true := sameB_iff.2 rfl
set_option maxRecDepth 100000 in
set_option maxHeartbeats 2000000 in
theorem lsame_calls (x y : Ac) (p q : Lie) (w : World) (h1 : Lies w x p) (h2 : Lies w y q) (hs1 : Sm x) (hs2 : Sm y) : Calls Try.prog 55 #[x.v p, y.v q] w fun e w' => e = .returned (.bool (sameB x y)) ∧ Below w.heap.size w w' := by
  obtain ⟨ow, gr, ot, us, gs, hm, ms⟩ := x
  obtain ⟨ow2, gr2, ot2, us2, gs2, hm2, ms2⟩ := y
  obtain ⟨A, c, B, d⟩ := p
  obtain ⟨A2, c2, B2, d2⟩ := q
  have hb : Below w.heap.size w ((w.alloc (.cells #[.int .u8 (ow : Nat), .int .u8 (gr : Nat), .int .u8 (ot : Nat), .slice A us.length c, .slice B gs.length d, .bool hm, .int .u8 (ms : Nat)] 28)).alloc (.cells #[.int .u8 (ow2 : Nat), .int .u8 (gr2 : Nat), .int .u8 (ot2 : Nat), .slice A2 us2.length c2, .slice B2 gs2.length d2, .bool hm2, .int .u8 (ms2 : Nat)] 28)) := ((Below.refl _ _).alloc (Nat.le_refl _) _).alloc (by simp) _
  have k1 := h1.below hb
  have k2 := h2.below hb
  have CU := equal_calls A A2 us us2 c c2 _ k1.us k2.us hs1.us hs2.us
  have CG := fun n => equal_calls B B2 gs gs2 d d2 _ (k1.gs.drewN n) (k2.gs.drewN n) hs1.gs hs2.gs
  obtain ⟨n1, hn1⟩ : ∃ n, us.length = n := ⟨_, rfl⟩
  obtain ⟨n2, hn2⟩ : ∃ n, us2.length = n := ⟨_, rfl⟩
  obtain ⟨m1, hm1⟩ : ∃ n, gs.length = n := ⟨_, rfl⟩
  obtain ⟨m2, hm2'⟩ : ∃ n, gs2.length = n := ⟨_, rfl⟩
  have HB := Lib.hid hb
  unfold Ac.v Ac.c
  simp only [hn1, hn2, hm1, hm2'] at CU CG HB ⊢
  have CUH := Lib.hid CU
  have CGH := Lib.hid CG
  clear CU CG h1 h2 k1 k2 hs1 hs2 hn1 hn2 hm1 hm2' hb
  by_cases e0 : ow = ow2
  case neg =>
    have HV := Lib.hid (sameB_no (x := ⟨ow, gr, ot, us, gs, hm, ms⟩) (y := ⟨ow2, gr2, ot2, us2, gs2, hm2, ms2⟩) (fun h => by injection h with z0 z1 z2 z3 z4 z5 z6; exact e0 z0))
    have f : ((ow : Int) == (ow2 : Nat)) = false := by rw [beq_eq_false_iff_ne]; omega
    go_enter Try.func55, Try.ntmps55
    go_wp2_with (fail)
    go_ret
    exact ⟨by rw [HV.out]; rfl, HB.out⟩
  case pos =>
  subst e0
  by_cases e1 : gr = gr2
  case neg =>
    have HV := Lib.hid (sameB_no (x := ⟨ow, gr, ot, us, gs, hm, ms⟩) (y := ⟨ow, gr2, ot2, us2, gs2, hm2, ms2⟩) (fun h => by injection h with z0 z1 z2 z3 z4 z5 z6; exact e1 z1))
    have f : ((gr : Int) == (gr2 : Nat)) = false := by rw [beq_eq_false_iff_ne]; omega
    go_enter Try.func55, Try.ntmps55
    go_wp2_with (fail)
    go_ret
    exact ⟨by rw [HV.out]; rfl, HB.out⟩
  case pos =>
  subst e1
  by_cases e2 : ot = ot2
  case neg =>
    have HV := Lib.hid (sameB_no (x := ⟨ow, gr, ot, us, gs, hm, ms⟩) (y := ⟨ow, gr, ot2, us2, gs2, hm2, ms2⟩) (fun h => by injection h with z0 z1 z2 z3 z4 z5 z6; exact e2 z2))
    have f : ((ot : Int) == (ot2 : Nat)) = false := by rw [beq_eq_false_iff_ne]; omega
    go_enter Try.func55, Try.ntmps55
    go_wp2_with (fail)
    go_ret
    exact ⟨by rw [HV.out]; rfl, HB.out⟩
  case pos =>
  subst e2
  by_cases e3 : hm = hm2
  case neg =>
    have HV := Lib.hid (sameB_no (x := ⟨ow, gr, ot, us, gs, hm, ms⟩) (y := ⟨ow, gr, ot, us2, gs2, hm2, ms2⟩) (fun h => by injection h with z0 z1 z2 z3 z4 z5 z6; exact e3 z5))
    cases hm <;> cases hm2 <;> first | exact absurd rfl e3 | skip
    all_goals
      go_enter Try.func55, Try.ntmps55
      go_wp2_with (fail)
      go_ret
      exact ⟨by rw [HV.out]; rfl, HB.out⟩
  case pos =>
  subst e3
  by_cases e4 : ms = ms2
  case neg =>
    have HV := Lib.hid (sameB_no (x := ⟨ow, gr, ot, us, gs, hm, ms⟩) (y := ⟨ow, gr, ot, us2, gs2, hm, ms2⟩) (fun h => by injection h with z0 z1 z2 z3 z4 z5 z6; exact e4 z6))
    have f : ((ms : Int) == (ms2 : Nat)) = false := by rw [beq_eq_false_iff_ne]; omega
    go_enter Try.func55, Try.ntmps55
    go_wp2_with (fail)
    go_ret
    exact ⟨by rw [HV.out]; rfl, HB.out⟩
  case pos =>
  subst e4
  cases hu : rowsB us us2
  case false =>
    have HV := Lib.hid (sameB_no (x := ⟨ow, gr, ot, us, gs, hm, ms⟩) (y := ⟨ow, gr, ot, us2, gs2, hm, ms⟩) (fun h => by injection h with z0 z1 z2 z3 z4 z5 z6; rw [z3, rowsB_self] at hu; cases hu))
    have CU := CUH.out
    rw [hu] at CU
    go_enter Try.func55, Try.ntmps55
    go_wp2_with (fail)
    refine CU.mono ?_
    rintro e w1 ⟨rfl, q1, rfl⟩
    go_wp2_with (fail)
    go_ret
    exact ⟨by rw [HV.out]; rfl, below_drewN HB.out _⟩
  case true =>
  have HV : Hid (sameB ⟨ow, gr, ot, us, gs, hm, ms⟩ ⟨ow, gr, ot, us2, gs2, hm, ms⟩ = rowsB gs gs2) := Lib.hid (by
    have h := rowsB_iff.1 hu
    subst h
    cases hg : rowsB gs gs2
    · exact sameB_no fun h => by injection h with z0 z1 z2 z3 z4 z5 z6; rw [z4, rowsB_self] at hg; cases hg
    · rw [rowsB_iff.1 hg]; exact sameB_self _)
  have CU := CUH.out
  rw [hu] at CU
  go_enter Try.func55, Try.ntmps55
  go_wp2_with (fail)
  refine CU.mono ?_
  rintro e w1 ⟨rfl, q1, rfl⟩
  go_wp2_with (fail)
  refine (CGH.out _).mono ?_
  rintro e w2 ⟨rfl, q2, rfl⟩
  go_wp2_with (fail)
  go_ret
  exact ⟨by rw [HV.out]; rfl, by first | exact below_drewN HB.out _ | exact below_drewN (below_drewN HB.out _) _⟩
set_option maxRecDepth 100000 in
set_option maxHeartbeats 2000000 in
theorem rlsame_calls (x y : Ac) (p q : Lie) (w : World) (h1 : Lies w x p) (h2 : Lies w y q) (hs1 : Sm x) (hs2 : Sm y) : Calls Try.prog 31 #[x.v p, y.v q] w fun e w' => e = .returned (.bool (sameB x y)) ∧ Below w.heap.size w w' := by
  obtain ⟨ow, gr, ot, us, gs, hm, ms⟩ := x
  obtain ⟨ow2, gr2, ot2, us2, gs2, hm2, ms2⟩ := y
  obtain ⟨A, c, B, d⟩ := p
  obtain ⟨A2, c2, B2, d2⟩ := q
  have hb : Below w.heap.size w ((w.alloc (.cells #[.int .u8 (ow : Nat), .int .u8 (gr : Nat), .int .u8 (ot : Nat), .slice A us.length c, .slice B gs.length d, .bool hm, .int .u8 (ms : Nat)] 28)).alloc (.cells #[.int .u8 (ow2 : Nat), .int .u8 (gr2 : Nat), .int .u8 (ot2 : Nat), .slice A2 us2.length c2, .slice B2 gs2.length d2, .bool hm2, .int .u8 (ms2 : Nat)] 28)) := ((Below.refl _ _).alloc (Nat.le_refl _) _).alloc (by simp) _
  have k1 := h1.below hb
  have k2 := h2.below hb
  have CU := rsame_calls A A2 us us2 c c2 _ k1.us k2.us hs1.us hs2.us
  have CG := fun n => rsame_calls B B2 gs gs2 d d2 _ (k1.gs.drewN n) (k2.gs.drewN n) hs1.gs hs2.gs
  obtain ⟨n1, hn1⟩ : ∃ n, us.length = n := ⟨_, rfl⟩
  obtain ⟨n2, hn2⟩ : ∃ n, us2.length = n := ⟨_, rfl⟩
  obtain ⟨m1, hm1⟩ : ∃ n, gs.length = n := ⟨_, rfl⟩
  obtain ⟨m2, hm2'⟩ : ∃ n, gs2.length = n := ⟨_, rfl⟩
  have HB := Lib.hid hb
  unfold Ac.v Ac.c
  simp only [hn1, hn2, hm1, hm2'] at CU CG HB ⊢
  have CUH := Lib.hid CU
  have CGH := Lib.hid CG
  clear CU CG h1 h2 k1 k2 hs1 hs2 hn1 hn2 hm1 hm2' hb
  by_cases e0 : ow = ow2
  case neg =>
    have HV := Lib.hid (sameB_no (x := ⟨ow, gr, ot, us, gs, hm, ms⟩) (y := ⟨ow2, gr2, ot2, us2, gs2, hm2, ms2⟩) (fun h => by injection h with z0 z1 z2 z3 z4 z5 z6; exact e0 z0))
    have f : ((ow : Int) == (ow2 : Nat)) = false := by rw [beq_eq_false_iff_ne]; omega
    go_enter Try.func31, Try.ntmps31
    go_wp2_with (fail)
    go_ret
    exact ⟨by rw [HV.out]; rfl, HB.out⟩
  case pos =>
  subst e0
  by_cases e1 : gr = gr2
  case neg =>
    have HV := Lib.hid (sameB_no (x := ⟨ow, gr, ot, us, gs, hm, ms⟩) (y := ⟨ow, gr2, ot2, us2, gs2, hm2, ms2⟩) (fun h => by injection h with z0 z1 z2 z3 z4 z5 z6; exact e1 z1))
    have f : ((gr : Int) == (gr2 : Nat)) = false := by rw [beq_eq_false_iff_ne]; omega
    go_enter Try.func31, Try.ntmps31
    go_wp2_with (fail)
    go_ret
    exact ⟨by rw [HV.out]; rfl, HB.out⟩
  case pos =>
  subst e1
  by_cases e2 : ot = ot2
  case neg =>
    have HV := Lib.hid (sameB_no (x := ⟨ow, gr, ot, us, gs, hm, ms⟩) (y := ⟨ow, gr, ot2, us2, gs2, hm2, ms2⟩) (fun h => by injection h with z0 z1 z2 z3 z4 z5 z6; exact e2 z2))
    have f : ((ot : Int) == (ot2 : Nat)) = false := by rw [beq_eq_false_iff_ne]; omega
    go_enter Try.func31, Try.ntmps31
    go_wp2_with (fail)
    go_ret
    exact ⟨by rw [HV.out]; rfl, HB.out⟩
  case pos =>
  subst e2
  by_cases e3 : hm = hm2
  case neg =>
    have HV := Lib.hid (sameB_no (x := ⟨ow, gr, ot, us, gs, hm, ms⟩) (y := ⟨ow, gr, ot, us2, gs2, hm2, ms2⟩) (fun h => by injection h with z0 z1 z2 z3 z4 z5 z6; exact e3 z5))
    cases hm <;> cases hm2 <;> first | exact absurd rfl e3 | skip
    all_goals
      go_enter Try.func31, Try.ntmps31
      go_wp2_with (fail)
      go_ret
      exact ⟨by rw [HV.out]; rfl, HB.out⟩
  case pos =>
  subst e3
  by_cases e4 : ms = ms2
  case neg =>
    have HV := Lib.hid (sameB_no (x := ⟨ow, gr, ot, us, gs, hm, ms⟩) (y := ⟨ow, gr, ot, us2, gs2, hm, ms2⟩) (fun h => by injection h with z0 z1 z2 z3 z4 z5 z6; exact e4 z6))
    have f : ((ms : Int) == (ms2 : Nat)) = false := by rw [beq_eq_false_iff_ne]; omega
    go_enter Try.func31, Try.ntmps31
    go_wp2_with (fail)
    go_ret
    exact ⟨by rw [HV.out]; rfl, HB.out⟩
  case pos =>
  subst e4
  cases hu : rowsB us us2
  case false =>
    have HV := Lib.hid (sameB_no (x := ⟨ow, gr, ot, us, gs, hm, ms⟩) (y := ⟨ow, gr, ot, us2, gs2, hm, ms⟩) (fun h => by injection h with z0 z1 z2 z3 z4 z5 z6; rw [z3, rowsB_self] at hu; cases hu))
    have CU := CUH.out
    rw [hu] at CU
    go_enter Try.func31, Try.ntmps31
    go_wp2_with (fail)
    refine CU.mono ?_
    rintro e w1 ⟨rfl, q1, rfl⟩
    go_wp2_with (fail)
    go_ret
    exact ⟨by rw [HV.out]; rfl, below_drewN HB.out _⟩
  case true =>
  have HV : Hid (sameB ⟨ow, gr, ot, us, gs, hm, ms⟩ ⟨ow, gr, ot, us2, gs2, hm, ms⟩ = rowsB gs gs2) := Lib.hid (by
    have h := rowsB_iff.1 hu
    subst h
    cases hg : rowsB gs gs2
    · exact sameB_no fun h => by injection h with z0 z1 z2 z3 z4 z5 z6; rw [z4, rowsB_self] at hg; cases hg
    · rw [rowsB_iff.1 hg]; exact sameB_self _)
  have CU := CUH.out
  rw [hu] at CU
  go_enter Try.func31, Try.ntmps31
  go_wp2_with (fail)
  refine CU.mono ?_
  rintro e w1 ⟨rfl, q1, rfl⟩
  go_wp2_with (fail)
  refine (CGH.out _).mono ?_
  rintro e w2 ⟨rfl, q2, rfl⟩
  go_wp2_with (fail)
  go_ret
  exact ⟨by rw [HV.out]; rfl, by first | exact below_drewN HB.out _ | exact below_drewN (below_drewN HB.out _) _⟩
end Go.Proofs.Ytejhodjbgablaaa
