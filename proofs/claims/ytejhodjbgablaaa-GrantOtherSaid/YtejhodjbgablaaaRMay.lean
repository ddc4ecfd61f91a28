/- Which attributes may be: the document's answer. -/
import Derived.Test.YtejhodjbgablaaaCk2
set_option linter.unusedSimpArgs false
set_option linter.unusedVariables false
namespace Go.Proofs.Ytejhodjbgablaaa
open Go.RowKit Go.Sort Go.Lib
theorem mayB_acZ : mayB acZ = true := mayB_iff.2 ⟨by decide, by decide, by decide, by decide, namedB_nil, namedB_nil, fun _ => ⟨rfl, rfl, rfl⟩⟩
theorem defB_no (d : Ac) : defB false d = sameB d acZ := by
  unfold defB
  rw [Bool.false_or]
  cases hs : sameB d acZ
  · rw [Bool.and_false]
  · rw [sameB_iff.1 hs, mayB_acZ]; rfl
theorem defB_yes (d : Ac) : defB true d = mayB d := by
  unfold defB
  rw [Bool.true_or, Bool.and_true]
set_option maxRecDepth 100000 in
set_option maxHeartbeats 4000000 in
theorem ramay_calls (x : At) (p : ALie) (w : World) (h : ALies w x p) (hs : ASm x) (hks : ∀ (k : Nat) q, x.xs[k]? = some q → q.key.size ≤ 1099511627776) :
    Calls Try.prog 18 #[x.v p] w fun e w' => e = .returned (.bool (amayB x)) ∧ Below w.heap.size w w' := by
  obtain ⟨V, hV⟩ : ∃ V, V = w.alloc (.cells (x.c p) 31) := ⟨_, rfl⟩
  have hb : Below w.heap.size w V := by rw [hV]; exact (Below.refl _ _).alloc (Nat.le_refl _) _
  have hz : Bt V w.heap.size x p := by rw [hV]; exact Bt.new w x p
  have HZ := Lib.hid hz
  have HB := Lib.hid hb
  have HL := Lib.hid (h.below hb)
  have HS := Lib.hid hs
  have HK := Lib.hid hks
  have y0 := hz.c0
  clear h hz hb hs hks
  by_cases hbi : x.bi ≤ 7
  case neg =>
    have HV : Hid (amayB x = false) := Lib.hid (by unfold amayB; rw [decide_eq_false hbi]; rfl)
    have d0 : decide ((7 : Int) < (x.bi : Int)) = true := by rw [decide_eq_true_eq]; omega
    go_enter Try.func18, Try.ntmps18
    go_upto_region 1 with (fail)
    rw [← hV]
    clear hV
    go_wp2_with (fail)
    go_ret
    exact ⟨by rw [HV.out]; rfl, HB.out⟩
  case pos =>
  have d0 : decide ((7 : Int) < (x.bi : Int)) = false := by rw [decide_eq_false_iff_not]; omega
  have HV0 : Hid (amayB x = (mayB x.ac && (defB x.hd x.df && xsB x.xs))) := Lib.hid (by unfold amayB; rw [decide_eq_true hbi, Bool.true_and])
  clear hbi
  have c := rmay_calls x.ac p.p V HL.out.ac HS.out.ac
  cases hm : mayB x.ac
  case false =>
    rw [hm] at c
    have HV : Hid (amayB x = false) := Lib.hid (by rw [HV0.out, hm]; rfl)
    have HC := Lib.hid c
    clear hm c
    go_enter Try.func18, Try.ntmps18
    go_upto_region 1 with (fail)
    rw [← hV]
    clear hV
    go_wp2_with (refine wpList_load_part rfl 28 (.tmp 9) rfl w.heap.size 3 rfl (x.ac.c p.p).toList _ HZ.out.ac Try.underlying28 rfl acl_size (x.ac.v p.p) rfl ?_)
    refine HC.out.mono ?_
    rintro e w1 ⟨rfl, hb1⟩
    have HB1 := Lib.hid (HB.out.trans (hb1.mono HB.out.size))
    clear hb1
    go_wp2_with (fail)
    go_ret
    exact ⟨by rw [HV.out]; rfl, HB1.out⟩
  case true =>
  rw [hm] at c
  have HV1 : Hid (amayB x = (defB x.hd x.df && xsB x.xs)) := Lib.hid (by rw [HV0.out, hm, Bool.true_and])
  have HC := Lib.hid c
  clear hm c HV0
  go_enter Try.func18, Try.ntmps18
  go_upto_region 1 with (fail)
  rw [← hV]
  clear hV
  go_wp2_with (refine wpList_load_part rfl 28 (.tmp 9) rfl w.heap.size 3 rfl (x.ac.c p.p).toList _ HZ.out.ac Try.underlying28 rfl acl_size (x.ac.v p.p) rfl ?_)
  refine HC.out.mono ?_
  rintro e w1 ⟨rfl, hb1⟩
  have HB1 := Lib.hid (HB.out.trans (hb1.mono HB.out.size))
  have HZ1 := Lib.hid (HZ.out.on hb1)
  have HL1 := Lib.hid (HL.out.below hb1)
  clear hb1 HC HZ HB HL y0 d0
  have y18 := HZ1.out.c18
  have y10 := HZ1.out.c10
  by_cases h4 : x.xs.length ≤ 4
  case neg =>
    have HV : Hid (amayB x = false) := Lib.hid (by rw [HV1.out, xsB_long (by omega), Bool.and_false])
    have d1 : decide ((4 : Int) < (x.xs.length : Int)) = true := by rw [decide_eq_true_eq]; omega
    clear h4
    go_wp2_with (fail)
    go_ret
    exact ⟨by rw [HV.out]; rfl, HB1.out⟩
  case pos =>
  have d1 : decide ((4 : Int) < (x.xs.length : Int)) = false := by rw [decide_eq_false_iff_not]; omega
  cases hh : x.hd
  case true =>
    rw [hh] at y10
    have HH := Lib.hid hh
    clear hh
    go_wp2_with (refine wpList_load_part rfl 28 (.tmp 23) rfl w.heap.size 11 rfl (x.df.c p.q).toList _ HZ1.out.df Try.underlying28 rfl acl_size (x.df.v p.q) rfl ?_)
    refine (rmay_calls x.df p.q w1 HL1.out.df HS.out.df).mono ?_
    rintro e w2 ⟨rfl, hb2⟩
    have HV2 : Hid (amayB x = (mayB x.df && xsB x.xs)) := Lib.hid (by rw [HV1.out, HH.out, defB_yes])
    obtain ⟨m, hm⟩ : ∃ m, mayB x.df = m := ⟨_, rfl⟩
    rw [hm] at HV2 ⊢
    clear hm
    have HB2 := Lib.hid (HB1.out.trans (hb2.mono HB1.out.size))
    have HZ2 := Lib.hid (HZ1.out.on hb2)
    have HL2 := Lib.hid (HL1.out.below hb2)
    clear hb2 HZ1 HB1 HL1 y10 y18 HV1
    cases m
    case false =>
      have HV : Hid (amayB x = false) := Lib.hid (by rw [HV2.out]; rfl)
      go_wp2_with (fail)
      go_ret
      exact ⟨by rw [HV.out]; rfl, HB2.out⟩
    case true =>
    have HV3 : Hid (amayB x = xsB x.xs) := Lib.hid (by rw [HV2.out, Bool.true_and])
    have y10 := HZ2.out.c10
    rw [HH.out] at y10
    go_wp2_with (fail)
    clear y10 d1
    obtain ⟨n, hn⟩ : ∃ n, x.xs.length = n := ⟨_, rfl⟩
    have HN := Lib.hid hn
    rw [hn] at h4
    clear hn
    go_loopw [3] (fun i wr => ∃ k : Nat, i = .int .i64 k ∧ k ≤ n ∧ Hid (XRise x.xs k) ∧ Hid (Bt wr w.heap.size x p) ∧ Below w.heap.size w wr ∧ Hid (Cel wr p.X (xv x.xs))) (fun i _ => n - (intOf i).toNat)
    case atStart => exact ⟨0, rfl, by omega, Lib.hid (XRise.zero _), HZ2, HB2.out, Lib.hid HL2.out.xs⟩
    case round =>
      obtain ⟨k, rfl, hk, hR, hZ, hbw, hCX⟩ := hrel
      have y18 := hZ.out.c18
      rw [HN.out] at y18
      by_cases hkn : k < n
      · obtain ⟨b, o, hX, hlt, hcell⟩ := hCX.out.xt (by rw [HN.out]; omega)
        rw [hX] at y18
        obtain ⟨r, hp⟩ : ∃ r, x.xs[k]? = some r := ⟨_, List.getElem?_eq_getElem (by rw [HN.out]; exact hkn)⟩
        obtain ⟨e1, e2⟩ := hcell k r hp
        have HP := Lib.hid hp
        have HBW := Lib.hid hbw
        have hks := HK.out k r hp
        clear hp hbw
        have HX := Lib.hid hX
        clear hX
        generalize hpi : r.key = pk at *
        generalize hpp : r.val = pv at *
        have HPI := Lib.hid hpi
        have HPP := Lib.hid hpp
        clear hpi hpp
        have hK := fun W => rkey_calls pk W hks
        clear hks
        cases hkb : keyB pk
        case false =>
          rw [hkb] at hK
          have HV : Hid (amayB x = false) := Lib.hid (by rw [HV3.out]; exact xsB_key HP.out (by rw [HPI.out]; exact hkb))
          clear hkb hcell
          go_wp2_with (fail)
          obtain ⟨V, hV⟩ : ∃ V, V = wr.alloc (Obj.cells #[.string pk, .string pv] 58) := ⟨_, rfl⟩
          rw [← hV]
          have hAB : Below wr.heap.size wr V := by rw [hV]; exact (Below.refl _ _).alloc (Nat.le_refl _) _
          have HBV := Lib.hid (HBW.out.trans (hAB.mono HBW.out.size))
          have HZV := Lib.hid (hZ.out.on hAB)
          have HCV := Lib.hid (hCX.out.below hAB)
          obtain ⟨q0, q1⟩ := two_cells (w0 := V) (B := wr.heap.size) (x := .string pk) (y := .string pv) (t := 58) (by rw [hV]; exact heap_alloc_new _ _)
          have g18 := HZV.out.c18
          rw [HN.out, HX.out] at g18
          have k0 := cell_regrown q0
          have k1 := cell_regrown q1
          have k18 := cell_regrown g18
          have cM : ∀ dq os, Calls Try.prog 32 #[.string pk] (grow (redrawn V dq) os) fun e w'' => e = .returned (.bool false) ∧ ∃ p : Regrown, w'' = grow (redrawn V p.d) p.os := fun dq os => Calls.regrown_of ((hK _).mono fun e w1 h => ⟨h.1, by obtain ⟨_, m, h⟩ := h; rw [h]; exact below_drewN (Below.refl _ _) m⟩)
          clear hV hAB e1 e2 q0 q1 g18 y18
          refine wp_region_quiet_below (by kernel_rfl) (by kernel_rfl) ?_
          repeat (first | go_big_quiet_step (first | exact cM _ _) | quiet_step (first | exact cM _ _))
          refine wpQuiet_nil ?_
          intro _ hw'
          obtain ⟨⟨dq, osq⟩, hw''⟩ := hw'
          subst hw''
          go_wp2_with (fail)
          go_ret
          exact ⟨by rw [HV.out]; rfl, HBV.out.trans ((below_regrown V dq osq).mono HBV.out.size)⟩
        case true =>
        rw [hkb] at hK
        have HKB := Lib.hid hkb
        clear hkb
        by_cases h16 : pv.size ≤ 16
        case neg =>
          have HV : Hid (amayB x = false) := Lib.hid (by rw [HV3.out]; exact xsB_val HP.out (by rw [HPP.out]; omega))
          have d1 : decide ((16 : Int) < (pv.size : Int)) = true := by rw [decide_eq_true_eq]; omega
          clear hcell h16
          go_wp2_with (fail)
          obtain ⟨V, hV⟩ : ∃ V, V = wr.alloc (Obj.cells #[.string pk, .string pv] 58) := ⟨_, rfl⟩
          rw [← hV]
          have hAB : Below wr.heap.size wr V := by rw [hV]; exact (Below.refl _ _).alloc (Nat.le_refl _) _
          have HBV := Lib.hid (HBW.out.trans (hAB.mono HBW.out.size))
          have HZV := Lib.hid (hZ.out.on hAB)
          have HCV := Lib.hid (hCX.out.below hAB)
          obtain ⟨q0, q1⟩ := two_cells (w0 := V) (B := wr.heap.size) (x := .string pk) (y := .string pv) (t := 58) (by rw [hV]; exact heap_alloc_new _ _)
          have g18 := HZV.out.c18
          rw [HN.out, HX.out] at g18
          have k0 := cell_regrown q0
          have k1 := cell_regrown q1
          have k18 := cell_regrown g18
          have cM : ∀ dq os, Calls Try.prog 32 #[.string pk] (grow (redrawn V dq) os) fun e w'' => e = .returned (.bool true) ∧ ∃ p : Regrown, w'' = grow (redrawn V p.d) p.os := fun dq os => Calls.regrown_of ((hK _).mono fun e w1 h => ⟨h.1, by obtain ⟨_, m, h⟩ := h; rw [h]; exact below_drewN (Below.refl _ _) m⟩)
          clear hV hAB e1 e2 q0 q1 g18 y18
          refine wp_region_quiet_below (by kernel_rfl) (by kernel_rfl) ?_
          repeat (first | go_big_quiet_step (first | exact cM _ _) | quiet_step (first | exact cM _ _))
          refine wpQuiet_nil ?_
          intro _ hw'
          obtain ⟨⟨dq, osq⟩, hw''⟩ := hw'
          subst hw''
          go_wp2_with (fail)
          go_ret
          exact ⟨by rw [HV.out]; rfl, HBV.out.trans ((below_regrown V dq osq).mono HBV.out.size)⟩
        case pos =>
        have d1 : decide ((16 : Int) < (pv.size : Int)) = false := by rw [decide_eq_false_iff_not]; omega
        cases k with
        | zero =>
          have HR2 := Lib.hid (XRise.first HP.out (by rw [HPI.out]; exact HKB.out) (by rw [HPP.out]; exact h16))
          simp only [Nat.zero_mul, Nat.add_zero] at e1 e2
          clear hcell h16
          go_wp2_with (fail)
          obtain ⟨V, hV⟩ : ∃ V, V = wr.alloc (Obj.cells #[.string pk, .string pv] 58) := ⟨_, rfl⟩
          rw [← hV]
          have hAB : Below wr.heap.size wr V := by rw [hV]; exact (Below.refl _ _).alloc (Nat.le_refl _) _
          have HBV := Lib.hid (HBW.out.trans (hAB.mono HBW.out.size))
          have HZV := Lib.hid (hZ.out.on hAB)
          have HCV := Lib.hid (hCX.out.below hAB)
          obtain ⟨q0, q1⟩ := two_cells (w0 := V) (B := wr.heap.size) (x := .string pk) (y := .string pv) (t := 58) (by rw [hV]; exact heap_alloc_new _ _)
          have g18 := HZV.out.c18
          rw [HN.out, HX.out] at g18
          have k0 := cell_regrown q0
          have k1 := cell_regrown q1
          have k18 := cell_regrown g18
          have cM : ∀ dq os, Calls Try.prog 32 #[.string pk] (grow (redrawn V dq) os) fun e w'' => e = .returned (.bool true) ∧ ∃ p : Regrown, w'' = grow (redrawn V p.d) p.os := fun dq os => Calls.regrown_of ((hK _).mono fun e w1 h => ⟨h.1, by obtain ⟨_, m, h⟩ := h; rw [h]; exact below_drewN (Below.refl _ _) m⟩)
          clear hV hAB e1 e2 q0 q1 g18 y18
          refine wp_region_quiet_below (by kernel_rfl) (by kernel_rfl) ?_
          repeat (first | go_big_quiet_step (first | exact cM _ _) | quiet_step (first | exact cM _ _))
          refine wpQuiet_nil ?_
          intro _ hw'
          obtain ⟨⟨dq, osq⟩, hw''⟩ := hw'
          subst hw''
          go_wp2_with (fail)
          go_roundw
          case rel => exact ⟨1, by go_num, by omega, HR2, Lib.hid (HZV.out.on (below_regrown V dq osq)), HBV.out.trans ((below_regrown V dq osq).mono HBV.out.size), Lib.hid (HCV.out.below (below_regrown V dq osq))⟩
          case measure => simp [intOf]; omega
        | succ k =>
          obtain ⟨r2, hr⟩ : ∃ r2, x.xs[k]? = some r2 := ⟨_, List.getElem?_eq_getElem (by rw [HN.out]; omega)⟩
          obtain ⟨e3, e4⟩ := hcell k r2 hr
          have HR1 := Lib.hid hr
          generalize hri : r2.key = rk at *
          have HRI := Lib.hid hri
          have h0 : decide ((0 : Int) < ((k + 1 : Nat) : Int)) = true := by rw [decide_eq_true_eq]; omega
          have h0' : decide ((0 : Int) < (k : Int) + 1) = true := by rw [decide_eq_true_eq]; omega
          have hk1 : (k : Int) + 1 - 1 = (k : Int) := by omega
          clear hcell hr hri
          cases hlt2 : ltS rk pk
          case false =>
            have HV : Hid (amayB x = false) := Lib.hid (by rw [HV3.out]; exact xsB_up HR1.out HP.out (by rw [HPI.out, HRI.out]; exact hlt2))
            clear h16
            go_wp2_with (fail)
            obtain ⟨V, hV⟩ : ∃ V, V = wr.alloc (Obj.cells #[.string pk, .string pv] 58) := ⟨_, rfl⟩
            rw [← hV]
            have hAB : Below wr.heap.size wr V := by rw [hV]; exact (Below.refl _ _).alloc (Nat.le_refl _) _
            have HBV := Lib.hid (HBW.out.trans (hAB.mono HBW.out.size))
            have HZV := Lib.hid (hZ.out.on hAB)
            have HCV := Lib.hid (hCX.out.below hAB)
            obtain ⟨q0, q1⟩ := two_cells (w0 := V) (B := wr.heap.size) (x := .string pk) (y := .string pv) (t := 58) (by rw [hV]; exact heap_alloc_new _ _)
            have g18 := HZV.out.c18
            rw [HN.out, HX.out] at g18
            have g3 := (hAB.cell (p := ⟨b, o + k * 2, none⟩) hlt).trans e3
            clear e3 e4
            have k0 := cell_regrown q0
            have k1 := cell_regrown q1
            have k18 := cell_regrown g18
            have k2 := cell_regrown g3
            clear g3
            have cM : ∀ dq os, Calls Try.prog 32 #[.string pk] (grow (redrawn V dq) os) fun e w'' => e = .returned (.bool true) ∧ ∃ p : Regrown, w'' = grow (redrawn V p.d) p.os := fun dq os => Calls.regrown_of ((hK _).mono fun e w1 h => ⟨h.1, by obtain ⟨_, m, h⟩ := h; rw [h]; exact below_drewN (Below.refl _ _) m⟩)
            clear hV hAB e1 e2 q0 q1 g18 y18
            refine wp_region_quiet_below (by kernel_rfl) (by kernel_rfl) ?_
            repeat (first | go_big_quiet_step (first | exact cM _ _) | quiet_step (first | exact cM _ _))
            refine wpQuiet_nil ?_
            intro _ hw'
            obtain ⟨⟨dq, osq⟩, hw''⟩ := hw'
            subst hw''
            go_wp2_with (fail)
            go_ret
            exact ⟨by rw [HV.out]; rfl, HBV.out.trans ((below_regrown V dq osq).mono HBV.out.size)⟩
          case true =>
            have HR2 := Lib.hid (hR.out.more HR1.out HP.out (by rw [HPI.out]; exact HKB.out) (by rw [HPP.out]; exact h16) (by rw [HPI.out, HRI.out]; exact hlt2))
            clear h16
            go_wp2_with (fail)
            obtain ⟨V, hV⟩ : ∃ V, V = wr.alloc (Obj.cells #[.string pk, .string pv] 58) := ⟨_, rfl⟩
            rw [← hV]
            have hAB : Below wr.heap.size wr V := by rw [hV]; exact (Below.refl _ _).alloc (Nat.le_refl _) _
            have HBV := Lib.hid (HBW.out.trans (hAB.mono HBW.out.size))
            have HZV := Lib.hid (hZ.out.on hAB)
            have HCV := Lib.hid (hCX.out.below hAB)
            obtain ⟨q0, q1⟩ := two_cells (w0 := V) (B := wr.heap.size) (x := .string pk) (y := .string pv) (t := 58) (by rw [hV]; exact heap_alloc_new _ _)
            have g18 := HZV.out.c18
            rw [HN.out, HX.out] at g18
            have g3 := (hAB.cell (p := ⟨b, o + k * 2, none⟩) hlt).trans e3
            clear e3 e4
            have k0 := cell_regrown q0
            have k1 := cell_regrown q1
            have k18 := cell_regrown g18
            have k2 := cell_regrown g3
            clear g3
            have cM : ∀ dq os, Calls Try.prog 32 #[.string pk] (grow (redrawn V dq) os) fun e w'' => e = .returned (.bool true) ∧ ∃ p : Regrown, w'' = grow (redrawn V p.d) p.os := fun dq os => Calls.regrown_of ((hK _).mono fun e w1 h => ⟨h.1, by obtain ⟨_, m, h⟩ := h; rw [h]; exact below_drewN (Below.refl _ _) m⟩)
            clear hV hAB e1 e2 q0 q1 g18 y18
            refine wp_region_quiet_below (by kernel_rfl) (by kernel_rfl) ?_
            repeat (first | go_big_quiet_step (first | exact cM _ _) | quiet_step (first | exact cM _ _))
            refine wpQuiet_nil ?_
            intro _ hw'
            obtain ⟨⟨dq, osq⟩, hw''⟩ := hw'
            subst hw''
            go_wp2_with (fail)
            go_roundw
            case rel => exact ⟨k + 2, by go_num, by omega, HR2, Lib.hid (HZV.out.on (below_regrown V dq osq)), HBV.out.trans ((below_regrown V dq osq).mono HBV.out.size), Lib.hid (HCV.out.below (below_regrown V dq osq))⟩
            case measure => simp [intOf]; omega
      · obtain rfl : k = n := by omega
        have HV : Hid (amayB x = true) := Lib.hid (by rw [HV3.out]; exact xsB_iff.2 ⟨by have h := hR.out; rw [← HN.out] at h; exact h, by rw [HN.out]; exact h4⟩)
        go_wp2_with (fail)
        go_ret
        exact ⟨by rw [HV.out]; rfl, hbw⟩
  case false =>
    rw [hh] at y10
    have HH := Lib.hid hh
    clear hh
    go_wp2_with (refine wpList_load_part rfl 28 (.tmp 33) rfl w.heap.size 11 rfl (x.df.c p.q).toList _ HZ1.out.df Try.underlying28 rfl acl_size (x.df.v p.q) rfl ?_)
    refine (rlsame_calls x.df acZ p.q lieZ w1 HL1.out.df (lies_acZ _) HS.out.df sm_acZ).mono ?_
    rintro e w2 ⟨rfl, hb2⟩
    have HV2 : Hid (amayB x = (sameB x.df acZ && xsB x.xs)) := Lib.hid (by rw [HV1.out, HH.out, defB_no])
    obtain ⟨m, hm⟩ : ∃ m, sameB x.df acZ = m := ⟨_, rfl⟩
    rw [hm] at HV2 ⊢
    clear hm
    have HB2 := Lib.hid (HB1.out.trans (hb2.mono HB1.out.size))
    have HZ2 := Lib.hid (HZ1.out.on hb2)
    have HL2 := Lib.hid (HL1.out.below hb2)
    clear hb2 HZ1 HB1 HL1 y10 y18 HV1
    cases m
    case false =>
      have HV : Hid (amayB x = false) := Lib.hid (by rw [HV2.out]; rfl)
      go_wp2_with (fail)
      go_ret
      exact ⟨by rw [HV.out]; rfl, HB2.out⟩
    case true =>
    have HV3 : Hid (amayB x = xsB x.xs) := Lib.hid (by rw [HV2.out, Bool.true_and])
    have y10 := HZ2.out.c10
    rw [HH.out] at y10
    go_wp2_with (fail)
    clear y10 d1
    obtain ⟨n, hn⟩ : ∃ n, x.xs.length = n := ⟨_, rfl⟩
    have HN := Lib.hid hn
    rw [hn] at h4
    clear hn
    go_loopw [3] (fun i wr => ∃ k : Nat, i = .int .i64 k ∧ k ≤ n ∧ Hid (XRise x.xs k) ∧ Hid (Bt wr w.heap.size x p) ∧ Below w.heap.size w wr ∧ Hid (Cel wr p.X (xv x.xs))) (fun i _ => n - (intOf i).toNat)
    case atStart => exact ⟨0, rfl, by omega, Lib.hid (XRise.zero _), HZ2, HB2.out, Lib.hid HL2.out.xs⟩
    case round =>
      obtain ⟨k, rfl, hk, hR, hZ, hbw, hCX⟩ := hrel
      have y18 := hZ.out.c18
      rw [HN.out] at y18
      by_cases hkn : k < n
      · obtain ⟨b, o, hX, hlt, hcell⟩ := hCX.out.xt (by rw [HN.out]; omega)
        rw [hX] at y18
        obtain ⟨r, hp⟩ : ∃ r, x.xs[k]? = some r := ⟨_, List.getElem?_eq_getElem (by rw [HN.out]; exact hkn)⟩
        obtain ⟨e1, e2⟩ := hcell k r hp
        have HP := Lib.hid hp
        have HBW := Lib.hid hbw
        have hks := HK.out k r hp
        clear hp hbw
        have HX := Lib.hid hX
        clear hX
        generalize hpi : r.key = pk at *
        generalize hpp : r.val = pv at *
        have HPI := Lib.hid hpi
        have HPP := Lib.hid hpp
        clear hpi hpp
        have hK := fun W => rkey_calls pk W hks
        clear hks
        cases hkb : keyB pk
        case false =>
          rw [hkb] at hK
          have HV : Hid (amayB x = false) := Lib.hid (by rw [HV3.out]; exact xsB_key HP.out (by rw [HPI.out]; exact hkb))
          clear hkb hcell
          go_wp2_with (fail)
          obtain ⟨V, hV⟩ : ∃ V, V = wr.alloc (Obj.cells #[.string pk, .string pv] 58) := ⟨_, rfl⟩
          rw [← hV]
          have hAB : Below wr.heap.size wr V := by rw [hV]; exact (Below.refl _ _).alloc (Nat.le_refl _) _
          have HBV := Lib.hid (HBW.out.trans (hAB.mono HBW.out.size))
          have HZV := Lib.hid (hZ.out.on hAB)
          have HCV := Lib.hid (hCX.out.below hAB)
          obtain ⟨q0, q1⟩ := two_cells (w0 := V) (B := wr.heap.size) (x := .string pk) (y := .string pv) (t := 58) (by rw [hV]; exact heap_alloc_new _ _)
          have g18 := HZV.out.c18
          rw [HN.out, HX.out] at g18
          have k0 := cell_regrown q0
          have k1 := cell_regrown q1
          have k18 := cell_regrown g18
          have cM : ∀ dq os, Calls Try.prog 32 #[.string pk] (grow (redrawn V dq) os) fun e w'' => e = .returned (.bool false) ∧ ∃ p : Regrown, w'' = grow (redrawn V p.d) p.os := fun dq os => Calls.regrown_of ((hK _).mono fun e w1 h => ⟨h.1, by obtain ⟨_, m, h⟩ := h; rw [h]; exact below_drewN (Below.refl _ _) m⟩)
          clear hV hAB e1 e2 q0 q1 g18 y18
          refine wp_region_quiet_below (by kernel_rfl) (by kernel_rfl) ?_
          repeat (first | go_big_quiet_step (first | exact cM _ _) | quiet_step (first | exact cM _ _))
          refine wpQuiet_nil ?_
          intro _ hw'
          obtain ⟨⟨dq, osq⟩, hw''⟩ := hw'
          subst hw''
          go_wp2_with (fail)
          go_ret
          exact ⟨by rw [HV.out]; rfl, HBV.out.trans ((below_regrown V dq osq).mono HBV.out.size)⟩
        case true =>
        rw [hkb] at hK
        have HKB := Lib.hid hkb
        clear hkb
        by_cases h16 : pv.size ≤ 16
        case neg =>
          have HV : Hid (amayB x = false) := Lib.hid (by rw [HV3.out]; exact xsB_val HP.out (by rw [HPP.out]; omega))
          have d1 : decide ((16 : Int) < (pv.size : Int)) = true := by rw [decide_eq_true_eq]; omega
          clear hcell h16
          go_wp2_with (fail)
          obtain ⟨V, hV⟩ : ∃ V, V = wr.alloc (Obj.cells #[.string pk, .string pv] 58) := ⟨_, rfl⟩
          rw [← hV]
          have hAB : Below wr.heap.size wr V := by rw [hV]; exact (Below.refl _ _).alloc (Nat.le_refl _) _
          have HBV := Lib.hid (HBW.out.trans (hAB.mono HBW.out.size))
          have HZV := Lib.hid (hZ.out.on hAB)
          have HCV := Lib.hid (hCX.out.below hAB)
          obtain ⟨q0, q1⟩ := two_cells (w0 := V) (B := wr.heap.size) (x := .string pk) (y := .string pv) (t := 58) (by rw [hV]; exact heap_alloc_new _ _)
          have g18 := HZV.out.c18
          rw [HN.out, HX.out] at g18
          have k0 := cell_regrown q0
          have k1 := cell_regrown q1
          have k18 := cell_regrown g18
          have cM : ∀ dq os, Calls Try.prog 32 #[.string pk] (grow (redrawn V dq) os) fun e w'' => e = .returned (.bool true) ∧ ∃ p : Regrown, w'' = grow (redrawn V p.d) p.os := fun dq os => Calls.regrown_of ((hK _).mono fun e w1 h => ⟨h.1, by obtain ⟨_, m, h⟩ := h; rw [h]; exact below_drewN (Below.refl _ _) m⟩)
          clear hV hAB e1 e2 q0 q1 g18 y18
          refine wp_region_quiet_below (by kernel_rfl) (by kernel_rfl) ?_
          repeat (first | go_big_quiet_step (first | exact cM _ _) | quiet_step (first | exact cM _ _))
          refine wpQuiet_nil ?_
          intro _ hw'
          obtain ⟨⟨dq, osq⟩, hw''⟩ := hw'
          subst hw''
          go_wp2_with (fail)
          go_ret
          exact ⟨by rw [HV.out]; rfl, HBV.out.trans ((below_regrown V dq osq).mono HBV.out.size)⟩
        case pos =>
        have d1 : decide ((16 : Int) < (pv.size : Int)) = false := by rw [decide_eq_false_iff_not]; omega
        cases k with
        | zero =>
          have HR2 := Lib.hid (XRise.first HP.out (by rw [HPI.out]; exact HKB.out) (by rw [HPP.out]; exact h16))
          simp only [Nat.zero_mul, Nat.add_zero] at e1 e2
          clear hcell h16
          go_wp2_with (fail)
          obtain ⟨V, hV⟩ : ∃ V, V = wr.alloc (Obj.cells #[.string pk, .string pv] 58) := ⟨_, rfl⟩
          rw [← hV]
          have hAB : Below wr.heap.size wr V := by rw [hV]; exact (Below.refl _ _).alloc (Nat.le_refl _) _
          have HBV := Lib.hid (HBW.out.trans (hAB.mono HBW.out.size))
          have HZV := Lib.hid (hZ.out.on hAB)
          have HCV := Lib.hid (hCX.out.below hAB)
          obtain ⟨q0, q1⟩ := two_cells (w0 := V) (B := wr.heap.size) (x := .string pk) (y := .string pv) (t := 58) (by rw [hV]; exact heap_alloc_new _ _)
          have g18 := HZV.out.c18
          rw [HN.out, HX.out] at g18
          have k0 := cell_regrown q0
          have k1 := cell_regrown q1
          have k18 := cell_regrown g18
          have cM : ∀ dq os, Calls Try.prog 32 #[.string pk] (grow (redrawn V dq) os) fun e w'' => e = .returned (.bool true) ∧ ∃ p : Regrown, w'' = grow (redrawn V p.d) p.os := fun dq os => Calls.regrown_of ((hK _).mono fun e w1 h => ⟨h.1, by obtain ⟨_, m, h⟩ := h; rw [h]; exact below_drewN (Below.refl _ _) m⟩)
          clear hV hAB e1 e2 q0 q1 g18 y18
          refine wp_region_quiet_below (by kernel_rfl) (by kernel_rfl) ?_
          repeat (first | go_big_quiet_step (first | exact cM _ _) | quiet_step (first | exact cM _ _))
          refine wpQuiet_nil ?_
          intro _ hw'
          obtain ⟨⟨dq, osq⟩, hw''⟩ := hw'
          subst hw''
          go_wp2_with (fail)
          go_roundw
          case rel => exact ⟨1, by go_num, by omega, HR2, Lib.hid (HZV.out.on (below_regrown V dq osq)), HBV.out.trans ((below_regrown V dq osq).mono HBV.out.size), Lib.hid (HCV.out.below (below_regrown V dq osq))⟩
          case measure => simp [intOf]; omega
        | succ k =>
          obtain ⟨r2, hr⟩ : ∃ r2, x.xs[k]? = some r2 := ⟨_, List.getElem?_eq_getElem (by rw [HN.out]; omega)⟩
          obtain ⟨e3, e4⟩ := hcell k r2 hr
          have HR1 := Lib.hid hr
          generalize hri : r2.key = rk at *
          have HRI := Lib.hid hri
          have h0 : decide ((0 : Int) < ((k + 1 : Nat) : Int)) = true := by rw [decide_eq_true_eq]; omega
          have h0' : decide ((0 : Int) < (k : Int) + 1) = true := by rw [decide_eq_true_eq]; omega
          have hk1 : (k : Int) + 1 - 1 = (k : Int) := by omega
          clear hcell hr hri
          cases hlt2 : ltS rk pk
          case false =>
            have HV : Hid (amayB x = false) := Lib.hid (by rw [HV3.out]; exact xsB_up HR1.out HP.out (by rw [HPI.out, HRI.out]; exact hlt2))
            clear h16
            go_wp2_with (fail)
            obtain ⟨V, hV⟩ : ∃ V, V = wr.alloc (Obj.cells #[.string pk, .string pv] 58) := ⟨_, rfl⟩
            rw [← hV]
            have hAB : Below wr.heap.size wr V := by rw [hV]; exact (Below.refl _ _).alloc (Nat.le_refl _) _
            have HBV := Lib.hid (HBW.out.trans (hAB.mono HBW.out.size))
            have HZV := Lib.hid (hZ.out.on hAB)
            have HCV := Lib.hid (hCX.out.below hAB)
            obtain ⟨q0, q1⟩ := two_cells (w0 := V) (B := wr.heap.size) (x := .string pk) (y := .string pv) (t := 58) (by rw [hV]; exact heap_alloc_new _ _)
            have g18 := HZV.out.c18
            rw [HN.out, HX.out] at g18
            have g3 := (hAB.cell (p := ⟨b, o + k * 2, none⟩) hlt).trans e3
            clear e3 e4
            have k0 := cell_regrown q0
            have k1 := cell_regrown q1
            have k18 := cell_regrown g18
            have k2 := cell_regrown g3
            clear g3
            have cM : ∀ dq os, Calls Try.prog 32 #[.string pk] (grow (redrawn V dq) os) fun e w'' => e = .returned (.bool true) ∧ ∃ p : Regrown, w'' = grow (redrawn V p.d) p.os := fun dq os => Calls.regrown_of ((hK _).mono fun e w1 h => ⟨h.1, by obtain ⟨_, m, h⟩ := h; rw [h]; exact below_drewN (Below.refl _ _) m⟩)
            clear hV hAB e1 e2 q0 q1 g18 y18
            refine wp_region_quiet_below (by kernel_rfl) (by kernel_rfl) ?_
            repeat (first | go_big_quiet_step (first | exact cM _ _) | quiet_step (first | exact cM _ _))
            refine wpQuiet_nil ?_
            intro _ hw'
            obtain ⟨⟨dq, osq⟩, hw''⟩ := hw'
            subst hw''
            go_wp2_with (fail)
            go_ret
            exact ⟨by rw [HV.out]; rfl, HBV.out.trans ((below_regrown V dq osq).mono HBV.out.size)⟩
          case true =>
            have HR2 := Lib.hid (hR.out.more HR1.out HP.out (by rw [HPI.out]; exact HKB.out) (by rw [HPP.out]; exact h16) (by rw [HPI.out, HRI.out]; exact hlt2))
            clear h16
            go_wp2_with (fail)
            obtain ⟨V, hV⟩ : ∃ V, V = wr.alloc (Obj.cells #[.string pk, .string pv] 58) := ⟨_, rfl⟩
            rw [← hV]
            have hAB : Below wr.heap.size wr V := by rw [hV]; exact (Below.refl _ _).alloc (Nat.le_refl _) _
            have HBV := Lib.hid (HBW.out.trans (hAB.mono HBW.out.size))
            have HZV := Lib.hid (hZ.out.on hAB)
            have HCV := Lib.hid (hCX.out.below hAB)
            obtain ⟨q0, q1⟩ := two_cells (w0 := V) (B := wr.heap.size) (x := .string pk) (y := .string pv) (t := 58) (by rw [hV]; exact heap_alloc_new _ _)
            have g18 := HZV.out.c18
            rw [HN.out, HX.out] at g18
            have g3 := (hAB.cell (p := ⟨b, o + k * 2, none⟩) hlt).trans e3
            clear e3 e4
            have k0 := cell_regrown q0
            have k1 := cell_regrown q1
            have k18 := cell_regrown g18
            have k2 := cell_regrown g3
            clear g3
            have cM : ∀ dq os, Calls Try.prog 32 #[.string pk] (grow (redrawn V dq) os) fun e w'' => e = .returned (.bool true) ∧ ∃ p : Regrown, w'' = grow (redrawn V p.d) p.os := fun dq os => Calls.regrown_of ((hK _).mono fun e w1 h => ⟨h.1, by obtain ⟨_, m, h⟩ := h; rw [h]; exact below_drewN (Below.refl _ _) m⟩)
            clear hV hAB e1 e2 q0 q1 g18 y18
            refine wp_region_quiet_below (by kernel_rfl) (by kernel_rfl) ?_
            repeat (first | go_big_quiet_step (first | exact cM _ _) | quiet_step (first | exact cM _ _))
            refine wpQuiet_nil ?_
            intro _ hw'
            obtain ⟨⟨dq, osq⟩, hw''⟩ := hw'
            subst hw''
            go_wp2_with (fail)
            go_roundw
            case rel => exact ⟨k + 2, by go_num, by omega, HR2, Lib.hid (HZV.out.on (below_regrown V dq osq)), HBV.out.trans ((below_regrown V dq osq).mono HBV.out.size), Lib.hid (HCV.out.below (below_regrown V dq osq))⟩
            case measure => simp [intOf]; omega
      · obtain rfl : k = n := by omega
        have HV : Hid (amayB x = true) := Lib.hid (by rw [HV3.out]; exact xsB_iff.2 ⟨by have h := hR.out; rw [← HN.out] at h; exact h, by rw [HN.out]; exact h4⟩)
        go_wp2_with (fail)
        go_ret
        exact ⟨by rw [HV.out]; rfl, hbw⟩
end Go.Proofs.Ytejhodjbgablaaa
