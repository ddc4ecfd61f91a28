/- Which attributes may be: the document's answer. -/
import Derived.Test.YtgdiiicaljidpaaAtT
import Derived.Test.YtgdiiicaljidpaaNuT
import Derived.Test.YtgdiiicaljidpaaXsT
set_option linter.unusedSimpArgs false
set_option linter.unusedVariables false
set_option linter.unusedSimpArgs false
set_option linter.unusedVariables false
namespace Go.Proofs.Ytgdiiicaljidpaa
open Go.RowKit Go.Sort Go.Lib
theorem mayB_acZ : mayB acZ = true := mayB_iff.2 ⟨by decide, by decide, by decide, by decide, namedB_nil, namedB_nil, fun _ => ⟨rfl, rfl, rfl⟩⟩
theorem defB_no (d : Ac) : defB false d = sameB d acZ := by
  unfold defB
  rw [Bool.false_or]
  cases hs : sameB d acZ
  · rw [Bool.and_false]
  · rw [sameB_iff.1 hs, mayB_acZ]; rfl
theorem defB_yes (d : Ac) : defB true d = mayB d := by
  unfold defB
  rw [Bool.true_or, Bool.and_true]
set_option maxRecDepth 100000 in
set_option maxHeartbeats 4000000 in
theorem ramay_calls (x : At) (p : ALie) (w : World) (h : ALies w x p) (hs : ASm x) (hks : ∀ (k : Nat) q, x.xs[k]? = some q → q.key.size ≤ 1099511627776) :
    Calls Try.prog 15 #[x.v p] w fun e w' => e = .returned (.bool (amayB x)) ∧ Below w.heap.size w w' := by
  obtain ⟨V, hV⟩ : ∃ V, V = w.alloc (.cells (x.c p) 31) := ⟨_, rfl⟩
  have hb : Below w.heap.size w V := by rw [hV]; exact (Below.refl _ _).alloc (Nat.le_refl _) _
  have hz : Bt V w.heap.size x p := by rw [hV]; exact Bt.new w x p
  have HZ := Lib.hid hz
  have HB := Lib.hid hb
  have HL := Lib.hid (h.below hb)
  have HS := Lib.hid hs
  have HK := Lib.hid hks
  have y0 := hz.c0
  clear h hz hb hs hks
  by_cases hbi : x.bi ≤ 7
  case neg =>
    have HV : Hid (amayB x = false) := Lib.hid (by unfold amayB; rw [decide_eq_false hbi]; rfl)
    have d0 : decide ((7 : Int) < (x.bi : Int)) = true := by rw [decide_eq_true_eq]; omega
    go_enter Try.func15, Try.ntmps15
    go_upto_region 1 with (fail)
    rw [← hV]
    clear hV
    go_wp2_with (fail)
    go_ret
    exact ⟨by rw [HV.out]; rfl, HB.out⟩
  case pos =>
  have d0 : decide ((7 : Int) < (x.bi : Int)) = false := by rw [decide_eq_false_iff_not]; omega
  have HV0 : Hid (amayB x = (mayB x.ac && (defB x.hd x.df && xsB x.xs))) := Lib.hid (by unfold amayB; rw [decide_eq_true hbi, Bool.true_and])
  clear hbi
  have c := rmay_calls x.ac p.p V HL.out.ac HS.out.ac
  cases hm : mayB x.ac
  case false =>
    rw [hm] at c
    have HV : Hid (amayB x = false) := Lib.hid (by rw [HV0.out, hm]; rfl)
    have HC := Lib.hid c
    clear hm c
    go_enter Try.func15, Try.ntmps15
    go_upto_region 1 with (fail)
    rw [← hV]
    clear hV
    go_wp2_with (refine wpList_load_part rfl 28 (.tmp 9) rfl w.heap.size 3 rfl (x.ac.c p.p).toList _ HZ.out.ac Try.underlying28 rfl acl_size (x.ac.v p.p) rfl ?_)
    refine HC.out.mono ?_
    rintro e w1 ⟨rfl, hb1⟩
    have HB1 := Lib.hid (HB.out.trans (hb1.mono HB.out.size))
    clear hb1
    go_wp2_with (fail)
    go_ret
    exact ⟨by rw [HV.out]; rfl, HB1.out⟩
  case true =>
  rw [hm] at c
  have HV1 : Hid (amayB x = (defB x.hd x.df && xsB x.xs)) := Lib.hid (by rw [HV0.out, hm, Bool.true_and])
  have HC := Lib.hid c
  clear hm c HV0
  go_enter Try.func15, Try.ntmps15
  go_upto_region 1 with (fail)
  rw [← hV]
  clear hV
  go_wp2_with (refine wpList_load_part rfl 28 (.tmp 9) rfl w.heap.size 3 rfl (x.ac.c p.p).toList _ HZ.out.ac Try.underlying28 rfl acl_size (x.ac.v p.p) rfl ?_)
  refine HC.out.mono ?_
  rintro e w1 ⟨rfl, hb1⟩
  have HB1 := Lib.hid (HB.out.trans (hb1.mono HB.out.size))
  have HZ1 := Lib.hid (HZ.out.on hb1)
  have HL1 := Lib.hid (HL.out.below hb1)
  clear hb1 HC HZ HB HL y0 d0
  have y18 := HZ1.out.c18
  have y10 := HZ1.out.c10
  by_cases h4 : x.xs.length ≤ 4
  case neg =>
    have HV : Hid (amayB x = false) := Lib.hid (by rw [HV1.out, xsB_long (by omega), Bool.and_false])
    have d1 : decide ((4 : Int) < (x.xs.length : Int)) = true := by rw [decide_eq_true_eq]; omega
    clear h4
    go_wp2_with (fail)
    go_ret
    exact ⟨by rw [HV.out]; rfl, HB1.out⟩
  case pos =>
  have d1 : decide ((4 : Int) < (x.xs.length : Int)) = false := by rw [decide_eq_false_iff_not]; omega
  cases hh : x.hd
  case true =>
    rw [hh] at y10
    have HH := Lib.hid hh
    clear hh
    go_wp2_with (refine wpList_load_part rfl 28 (.tmp 23) rfl w.heap.size 11 rfl (x.df.c p.q).toList _ HZ1.out.df Try.underlying28 rfl acl_size (x.df.v p.q) rfl ?_)
    refine (rmay_calls x.df p.q w1 HL1.out.df HS.out.df).mono ?_
    rintro e w2 ⟨rfl, hb2⟩
    have HV2 : Hid (amayB x = (mayB x.df && xsB x.xs)) := Lib.hid (by rw [HV1.out, HH.out, defB_yes])
    obtain ⟨m, hm⟩ : ∃ m, mayB x.df = m := ⟨_, rfl⟩
    rw [hm] at HV2 ⊢
    clear hm
    have HB2 := Lib.hid (HB1.out.trans (hb2.mono HB1.out.size))
    have HZ2 := Lib.hid (HZ1.out.on hb2)
    have HL2 := Lib.hid (HL1.out.below hb2)
    clear hb2 HZ1 HB1 HL1 y10 y18 HV1
    cases m
    case false =>
      have HV : Hid (amayB x = false) := Lib.hid (by rw [HV2.out]; rfl)
      go_wp2_with (fail)
      go_ret
      exact ⟨by rw [HV.out]; rfl, HB2.out⟩
    case true =>
    have HV3 : Hid (amayB x = xsB x.xs) := Lib.hid (by rw [HV2.out, Bool.true_and])
    have y10 := HZ2.out.c10
    rw [HH.out] at y10
    go_wp2_with (fail)
    clear y10 d1
    obtain ⟨n, hn⟩ : ∃ n, x.xs.length = n := ⟨_, rfl⟩
    have HN := Lib.hid hn
    rw [hn] at h4
    clear hn
    go_loopw [3] (fun i wr => ∃ k : Nat, i = .int .i64 k ∧ k ≤ n ∧ Hid (XRise x.xs k) ∧ Hid (Bt wr w.heap.size x p) ∧ Below w.heap.size w wr ∧ Hid (Cel wr p.X (xv x.xs))) (fun i _ => n - (intOf i).toNat)
    case atStart => exact ⟨0, rfl, by omega, Lib.hid (XRise.zero _), HZ2, HB2.out, Lib.hid HL2.out.xs⟩
    case round =>
      obtain ⟨k, rfl, hk, hR, hZ, hbw, hCX⟩ := hrel
      have y18 := hZ.out.c18
      rw [HN.out] at y18
      by_cases hkn : k < n
      · obtain ⟨b, o, hX, hlt, hcell⟩ := hCX.out.xt (by rw [HN.out]; omega)
        rw [hX] at y18
        obtain ⟨r, hp⟩ : ∃ r, x.xs[k]? = some r := ⟨_, List.getElem?_eq_getElem (by rw [HN.out]; exact hkn)⟩
        obtain ⟨e1, e2⟩ := hcell k r hp
        have HP := Lib.hid hp
        have HBW := Lib.hid hbw
        have hks := HK.out k r hp
        clear hp hbw
        have HX := Lib.hid hX
        clear hX
        generalize hpi : r.key = pk at *
        generalize hpp : r.val = pv at *
        have HPI := Lib.hid hpi
        have HPP := Lib.hid hpp
        clear hpi hpp
        have hK := fun W => rkey_calls pk W hks
        clear hks
        cases hkb : keyB pk
        case false =>
          rw [hkb] at hK
          have HV : Hid (amayB x = false) := Lib.hid (by rw [HV3.out]; exact xsB_key HP.out (by rw [HPI.out]; exact hkb))
          clear hkb hcell
          go_wp2_with (fail)
          obtain ⟨V, hV⟩ : ∃ V, V = wr.alloc (Obj.cells #[.string pk, .string pv] 63) := ⟨_, rfl⟩
          rw [← hV]
          have hAB : Below wr.heap.size wr V := by rw [hV]; exact (Below.refl _ _).alloc (Nat.le_refl _) _
          have HBV := Lib.hid (HBW.out.trans (hAB.mono HBW.out.size))
          have HZV := Lib.hid (hZ.out.on hAB)
          have HCV := Lib.hid (hCX.out.below hAB)
          obtain ⟨q0, q1⟩ := two_cells (w0 := V) (B := wr.heap.size) (x := .string pk) (y := .string pv) (t := 63) (by rw [hV]; exact heap_alloc_new _ _)
          have g18 := HZV.out.c18
          rw [HN.out, HX.out] at g18
          have k0 := cell_regrown q0
          have k1 := cell_regrown q1
          have k18 := cell_regrown g18
          have cM : ∀ dq os, Calls Try.prog 33 #[.string pk] (grow (redrawn V dq) os) fun e w'' => e = .returned (.bool false) ∧ ∃ p : Regrown, w'' = grow (redrawn V p.d) p.os := fun dq os => Calls.regrown_of ((hK _).mono fun e w1 h => ⟨h.1, by obtain ⟨_, m, h⟩ := h; rw [h]; exact below_drewN (Below.refl _ _) m⟩)
          clear hV hAB e1 e2 q0 q1 g18 y18
          refine wp_region_quiet_below (by kernel_rfl) (by kernel_rfl) ?_
          repeat (first | go_big_quiet_step (first | exact cM _ _) | quiet_step (first | exact cM _ _))
          refine wpQuiet_nil ?_
          intro _ hw'
          obtain ⟨⟨dq, osq⟩, hw''⟩ := hw'
          subst hw''
          go_wp2_with (fail)
          go_ret
          exact ⟨by rw [HV.out]; rfl, HBV.out.trans ((below_regrown V dq osq).mono HBV.out.size)⟩
        case true =>
        rw [hkb] at hK
        have HKB := Lib.hid hkb
        clear hkb
        by_cases h16 : pv.size ≤ 16
        case neg =>
          have HV : Hid (amayB x = false) := Lib.hid (by rw [HV3.out]; exact xsB_val HP.out (by rw [HPP.out]; omega))
          have d1 : decide ((16 : Int) < (pv.size : Int)) = true := by rw [decide_eq_true_eq]; omega
          clear hcell h16
          go_wp2_with (fail)
          obtain ⟨V, hV⟩ : ∃ V, V = wr.alloc (Obj.cells #[.string pk, .string pv] 63) := ⟨_, rfl⟩
          rw [← hV]
          have hAB : Below wr.heap.size wr V := by rw [hV]; exact (Below.refl _ _).alloc (Nat.le_refl _) _
          have HBV := Lib.hid (HBW.out.trans (hAB.mono HBW.out.size))
          have HZV := Lib.hid (hZ.out.on hAB)
          have HCV := Lib.hid (hCX.out.below hAB)
          obtain ⟨q0, q1⟩ := two_cells (w0 := V) (B := wr.heap.size) (x := .string pk) (y := .string pv) (t := 63) (by rw [hV]; exact heap_alloc_new _ _)
          have g18 := HZV.out.c18
          rw [HN.out, HX.out] at g18
          have k0 := cell_regrown q0
          have k1 := cell_regrown q1
          have k18 := cell_regrown g18
          have cM : ∀ dq os, Calls Try.prog 33 #[.string pk] (grow (redrawn V dq) os) fun e w'' => e = .returned (.bool true) ∧ ∃ p : Regrown, w'' = grow (redrawn V p.d) p.os := fun dq os => Calls.regrown_of ((hK _).mono fun e w1 h => ⟨h.1, by obtain ⟨_, m, h⟩ := h; rw [h]; exact below_drewN (Below.refl _ _) m⟩)
          clear hV hAB e1 e2 q0 q1 g18 y18
          refine wp_region_quiet_below (by kernel_rfl) (by kernel_rfl) ?_
          repeat (first | go_big_quiet_step (first | exact cM _ _) | quiet_step (first | exact cM _ _))
          refine wpQuiet_nil ?_
          intro _ hw'
          obtain ⟨⟨dq, osq⟩, hw''⟩ := hw'
          subst hw''
          go_wp2_with (fail)
          go_ret
          exact ⟨by rw [HV.out]; rfl, HBV.out.trans ((below_regrown V dq osq).mono HBV.out.size)⟩
        case pos =>
        have d1 : decide ((16 : Int) < (pv.size : Int)) = false := by rw [decide_eq_false_iff_not]; omega
        cases k with
        | zero =>
          have HR2 := Lib.hid (XRise.first HP.out (by rw [HPI.out]; exact HKB.out) (by rw [HPP.out]; exact h16))
          simp only [Nat.zero_mul, Nat.add_zero] at e1 e2
          clear hcell h16
          go_wp2_with (fail)
          obtain ⟨V, hV⟩ : ∃ V, V = wr.alloc (Obj.cells #[.string pk, .string pv] 63) := ⟨_, rfl⟩
          rw [← hV]
          have hAB : Below wr.heap.size wr V := by rw [hV]; exact (Below.refl _ _).alloc (Nat.le_refl _) _
          have HBV := Lib.hid (HBW.out.trans (hAB.mono HBW.out.size))
          have HZV := Lib.hid (hZ.out.on hAB)
          have HCV := Lib.hid (hCX.out.below hAB)
          obtain ⟨q0, q1⟩ := two_cells (w0 := V) (B := wr.heap.size) (x := .string pk) (y := .string pv) (t := 63) (by rw [hV]; exact heap_alloc_new _ _)
          have g18 := HZV.out.c18
          rw [HN.out, HX.out] at g18
          have k0 := cell_regrown q0
          have k1 := cell_regrown q1
          have k18 := cell_regrown g18
          have cM : ∀ dq os, Calls Try.prog 33 #[.string pk] (grow (redrawn V dq) os) fun e w'' => e = .returned (.bool true) ∧ ∃ p : Regrown, w'' = grow (redrawn V p.d) p.os := fun dq os => Calls.regrown_of ((hK _).mono fun e w1 h => ⟨h.1, by obtain ⟨_, m, h⟩ := h; rw [h]; exact below_drewN (Below.refl _ _) m⟩)
          clear hV hAB e1 e2 q0 q1 g18 y18
          refine wp_region_quiet_below (by kernel_rfl) (by kernel_rfl) ?_
          repeat (first | go_big_quiet_step (first | exact cM _ _) | quiet_step (first | exact cM _ _))
          refine wpQuiet_nil ?_
          intro _ hw'
          obtain ⟨⟨dq, osq⟩, hw''⟩ := hw'
          subst hw''
          go_wp2_with (fail)
          go_roundw
          case rel => exact ⟨1, by go_num, by omega, HR2, Lib.hid (HZV.out.on (below_regrown V dq osq)), HBV.out.trans ((below_regrown V dq osq).mono HBV.out.size), Lib.hid (HCV.out.below (below_regrown V dq osq))⟩
          case measure => simp [intOf]; omega
        | succ k =>
          obtain ⟨r2, hr⟩ : ∃ r2, x.xs[k]? = some r2 := ⟨_, List.getElem?_eq_getElem (by rw [HN.out]; omega)⟩
          obtain ⟨e3, e4⟩ := hcell k r2 hr
          have HR1 := Lib.hid hr
          generalize hri : r2.key = rk at *
          have HRI := Lib.hid hri
          have h0 : decide ((0 : Int) < ((k + 1 : Nat) : Int)) = true := by rw [decide_eq_true_eq]; omega
          have h0' : decide ((0 : Int) < (k : Int) + 1) = true := by rw [decide_eq_true_eq]; omega
          have hk1 : (k : Int) + 1 - 1 = (k : Int) := by omega
          clear hcell hr hri
          cases hlt2 : ltS rk pk
          case false =>
            have HV : Hid (amayB x = false) := Lib.hid (by rw [HV3.out]; exact xsB_up HR1.out HP.out (by rw [HPI.out, HRI.out]; exact hlt2))
            clear h16
            go_wp2_with (fail)
            obtain ⟨V, hV⟩ : ∃ V, V = wr.alloc (Obj.cells #[.string pk, .string pv] 63) := ⟨_, rfl⟩
            rw [← hV]
            have hAB : Below wr.heap.size wr V := by rw [hV]; exact (Below.refl _ _).alloc (Nat.le_refl _) _
            have HBV := Lib.hid (HBW.out.trans (hAB.mono HBW.out.size))
            have HZV := Lib.hid (hZ.out.on hAB)
            have HCV := Lib.hid (hCX.out.below hAB)
            obtain ⟨q0, q1⟩ := two_cells (w0 := V) (B := wr.heap.size) (x := .string pk) (y := .string pv) (t := 63) (by rw [hV]; exact heap_alloc_new _ _)
            have g18 := HZV.out.c18
            rw [HN.out, HX.out] at g18
            have g3 := (hAB.cell (p := ⟨b, o + k * 2, none⟩) hlt).trans e3
            clear e3 e4
            have k0 := cell_regrown q0
            have k1 := cell_regrown q1
            have k18 := cell_regrown g18
            have k2 := cell_regrown g3
            clear g3
            have cM : ∀ dq os, Calls Try.prog 33 #[.string pk] (grow (redrawn V dq) os) fun e w'' => e = .returned (.bool true) ∧ ∃ p : Regrown, w'' = grow (redrawn V p.d) p.os := fun dq os => Calls.regrown_of ((hK _).mono fun e w1 h => ⟨h.1, by obtain ⟨_, m, h⟩ := h; rw [h]; exact below_drewN (Below.refl _ _) m⟩)
            clear hV hAB e1 e2 q0 q1 g18 y18
            refine wp_region_quiet_below (by kernel_rfl) (by kernel_rfl) ?_
            repeat (first | go_big_quiet_step (first | exact cM _ _) | quiet_step (first | exact cM _ _))
            refine wpQuiet_nil ?_
            intro _ hw'
            obtain ⟨⟨dq, osq⟩, hw''⟩ := hw'
            subst hw''
            go_wp2_with (fail)
            go_ret
            exact ⟨by rw [HV.out]; rfl, HBV.out.trans ((below_regrown V dq osq).mono HBV.out.size)⟩
          case true =>
            have HR2 := Lib.hid (hR.out.more HR1.out HP.out (by rw [HPI.out]; exact HKB.out) (by rw [HPP.out]; exact h16) (by rw [HPI.out, HRI.out]; exact hlt2))
            clear h16
            go_wp2_with (fail)
            obtain ⟨V, hV⟩ : ∃ V, V = wr.alloc (Obj.cells #[.string pk, .string pv] 63) := ⟨_, rfl⟩
            rw [← hV]
            have hAB : Below wr.heap.size wr V := by rw [hV]; exact (Below.refl _ _).alloc (Nat.le_refl _) _
            have HBV := Lib.hid (HBW.out.trans (hAB.mono HBW.out.size))
            have HZV := Lib.hid (hZ.out.on hAB)
            have HCV := Lib.hid (hCX.out.below hAB)
            obtain ⟨q0, q1⟩ := two_cells (w0 := V) (B := wr.heap.size) (x := .string pk) (y := .string pv) (t := 63) (by rw [hV]; exact heap_alloc_new _ _)
            have g18 := HZV.out.c18
            rw [HN.out, HX.out] at g18
            have g3 := (hAB.cell (p := ⟨b, o + k * 2, none⟩) hlt).trans e3
            clear e3 e4
            have k0 := cell_regrown q0
            have k1 := cell_regrown q1
            have k18 := cell_regrown g18
            have k2 := cell_regrown g3
            clear g3
            have cM : ∀ dq os, Calls Try.prog 33 #[.string pk] (grow (redrawn V dq) os) fun e w'' => e = .returned (.bool true) ∧ ∃ p : Regrown, w'' = grow (redrawn V p.d) p.os := fun dq os => Calls.regrown_of ((hK _).mono fun e w1 h => ⟨h.1, by obtain ⟨_, m, h⟩ := h; rw [h]; exact below_drewN (Below.refl _ _) m⟩)
            clear hV hAB e1 e2 q0 q1 g18 y18
            refine wp_region_quiet_below (by kernel_rfl) (by kernel_rfl) ?_
            repeat (first | go_big_quiet_step (first | exact cM _ _) | quiet_step (first | exact cM _ _))
            refine wpQuiet_nil ?_
            intro _ hw'
            obtain ⟨⟨dq, osq⟩, hw''⟩ := hw'
            subst hw''
            go_wp2_with (fail)
            go_roundw
            case rel => exact ⟨k + 2, by go_num, by omega, HR2, Lib.hid (HZV.out.on (below_regrown V dq osq)), HBV.out.trans ((below_regrown V dq osq).mono HBV.out.size), Lib.hid (HCV.out.below (below_regrown V dq osq))⟩
            case measure => simp [intOf]; omega
      · obtain rfl : k = n := by omega
        have HV : Hid (amayB x = true) := Lib.hid (by rw [HV3.out]; exact xsB_iff.2 ⟨by have h := hR.out; rw [← HN.out] at h; exact h, by rw [HN.out]; exact h4⟩)
        go_wp2_with (fail)
        go_ret
        exact ⟨by rw [HV.out]; rfl, hbw⟩
  case false =>
    rw [hh] at y10
    have HH := Lib.hid hh
    clear hh
    go_wp2_with (refine wpList_load_part rfl 28 (.tmp 33) rfl w.heap.size 11 rfl (x.df.c p.q).toList _ HZ1.out.df Try.underlying28 rfl acl_size (x.df.v p.q) rfl ?_)
    refine (rlsame_calls x.df acZ p.q lieZ w1 HL1.out.df (lies_acZ _) HS.out.df sm_acZ).mono ?_
    rintro e w2 ⟨rfl, hb2⟩
    have HV2 : Hid (amayB x = (sameB x.df acZ && xsB x.xs)) := Lib.hid (by rw [HV1.out, HH.out, defB_no])
    obtain ⟨m, hm⟩ : ∃ m, sameB x.df acZ = m := ⟨_, rfl⟩
    rw [hm] at HV2 ⊢
    clear hm
    have HB2 := Lib.hid (HB1.out.trans (hb2.mono HB1.out.size))
    have HZ2 := Lib.hid (HZ1.out.on hb2)
    have HL2 := Lib.hid (HL1.out.below hb2)
    clear hb2 HZ1 HB1 HL1 y10 y18 HV1
    cases m
    case false =>
      have HV : Hid (amayB x = false) := Lib.hid (by rw [HV2.out]; rfl)
      go_wp2_with (fail)
      go_ret
      exact ⟨by rw [HV.out]; rfl, HB2.out⟩
    case true =>
    have HV3 : Hid (amayB x = xsB x.xs) := Lib.hid (by rw [HV2.out, Bool.true_and])
    have y10 := HZ2.out.c10
    rw [HH.out] at y10
    go_wp2_with (fail)
    clear y10 d1
    obtain ⟨n, hn⟩ : ∃ n, x.xs.length = n := ⟨_, rfl⟩
    have HN := Lib.hid hn
    rw [hn] at h4
    clear hn
    go_loopw [3] (fun i wr => ∃ k : Nat, i = .int .i64 k ∧ k ≤ n ∧ Hid (XRise x.xs k) ∧ Hid (Bt wr w.heap.size x p) ∧ Below w.heap.size w wr ∧ Hid (Cel wr p.X (xv x.xs))) (fun i _ => n - (intOf i).toNat)
    case atStart => exact ⟨0, rfl, by omega, Lib.hid (XRise.zero _), HZ2, HB2.out, Lib.hid HL2.out.xs⟩
    case round =>
      obtain ⟨k, rfl, hk, hR, hZ, hbw, hCX⟩ := hrel
      have y18 := hZ.out.c18
      rw [HN.out] at y18
      by_cases hkn : k < n
      · obtain ⟨b, o, hX, hlt, hcell⟩ := hCX.out.xt (by rw [HN.out]; omega)
        rw [hX] at y18
        obtain ⟨r, hp⟩ : ∃ r, x.xs[k]? = some r := ⟨_, List.getElem?_eq_getElem (by rw [HN.out]; exact hkn)⟩
        obtain ⟨e1, e2⟩ := hcell k r hp
        have HP := Lib.hid hp
        have HBW := Lib.hid hbw
        have hks := HK.out k r hp
        clear hp hbw
        have HX := Lib.hid hX
        clear hX
        generalize hpi : r.key = pk at *
        generalize hpp : r.val = pv at *
        have HPI := Lib.hid hpi
        have HPP := Lib.hid hpp
        clear hpi hpp
        have hK := fun W => rkey_calls pk W hks
        clear hks
        cases hkb : keyB pk
        case false =>
          rw [hkb] at hK
          have HV : Hid (amayB x = false) := Lib.hid (by rw [HV3.out]; exact xsB_key HP.out (by rw [HPI.out]; exact hkb))
          clear hkb hcell
          go_wp2_with (fail)
          obtain ⟨V, hV⟩ : ∃ V, V = wr.alloc (Obj.cells #[.string pk, .string pv] 63) := ⟨_, rfl⟩
          rw [← hV]
          have hAB : Below wr.heap.size wr V := by rw [hV]; exact (Below.refl _ _).alloc (Nat.le_refl _) _
          have HBV := Lib.hid (HBW.out.trans (hAB.mono HBW.out.size))
          have HZV := Lib.hid (hZ.out.on hAB)
          have HCV := Lib.hid (hCX.out.below hAB)
          obtain ⟨q0, q1⟩ := two_cells (w0 := V) (B := wr.heap.size) (x := .string pk) (y := .string pv) (t := 63) (by rw [hV]; exact heap_alloc_new _ _)
          have g18 := HZV.out.c18
          rw [HN.out, HX.out] at g18
          have k0 := cell_regrown q0
          have k1 := cell_regrown q1
          have k18 := cell_regrown g18
          have cM : ∀ dq os, Calls Try.prog 33 #[.string pk] (grow (redrawn V dq) os) fun e w'' => e = .returned (.bool false) ∧ ∃ p : Regrown, w'' = grow (redrawn V p.d) p.os := fun dq os => Calls.regrown_of ((hK _).mono fun e w1 h => ⟨h.1, by obtain ⟨_, m, h⟩ := h; rw [h]; exact below_drewN (Below.refl _ _) m⟩)
          clear hV hAB e1 e2 q0 q1 g18 y18
          refine wp_region_quiet_below (by kernel_rfl) (by kernel_rfl) ?_
          repeat (first | go_big_quiet_step (first | exact cM _ _) | quiet_step (first | exact cM _ _))
          refine wpQuiet_nil ?_
          intro _ hw'
          obtain ⟨⟨dq, osq⟩, hw''⟩ := hw'
          subst hw''
          go_wp2_with (fail)
          go_ret
          exact ⟨by rw [HV.out]; rfl, HBV.out.trans ((below_regrown V dq osq).mono HBV.out.size)⟩
        case true =>
        rw [hkb] at hK
        have HKB := Lib.hid hkb
        clear hkb
        by_cases h16 : pv.size ≤ 16
        case neg =>
          have HV : Hid (amayB x = false) := Lib.hid (by rw [HV3.out]; exact xsB_val HP.out (by rw [HPP.out]; omega))
          have d1 : decide ((16 : Int) < (pv.size : Int)) = true := by rw [decide_eq_true_eq]; omega
          clear hcell h16
          go_wp2_with (fail)
          obtain ⟨V, hV⟩ : ∃ V, V = wr.alloc (Obj.cells #[.string pk, .string pv] 63) := ⟨_, rfl⟩
          rw [← hV]
          have hAB : Below wr.heap.size wr V := by rw [hV]; exact (Below.refl _ _).alloc (Nat.le_refl _) _
          have HBV := Lib.hid (HBW.out.trans (hAB.mono HBW.out.size))
          have HZV := Lib.hid (hZ.out.on hAB)
          have HCV := Lib.hid (hCX.out.below hAB)
          obtain ⟨q0, q1⟩ := two_cells (w0 := V) (B := wr.heap.size) (x := .string pk) (y := .string pv) (t := 63) (by rw [hV]; exact heap_alloc_new _ _)
          have g18 := HZV.out.c18
          rw [HN.out, HX.out] at g18
          have k0 := cell_regrown q0
          have k1 := cell_regrown q1
          have k18 := cell_regrown g18
          have cM : ∀ dq os, Calls Try.prog 33 #[.string pk] (grow (redrawn V dq) os) fun e w'' => e = .returned (.bool true) ∧ ∃ p : Regrown, w'' = grow (redrawn V p.d) p.os := fun dq os => Calls.regrown_of ((hK _).mono fun e w1 h => ⟨h.1, by obtain ⟨_, m, h⟩ := h; rw [h]; exact below_drewN (Below.refl _ _) m⟩)
          clear hV hAB e1 e2 q0 q1 g18 y18
          refine wp_region_quiet_below (by kernel_rfl) (by kernel_rfl) ?_
          repeat (first | go_big_quiet_step (first | exact cM _ _) | quiet_step (first | exact cM _ _))
          refine wpQuiet_nil ?_
          intro _ hw'
          obtain ⟨⟨dq, osq⟩, hw''⟩ := hw'
          subst hw''
          go_wp2_with (fail)
          go_ret
          exact ⟨by rw [HV.out]; rfl, HBV.out.trans ((below_regrown V dq osq).mono HBV.out.size)⟩
        case pos =>
        have d1 : decide ((16 : Int) < (pv.size : Int)) = false := by rw [decide_eq_false_iff_not]; omega
        cases k with
        | zero =>
          have HR2 := Lib.hid (XRise.first HP.out (by rw [HPI.out]; exact HKB.out) (by rw [HPP.out]; exact h16))
          simp only [Nat.zero_mul, Nat.add_zero] at e1 e2
          clear hcell h16
          go_wp2_with (fail)
          obtain ⟨V, hV⟩ : ∃ V, V = wr.alloc (Obj.cells #[.string pk, .string pv] 63) := ⟨_, rfl⟩
          rw [← hV]
          have hAB : Below wr.heap.size wr V := by rw [hV]; exact (Below.refl _ _).alloc (Nat.le_refl _) _
          have HBV := Lib.hid (HBW.out.trans (hAB.mono HBW.out.size))
          have HZV := Lib.hid (hZ.out.on hAB)
          have HCV := Lib.hid (hCX.out.below hAB)
          obtain ⟨q0, q1⟩ := two_cells (w0 := V) (B := wr.heap.size) (x := .string pk) (y := .string pv) (t := 63) (by rw [hV]; exact heap_alloc_new _ _)
          have g18 := HZV.out.c18
          rw [HN.out, HX.out] at g18
          have k0 := cell_regrown q0
          have k1 := cell_regrown q1
          have k18 := cell_regrown g18
          have cM : ∀ dq os, Calls Try.prog 33 #[.string pk] (grow (redrawn V dq) os) fun e w'' => e = .returned (.bool true) ∧ ∃ p : Regrown, w'' = grow (redrawn V p.d) p.os := fun dq os => Calls.regrown_of ((hK _).mono fun e w1 h => ⟨h.1, by obtain ⟨_, m, h⟩ := h; rw [h]; exact below_drewN (Below.refl _ _) m⟩)
          clear hV hAB e1 e2 q0 q1 g18 y18
          refine wp_region_quiet_below (by kernel_rfl) (by kernel_rfl) ?_
          repeat (first | go_big_quiet_step (first | exact cM _ _) | quiet_step (first | exact cM _ _))
          refine wpQuiet_nil ?_
          intro _ hw'
          obtain ⟨⟨dq, osq⟩, hw''⟩ := hw'
          subst hw''
          go_wp2_with (fail)
          go_roundw
          case rel => exact ⟨1, by go_num, by omega, HR2, Lib.hid (HZV.out.on (below_regrown V dq osq)), HBV.out.trans ((below_regrown V dq osq).mono HBV.out.size), Lib.hid (HCV.out.below (below_regrown V dq osq))⟩
          case measure => simp [intOf]; omega
        | succ k =>
          obtain ⟨r2, hr⟩ : ∃ r2, x.xs[k]? = some r2 := ⟨_, List.getElem?_eq_getElem (by rw [HN.out]; omega)⟩
          obtain ⟨e3, e4⟩ := hcell k r2 hr
          have HR1 := Lib.hid hr
          generalize hri : r2.key = rk at *
          have HRI := Lib.hid hri
          have h0 : decide ((0 : Int) < ((k + 1 : Nat) : Int)) = true := by rw [decide_eq_true_eq]; omega
          have h0' : decide ((0 : Int) < (k : Int) + 1) = true := by rw [decide_eq_true_eq]; omega
          have hk1 : (k : Int) + 1 - 1 = (k : Int) := by omega
          clear hcell hr hri
          cases hlt2 : ltS rk pk
          case false =>
            have HV : Hid (amayB x = false) := Lib.hid (by rw [HV3.out]; exact xsB_up HR1.out HP.out (by rw [HPI.out, HRI.out]; exact hlt2))
            clear h16
            go_wp2_with (fail)
            obtain ⟨V, hV⟩ : ∃ V, V = wr.alloc (Obj.cells #[.string pk, .string pv] 63) := ⟨_, rfl⟩
            rw [← hV]
            have hAB : Below wr.heap.size wr V := by rw [hV]; exact (Below.refl _ _).alloc (Nat.le_refl _) _
            have HBV := Lib.hid (HBW.out.trans (hAB.mono HBW.out.size))
            have HZV := Lib.hid (hZ.out.on hAB)
            have HCV := Lib.hid (hCX.out.below hAB)
            obtain ⟨q0, q1⟩ := two_cells (w0 := V) (B := wr.heap.size) (x := .string pk) (y := .string pv) (t := 63) (by rw [hV]; exact heap_alloc_new _ _)
            have g18 := HZV.out.c18
            rw [HN.out, HX.out] at g18
            have g3 := (hAB.cell (p := ⟨b, o + k * 2, none⟩) hlt).trans e3
            clear e3 e4
            have k0 := cell_regrown q0
            have k1 := cell_regrown q1
            have k18 := cell_regrown g18
            have k2 := cell_regrown g3
            clear g3
            have cM : ∀ dq os, Calls Try.prog 33 #[.string pk] (grow (redrawn V dq) os) fun e w'' => e = .returned (.bool true) ∧ ∃ p : Regrown, w'' = grow (redrawn V p.d) p.os := fun dq os => Calls.regrown_of ((hK _).mono fun e w1 h => ⟨h.1, by obtain ⟨_, m, h⟩ := h; rw [h]; exact below_drewN (Below.refl _ _) m⟩)
            clear hV hAB e1 e2 q0 q1 g18 y18
            refine wp_region_quiet_below (by kernel_rfl) (by kernel_rfl) ?_
            repeat (first | go_big_quiet_step (first | exact cM _ _) | quiet_step (first | exact cM _ _))
            refine wpQuiet_nil ?_
            intro _ hw'
            obtain ⟨⟨dq, osq⟩, hw''⟩ := hw'
            subst hw''
            go_wp2_with (fail)
            go_ret
            exact ⟨by rw [HV.out]; rfl, HBV.out.trans ((below_regrown V dq osq).mono HBV.out.size)⟩
          case true =>
            have HR2 := Lib.hid (hR.out.more HR1.out HP.out (by rw [HPI.out]; exact HKB.out) (by rw [HPP.out]; exact h16) (by rw [HPI.out, HRI.out]; exact hlt2))
            clear h16
            go_wp2_with (fail)
            obtain ⟨V, hV⟩ : ∃ V, V = wr.alloc (Obj.cells #[.string pk, .string pv] 63) := ⟨_, rfl⟩
            rw [← hV]
            have hAB : Below wr.heap.size wr V := by rw [hV]; exact (Below.refl _ _).alloc (Nat.le_refl _) _
            have HBV := Lib.hid (HBW.out.trans (hAB.mono HBW.out.size))
            have HZV := Lib.hid (hZ.out.on hAB)
            have HCV := Lib.hid (hCX.out.below hAB)
            obtain ⟨q0, q1⟩ := two_cells (w0 := V) (B := wr.heap.size) (x := .string pk) (y := .string pv) (t := 63) (by rw [hV]; exact heap_alloc_new _ _)
            have g18 := HZV.out.c18
            rw [HN.out, HX.out] at g18
            have g3 := (hAB.cell (p := ⟨b, o + k * 2, none⟩) hlt).trans e3
            clear e3 e4
            have k0 := cell_regrown q0
            have k1 := cell_regrown q1
            have k18 := cell_regrown g18
            have k2 := cell_regrown g3
            clear g3
            have cM : ∀ dq os, Calls Try.prog 33 #[.string pk] (grow (redrawn V dq) os) fun e w'' => e = .returned (.bool true) ∧ ∃ p : Regrown, w'' = grow (redrawn V p.d) p.os := fun dq os => Calls.regrown_of ((hK _).mono fun e w1 h => ⟨h.1, by obtain ⟨_, m, h⟩ := h; rw [h]; exact below_drewN (Below.refl _ _) m⟩)
            clear hV hAB e1 e2 q0 q1 g18 y18
            refine wp_region_quiet_below (by kernel_rfl) (by kernel_rfl) ?_
            repeat (first | go_big_quiet_step (first | exact cM _ _) | quiet_step (first | exact cM _ _))
            refine wpQuiet_nil ?_
            intro _ hw'
            obtain ⟨⟨dq, osq⟩, hw''⟩ := hw'
            subst hw''
            go_wp2_with (fail)
            go_roundw
            case rel => exact ⟨k + 2, by go_num, by omega, HR2, Lib.hid (HZV.out.on (below_regrown V dq osq)), HBV.out.trans ((below_regrown V dq osq).mono HBV.out.size), Lib.hid (HCV.out.below (below_regrown V dq osq))⟩
            case measure => simp [intOf]; omega
      · obtain rfl : k = n := by omega
        have HV : Hid (amayB x = true) := Lib.hid (by rw [HV3.out]; exact xsB_iff.2 ⟨by have h := hR.out; rw [← HN.out] at h; exact h, by rw [HN.out]; exact h4⟩)
        go_wp2_with (fail)
        go_ret
        exact ⟨by rw [HV.out]; rfl, hbw⟩
end Go.Proofs.Ytgdiiicaljidpaa
/- Which attributes a law does not look at. -/
set_option linter.unusedSimpArgs false
set_option linter.unusedVariables false
namespace Go.Proofs.Ytgdiiicaljidpaa
open Go.RowKit
structure ABg (x : At) : Prop where
  ac : Bg x.ac
  df : Bg x.df
  xs : x.xs.length ≤ 9223372036854775807
def lgAc (x : Ac) : Bool := decide (100 < x.us.length) || decide (100 < x.gs.length)
def lgOne (p : Xt) : Bool := decide (100 < p.key.size) || decide (100 < p.val.size)
def largeB (x : At) : Bool := lgAc x.ac || (lgAc x.df || (decide (40 < x.xs.length) || x.xs.any lgOne))
theorem large_no {x : At} (h : largeB x = false) : ASm x ∧ ∀ (k : Nat) p, x.xs[k]? = some p → p.key.size ≤ 100 ∧ p.val.size ≤ 100 := by
  unfold largeB at h
  simp only [Bool.or_eq_false_iff, decide_eq_false_iff_not] at h
  obtain ⟨h1, h2, h3, h4⟩ := h
  refine ⟨⟨sm_of_small h1, sm_of_small h2, by omega⟩, fun k p hk => ?_⟩
  have h5 : lgOne p = false := by
    have := List.any_eq_false.1 h4 p (List.mem_of_getElem? hk)
    simpa using this
  unfold lgOne at h5
  rw [Bool.or_eq_false_iff, decide_eq_false_iff_not, decide_eq_false_iff_not] at h5
  exact ⟨by omega, by omega⟩
theorem anyX {L : List Xt} {k : Nat} {p : Xt} (hk : L[k]? = some p) (h : lgOne p = true) : L.any lgOne = true := List.any_eq_true.2 ⟨p, List.mem_of_getElem? hk, h⟩
theorem noX {L : List Xt} (h : ∀ (j : Nat) p, j < L.length → L[j]? = some p → lgOne p = false) : L.any lgOne = false := List.any_eq_false.2 fun p hp => by
  obtain ⟨k, hk⟩ := List.getElem?_of_mem hp
  rw [h k p (List.getElem?_eq_some_iff.1 hk).1 hk]
  simp
set_option maxRecDepth 100000 in
set_option maxHeartbeats 4000000 in
theorem alarge_calls (x : At) (p : ALie) (w : World) (h : ALies w x p) (hs : ABg x) :
    Calls Try.prog 19 #[x.v p] w fun e w' => e = .returned (.bool (largeB x)) ∧ Below w.heap.size w w' := by
  obtain ⟨V, hV⟩ : ∃ V, V = w.alloc (.cells (x.c p) 31) := ⟨_, rfl⟩
  have hb : Below w.heap.size w V := by rw [hV]; exact (Below.refl _ _).alloc (Nat.le_refl _) _
  have hz : Bt V w.heap.size x p := by rw [hV]; exact Bt.new w x p
  have HZ := Lib.hid hz
  have HB := Lib.hid hb
  have HL := Lib.hid (h.below hb)
  have HS := Lib.hid hs
  clear h hz hb hs
  have c : Calls Try.prog 35 #[x.ac.v p.p] V fun e w' => e = .returned (.bool (lgAc x.ac)) ∧ Below V.heap.size V w' := large_calls x.ac p.p V HS.out.ac
  have HV0 : Hid (largeB x = (lgAc x.ac || (lgAc x.df || (decide (40 < x.xs.length) || x.xs.any lgOne)))) := Lib.hid rfl
  obtain ⟨m, hm⟩ : ∃ m, lgAc x.ac = m := ⟨_, rfl⟩
  rw [hm] at c HV0
  have HC := Lib.hid c
  clear hm c
  go_enter Try.func19, Try.ntmps19
  go_upto_region 1 with (fail)
  rw [← hV]
  clear hV
  go_wp2_with (refine wpList_load_part rfl 28 (.tmp 4) rfl w.heap.size 3 rfl (x.ac.c p.p).toList _ HZ.out.ac Try.underlying28 rfl acl_size (x.ac.v p.p) rfl ?_)
  refine HC.out.mono ?_
  rintro e w1 ⟨rfl, hb1⟩
  have HB1 := Lib.hid (HB.out.trans (hb1.mono HB.out.size))
  have HZ1 := Lib.hid (HZ.out.on hb1)
  have HL1 := Lib.hid (HL.out.below hb1)
  clear hb1 HC HZ HB HL
  cases m
  case true =>
    have HV : Hid (largeB x = true) := Lib.hid (by rw [HV0.out]; rfl)
    go_wp2_with (fail)
    go_ret
    exact ⟨by rw [HV.out]; rfl, HB1.out⟩
  case false =>
  rw [Bool.false_or] at HV0
  have c : Calls Try.prog 35 #[x.df.v p.q] w1 fun e w' => e = .returned (.bool (lgAc x.df)) ∧ Below w1.heap.size w1 w' := large_calls x.df p.q w1 HS.out.df
  obtain ⟨m, hm⟩ : ∃ m, lgAc x.df = m := ⟨_, rfl⟩
  rw [hm] at c HV0
  have HC := Lib.hid c
  clear hm c
  go_wp2_with (refine wpList_load_part rfl 28 (.tmp 8) rfl w.heap.size 11 rfl (x.df.c p.q).toList _ HZ1.out.df Try.underlying28 rfl acl_size (x.df.v p.q) rfl ?_)
  refine HC.out.mono ?_
  rintro e w2 ⟨rfl, hb2⟩
  have HB2 := Lib.hid (HB1.out.trans (hb2.mono HB1.out.size))
  have HZ2 := Lib.hid (HZ1.out.on hb2)
  have HL2 := Lib.hid (HL1.out.below hb2)
  clear hb2 HC HZ1 HB1 HL1
  cases m
  case true =>
    have HV : Hid (largeB x = true) := Lib.hid (by rw [HV0.out]; rfl)
    go_wp2_with (fail)
    go_ret
    exact ⟨by rw [HV.out]; rfl, HB2.out⟩
  case false =>
  rw [Bool.false_or] at HV0
  obtain ⟨n, hn⟩ : ∃ n, x.xs.length = n := ⟨_, rfl⟩
  have hn63 : n ≤ 9223372036854775807 := by rw [← hn]; exact HS.out.xs
  have y18 := HZ2.out.c18
  rw [hn] at y18 HV0
  have HN := Lib.hid hn
  clear hn HS
  by_cases h40 : 40 < n
  case pos =>
    have HV : Hid (largeB x = true) := Lib.hid (by rw [HV0.out, decide_eq_true h40]; rfl)
    have d1 : decide ((40 : Int) < (n : Int)) = true := by rw [decide_eq_true_eq]; omega
    go_wp2_with (fail)
    go_ret
    exact ⟨by rw [HV.out]; rfl, HB2.out⟩
  case neg =>
  have HV1 : Hid (largeB x = x.xs.any lgOne) := Lib.hid (by rw [HV0.out, decide_eq_false h40, Bool.false_or])
  have d1 : decide ((40 : Int) < (n : Int)) = false := by rw [decide_eq_false_iff_not]; omega
  go_wp2_with (fail)
  clear d1 y18
  go_loopw [3] (fun i wr => ∃ k : Nat, i = .int .i64 k ∧ k ≤ n ∧ Hid (∀ (j : Nat) q, j < k → x.xs[j]? = some q → lgOne q = false) ∧ wr = w2) (fun i _ => n - (intOf i).toNat)
  case atStart => exact ⟨0, rfl, by omega, Lib.hid (fun j q hj => absurd hj (Nat.not_lt_zero _)), rfl⟩
  case round =>
    obtain ⟨k, rfl, hk, hR, rfl⟩ := hrel
    have y18 := HZ2.out.c18
    rw [HN.out] at y18
    by_cases hkn : k < n
    · obtain ⟨b, o, hX, hlt, hcell⟩ := HL2.out.xs.xt (by rw [HN.out]; omega)
      rw [hX] at y18
      obtain ⟨r, hp⟩ : ∃ r, x.xs[k]? = some r := ⟨_, List.getElem?_eq_getElem (by rw [HN.out]; exact hkn)⟩
      obtain ⟨e1, e2⟩ := hcell k r hp
      have HP := Lib.hid hp
      clear hp hX hcell
      by_cases h1 : 100 < r.key.size
      · have HV : Hid (largeB x = true) := Lib.hid (by rw [HV1.out]; exact anyX HP.out (by unfold lgOne; rw [decide_eq_true h1, Bool.true_or]))
        have d1 : decide ((100 : Int) < (r.key.size : Int)) = true := by rw [decide_eq_true_eq]; omega
        go_wp2_with (fail)
        go_ret
        exact ⟨by rw [HV.out]; rfl, HB2.out⟩
      have d1 : decide ((100 : Int) < (r.key.size : Int)) = false := by rw [decide_eq_false_iff_not]; omega
      by_cases h2 : 100 < r.val.size
      · have HV : Hid (largeB x = true) := Lib.hid (by rw [HV1.out]; exact anyX HP.out (by unfold lgOne; rw [decide_eq_true h2, Bool.or_true]))
        have d2 : decide ((100 : Int) < (r.val.size : Int)) = true := by rw [decide_eq_true_eq]; omega
        go_wp2_with (fail)
        go_ret
        exact ⟨by rw [HV.out]; rfl, HB2.out⟩
      have d2 : decide ((100 : Int) < (r.val.size : Int)) = false := by rw [decide_eq_false_iff_not]; omega
      have hone : lgOne r = false := by unfold lgOne; rw [decide_eq_false h1, decide_eq_false h2, Bool.or_false]
      have HR2 : Hid (∀ (j : Nat) q, j < k + 1 → x.xs[j]? = some q → lgOne q = false) := Lib.hid fun j q hj hq => by
        by_cases hh : j < k
        · exact hR.out j q hh hq
        · obtain rfl : j = k := by omega
          rw [HP.out] at hq
          cases hq
          exact hone
      clear hone h1 h2
      go_wp2_with (fail)
      go_roundw
      case rel => exact ⟨k + 1, by go_num, by omega, HR2, trivial⟩
      case measure => simp [intOf]; omega
    · obtain rfl : k = n := by omega
      have HV : Hid (largeB x = false) := Lib.hid (by rw [HV1.out]; exact noX fun j q hj hq => hR.out j q (by rw [← HN.out]; exact hj) hq)
      go_wp2_with (fail)
      go_ret
      exact ⟨by rw [HV.out]; rfl, HB2.out⟩
end Go.Proofs.Ytgdiiicaljidpaa
/- What the laws share. -/
set_option linter.unusedSimpArgs false
set_option linter.unusedVariables false
namespace Go.Proofs.Ytgdiiicaljidpaa
open Go.RowKit WordMath
/-- Attributes in a block, their rows in memory. -/
structure Hl (wr : World) (b : Nat) (x : At) (p : ALie) : Prop where
  bt : Bt wr b x p
  li : ALies wr x p
theorem Hl.on {wr w' : World} {b : Nat} {x : At} {p : ALie} (h : Hl wr b x p) (hb : Below wr.heap.size wr w') : Hl w' b x p := ⟨h.bt.on hb, h.li.below hb⟩
theorem Hl.new {w : World} {x : At} {p : ALie} (h : ALies w x p) : Hl (w.alloc (.cells (x.c p) 31)) w.heap.size x p := ⟨Bt.new w x p, h.below ((Below.refl _ _).alloc (Nat.le_refl _) _)⟩
/-- A variable is made, and attributes are stored in it. -/
theorem Hl.put {w : World} {x : At} {p : ALie} (h : ALies w x p) : Hl ((w.alloc (.cells zAt 31)).setRow w.heap.size (x.c p)) w.heap.size x p :=
  ⟨setRow_heap _ _ _ _ _ _ (heap_alloc_new w _), h.below (below_setRow ((Below.refl _ _).alloc (Nat.le_refl _) _) (Nat.le_refl _) _)⟩
theorem put_below (w : World) (C : Array Value) : Below w.heap.size w ((w.alloc (.cells zAt 31)).setRow w.heap.size C) := below_setRow ((Below.refl _ _).alloc (Nat.le_refl _) _) (Nat.le_refl _) _
theorem c_one (x : At) (p : ALie) : (x.c p).all (·.oneCell') = true := by rw [← Array.all_toList]; rfl
theorem c_size (x : At) (p : ALie) : (Try.prog.info? 31).map (·.size) = some (x.c p).size := attr_size
theorem key_pos {x : At} (h : amayB x = true) : ∀ (k : Nat) q, x.xs[k]? = some q → 0 < q.key.size := fun k q hk => by
  obtain ⟨_, _, _, _, h5⟩ := amay_parts h
  exact (keyB_iff.1 ((xsB_iff.1 h5).1.ky k q (List.getElem?_eq_some_iff.1 hk).1 hk)).1
end Go.Proofs.Ytgdiiicaljidpaa
