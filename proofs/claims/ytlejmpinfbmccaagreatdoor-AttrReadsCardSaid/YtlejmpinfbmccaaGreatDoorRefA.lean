/- Which attributes may be: the document's answer. -/
import Derived.Test.YtlejmpinfbmccaaGreatDoorKeyT
import Derived.Test.YtlejmpinfbmccaaGreatDoorAv
import Derived.Test.YtlejmpinfbmccaaGreatDoorAcT
import Derived.RegionTactic
import Derived.BigRegion
import Derived.Lib.QuietBelow
import Derived.Test.YtlejmpinfbmccaaGreatDoorEn
import Derived.Test.YtlejmpinfbmccaaGreatDoorPackT
import Derived.Deep.DeepCutAuto
set_option linter.unusedSimpArgs false
set_option linter.unusedVariables false
set_option linter.unusedSimpArgs false
set_option linter.unusedVariables false
namespace Go.Proofs.YtlejmpinfbmccaaGreatDoor
open Go.RowKit Go.Sort Go.Lib
theorem mayB_acZ : mayB acZ = true := mayB_iff.2 ⟨by decide, by decide, by decide, by decide, namedB_nil, namedB_nil, fun _ => ⟨rfl, rfl, rfl⟩⟩
theorem defB_no (d : Ac) : defB false d = sameB d acZ := by
  unfold defB
  rw [Bool.false_or]
  cases hs : sameB d acZ
  · rw [Bool.and_false]
  · rw [sameB_iff.1 hs, mayB_acZ]; rfl
theorem defB_yes (d : Ac) : defB true d = mayB d := by
  unfold defB
  rw [Bool.true_or, Bool.and_true]
set_option maxRecDepth 100000 in
set_option maxHeartbeats 4000000 in
theorem ramay_calls (x : At) (p : ALie) (w : World) (h : ALies w x p) (hs : ASm x) (hks : ∀ (k : Nat) q, x.xs[k]? = some q → q.key.size ≤ 1099511627776) :
    Calls Tryz.prog 10 #[x.v p] w fun e w' => e = .returned (.bool (amayB x)) ∧ Below w.heap.size w w' := by
  obtain ⟨V, hV⟩ : ∃ V, V = w.alloc (.cells (x.c p) 28) := ⟨_, rfl⟩
  have hb : Below w.heap.size w V := by rw [hV]; exact (Below.refl _ _).alloc (Nat.le_refl _) _
  have hz : Bt V w.heap.size x p := by rw [hV]; exact Bt.new w x p
  have HZ := Lib.hid hz
  have HB := Lib.hid hb
  have HL := Lib.hid (h.below hb)
  have HS := Lib.hid hs
  have HK := Lib.hid hks
  have y0 := hz.c0
  clear h hz hb hs hks
  by_cases hbi : x.bi ≤ 7
  case neg =>
    have HV : Hid (amayB x = false) := Lib.hid (by unfold amayB; rw [decide_eq_false hbi]; rfl)
    have d0 : decide ((7 : Int) < (x.bi : Int)) = true := by rw [decide_eq_true_eq]; omega
    go_enter Tryz.func10, Tryz.ntmps10
    go_upto_region 1 with (fail)
    rw [← hV]
    clear hV
    go_wp2_with (fail)
    go_ret
    exact ⟨by rw [HV.out]; rfl, HB.out⟩
  case pos =>
  have d0 : decide ((7 : Int) < (x.bi : Int)) = false := by rw [decide_eq_false_iff_not]; omega
  have HV0 : Hid (amayB x = (mayB x.ac && (defB x.hd x.df && xsB x.xs))) := Lib.hid (by unfold amayB; rw [decide_eq_true hbi, Bool.true_and])
  clear hbi
  have c := rmay_calls x.ac p.p V HL.out.ac HS.out.ac
  cases hm : mayB x.ac
  case false =>
    rw [hm] at c
    have HV : Hid (amayB x = false) := Lib.hid (by rw [HV0.out, hm]; rfl)
    have HC := Lib.hid c
    clear hm c
    go_enter Tryz.func10, Tryz.ntmps10
    go_upto_region 1 with (fail)
    rw [← hV]
    clear hV
    go_wp2_with (refine wpList_load_part rfl 25 (.tmp 9) rfl w.heap.size 3 rfl (x.ac.c p.p).toList _ HZ.out.ac Tryz.underlying25 rfl acl_size (x.ac.v p.p) rfl ?_)
    refine HC.out.mono ?_
    rintro e w1 ⟨rfl, hb1⟩
    have HB1 := Lib.hid (HB.out.trans (hb1.mono HB.out.size))
    clear hb1
    go_wp2_with (fail)
    go_ret
    exact ⟨by rw [HV.out]; rfl, HB1.out⟩
  case true =>
  rw [hm] at c
  have HV1 : Hid (amayB x = (defB x.hd x.df && xsB x.xs)) := Lib.hid (by rw [HV0.out, hm, Bool.true_and])
  have HC := Lib.hid c
  clear hm c HV0
  go_enter Tryz.func10, Tryz.ntmps10
  go_upto_region 1 with (fail)
  rw [← hV]
  clear hV
  go_wp2_with (refine wpList_load_part rfl 25 (.tmp 9) rfl w.heap.size 3 rfl (x.ac.c p.p).toList _ HZ.out.ac Tryz.underlying25 rfl acl_size (x.ac.v p.p) rfl ?_)
  refine HC.out.mono ?_
  rintro e w1 ⟨rfl, hb1⟩
  have HB1 := Lib.hid (HB.out.trans (hb1.mono HB.out.size))
  have HZ1 := Lib.hid (HZ.out.on hb1)
  have HL1 := Lib.hid (HL.out.below hb1)
  clear hb1 HC HZ HB HL y0 d0
  have y18 := HZ1.out.c18
  have y10 := HZ1.out.c10
  by_cases h4 : x.xs.length ≤ 4
  case neg =>
    have HV : Hid (amayB x = false) := Lib.hid (by rw [HV1.out, xsB_long (by omega), Bool.and_false])
    have d1 : decide ((4 : Int) < (x.xs.length : Int)) = true := by rw [decide_eq_true_eq]; omega
    clear h4
    go_wp2_with (fail)
    go_ret
    exact ⟨by rw [HV.out]; rfl, HB1.out⟩
  case pos =>
  have d1 : decide ((4 : Int) < (x.xs.length : Int)) = false := by rw [decide_eq_false_iff_not]; omega
  cases hh : x.hd
  case true =>
    rw [hh] at y10
    have HH := Lib.hid hh
    clear hh
    go_wp2_with (refine wpList_load_part rfl 25 (.tmp 23) rfl w.heap.size 11 rfl (x.df.c p.q).toList _ HZ1.out.df Tryz.underlying25 rfl acl_size (x.df.v p.q) rfl ?_)
    refine (rmay_calls x.df p.q w1 HL1.out.df HS.out.df).mono ?_
    rintro e w2 ⟨rfl, hb2⟩
    have HV2 : Hid (amayB x = (mayB x.df && xsB x.xs)) := Lib.hid (by rw [HV1.out, HH.out, defB_yes])
    obtain ⟨m, hm⟩ : ∃ m, mayB x.df = m := ⟨_, rfl⟩
    rw [hm] at HV2 ⊢
    clear hm
    have HB2 := Lib.hid (HB1.out.trans (hb2.mono HB1.out.size))
    have HZ2 := Lib.hid (HZ1.out.on hb2)
    have HL2 := Lib.hid (HL1.out.below hb2)
    clear hb2 HZ1 HB1 HL1 y10 y18 HV1
    cases m
    case false =>
      have HV : Hid (amayB x = false) := Lib.hid (by rw [HV2.out]; rfl)
      go_wp2_with (fail)
      go_ret
      exact ⟨by rw [HV.out]; rfl, HB2.out⟩
    case true =>
    have HV3 : Hid (amayB x = xsB x.xs) := Lib.hid (by rw [HV2.out, Bool.true_and])
    have y10 := HZ2.out.c10
    rw [HH.out] at y10
    go_wp2_with (fail)
    clear y10 d1
    obtain ⟨n, hn⟩ : ∃ n, x.xs.length = n := ⟨_, rfl⟩
    have HN := Lib.hid hn
    rw [hn] at h4
    clear hn
    go_loopw [3] (fun i wr => ∃ k : Nat, i = .int .i64 k ∧ k ≤ n ∧ Hid (XRise x.xs k) ∧ Hid (Bt wr w.heap.size x p) ∧ Below w.heap.size w wr ∧ Hid (Cel wr p.X (xv x.xs))) (fun i _ => n - (intOf i).toNat)
    case atStart => exact ⟨0, rfl, by omega, Lib.hid (XRise.zero _), HZ2, HB2.out, Lib.hid HL2.out.xs⟩
    case round =>
      obtain ⟨k, rfl, hk, hR, hZ, hbw, hCX⟩ := hrel
      have y18 := hZ.out.c18
      rw [HN.out] at y18
      by_cases hkn : k < n
      · obtain ⟨b, o, hX, hlt, hcell⟩ := hCX.out.xt (by rw [HN.out]; omega)
        rw [hX] at y18
        obtain ⟨r, hp⟩ : ∃ r, x.xs[k]? = some r := ⟨_, List.getElem?_eq_getElem (by rw [HN.out]; exact hkn)⟩
        obtain ⟨e1, e2⟩ := hcell k r hp
        have HP := Lib.hid hp
        have HBW := Lib.hid hbw
        have hks := HK.out k r hp
        clear hp hbw
        have HX := Lib.hid hX
        clear hX
        generalize hpi : r.key = pk at *
        generalize hpp : r.val = pv at *
        have HPI := Lib.hid hpi
        have HPP := Lib.hid hpp
        clear hpi hpp
        have hK := fun W => rkey_calls pk W hks
        clear hks
        cases hkb : keyB pk
        case false =>
          rw [hkb] at hK
          have HV : Hid (amayB x = false) := Lib.hid (by rw [HV3.out]; exact xsB_key HP.out (by rw [HPI.out]; exact hkb))
          clear hkb hcell
          go_wp2_with (fail)
          obtain ⟨V, hV⟩ : ∃ V, V = wr.alloc (Obj.cells #[.string pk, .string pv] 52) := ⟨_, rfl⟩
          rw [← hV]
          have hAB : Below wr.heap.size wr V := by rw [hV]; exact (Below.refl _ _).alloc (Nat.le_refl _) _
          have HBV := Lib.hid (HBW.out.trans (hAB.mono HBW.out.size))
          have HZV := Lib.hid (hZ.out.on hAB)
          have HCV := Lib.hid (hCX.out.below hAB)
          obtain ⟨q0, q1⟩ := two_cells (w0 := V) (B := wr.heap.size) (x := .string pk) (y := .string pv) (t := 52) (by rw [hV]; exact heap_alloc_new _ _)
          have g18 := HZV.out.c18
          rw [HN.out, HX.out] at g18
          have k0 := cell_regrown q0
          have k1 := cell_regrown q1
          have k18 := cell_regrown g18
          have cM : ∀ dq os, Calls Tryz.prog 29 #[.string pk] (grow (redrawn V dq) os) fun e w'' => e = .returned (.bool false) ∧ ∃ p : Regrown, w'' = grow (redrawn V p.d) p.os := fun dq os => Calls.regrown_of ((hK _).mono fun e w1 h => ⟨h.1, by obtain ⟨_, m, h⟩ := h; rw [h]; exact below_drewN (Below.refl _ _) m⟩)
          clear hV hAB e1 e2 q0 q1 g18 y18
          refine wp_region_quiet_below (by kernel_rfl) (by kernel_rfl) ?_
          repeat (first | go_big_quiet_step (first | exact cM _ _) | quiet_step (first | exact cM _ _))
          refine wpQuiet_nil ?_
          intro _ hw'
          obtain ⟨⟨dq, osq⟩, hw''⟩ := hw'
          subst hw''
          go_wp2_with (fail)
          go_ret
          exact ⟨by rw [HV.out]; rfl, HBV.out.trans ((below_regrown V dq osq).mono HBV.out.size)⟩
        case true =>
        rw [hkb] at hK
        have HKB := Lib.hid hkb
        clear hkb
        by_cases h16 : pv.size ≤ 16
        case neg =>
          have HV : Hid (amayB x = false) := Lib.hid (by rw [HV3.out]; exact xsB_val HP.out (by rw [HPP.out]; omega))
          have d1 : decide ((16 : Int) < (pv.size : Int)) = true := by rw [decide_eq_true_eq]; omega
          clear hcell h16
          go_wp2_with (fail)
          obtain ⟨V, hV⟩ : ∃ V, V = wr.alloc (Obj.cells #[.string pk, .string pv] 52) := ⟨_, rfl⟩
          rw [← hV]
          have hAB : Below wr.heap.size wr V := by rw [hV]; exact (Below.refl _ _).alloc (Nat.le_refl _) _
          have HBV := Lib.hid (HBW.out.trans (hAB.mono HBW.out.size))
          have HZV := Lib.hid (hZ.out.on hAB)
          have HCV := Lib.hid (hCX.out.below hAB)
          obtain ⟨q0, q1⟩ := two_cells (w0 := V) (B := wr.heap.size) (x := .string pk) (y := .string pv) (t := 52) (by rw [hV]; exact heap_alloc_new _ _)
          have g18 := HZV.out.c18
          rw [HN.out, HX.out] at g18
          have k0 := cell_regrown q0
          have k1 := cell_regrown q1
          have k18 := cell_regrown g18
          have cM : ∀ dq os, Calls Tryz.prog 29 #[.string pk] (grow (redrawn V dq) os) fun e w'' => e = .returned (.bool true) ∧ ∃ p : Regrown, w'' = grow (redrawn V p.d) p.os := fun dq os => Calls.regrown_of ((hK _).mono fun e w1 h => ⟨h.1, by obtain ⟨_, m, h⟩ := h; rw [h]; exact below_drewN (Below.refl _ _) m⟩)
          clear hV hAB e1 e2 q0 q1 g18 y18
          refine wp_region_quiet_below (by kernel_rfl) (by kernel_rfl) ?_
          repeat (first | go_big_quiet_step (first | exact cM _ _) | quiet_step (first | exact cM _ _))
          refine wpQuiet_nil ?_
          intro _ hw'
          obtain ⟨⟨dq, osq⟩, hw''⟩ := hw'
          subst hw''
          go_wp2_with (fail)
          go_ret
          exact ⟨by rw [HV.out]; rfl, HBV.out.trans ((below_regrown V dq osq).mono HBV.out.size)⟩
        case pos =>
        have d1 : decide ((16 : Int) < (pv.size : Int)) = false := by rw [decide_eq_false_iff_not]; omega
        cases k with
        | zero =>
          have HR2 := Lib.hid (XRise.first HP.out (by rw [HPI.out]; exact HKB.out) (by rw [HPP.out]; exact h16))
          simp only [Nat.zero_mul, Nat.add_zero] at e1 e2
          clear hcell h16
          go_wp2_with (fail)
          obtain ⟨V, hV⟩ : ∃ V, V = wr.alloc (Obj.cells #[.string pk, .string pv] 52) := ⟨_, rfl⟩
          rw [← hV]
          have hAB : Below wr.heap.size wr V := by rw [hV]; exact (Below.refl _ _).alloc (Nat.le_refl _) _
          have HBV := Lib.hid (HBW.out.trans (hAB.mono HBW.out.size))
          have HZV := Lib.hid (hZ.out.on hAB)
          have HCV := Lib.hid (hCX.out.below hAB)
          obtain ⟨q0, q1⟩ := two_cells (w0 := V) (B := wr.heap.size) (x := .string pk) (y := .string pv) (t := 52) (by rw [hV]; exact heap_alloc_new _ _)
          have g18 := HZV.out.c18
          rw [HN.out, HX.out] at g18
          have k0 := cell_regrown q0
          have k1 := cell_regrown q1
          have k18 := cell_regrown g18
          have cM : ∀ dq os, Calls Tryz.prog 29 #[.string pk] (grow (redrawn V dq) os) fun e w'' => e = .returned (.bool true) ∧ ∃ p : Regrown, w'' = grow (redrawn V p.d) p.os := fun dq os => Calls.regrown_of ((hK _).mono fun e w1 h => ⟨h.1, by obtain ⟨_, m, h⟩ := h; rw [h]; exact below_drewN (Below.refl _ _) m⟩)
          clear hV hAB e1 e2 q0 q1 g18 y18
          refine wp_region_quiet_below (by kernel_rfl) (by kernel_rfl) ?_
          repeat (first | go_big_quiet_step (first | exact cM _ _) | quiet_step (first | exact cM _ _))
          refine wpQuiet_nil ?_
          intro _ hw'
          obtain ⟨⟨dq, osq⟩, hw''⟩ := hw'
          subst hw''
          go_wp2_with (fail)
          go_roundw
          case rel => exact ⟨1, by go_num, by omega, HR2, Lib.hid (HZV.out.on (below_regrown V dq osq)), HBV.out.trans ((below_regrown V dq osq).mono HBV.out.size), Lib.hid (HCV.out.below (below_regrown V dq osq))⟩
          case measure => simp [intOf]; omega
        | succ k =>
          obtain ⟨r2, hr⟩ : ∃ r2, x.xs[k]? = some r2 := ⟨_, List.getElem?_eq_getElem (by rw [HN.out]; omega)⟩
          obtain ⟨e3, e4⟩ := hcell k r2 hr
          have HR1 := Lib.hid hr
          generalize hri : r2.key = rk at *
          have HRI := Lib.hid hri
          have h0 : decide ((0 : Int) < ((k + 1 : Nat) : Int)) = true := by rw [decide_eq_true_eq]; omega
          have h0' : decide ((0 : Int) < (k : Int) + 1) = true := by rw [decide_eq_true_eq]; omega
          have hk1 : (k : Int) + 1 - 1 = (k : Int) := by omega
          clear hcell hr hri
          cases hlt2 : ltS rk pk
          case false =>
            have HV : Hid (amayB x = false) := Lib.hid (by rw [HV3.out]; exact xsB_up HR1.out HP.out (by rw [HPI.out, HRI.out]; exact hlt2))
            clear h16
            go_wp2_with (fail)
            obtain ⟨V, hV⟩ : ∃ V, V = wr.alloc (Obj.cells #[.string pk, .string pv] 52) := ⟨_, rfl⟩
            rw [← hV]
            have hAB : Below wr.heap.size wr V := by rw [hV]; exact (Below.refl _ _).alloc (Nat.le_refl _) _
            have HBV := Lib.hid (HBW.out.trans (hAB.mono HBW.out.size))
            have HZV := Lib.hid (hZ.out.on hAB)
            have HCV := Lib.hid (hCX.out.below hAB)
            obtain ⟨q0, q1⟩ := two_cells (w0 := V) (B := wr.heap.size) (x := .string pk) (y := .string pv) (t := 52) (by rw [hV]; exact heap_alloc_new _ _)
            have g18 := HZV.out.c18
            rw [HN.out, HX.out] at g18
            have g3 := (hAB.cell (p := ⟨b, o + k * 2, none⟩) hlt).trans e3
            clear e3 e4
            have k0 := cell_regrown q0
            have k1 := cell_regrown q1
            have k18 := cell_regrown g18
            have k2 := cell_regrown g3
            clear g3
            have cM : ∀ dq os, Calls Tryz.prog 29 #[.string pk] (grow (redrawn V dq) os) fun e w'' => e = .returned (.bool true) ∧ ∃ p : Regrown, w'' = grow (redrawn V p.d) p.os := fun dq os => Calls.regrown_of ((hK _).mono fun e w1 h => ⟨h.1, by obtain ⟨_, m, h⟩ := h; rw [h]; exact below_drewN (Below.refl _ _) m⟩)
            clear hV hAB e1 e2 q0 q1 g18 y18
            refine wp_region_quiet_below (by kernel_rfl) (by kernel_rfl) ?_
            repeat (first | go_big_quiet_step (first | exact cM _ _) | quiet_step (first | exact cM _ _))
            refine wpQuiet_nil ?_
            intro _ hw'
            obtain ⟨⟨dq, osq⟩, hw''⟩ := hw'
            subst hw''
            go_wp2_with (fail)
            go_ret
            exact ⟨by rw [HV.out]; rfl, HBV.out.trans ((below_regrown V dq osq).mono HBV.out.size)⟩
          case true =>
            have HR2 := Lib.hid (hR.out.more HR1.out HP.out (by rw [HPI.out]; exact HKB.out) (by rw [HPP.out]; exact h16) (by rw [HPI.out, HRI.out]; exact hlt2))
            clear h16
            go_wp2_with (fail)
            obtain ⟨V, hV⟩ : ∃ V, V = wr.alloc (Obj.cells #[.string pk, .string pv] 52) := ⟨_, rfl⟩
            rw [← hV]
            have hAB : Below wr.heap.size wr V := by rw [hV]; exact (Below.refl _ _).alloc (Nat.le_refl _) _
            have HBV := Lib.hid (HBW.out.trans (hAB.mono HBW.out.size))
            have HZV := Lib.hid (hZ.out.on hAB)
            have HCV := Lib.hid (hCX.out.below hAB)
            obtain ⟨q0, q1⟩ := two_cells (w0 := V) (B := wr.heap.size) (x := .string pk) (y := .string pv) (t := 52) (by rw [hV]; exact heap_alloc_new _ _)
            have g18 := HZV.out.c18
            rw [HN.out, HX.out] at g18
            have g3 := (hAB.cell (p := ⟨b, o + k * 2, none⟩) hlt).trans e3
            clear e3 e4
            have k0 := cell_regrown q0
            have k1 := cell_regrown q1
            have k18 := cell_regrown g18
            have k2 := cell_regrown g3
            clear g3
            have cM : ∀ dq os, Calls Tryz.prog 29 #[.string pk] (grow (redrawn V dq) os) fun e w'' => e = .returned (.bool true) ∧ ∃ p : Regrown, w'' = grow (redrawn V p.d) p.os := fun dq os => Calls.regrown_of ((hK _).mono fun e w1 h => ⟨h.1, by obtain ⟨_, m, h⟩ := h; rw [h]; exact below_drewN (Below.refl _ _) m⟩)
            clear hV hAB e1 e2 q0 q1 g18 y18
            refine wp_region_quiet_below (by kernel_rfl) (by kernel_rfl) ?_
            repeat (first | go_big_quiet_step (first | exact cM _ _) | quiet_step (first | exact cM _ _))
            refine wpQuiet_nil ?_
            intro _ hw'
            obtain ⟨⟨dq, osq⟩, hw''⟩ := hw'
            subst hw''
            go_wp2_with (fail)
            go_roundw
            case rel => exact ⟨k + 2, by go_num, by omega, HR2, Lib.hid (HZV.out.on (below_regrown V dq osq)), HBV.out.trans ((below_regrown V dq osq).mono HBV.out.size), Lib.hid (HCV.out.below (below_regrown V dq osq))⟩
            case measure => simp [intOf]; omega
      · obtain rfl : k = n := by omega
        have HV : Hid (amayB x = true) := Lib.hid (by rw [HV3.out]; exact xsB_iff.2 ⟨by have h := hR.out; rw [← HN.out] at h; exact h, by rw [HN.out]; exact h4⟩)
        go_wp2_with (fail)
        go_ret
        exact ⟨by rw [HV.out]; rfl, hbw⟩
  case false =>
    rw [hh] at y10
    have HH := Lib.hid hh
    clear hh
    go_wp2_with (refine wpList_load_part rfl 25 (.tmp 33) rfl w.heap.size 11 rfl (x.df.c p.q).toList _ HZ1.out.df Tryz.underlying25 rfl acl_size (x.df.v p.q) rfl ?_)
    refine (rlsame_calls x.df acZ p.q lieZ w1 HL1.out.df (lies_acZ _) HS.out.df sm_acZ).mono ?_
    rintro e w2 ⟨rfl, hb2⟩
    have HV2 : Hid (amayB x = (sameB x.df acZ && xsB x.xs)) := Lib.hid (by rw [HV1.out, HH.out, defB_no])
    obtain ⟨m, hm⟩ : ∃ m, sameB x.df acZ = m := ⟨_, rfl⟩
    rw [hm] at HV2 ⊢
    clear hm
    have HB2 := Lib.hid (HB1.out.trans (hb2.mono HB1.out.size))
    have HZ2 := Lib.hid (HZ1.out.on hb2)
    have HL2 := Lib.hid (HL1.out.below hb2)
    clear hb2 HZ1 HB1 HL1 y10 y18 HV1
    cases m
    case false =>
      have HV : Hid (amayB x = false) := Lib.hid (by rw [HV2.out]; rfl)
      go_wp2_with (fail)
      go_ret
      exact ⟨by rw [HV.out]; rfl, HB2.out⟩
    case true =>
    have HV3 : Hid (amayB x = xsB x.xs) := Lib.hid (by rw [HV2.out, Bool.true_and])
    have y10 := HZ2.out.c10
    rw [HH.out] at y10
    go_wp2_with (fail)
    clear y10 d1
    obtain ⟨n, hn⟩ : ∃ n, x.xs.length = n := ⟨_, rfl⟩
    have HN := Lib.hid hn
    rw [hn] at h4
    clear hn
    go_loopw [3] (fun i wr => ∃ k : Nat, i = .int .i64 k ∧ k ≤ n ∧ Hid (XRise x.xs k) ∧ Hid (Bt wr w.heap.size x p) ∧ Below w.heap.size w wr ∧ Hid (Cel wr p.X (xv x.xs))) (fun i _ => n - (intOf i).toNat)
    case atStart => exact ⟨0, rfl, by omega, Lib.hid (XRise.zero _), HZ2, HB2.out, Lib.hid HL2.out.xs⟩
    case round =>
      obtain ⟨k, rfl, hk, hR, hZ, hbw, hCX⟩ := hrel
      have y18 := hZ.out.c18
      rw [HN.out] at y18
      by_cases hkn : k < n
      · obtain ⟨b, o, hX, hlt, hcell⟩ := hCX.out.xt (by rw [HN.out]; omega)
        rw [hX] at y18
        obtain ⟨r, hp⟩ : ∃ r, x.xs[k]? = some r := ⟨_, List.getElem?_eq_getElem (by rw [HN.out]; exact hkn)⟩
        obtain ⟨e1, e2⟩ := hcell k r hp
        have HP := Lib.hid hp
        have HBW := Lib.hid hbw
        have hks := HK.out k r hp
        clear hp hbw
        have HX := Lib.hid hX
        clear hX
        generalize hpi : r.key = pk at *
        generalize hpp : r.val = pv at *
        have HPI := Lib.hid hpi
        have HPP := Lib.hid hpp
        clear hpi hpp
        have hK := fun W => rkey_calls pk W hks
        clear hks
        cases hkb : keyB pk
        case false =>
          rw [hkb] at hK
          have HV : Hid (amayB x = false) := Lib.hid (by rw [HV3.out]; exact xsB_key HP.out (by rw [HPI.out]; exact hkb))
          clear hkb hcell
          go_wp2_with (fail)
          obtain ⟨V, hV⟩ : ∃ V, V = wr.alloc (Obj.cells #[.string pk, .string pv] 52) := ⟨_, rfl⟩
          rw [← hV]
          have hAB : Below wr.heap.size wr V := by rw [hV]; exact (Below.refl _ _).alloc (Nat.le_refl _) _
          have HBV := Lib.hid (HBW.out.trans (hAB.mono HBW.out.size))
          have HZV := Lib.hid (hZ.out.on hAB)
          have HCV := Lib.hid (hCX.out.below hAB)
          obtain ⟨q0, q1⟩ := two_cells (w0 := V) (B := wr.heap.size) (x := .string pk) (y := .string pv) (t := 52) (by rw [hV]; exact heap_alloc_new _ _)
          have g18 := HZV.out.c18
          rw [HN.out, HX.out] at g18
          have k0 := cell_regrown q0
          have k1 := cell_regrown q1
          have k18 := cell_regrown g18
          have cM : ∀ dq os, Calls Tryz.prog 29 #[.string pk] (grow (redrawn V dq) os) fun e w'' => e = .returned (.bool false) ∧ ∃ p : Regrown, w'' = grow (redrawn V p.d) p.os := fun dq os => Calls.regrown_of ((hK _).mono fun e w1 h => ⟨h.1, by obtain ⟨_, m, h⟩ := h; rw [h]; exact below_drewN (Below.refl _ _) m⟩)
          clear hV hAB e1 e2 q0 q1 g18 y18
          refine wp_region_quiet_below (by kernel_rfl) (by kernel_rfl) ?_
          repeat (first | go_big_quiet_step (first | exact cM _ _) | quiet_step (first | exact cM _ _))
          refine wpQuiet_nil ?_
          intro _ hw'
          obtain ⟨⟨dq, osq⟩, hw''⟩ := hw'
          subst hw''
          go_wp2_with (fail)
          go_ret
          exact ⟨by rw [HV.out]; rfl, HBV.out.trans ((below_regrown V dq osq).mono HBV.out.size)⟩
        case true =>
        rw [hkb] at hK
        have HKB := Lib.hid hkb
        clear hkb
        by_cases h16 : pv.size ≤ 16
        case neg =>
          have HV : Hid (amayB x = false) := Lib.hid (by rw [HV3.out]; exact xsB_val HP.out (by rw [HPP.out]; omega))
          have d1 : decide ((16 : Int) < (pv.size : Int)) = true := by rw [decide_eq_true_eq]; omega
          clear hcell h16
          go_wp2_with (fail)
          obtain ⟨V, hV⟩ : ∃ V, V = wr.alloc (Obj.cells #[.string pk, .string pv] 52) := ⟨_, rfl⟩
          rw [← hV]
          have hAB : Below wr.heap.size wr V := by rw [hV]; exact (Below.refl _ _).alloc (Nat.le_refl _) _
          have HBV := Lib.hid (HBW.out.trans (hAB.mono HBW.out.size))
          have HZV := Lib.hid (hZ.out.on hAB)
          have HCV := Lib.hid (hCX.out.below hAB)
          obtain ⟨q0, q1⟩ := two_cells (w0 := V) (B := wr.heap.size) (x := .string pk) (y := .string pv) (t := 52) (by rw [hV]; exact heap_alloc_new _ _)
          have g18 := HZV.out.c18
          rw [HN.out, HX.out] at g18
          have k0 := cell_regrown q0
          have k1 := cell_regrown q1
          have k18 := cell_regrown g18
          have cM : ∀ dq os, Calls Tryz.prog 29 #[.string pk] (grow (redrawn V dq) os) fun e w'' => e = .returned (.bool true) ∧ ∃ p : Regrown, w'' = grow (redrawn V p.d) p.os := fun dq os => Calls.regrown_of ((hK _).mono fun e w1 h => ⟨h.1, by obtain ⟨_, m, h⟩ := h; rw [h]; exact below_drewN (Below.refl _ _) m⟩)
          clear hV hAB e1 e2 q0 q1 g18 y18
          refine wp_region_quiet_below (by kernel_rfl) (by kernel_rfl) ?_
          repeat (first | go_big_quiet_step (first | exact cM _ _) | quiet_step (first | exact cM _ _))
          refine wpQuiet_nil ?_
          intro _ hw'
          obtain ⟨⟨dq, osq⟩, hw''⟩ := hw'
          subst hw''
          go_wp2_with (fail)
          go_ret
          exact ⟨by rw [HV.out]; rfl, HBV.out.trans ((below_regrown V dq osq).mono HBV.out.size)⟩
        case pos =>
        have d1 : decide ((16 : Int) < (pv.size : Int)) = false := by rw [decide_eq_false_iff_not]; omega
        cases k with
        | zero =>
          have HR2 := Lib.hid (XRise.first HP.out (by rw [HPI.out]; exact HKB.out) (by rw [HPP.out]; exact h16))
          simp only [Nat.zero_mul, Nat.add_zero] at e1 e2
          clear hcell h16
          go_wp2_with (fail)
          obtain ⟨V, hV⟩ : ∃ V, V = wr.alloc (Obj.cells #[.string pk, .string pv] 52) := ⟨_, rfl⟩
          rw [← hV]
          have hAB : Below wr.heap.size wr V := by rw [hV]; exact (Below.refl _ _).alloc (Nat.le_refl _) _
          have HBV := Lib.hid (HBW.out.trans (hAB.mono HBW.out.size))
          have HZV := Lib.hid (hZ.out.on hAB)
          have HCV := Lib.hid (hCX.out.below hAB)
          obtain ⟨q0, q1⟩ := two_cells (w0 := V) (B := wr.heap.size) (x := .string pk) (y := .string pv) (t := 52) (by rw [hV]; exact heap_alloc_new _ _)
          have g18 := HZV.out.c18
          rw [HN.out, HX.out] at g18
          have k0 := cell_regrown q0
          have k1 := cell_regrown q1
          have k18 := cell_regrown g18
          have cM : ∀ dq os, Calls Tryz.prog 29 #[.string pk] (grow (redrawn V dq) os) fun e w'' => e = .returned (.bool true) ∧ ∃ p : Regrown, w'' = grow (redrawn V p.d) p.os := fun dq os => Calls.regrown_of ((hK _).mono fun e w1 h => ⟨h.1, by obtain ⟨_, m, h⟩ := h; rw [h]; exact below_drewN (Below.refl _ _) m⟩)
          clear hV hAB e1 e2 q0 q1 g18 y18
          refine wp_region_quiet_below (by kernel_rfl) (by kernel_rfl) ?_
          repeat (first | go_big_quiet_step (first | exact cM _ _) | quiet_step (first | exact cM _ _))
          refine wpQuiet_nil ?_
          intro _ hw'
          obtain ⟨⟨dq, osq⟩, hw''⟩ := hw'
          subst hw''
          go_wp2_with (fail)
          go_roundw
          case rel => exact ⟨1, by go_num, by omega, HR2, Lib.hid (HZV.out.on (below_regrown V dq osq)), HBV.out.trans ((below_regrown V dq osq).mono HBV.out.size), Lib.hid (HCV.out.below (below_regrown V dq osq))⟩
          case measure => simp [intOf]; omega
        | succ k =>
          obtain ⟨r2, hr⟩ : ∃ r2, x.xs[k]? = some r2 := ⟨_, List.getElem?_eq_getElem (by rw [HN.out]; omega)⟩
          obtain ⟨e3, e4⟩ := hcell k r2 hr
          have HR1 := Lib.hid hr
          generalize hri : r2.key = rk at *
          have HRI := Lib.hid hri
          have h0 : decide ((0 : Int) < ((k + 1 : Nat) : Int)) = true := by rw [decide_eq_true_eq]; omega
          have h0' : decide ((0 : Int) < (k : Int) + 1) = true := by rw [decide_eq_true_eq]; omega
          have hk1 : (k : Int) + 1 - 1 = (k : Int) := by omega
          clear hcell hr hri
          cases hlt2 : ltS rk pk
          case false =>
            have HV : Hid (amayB x = false) := Lib.hid (by rw [HV3.out]; exact xsB_up HR1.out HP.out (by rw [HPI.out, HRI.out]; exact hlt2))
            clear h16
            go_wp2_with (fail)
            obtain ⟨V, hV⟩ : ∃ V, V = wr.alloc (Obj.cells #[.string pk, .string pv] 52) := ⟨_, rfl⟩
            rw [← hV]
            have hAB : Below wr.heap.size wr V := by rw [hV]; exact (Below.refl _ _).alloc (Nat.le_refl _) _
            have HBV := Lib.hid (HBW.out.trans (hAB.mono HBW.out.size))
            have HZV := Lib.hid (hZ.out.on hAB)
            have HCV := Lib.hid (hCX.out.below hAB)
            obtain ⟨q0, q1⟩ := two_cells (w0 := V) (B := wr.heap.size) (x := .string pk) (y := .string pv) (t := 52) (by rw [hV]; exact heap_alloc_new _ _)
            have g18 := HZV.out.c18
            rw [HN.out, HX.out] at g18
            have g3 := (hAB.cell (p := ⟨b, o + k * 2, none⟩) hlt).trans e3
            clear e3 e4
            have k0 := cell_regrown q0
            have k1 := cell_regrown q1
            have k18 := cell_regrown g18
            have k2 := cell_regrown g3
            clear g3
            have cM : ∀ dq os, Calls Tryz.prog 29 #[.string pk] (grow (redrawn V dq) os) fun e w'' => e = .returned (.bool true) ∧ ∃ p : Regrown, w'' = grow (redrawn V p.d) p.os := fun dq os => Calls.regrown_of ((hK _).mono fun e w1 h => ⟨h.1, by obtain ⟨_, m, h⟩ := h; rw [h]; exact below_drewN (Below.refl _ _) m⟩)
            clear hV hAB e1 e2 q0 q1 g18 y18
            refine wp_region_quiet_below (by kernel_rfl) (by kernel_rfl) ?_
            repeat (first | go_big_quiet_step (first | exact cM _ _) | quiet_step (first | exact cM _ _))
            refine wpQuiet_nil ?_
            intro _ hw'
            obtain ⟨⟨dq, osq⟩, hw''⟩ := hw'
            subst hw''
            go_wp2_with (fail)
            go_ret
            exact ⟨by rw [HV.out]; rfl, HBV.out.trans ((below_regrown V dq osq).mono HBV.out.size)⟩
          case true =>
            have HR2 := Lib.hid (hR.out.more HR1.out HP.out (by rw [HPI.out]; exact HKB.out) (by rw [HPP.out]; exact h16) (by rw [HPI.out, HRI.out]; exact hlt2))
            clear h16
            go_wp2_with (fail)
            obtain ⟨V, hV⟩ : ∃ V, V = wr.alloc (Obj.cells #[.string pk, .string pv] 52) := ⟨_, rfl⟩
            rw [← hV]
            have hAB : Below wr.heap.size wr V := by rw [hV]; exact (Below.refl _ _).alloc (Nat.le_refl _) _
            have HBV := Lib.hid (HBW.out.trans (hAB.mono HBW.out.size))
            have HZV := Lib.hid (hZ.out.on hAB)
            have HCV := Lib.hid (hCX.out.below hAB)
            obtain ⟨q0, q1⟩ := two_cells (w0 := V) (B := wr.heap.size) (x := .string pk) (y := .string pv) (t := 52) (by rw [hV]; exact heap_alloc_new _ _)
            have g18 := HZV.out.c18
            rw [HN.out, HX.out] at g18
            have g3 := (hAB.cell (p := ⟨b, o + k * 2, none⟩) hlt).trans e3
            clear e3 e4
            have k0 := cell_regrown q0
            have k1 := cell_regrown q1
            have k18 := cell_regrown g18
            have k2 := cell_regrown g3
            clear g3
            have cM : ∀ dq os, Calls Tryz.prog 29 #[.string pk] (grow (redrawn V dq) os) fun e w'' => e = .returned (.bool true) ∧ ∃ p : Regrown, w'' = grow (redrawn V p.d) p.os := fun dq os => Calls.regrown_of ((hK _).mono fun e w1 h => ⟨h.1, by obtain ⟨_, m, h⟩ := h; rw [h]; exact below_drewN (Below.refl _ _) m⟩)
            clear hV hAB e1 e2 q0 q1 g18 y18
            refine wp_region_quiet_below (by kernel_rfl) (by kernel_rfl) ?_
            repeat (first | go_big_quiet_step (first | exact cM _ _) | quiet_step (first | exact cM _ _))
            refine wpQuiet_nil ?_
            intro _ hw'
            obtain ⟨⟨dq, osq⟩, hw''⟩ := hw'
            subst hw''
            go_wp2_with (fail)
            go_roundw
            case rel => exact ⟨k + 2, by go_num, by omega, HR2, Lib.hid (HZV.out.on (below_regrown V dq osq)), HBV.out.trans ((below_regrown V dq osq).mono HBV.out.size), Lib.hid (HCV.out.below (below_regrown V dq osq))⟩
            case measure => simp [intOf]; omega
      · obtain rfl : k = n := by omega
        have HV : Hid (amayB x = true) := Lib.hid (by rw [HV3.out]; exact xsB_iff.2 ⟨by have h := hR.out; rw [← HN.out] at h; exact h, by rw [HN.out]; exact h4⟩)
        go_wp2_with (fail)
        go_ret
        exact ⟨by rw [HV.out]; rfl, hbw⟩
end Go.Proofs.YtlejmpinfbmccaaGreatDoor
/- The document's words of attributes: a flag, the head of a list, named ones. -/
set_option linter.unusedSimpArgs false
set_option linter.unusedVariables false
namespace Go.Proofs.YtlejmpinfbmccaaGreatDoor
open Go.RowKit WordMath Go.Sort Go.Lib
theorem flag_calls (o : Bool) (w : World) : Calls Tryz.prog 42 #[.bool o] w fun e w' => e = .returned (.int .u64 (flg o : Nat)) ∧ w = w' := by
  cases o
  all_goals
    go_enter Tryz.func42, Tryz.ntmps42
    go_wp2_with (fail)
    go_ret
    exact ⟨rfl, rfl⟩
set_option maxRecDepth 100000 in
set_option maxHeartbeats 2000000 in
theorem head_calls (x : Ac) (p : Lie) (w : World) (hx : AcFit x) :
    Calls Tryz.prog 43 #[x.v p] w fun e w' => e = .returned (.int .u64 (hdW x : Nat)) ∧ Below w.heap.size w w' := by
  obtain ⟨h1, h2, h3, h4, h5, h6, _, _⟩ := hx
  have h7 := flg_lt x.hm
  obtain ⟨V, hV⟩ : ∃ V, V = w.alloc (.cells (x.c p) 25) := ⟨_, rfl⟩
  have hb : Below w.heap.size w V := by rw [hV]; exact (Below.refl _ _).alloc (Nat.le_refl _) _
  have hz : Ab V w.heap.size x p := by rw [hV]; exact Ab.new w x p
  have HB := Lib.hid hb
  obtain ⟨y0, y1, y2, y3, y4, y5, y6⟩ := hz.cells
  have k0 := cell_regrown y0
  have k1 := cell_regrown y1
  have k2 := cell_regrown y2
  have k3 := cell_regrown y3
  have k4 := cell_regrown y4
  have k5 := cell_regrown y5
  have k6 := cell_regrown y6
  have cF : ∀ dq os, Calls Tryz.prog 42 #[.bool x.hm] (grow (redrawn V dq) os) fun e w'' => e = .returned (.int .u64 (flg x.hm : Nat)) ∧ ∃ p : Regrown, w'' = grow (redrawn V p.d) p.os := fun dq os => Calls.regrown_of ((flag_calls x.hm _).mono fun e w1 h => ⟨h.1, h.2 ▸ Below.refl _ _⟩)
  have HV : Hid (((hdW x : Nat) : Int) = (x.ow : Int) + (x.gr : Int) * 16 + (x.ot : Int) * 256 + (x.ms : Int) * 4096 + (flg x.hm : Int) * 65536 + (x.us.length : Int) * 1048576 + (x.gs.length : Int) * 16777216) := Lib.hid (by unfold hdW; omega)
  clear hz hb y0 y1 y2 y3 y4 y5 y6
  generalize flg x.hm = fl at *
  go_enter Tryz.func43, Tryz.ntmps43
  go_upto_region 1 with (fail)
  rw [← hV]
  clear hV
  refine wp_region_quiet_below (by kernel_rfl) (by kernel_rfl) ?_
  repeat (first | go_big_quiet_step (first | exact cF _ _) | quiet_step (first | exact cF _ _))
  refine wpQuiet_nil ?_
  intro _ hw'
  obtain ⟨⟨dq, osq⟩, hw''⟩ := hw'
  subst hw''
  go_wp2_with (fail)
  go_ret
  rw [HV.out]
  exact ⟨rfl, HB.out.trans ((below_regrown V dq osq).mono HB.out.size)⟩
/-- How far a row of named ones is laid. -/
def layS (l : List Nat) (a : Nat) (us : List Nm) : Nat → List Nat
  | 0 => l
  | 1 => l.set a (nmA us 0)
  | 2 => l.set a (prW us 0)
  | 3 => (l.set a (prW us 0)).set (a + 1) (nmA us 2)
  | _ => (l.set a (prW us 0)).set (a + 1) (prW us 2)
theorem layS_length (l : List Nat) (a : Nat) (us : List Nm) (k : Nat) : (layS l a us k).length = l.length := by
  unfold layS
  split <;> simp
theorem nmA_none {us : List Nm} {k : Nat} (h : us.length ≤ k) : nmA us k = 0 := by
  unfold nmA
  rw [List.getElem?_eq_none h]
theorem set_zero {l : List Nat} {a : Nat} (h : l.getD a 0 = 0) : l.set a 0 = l := by
  apply List.ext_getElem?
  intro i
  rw [List.getElem?_set]
  split
  · rename_i e
    subst e
    split
    · rename_i hl
      rw [List.getElem?_eq_getElem hl]
      rw [List.getD_eq_getElem?_getD, List.getElem?_eq_getElem hl] at h
      exact congrArg some h.symm
    · rename_i hl
      rw [List.getElem?_eq_none (by omega)]
  · rfl
theorem layS_end {l : List Nat} {a : Nat} {us : List Nm} (hn : us.length ≤ 4) (h0 : l.getD a 0 = 0) (h1 : l.getD (a + 1) 0 = 0) : layS l a us us.length = (l.set a (prW us 0)).set (a + 1) (prW us 2) := by
  have hs1 : (l.set a (prW us 0)).getD (a + 1) 0 = 0 := by
    rw [List.getD_eq_getElem?_getD, List.getElem?_set_ne (by omega), ← List.getD_eq_getElem?_getD]; exact h1
  obtain e | e | e | e | e : us.length = 0 ∨ us.length = 1 ∨ us.length = 2 ∨ us.length = 3 ∨ us.length = 4 := by omega
  · have p0 : prW us 0 = 0 := by unfold prW; rw [nmA_none (k := 0) (by omega), nmA_none (k := 0 + 1) (by omega)]
    have p2 : prW us 2 = 0 := by unfold prW; rw [nmA_none (k := 2) (by omega), nmA_none (k := 2 + 1) (by omega)]
    rw [p2, set_zero hs1, p0, set_zero h0, e]; rfl
  · have p0 : prW us 0 = nmA us 0 := by unfold prW; rw [nmA_none (k := 0 + 1) (by omega)]; omega
    have p2 : prW us 2 = 0 := by unfold prW; rw [nmA_none (k := 2) (by omega), nmA_none (k := 2 + 1) (by omega)]
    rw [p2, set_zero hs1, p0, e]; rfl
  · have p2 : prW us 2 = 0 := by unfold prW; rw [nmA_none (k := 2) (by omega), nmA_none (k := 2 + 1) (by omega)]
    rw [p2, set_zero hs1, e]; rfl
  · have p2 : prW us 2 = nmA us 2 := by unfold prW; rw [nmA_none (k := 2 + 1) (by omega)]; omega
    rw [p2, e]; rfl
  · rw [e]; rfl
set_option maxRecDepth 100000 in
set_option maxHeartbeats 8000000 in
theorem lay_calls (g : Nat) (l : List Nat) (a : Nat) (us : List Nm) (A : Option Addr) (c cl : Nat) (ai : Int) (w : World) (hai : ai = (a : Nat)) (hB : Blk 49 w g l) (hl : l.length = 31) (ha : a + 2 ≤ 31) (h0 : l.getD a 0 = 0) (h1 : l.getD (a + 1) 0 = 0) (hu : us.length ≤ 4) (hb : ∀ (k : Nat) p, us[k]? = some p → p.id < 65536 ∧ p.pm < 256) (hc : Cel w A (nv us)) (hne : ∀ ad, A = some ad → 0 < us.length → ad.block ≠ g) :
    Calls Tryz.prog 44 #[.slice (some ⟨g, 0, none⟩) 31 cl, .int .i64 ai, .slice A us.length c] w fun e w' => e = .returned (.tuple #[]) ∧ Blk 49 w' g ((l.set a (prW us 0)).set (a + 1) (prW us 2)) ∧ OnlyB g w w' := by
  subst hai
  have HEND := Lib.hid (layS_end (us := us) hu h0 h1)
  obtain ⟨n, hn⟩ : ∃ n, us.length = n := ⟨_, rfl⟩
  have HN := Lib.hid hn
  rw [hn] at hu ⊢
  have HNE := Lib.hid hne
  have HBND := Lib.hid hb
  have HB0 := Lib.hid hB
  have HC := Lib.hid hc
  clear hn hne hb hB hc
  go_enter Tryz.func44, Tryz.ntmps44
  go_wp2_with (fail)
  go_loopw [6] (fun i wr => ∃ k : Nat, i = .int .i64 k ∧ k ≤ n ∧ Hid (Blk 49 wr g (layS l a us k)) ∧ Hid (OnlyB g w wr)) (fun i _ => n - (intOf i).toNat)
  case atStart => exact ⟨0, rfl, by omega, HB0, Lib.hid (Only.refl _ _)⟩
  case round =>
    obtain ⟨k, rfl, hk, hBk, hO⟩ := hrel
    by_cases hkn : k < n
    · have hcw : Cel wr A (nv us) := HC.out.only hO.out (fun ad e h => by have := HNE.out ad e (by rw [HN.out]; omega); omega)
      obtain ⟨b, ob, hA, hlt, hcell⟩ := hcw.nm (by rw [HN.out]; omega)
      subst hA
      obtain ⟨p, hp⟩ : ∃ p, us[k]? = some p := ⟨_, List.getElem?_eq_getElem (by rw [HN.out]; exact hkn)⟩
      obtain ⟨e1, e2⟩ := hcell k p hp
      obtain ⟨i1, i2⟩ := HBND.out k p hp
      have HNM : Hid (nmA us k = p.id + 65536 * p.pm) := Lib.hid (by unfold nmA; rw [hp]; rfl)
      have hbg : b ≠ g := by have := HNE.out ⟨b, ob, none⟩ rfl (by rw [HN.out]; omega); exact this
      have hglt := hBk.out.lt
      clear hcw hcell hp
      generalize p.id = pi at *
      generalize p.pm = pp at *
      have hfg : ∀ j, wr.frozen? ⟨g, j, none⟩ = false := fun j => hBk.out.frozen j
      have hk4 : k < 4 := by omega
      by_cases hk0 : k = 0
      case pos =>
        obtain rfl : k = 0 := by omega
        have hcw : wr.cell? ⟨g, a, none⟩ = some (.int .u64 (0 : Nat)) := by
          have h := hBk.out.cell a (by rw [layS_length]; omega)
          rw [show (layS l a us 0).getD a 0 = 0 from h0] at h
          exact h
        have HS : Hid (Blk 49 (wr.setCell ⟨g, a, none⟩ (.int .u64 (nmA us 0 : Nat))) g (layS l a us 1)) := Lib.hid (hBk.out.set a (nmA us 0))
        have HV : Hid (((nmA us 0 : Nat) : Int) = (pi : Int) + (pp : Int) * 65536) := Lib.hid (by rw [HNM.out]; omega)
        have HO2 : Hid (OnlyB g w (wr.setCell ⟨g, a, none⟩ (.int .u64 (nmA us 0 : Nat)))) := Lib.hid (hO.out.setCell (p := ⟨g, a, none⟩) (.inl rfl) _)
        have hf := hfg (a)
        simp only [Nat.reduceMul, Nat.add_zero, Nat.zero_mul] at e1 e2
        clear hfg
        go_wp2_with (fail)
        go_region
        all_goals
          go_wp2_with (fail)
          go_roundw
          case rel =>
            rw [HV.out] at HS HO2
            exact ⟨1, by go_num, by omega, HS, Lib.hid HO2.out.drew⟩
          case measure => simp [intOf]; omega
      case neg =>
      by_cases hk1 : k = 1
      case pos =>
        obtain rfl : k = 1 := by omega
        have hx : nmA us 0 < 4294967296 := by have := nmA_lt HBND.out 0; omega
        have hcw : wr.cell? ⟨g, a, none⟩ = some (.int .u64 (nmA us 0 : Nat)) := by
          have h := hBk.out.cell a (by rw [layS_length]; omega)
          rw [show (layS l a us 1).getD a 0 = nmA us 0 from by show (l.set a (nmA us 0)).getD a 0 = _; rw [getD_set, if_pos ⟨rfl, by omega⟩]] at h
          exact h
        have HS : Hid (Blk 49 (wr.setCell ⟨g, a, none⟩ (.int .u64 (prW us 0 : Nat))) g (layS l a us 2)) := Lib.hid (by
          have h := hBk.out.set a (prW us 0)
          have e : (layS l a us 1).set a (prW us 0) = layS l a us 2 := List.set_set ..
          rwa [e] at h)
        have HV : Hid (((prW us 0 : Nat) : Int) = (nmA us 0 : Int) + ((pi : Int) + (pp : Int) * 65536) * 4294967296) := Lib.hid (by unfold prW; rw [Nat.zero_add, HNM.out]; omega)
        generalize nmA us 0 = xw at *
        have HO2 : Hid (OnlyB g w (wr.setCell ⟨g, a, none⟩ (.int .u64 (prW us 0 : Nat)))) := Lib.hid (hO.out.setCell (p := ⟨g, a, none⟩) (.inl rfl) _)
        have hf := hfg (a)
        simp only [Nat.reduceMul, Nat.add_zero, Nat.zero_mul] at e1 e2
        clear hfg
        go_wp2_with (fail)
        go_region
        all_goals
          go_wp2_with (fail)
          go_roundw
          case rel =>
            rw [HV.out] at HS HO2
            exact ⟨2, by go_num, by omega, HS, Lib.hid HO2.out.drew⟩
          case measure => simp [intOf]; omega
      case neg =>
      by_cases hk2 : k = 2
      case pos =>
        obtain rfl : k = 2 := by omega
        have hcw : wr.cell? ⟨g, a + 1, none⟩ = some (.int .u64 (0 : Nat)) := by
          have h := hBk.out.cell (a + 1) (by rw [layS_length]; omega)
          rw [show (layS l a us 2).getD (a + 1) 0 = 0 from by show (l.set a (prW us 0)).getD (a + 1) 0 = _; rw [getD_set, if_neg (by omega)]; exact h1] at h
          exact h
        have HS : Hid (Blk 49 (wr.setCell ⟨g, a + 1, none⟩ (.int .u64 (nmA us 2 : Nat))) g (layS l a us 3)) := Lib.hid (hBk.out.set (a + 1) (nmA us 2))
        have HV : Hid (((nmA us 2 : Nat) : Int) = (pi : Int) + (pp : Int) * 65536) := Lib.hid (by rw [HNM.out]; omega)
        have HO2 : Hid (OnlyB g w (wr.setCell ⟨g, a + 1, none⟩ (.int .u64 (nmA us 2 : Nat)))) := Lib.hid (hO.out.setCell (p := ⟨g, a + 1, none⟩) (.inl rfl) _)
        have hf := hfg (a + 1)
        simp only [Nat.reduceMul, Nat.add_zero, Nat.zero_mul] at e1 e2
        clear hfg
        go_wp2_with (fail)
        go_region
        all_goals
          go_wp2_with (fail)
          go_roundw
          case rel =>
            rw [HV.out] at HS HO2
            exact ⟨3, by go_num, by omega, HS, Lib.hid HO2.out.drew⟩
          case measure => simp [intOf]; omega
      case neg =>
      obtain rfl : k = 3 := by omega
      have hx : nmA us 2 < 4294967296 := by have := nmA_lt HBND.out 2; omega
      have hcw : wr.cell? ⟨g, a + 1, none⟩ = some (.int .u64 (nmA us 2 : Nat)) := by
        have h := hBk.out.cell (a + 1) (by rw [layS_length]; omega)
        rw [show (layS l a us 3).getD (a + 1) 0 = nmA us 2 from by show ((l.set a (prW us 0)).set (a + 1) (nmA us 2)).getD (a + 1) 0 = _; rw [getD_set, if_pos ⟨rfl, by rw [List.length_set]; omega⟩]] at h
        exact h
      have HS : Hid (Blk 49 (wr.setCell ⟨g, a + 1, none⟩ (.int .u64 (prW us 2 : Nat))) g (layS l a us 4)) := Lib.hid (by
        have h := hBk.out.set (a + 1) (prW us 2)
        have e : (layS l a us 3).set (a + 1) (prW us 2) = layS l a us 4 := List.set_set ..
        rwa [e] at h)
      have HV : Hid (((prW us 2 : Nat) : Int) = (nmA us 2 : Int) + ((pi : Int) + (pp : Int) * 65536) * 4294967296) := Lib.hid (by unfold prW; rw [show (2 + 1 : Nat) = 3 from rfl, HNM.out]; omega)
      generalize nmA us 2 = xw at *
      have HO2 : Hid (OnlyB g w (wr.setCell ⟨g, a + 1, none⟩ (.int .u64 (prW us 2 : Nat)))) := Lib.hid (hO.out.setCell (p := ⟨g, a + 1, none⟩) (.inl rfl) _)
      have hf := hfg (a + 1)
      simp only [Nat.reduceMul, Nat.add_zero, Nat.zero_mul] at e1 e2
      clear hfg
      go_wp2_with (fail)
      go_region
      all_goals
        go_wp2_with (fail)
        go_roundw
        case rel =>
          rw [HV.out] at HS HO2
          exact ⟨4, by go_num, by omega, HS, Lib.hid HO2.out.drew⟩
        case measure => simp [intOf]; omega
    · obtain rfl : k = n := by omega
      go_wp2_with (fail)
      refine bodyPost_end (results_none rfl _ _ _) rfl ⟨rfl, ?_, hO.out⟩
      have h := hBk.out
      rw [← HN.out, HEND.out] at h
      exact h
end Go.Proofs.YtlejmpinfbmccaaGreatDoor
/- The document's words of attributes, sealed. -/
set_option linter.unusedSimpArgs false
set_option linter.unusedVariables false
namespace Go.Proofs.YtlejmpinfbmccaaGreatDoor
open Go.RowKit SumMath WordMath
/-- How far the keys and values are laid. -/
def xsS (L : List Nat) (xs : List Xt) : Nat → List Nat
  | 0 => L
  | k + 1 => ((((xsS L xs k).set (12 + 4 * k) (xaW xs k 0)).set (13 + 4 * k) (xaW xs k 1)).set (14 + 4 * k) (xaW xs k 2)).set (15 + 4 * k) (xaW xs k 3)
theorem xsS_length (L : List Nat) (xs : List Xt) (k : Nat) : (xsS L xs k).length = L.length := by
  induction k with
  | zero => rfl
  | succ k ih => simp [xsS, ih]
theorem xsS_zero {L : List Nat} {xs : List Xt} (h : ∀ j, 12 ≤ j → L.getD j 0 = 0) (k : Nat) : ∀ j, 12 + 4 * k ≤ j → (xsS L xs k).getD j 0 = 0 := by
  induction k with
  | zero => intro j hj; exact h j (by omega)
  | succ k ih =>
    intro j hj
    simp only [xsS]
    rw [getD_set, if_neg (by omega), getD_set, if_neg (by omega), getD_set, if_neg (by omega), getD_set, if_neg (by omega)]
    exact ih j (by omega)
theorem xaW_none {xs : List Xt} {k : Nat} (h : xs.length ≤ k) (j : Nat) : xaW xs k j = 0 := by
  unfold xaW
  rw [List.getElem?_eq_none h]
theorem xsS_stay {L : List Nat} {xs : List Xt} (h : ∀ j, 12 ≤ j → L.getD j 0 = 0) {k : Nat} (hk : xs.length ≤ k) : xsS L xs (k + 1) = xsS L xs k := by
  have hz := xsS_zero h (xs := xs) k
  simp only [xsS]
  rw [xaW_none hk, xaW_none hk, xaW_none hk, xaW_none hk, set_zero (hz _ (by omega)), set_zero (hz _ (by omega)), set_zero (hz _ (by omega)), set_zero (hz _ (by omega))]
theorem xsS_end {L : List Nat} {xs : List Xt} (h : ∀ j, 12 ≤ j → L.getD j 0 = 0) (hn : xs.length ≤ 4) : xsS L xs xs.length = xsS L xs 4 := by
  obtain e | e | e | e | e : xs.length = 0 ∨ xs.length = 1 ∨ xs.length = 2 ∨ xs.length = 3 ∨ xs.length = 4 := by omega
  · rw [e, xsS_stay h (k := 3) (by omega), xsS_stay h (k := 2) (by omega), xsS_stay h (k := 1) (by omega), xsS_stay h (k := 0) (by omega)]
  · rw [e, xsS_stay h (k := 3) (by omega), xsS_stay h (k := 2) (by omega), xsS_stay h (k := 1) (by omega)]
  · rw [e, xsS_stay h (k := 3) (by omega), xsS_stay h (k := 2) (by omega)]
  · rw [e, xsS_stay h (k := 3) (by omega)]
  · rw [e]
def base2 (x : At) : List Nat := (((List.replicate 31 0).set 0 (w0A x)).set 1 (w1A x))
def base4 (x : At) : List Nat := ((base2 x).set 2 (hdW x.ac)).set 3 (hdW x.df)
def base6 (x : At) : List Nat := ((base4 x).set 4 (prW x.ac.us 0)).set (4 + 1) (prW x.ac.us 2)
def base8 (x : At) : List Nat := ((base6 x).set 6 (prW x.ac.gs 0)).set (6 + 1) (prW x.ac.gs 2)
def base10 (x : At) : List Nat := ((base8 x).set 8 (prW x.df.us 0)).set (8 + 1) (prW x.df.us 2)
def base12 (x : At) : List Nat := ((base10 x).set 10 (prW x.df.gs 0)).set (10 + 1) (prW x.df.gs 2)
theorem base12_len (x : At) : (base12 x).length = 31 := rfl
theorem base12_zero (x : At) (j : Nat) (hj : 12 ≤ j) : (base12 x).getD j 0 = 0 := by
  rw [List.getD_eq_getElem?_getD]
  by_cases h : j < 31
  · have : j = 12 ∨ j = 13 ∨ j = 14 ∨ j = 15 ∨ j = 16 ∨ j = 17 ∨ j = 18 ∨ j = 19 ∨ j = 20 ∨ j = 21 ∨ j = 22 ∨ j = 23 ∨ j = 24 ∨ j = 25 ∨ j = 26 ∨ j = 27 ∨ j = 28 ∨ j = 29 ∨ j = 30 := by omega
    rcases this with rfl | rfl | rfl | rfl | rfl | rfl | rfl | rfl | rfl | rfl | rfl | rfl | rfl | rfl | rfl | rfl | rfl | rfl | rfl <;> rfl
  · rw [List.getElem?_eq_none (by rw [base12_len]; omega)]; rfl
theorem base_atL (x : At) : xsS (base12 x) x.xs 4 = atL x := by kernel_rfl
/-- The world of the call: the attributes' block, the words'. -/
structure Est (w wr : World) (x : At) (p : ALie) (l : List Nat) : Prop where
  bt : Bt wr w.heap.size x p
  bk : Blk 49 wr (w.heap.size + 1) l
  be : Below w.heap.size w wr
section
variable {w wr w' : World} {x : At} {p : ALie} {l : List Nat}
theorem Est.on (h : Est w wr x p l) (hb : Below wr.heap.size wr w') : Est w w' x p l := ⟨h.bt.on hb, h.bk.below hb h.bk.lt, h.be.trans (hb.mono h.be.size)⟩
theorem Est.turn (h : Est w wr x p l) (ho : OnlyB (w.heap.size + 1) wr w') {l' : List Nat} (hb : Blk 49 w' (w.heap.size + 1) l') : Est w w' x p l' :=
  ⟨h.bt.keep ho (by omega), hb, h.be.trans (ho.below h.be.size (fun i hi => by omega))⟩
theorem Est.set (h : Est w wr x p l) (k v : Nat) : Est w (wr.setCell ⟨w.heap.size + 1, k, none⟩ (.int .u64 (v : Nat))) x p (l.set k v) :=
  h.turn ((Only.refl (fun j => j = w.heap.size + 1) wr).setCell (p := ⟨w.heap.size + 1, k, none⟩) (.inl rfl) _) (h.bk.set k v)
theorem Est.drew (h : Est w wr x p l) : Est w wr.drew x p l := h.on (below_drewN (Below.refl _ _) 1)
end
/-- How far the words of a value are laid. -/
def vS (L : List Nat) (a : Nat) (s : ByteArray) : Nat → List Nat
  | 0 => L
  | 1 => L.set a (pwd s 0)
  | _ => (L.set a (pwd s 0)).set (a + 1) (pwd s 1)
theorem vS_length (L : List Nat) (a : Nat) (s : ByteArray) (k : Nat) : (vS L a s k).length = L.length := by
  unfold vS
  split <;> simp
theorem vS_step {L : List Nat} {a : Nat} {s : ByteArray} {j : Nat} (hj : j < 2) : (vS L a s j).set (a + j) (pwd s j) = vS L a s (j + 1) := by
  obtain rfl | rfl : j = 0 ∨ j = 1 := by omega
  · rfl
  · rfl
theorem vS_at {L : List Nat} {a : Nat} {s : ByteArray} {j : Nat} (hj : j < 2) (h0 : L.getD a 0 = 0) (h1 : L.getD (a + 1) 0 = 0) : (vS L a s j).getD (a + j) 0 = 0 := by
  obtain rfl | rfl : j = 0 ∨ j = 1 := by omega
  · exact h0
  · show (L.set a (pwd s 0)).getD (a + 1) 0 = 0
    rw [getD_set, if_neg (by omega)]
    exact h1
theorem vS_end {L : List Nat} {a m : Nat} {s : ByteArray} (hm : m ≤ 2) (h0 : L.getD a 0 = 0) (h1 : L.getD (a + 1) 0 = 0) (hz : ∀ i, m ≤ i → pwd s i = 0) : vS L a s m = (L.set a (pwd s 0)).set (a + 1) (pwd s 1) := by
  have h1' : (L.set a (pwd s 0)).getD (a + 1) 0 = 0 := by rw [getD_set, if_neg (by omega)]; exact h1
  obtain rfl | rfl | rfl : m = 0 ∨ m = 1 ∨ m = 2 := by omega
  · rw [hz 1 (by omega), set_zero h1', hz 0 (by omega), set_zero h0]; rfl
  · rw [hz 1 (by omega), set_zero h1']; rfl
  · rfl
theorem pack_one {s : ByteArray} (h0 : 0 < s.size) (h8 : s.size ≤ 8) : (packL s.data.toList).length = 1 ∧ (packL s.data.toList).getD 0 0 = pwd s 0 := by
  refine ⟨?_, rfl⟩
  rw [packL_len]; unfold wn; omega
set_option maxRecDepth 100000 in
set_option maxHeartbeats 8000000 in
theorem rencode_calls (x : At) (p : ALie) (w : World) (h : ALies w x p) (hx : AtFit x) (hk0 : ∀ (k : Nat) q, x.xs[k]? = some q → 0 < q.key.size) :
    Calls Tryz.prog 20 #[x.v p] w fun e w' => ∃ A c, e = .returned (.slice A 32 c) ∧ Row w' A (sealed (atL x)) ∧ Below w.heap.size w w' := by
  have hmk : ∀ W : World, (Instr.makeSlice 36 (.int .i64 31) (.int .i64 31)).run Tryz.prog W = .ok (.slice (some ⟨W.heap.size, 0, none⟩) 31 31) (W.alloc (.cells (madeCells #[.int .u64 0] 31) 49)) := fun W => run_make_row' (P := Tryz.prog) 36 49 (.int .u64 0) 8 Tryz.underlying36 u64_info rfl .i64 .i64 31 (by decide) (by decide) W
  obtain ⟨V, hV⟩ : ∃ V, V = (w.alloc (.cells (x.c p) 28)).alloc (.cells (madeCells #[.int .u64 0] 31) 49) := ⟨_, rfl⟩
  have b1 : Below w.heap.size w (w.alloc (.cells (x.c p) 28)) := (Below.refl _ _).alloc (Nat.le_refl _) _
  have S0 : Hid (Est w V x p (List.replicate 31 0)) := Lib.hid ⟨by rw [hV]; exact (Bt.new w x p).on ((Below.refl _ _).alloc (Nat.le_refl _) _), by
    have h := Blk.new (w.alloc (.cells (x.c p) 28)) 49 31
    rw [World.size_alloc] at h
    rw [hV]; exact h, by rw [hV]; exact b1.alloc (by simp) _⟩
  have HX := Lib.hid hx
  have HL := Lib.hid h
  have HK0 := Lib.hid hk0
  have i1 := hx.bi
  have i2 := hx.ui
  have i3 := hx.gi
  have i4 := hx.xl
  have i5 := flg_lt x.hd
  have cF := fun W => flag_calls x.hd W
  have y0 := S0.out.bt.c0
  have y10 := S0.out.bt.c10
  have y18 := S0.out.bt.c18
  have hc0 : V.cell? ⟨w.heap.size + 1, 0, none⟩ = some (.int .u64 0) := S0.out.bk.cell 0 (by simp)
  have hf0 := S0.out.bk.frozen 0
  have HE : Hid (IntKind.u64.wrap (IntKind.u64.wrap (IntKind.u64.wrap (IntKind.u64.wrap (x.bi : Int) + IntKind.u64.wrap ((flg x.hd : Int) * 8)) + IntKind.u64.wrap (IntKind.u64.wrap (x.xs.length : Int) * 16)) + 4707480221673062400) = ((w0A x : Nat) : Int)) := Lib.hid (by
    simp only [IntKind.wrap_u64]
    unfold w0A
    omega)
  clear b1 h hx hk0
  go_enter Tryz.func20, Tryz.ntmps20
  go_upto_region 2 with (fail)
  rw [← hV]
  clear hV hmk
  have S1 : Hid (Est w (V.setCell ⟨w.heap.size + 1, 0, none⟩ (.int .u64 (w0A x : Nat))).drew x p ((List.replicate 31 0).set 0 (w0A x))) := Lib.hid (S0.out.set 0 (w0A x)).drew
  go_cut [3] (fun v wx => v = .slice (some ⟨w.heap.size + 1, 0, none⟩) 31 31 ∧ wx = (V.setCell ⟨w.heap.size + 1, 0, none⟩ (.int .u64 (w0A x : Nat))).drew)
  case first =>
    generalize flg x.hd = fl at *
    go_region_with (go_at_call 42; refine (cF _).mono ?_; rintro e w' ⟨rfl, rfl⟩)
    all_goals
      go_wp2
      go_meet
      exact ⟨rfl, by rw [HE.out]⟩
  case rest =>
  obtain ⟨rfl, rfl⟩ := hcut
  obtain ⟨W1, hW1⟩ : ∃ W1, W1 = (V.setCell ⟨w.heap.size + 1, 0, none⟩ (.int .u64 (w0A x : Nat))).drew := ⟨_, rfl⟩
  rw [← hW1] at S1 ⊢
  clear hW1 y0 y10 y18 hc0 hf0 HE cF S0
  have y1 := S1.out.bt.c1
  have y2 := S1.out.bt.c2
  have hc1 : W1.cell? ⟨w.heap.size + 1, 1, none⟩ = some (.int .u64 0) := S1.out.bk.cell 1 (by simp)
  have hf1 := S1.out.bk.frozen 1
  have S2 := Lib.hid (S1.out.set 1 (w1A x))
  have HE : Hid (((w1A x : Nat) : Int) = (x.ui : Int) + (x.gi : Int) * 65536) := Lib.hid (by unfold w1A; omega)
  go_upto_region 4 with (fail)
  rw [HE.out] at S2
  obtain ⟨W2, hW2⟩ : ∃ W2, W2 = W1.setCell ⟨w.heap.size + 1, 1, none⟩ (.int .u64 ((x.ui : Int) + (x.gi : Int) * 65536)) := ⟨_, rfl⟩
  rw [← hW2] at S2 ⊢
  clear hW2 y1 y2 hc1 hf1 S1 HE
  go_wp2_with (refine wpList_load_part rfl 25 (.tmp 37) rfl w.heap.size 3 rfl (x.ac.c p.p).toList _ S2.out.bt.ac Tryz.underlying25 rfl acl_size (x.ac.v p.p) rfl ?_)
  refine (head_calls x.ac p.p W2 HX.out.ac).mono ?_
  rintro e w0h ⟨rfl, hb⟩
  have T0 := Lib.hid (S2.out.on hb)
  have hc : w0h.cell? ⟨w.heap.size + 1, 2, none⟩ = some (.int .u64 0) := T0.out.bk.cell 2 (by simp)
  have hf := T0.out.bk.frozen 2
  have S4 := Lib.hid (T0.out.set 2 (hdW x.ac))
  clear hb S2
  go_upto_region 5 with (fail)
  obtain ⟨W4, hW4⟩ : ∃ W4, W4 = w0h.setCell ⟨w.heap.size + 1, 2, none⟩ (.int .u64 (hdW x.ac : Nat)) := ⟨_, rfl⟩
  rw [← hW4] at S4 ⊢
  clear hW4 hc hf T0
  go_wp2_with (refine wpList_load_part rfl 25 (.tmp 42) rfl w.heap.size 11 rfl (x.df.c p.q).toList _ S4.out.bt.df Tryz.underlying25 rfl acl_size (x.df.v p.q) rfl ?_)
  refine (head_calls x.df p.q W4 HX.out.df).mono ?_
  rintro e w1h ⟨rfl, hb⟩
  have T1 := Lib.hid (S4.out.on hb)
  have hc : w1h.cell? ⟨w.heap.size + 1, 3, none⟩ = some (.int .u64 0) := T1.out.bk.cell 3 (by simp)
  have hf := T1.out.bk.frozen 3
  have S6 := Lib.hid (T1.out.set 3 (hdW x.df))
  clear hb S4
  go_upto_region 6 with (fail)
  obtain ⟨W6, hW6⟩ : ∃ W6, W6 = w1h.setCell ⟨w.heap.size + 1, 3, none⟩ (.int .u64 (hdW x.df : Nat)) := ⟨_, rfl⟩
  rw [← hW6] at S6 ⊢
  clear hW6 hc hf T1
  have y := S6.out.bt.c6
  have hrow := HL.out.ac.us
  go_wp2_with (fail)
  refine (lay_calls (w.heap.size + 1) (base4 x) 4 x.ac.us p.p.A p.p.c 31 4 W6 rfl S6.out.bk rfl (by decide) rfl rfl HX.out.ac.ul HX.out.ac.us (hrow.below S6.out.be) (fun ad e h0 hh => by
    obtain ⟨ad', e', hlt, _⟩ := hrow (by rw [nv_length]; omega)
    rw [e] at e'; injection e' with e'; subst e'
    omega)).mono ?_
  rintro e wl0 ⟨rfl, hBl, hOl⟩
  have L0 : Hid (Est w wl0 x p (base6 x)) := Lib.hid (S6.out.turn hOl hBl)
  clear hBl hOl y hrow S6
  have y := L0.out.bt.c7
  have hrow := HL.out.ac.gs
  go_wp2_with (fail)
  refine (lay_calls (w.heap.size + 1) (base6 x) 6 x.ac.gs p.p.B p.p.d 31 6 wl0 rfl L0.out.bk rfl (by decide) rfl rfl HX.out.ac.gl HX.out.ac.gs (hrow.below L0.out.be) (fun ad e h0 hh => by
    obtain ⟨ad', e', hlt, _⟩ := hrow (by rw [nv_length]; omega)
    rw [e] at e'; injection e' with e'; subst e'
    omega)).mono ?_
  rintro e wl1 ⟨rfl, hBl, hOl⟩
  have L1 : Hid (Est w wl1 x p (base8 x)) := Lib.hid (L0.out.turn hOl hBl)
  clear hBl hOl y hrow L0
  have y := L1.out.bt.c14
  have hrow := HL.out.df.us
  go_wp2_with (fail)
  refine (lay_calls (w.heap.size + 1) (base8 x) 8 x.df.us p.q.A p.q.c 31 8 wl1 rfl L1.out.bk rfl (by decide) rfl rfl HX.out.df.ul HX.out.df.us (hrow.below L1.out.be) (fun ad e h0 hh => by
    obtain ⟨ad', e', hlt, _⟩ := hrow (by rw [nv_length]; omega)
    rw [e] at e'; injection e' with e'; subst e'
    omega)).mono ?_
  rintro e wl2 ⟨rfl, hBl, hOl⟩
  have L2 : Hid (Est w wl2 x p (base10 x)) := Lib.hid (L1.out.turn hOl hBl)
  clear hBl hOl y hrow L1
  have y := L2.out.bt.c15
  have hrow := HL.out.df.gs
  go_wp2_with (fail)
  refine (lay_calls (w.heap.size + 1) (base10 x) 10 x.df.gs p.q.B p.q.d 31 10 wl2 rfl L2.out.bk rfl (by decide) rfl rfl HX.out.df.gl HX.out.df.gs (hrow.below L2.out.be) (fun ad e h0 hh => by
    obtain ⟨ad', e', hlt, _⟩ := hrow (by rw [nv_length]; omega)
    rw [e] at e'; injection e' with e'; subst e'
    omega)).mono ?_
  rintro e wl3 ⟨rfl, hBl, hOl⟩
  have L3 : Hid (Est w wl3 x p (base12 x)) := Lib.hid (L2.out.turn hOl hBl)
  clear hBl hOl y hrow L2
  go_wp2_with (fail)
  obtain ⟨n, hn⟩ : ∃ n, x.xs.length = n := ⟨_, rfl⟩
  have HN := Lib.hid hn
  rw [hn] at i4
  clear hn
  go_loopw [4] (fun i wr => ∃ k : Nat, i = .int .i64 k ∧ k ≤ n ∧ Hid (Est w wr x p (xsS (base12 x) x.xs k))) (fun i _ => n - (intOf i).toNat)
  case atStart => exact ⟨0, rfl, by omega, L3⟩
  case round =>
    obtain ⟨k, rfl, hk, hS⟩ := hrel
    have y18 := hS.out.bt.c18
    rw [HN.out] at y18
    by_cases hkn : k < n
    · obtain ⟨b, ob, hA, hlt, hcell⟩ := (HL.out.xs.below hS.out.be).xt (by rw [HN.out]; omega)
      obtain ⟨r, hp⟩ : ∃ r, x.xs[k]? = some r := ⟨_, List.getElem?_eq_getElem (by rw [HN.out]; exact hkn)⟩
      obtain ⟨e1, e2⟩ := hcell k r hp
      obtain ⟨j1, j2⟩ := HX.out.xs k r hp
      have j0 := HK0.out k r hp
      rw [hA] at y18
      have HW0 : Hid (xaW x.xs k 0 = pwd r.key 0) := Lib.hid (by unfold xaW; rw [hp]; rfl)
      have HW1 : Hid (xaW x.xs k 1 = r.key.size + 256 * r.val.size) := Lib.hid (by unfold xaW; rw [hp]; rfl)
      have HW2 : Hid (xaW x.xs k 2 = pwd r.val 0) := Lib.hid (by unfold xaW; rw [hp]; rfl)
      have HW3 : Hid (xaW x.xs k 3 = pwd r.val 1) := Lib.hid (by unfold xaW; rw [hp]; rfl)
      have hlen : (xsS (base12 x) x.xs k).length = 31 := by rw [xsS_length, base12_len]
      have hzero := xsS_zero (base12_zero x) (xs := x.xs) k
      have HZ := Lib.hid hzero
      have HLEN := Lib.hid hlen
      obtain ⟨L0, hL0⟩ : ∃ L0, xsS (base12 x) x.xs k = L0 := ⟨_, rfl⟩
      have HSUC : Hid (xsS (base12 x) x.xs (k + 1) = (((L0.set (12 + 4 * k) (pwd r.key 0)).set (13 + 4 * k) (r.key.size + 256 * r.val.size)).set (14 + 4 * k) (pwd r.val 0)).set (15 + 4 * k) (pwd r.val 1)) := Lib.hid (by rw [← hL0, ← HW0.out, ← HW1.out, ← HW2.out, ← HW3.out]; rfl)
      rw [hL0] at hS HZ HLEN
      clear hlen hzero hcell hp HW0 HW1 HW2 HW3 hL0 hA
      obtain ⟨key, val⟩ := r
      simp only at e1 e2 j1 j2 j0 HSUC
      go_upto_region 14 with (fail)
      obtain ⟨V2, hV2⟩ : ∃ V2, V2 = wr.alloc (.cells #[.string key, .string val] 52) := ⟨_, rfl⟩
      rw [← hV2]
      obtain ⟨gx, hgx⟩ : ∃ gx, gx = wr.heap.size := ⟨_, rfl⟩
      rw [← hgx]
      have hbe : Below wr.heap.size wr V2 := by rw [hV2]; exact (Below.refl _ _).alloc (Nat.le_refl _) _
      have HX0 : Hid (V2.heap[gx]? = some (.cells #[.string key, .string val] 52 (0, 0))) := Lib.hid (by rw [hV2, hgx]; exact heap_alloc_new _ _)
      have A0 := Lib.hid (hS.out.on hbe)
      have hgne : gx ≠ w.heap.size + 1 := by have := hS.out.bk.lt; omega
      clear hV2 hgx hbe e1 e2 y18
      obtain ⟨q0, q1⟩ := two_cells HX0.out
      obtain ⟨pl, pw⟩ := pack_one j0 j1
      go_wp2_with (fail)
      refine (rpack_calls key V2 (by omega)).mono ?_
      rintro e v3 ⟨Ak, ck, rfl, hrk, hfk, hbk⟩
      have A1 := Lib.hid (A0.out.on hbk)
      have hX1 := cells_on HX0.out hbk
      have HX1 := Lib.hid hX1
      obtain ⟨adk, rfl, _, hck⟩ := hrk (by rw [pl]; decide)
      obtain ⟨gk, rfl, _⟩ := hfk _ rfl
      have hck0 := hck 0 (by rw [pl]; decide)
      rw [pw, add_zero_block] at hck0
      rw [pl]
      have hcw : v3.cell? ⟨w.heap.size + 1, 12 + 4 * k, none⟩ = some (.int .u64 0) := by
        have h := A1.out.bk.cell (12 + 4 * k) (by rw [HLEN.out]; omega)
        rw [HZ.out (12 + 4 * k) (by omega)] at h
        exact h
      have hf := A1.out.bk.frozen (12 + 4 * k)
      have A2 := Lib.hid (A1.out.set (12 + 4 * k) (pwd key 0))
      have HX2 := Lib.hid (cells_set HX1.out (p := ⟨w.heap.size + 1, 12 + 4 * k, none⟩) (.int .u64 (pwd key 0 : Nat)) hgne)
      clear hbk hrk hfk hck A0 HX0 hX1 A1 HX1 pl pw q0 q1
      go_upto_region 15 with (fail)
      have hcw2 : (v3.setCell ⟨w.heap.size + 1, 12 + 4 * k, none⟩ (.int .u64 (pwd key 0 : Nat))).cell? ⟨w.heap.size + 1, 13 + 4 * k, none⟩ = some (.int .u64 0) := by
        have h := A2.out.bk.cell (13 + 4 * k) (by rw [List.length_set, HLEN.out]; omega)
        rw [getD_set, if_neg (by omega), HZ.out (13 + 4 * k) (by omega)] at h
        exact h
      obtain ⟨v4, hv4⟩ : ∃ v4, v4 = v3.setCell ⟨w.heap.size + 1, 12 + 4 * k, none⟩ (.int .u64 (pwd key 0 : Nat)) := ⟨_, rfl⟩
      rw [← hv4] at A2 HX2 hcw2 ⊢
      clear hv4 hcw hf hck0
      have hf := A2.out.bk.frozen (13 + 4 * k)
      obtain ⟨q0, q1⟩ := two_cells HX2.out
      have A3 := Lib.hid (A2.out.set (13 + 4 * k) (key.size + 256 * val.size))
      have HX3 := Lib.hid (cells_set HX2.out (p := ⟨w.heap.size + 1, 13 + 4 * k, none⟩) (.int .u64 (key.size + 256 * val.size : Nat)) hgne)
      have HE : Hid (((key.size + 256 * val.size : Nat) : Int) = (key.size : Int) + (val.size : Int) * 256) := Lib.hid (by omega)
      go_upto_region 16 with (fail)
      rw [HE.out] at A3 HX3
      obtain ⟨v5, hv5⟩ : ∃ v5, v5 = v4.setCell ⟨w.heap.size + 1, 13 + 4 * k, none⟩ (.int .u64 ((key.size : Int) + (val.size : Int) * 256)) := ⟨_, rfl⟩
      rw [← hv5] at A3 HX3 ⊢
      clear hv5 hcw2 hf A2 HX2 q0 q1
      obtain ⟨q0, q1⟩ := two_cells HX3.out
      go_wp2_with (fail)
      refine (rpack_calls val v5 (by omega)).mono ?_
      rintro e v6 ⟨Av, cv, rfl, hrv, hfv, hbv⟩
      have A4 := Lib.hid (A3.out.on hbv)
      obtain ⟨m, hm⟩ : ∃ m, (packL val.data.toList).length = m := ⟨_, rfl⟩
      have hm2 : m ≤ 2 := by rw [← hm, packL_len]; unfold wn; omega
      have hrow : ∀ i, i < m → ∃ gv, Av = some ⟨gv, 0, none⟩ ∧ gv < v6.heap.size ∧ v5.heap.size ≤ gv ∧ v6.cell? ⟨gv, i, none⟩ = some (.int .u64 (pwd val i : Nat)) := fun i hi => by
        obtain ⟨ad, e, hl, hc⟩ := hrv (by omega)
        obtain ⟨gv, e2, hg⟩ := hfv _ e
        subst e2
        have h := hc i (by omega)
        rw [add_zero_block] at h
        exact ⟨gv, e, hl, hg, h⟩
      have hpz : ∀ i, m ≤ i → pwd val i = 0 := fun i hi => by
        unfold pwd
        rw [List.getD_eq_getElem?_getD, List.getElem?_eq_none (by omega)]; rfl
      have hv5s : w.heap.size + 1 < v5.heap.size := A3.out.bk.lt
      obtain ⟨L2, hL2⟩ : ∃ L2, (L0.set (12 + 4 * k) (pwd key 0)).set (13 + 4 * k) (key.size + 256 * val.size) = L2 := ⟨_, rfl⟩
      have hL2l : L2.length = 31 := by rw [← hL2, List.length_set, List.length_set, HLEN.out]
      have hz14 : L2.getD (14 + 4 * k) 0 = 0 := by rw [← hL2, getD_set, if_neg (by omega), getD_set, if_neg (by omega)]; exact HZ.out _ (by omega)
      have hz15 : L2.getD (15 + 4 * k) 0 = 0 := by rw [← hL2, getD_set, if_neg (by omega), getD_set, if_neg (by omega)]; exact HZ.out _ (by omega)
      rw [hL2] at HSUC
      have A5 : Hid (Est w v6 x p L2) := Lib.hid (by have h := A4.out; rw [hL2] at h; exact h)
      rw [hm]
      have HROW := Lib.hid hrow
      have HPZ := Lib.hid hpz
      have HZ14 := Lib.hid hz14
      have HZ15 := Lib.hid hz15
      have HL2 := Lib.hid hL2l
      clear hbv hrv hfv hrow hpz hz14 hz15 hL2l hL2 A3 HX3 A4 hm q0 q1 HE
      go_wp2_with (fail)
      go_loopw [7] (fun i wq => ∃ j : Nat, i = .int .i64 j ∧ j ≤ m ∧ Hid (Est w wq x p (vS L2 (14 + 4 * k) val j)) ∧ Hid (Only (fun q => q = w.heap.size + 1) v6 wq)) (fun i _ => m - (intOf i).toNat)
      case atStart => exact ⟨0, rfl, by omega, A5, Lib.hid (Only.refl _ _)⟩
      case round =>
        obtain ⟨j, rfl, hj, hQ, hOQ⟩ := hrel
        by_cases hjm : j < m
        · obtain ⟨gv, rfl, hgv, hgv5, hcv⟩ := HROW.out j hjm
          have hcv2 := hOQ.out.block gv hgv (by omega)
          have hcv3 := (World.cell?_of_block (a := ⟨gv, j, none⟩) hcv2).trans hcv
          have hcw := hQ.out.bk.cell (14 + 4 * k + j) (by rw [vS_length, HL2.out]; omega)
          rw [vS_at (by omega) HZ14.out (by rw [show 14 + 4 * k + 1 = 15 + 4 * k by omega]; exact HZ15.out)] at hcw
          have hf := hQ.out.bk.frozen (14 + 4 * k + j)
          have B1 := hQ.out.set (14 + 4 * k + j) (pwd val j)
          rw [vS_step (by omega)] at B1
          have HB1 := Lib.hid B1
          have HO1 := Lib.hid (hOQ.out.setCell (p := ⟨w.heap.size + 1, 14 + 4 * k + j, none⟩) (.inl rfl) (.int .u64 (pwd val j : Nat)))
          clear hcv hcv2 B1
          generalize pwd val j = pv at *
          go_wp2_with (fail)
          go_roundw
          case rel => exact ⟨j + 1, by go_num, by omega, HB1, HO1⟩
          case measure => simp [intOf]; omega
        · obtain rfl : j = m := by omega
          have HF : Hid (Est w _ x p (xsS (base12 x) x.xs (k + 1))) := Lib.hid (by
            have h := hQ.out
            rw [vS_end hm2 HZ14.out (by rw [show 14 + 4 * k + 1 = 15 + 4 * k by omega]; exact HZ15.out) HPZ.out, show 14 + 4 * k + 1 = 15 + 4 * k by omega, ← HSUC.out] at h
            exact h)
          go_wp2_with (fail)
          go_roundw
          case rel => exact ⟨k + 1, by go_num, by omega, HF⟩
          case measure => simp [intOf]; omega
    · obtain rfl : k = n := by omega
      have HF : Hid (Blk 49 _ (w.heap.size + 1) (atL x)) := Lib.hid (by
        have h := hS.out.bk
        rw [← HN.out, xsS_end (base12_zero x) HX.out.xl, base_atL] at h
        exact h)
      have HBE := Lib.hid hS.out.be
      have cS := rseal_calls (some ⟨w.heap.size + 1, 0, none⟩) (atL x) 31 _ HF.out.row (atL_wd HX.out) (by rw [atL_len]; decide)
      rw [sealed_len, atL_len] at cS
      have HCS := Lib.hid cS
      clear cS
      go_wp2_with (fail)
      refine HCS.out.mono ?_
      rintro e wz ⟨Az, cz, rfl, hrz, hfz, hbz, hcz⟩
      have HRZ := Lib.hid hrz
      have HBZ := Lib.hid (HBE.out.trans (hbz.mono HBE.out.size))
      clear hrz hfz hbz
      go_wp2_with (fail)
      go_ret
      exact ⟨Az, cz, rfl, HRZ.out, HBZ.out⟩
end Go.Proofs.YtlejmpinfbmccaaGreatDoor
