/- Which lists may be. -/
import Derived.Test.YtejhodjbgablaaaAc2
import Derived.Lib.QuietBelow
set_option linter.unusedSimpArgs false
set_option linter.unusedVariables false
namespace Go.Proofs.Ytejhodjbgablaaa
open Go.RowKit Go.Sort Go.Lib
abbrev nmv (p : Nm) : Value := .agg #[.int .u16 (p.id : Nat), .int .u8 (p.pm : Nat)]
theorem pm_calls (i m : Nat) (w : World) : Calls Try.prog 60 #[.agg #[.int .u16 (i : Nat), .int .u8 (m : Nat)]] w fun e w' => e = .returned (.bool (decide ((m : Int) ≤ 7))) ∧ Below w.heap.size w w' := by
  go_enter Try.func60, Try.ntmps60
  go_wp2_with (fail)
  go_ret
  exact ⟨rfl, (Below.refl _ _).alloc (Nat.le_refl _) _⟩
theorem id_calls (i m : Nat) (w : World) : Calls Try.prog 61 #[.agg #[.int .u16 (i : Nat), .int .u8 (m : Nat)]] w fun e w' => e = .returned (.int .u16 (i : Nat)) ∧ Below w.heap.size w w' := by
  go_enter Try.func61, Try.ntmps61
  go_wp2_with (fail)
  go_ret
  exact ⟨rfl, (Below.refl _ _).alloc (Nat.le_refl _) _⟩
theorem two_cells {w0 : World} {B : Nat} {x y : Value} {t : TypeId} (hw : w0.heap[B]? = some (.cells #[x, y] t (0, 0))) :
    w0.cell? ⟨B, 0, none⟩ = some x ∧ w0.cell? ⟨B, 1, none⟩ = some y :=
  ⟨cell_of_row w0 B 0 _ t (0, 0) hw, cell_of_row w0 B 1 _ t (0, 0) hw⟩
abbrev mayF : Value := .func (.func 60) #[] #[]
abbrev idF : Value := .func (.func 61) #[] #[]
theorem below_alloc1 {w V : World} {o : Obj} (h : Below w.heap.size w V) : Below w.heap.size w (V.alloc o) := h.alloc h.size o
set_option maxRecDepth 100000 in
set_option maxHeartbeats 4000000 in
theorem fits_calls (A : Option Addr) (L : List Nm) (c : Nat) (w : World) (hc : Cel w A (nv L)) :
    Calls Try.prog 59 #[.slice A L.length c, .int .i64 4, mayF, idF] w fun e w' => e = .returned (.bool (namedB L)) ∧ Below w.heap.size w w' := by
  obtain ⟨n, hn⟩ : ∃ n, L.length = n := ⟨_, rfl⟩
  have HN := Lib.hid hn
  rw [hn]
  clear hn
  by_cases h4 : n ≤ 4
  case neg =>
    have HV := Lib.hid (namedB_long (L := L) (by have := HN.out; omega))
    have h4' : (4 : Int) < (n : Int) := by omega
    go_enter Try.func59, Try.ntmps59
    go_wp2_with (fail)
    go_ret
    exact ⟨by rw [HV.out]; rfl, Below.refl _ _⟩
  case pos =>
  have h4' : ¬ (4 : Int) < (n : Int) := by omega
  go_enter Try.func59, Try.ntmps59
  go_wp2_with (fail)
  go_loopw [17] (fun i wr => ∃ k : Nat, i = .int .i64 k ∧ k ≤ n ∧ Hid (Rise L k) ∧ Below w.heap.size w wr) (fun i _ => n - (intOf i).toNat)
  case atStart => exact ⟨0, rfl, by omega, Lib.hid (Rise.zero L), Below.refl _ _⟩
  case round =>
    obtain ⟨k, rfl, hk, hR, hbw⟩ := hrel
    by_cases hkn : k < n
    · obtain ⟨b, o, rfl, hlt, hcell⟩ := (hc.below hbw).nm (by rw [HN.out]; omega)
      obtain ⟨p, hp⟩ : ∃ p, L[k]? = some p := ⟨_, List.getElem?_eq_getElem (by rw [HN.out]; exact hkn)⟩
      obtain ⟨e1, e2⟩ := hcell k p hp
      have HP := Lib.hid hp
      have HBW := Lib.hid hbw
      clear hp hbw
      generalize hpi : p.id = pi at *
      generalize hpp : p.pm = pp at *
      have HPI := Lib.hid hpi
      have HPP := Lib.hid hpp
      clear hpi hpp
      by_cases h7 : pp ≤ 7
      · have h7' : decide ((pp : Int) ≤ 7) = true := decide_eq_true (by omega)
        cases k with
        | zero =>
          have HR2 := Lib.hid (Rise.first HP.out (by have := HPP.out; omega))
          simp only [Nat.zero_mul, Nat.add_zero] at e1 e2
          clear hcell
          go_wp2_with (fail)
          obtain ⟨V, hV⟩ : ∃ V, V = wr.alloc (Obj.cells #[.int .u16 (pi : Nat), .int .u8 (pp : Nat)] 43) := ⟨_, rfl⟩
          rw [← hV]
          have hAB : Below wr.heap.size wr V := by rw [hV]; exact (Below.refl _ _).alloc (Nat.le_refl _) _
          have HBV := Lib.hid (HBW.out.trans (hAB.mono HBW.out.size))
          obtain ⟨q0, q1⟩ := two_cells (w0 := V) (B := wr.heap.size) (x := .int .u16 (pi : Nat)) (y := .int .u8 (pp : Nat)) (t := 43) (by rw [hV]; exact heap_alloc_new _ _)
          have k0 := cell_regrown q0
          have k1 := cell_regrown q1
          have cM : ∀ dq os, Calls Try.prog 60 #[.agg #[.int .u16 (pi : Nat), .int .u8 (pp : Nat)]] (grow (redrawn V dq) os) fun e w'' => e = .returned (.bool true) ∧ ∃ p : Regrown, w'' = grow (redrawn V p.d) p.os := fun dq os => Calls.regrown_of (h7' ▸ pm_calls pi pp _)
          clear hV hAB e1 e2 q0 q1
          refine wp_region_quiet_below (by kernel_rfl) (by kernel_rfl) ?_
          repeat (first | go_big_quiet_step (first | exact cM _ _) | quiet_step (first | exact cM _ _))
          refine wpQuiet_nil ?_
          intro _ hw'
          obtain ⟨⟨dq, osq⟩, hw''⟩ := hw'
          subst hw''
          go_wp2_with (fail)
          go_roundw
          case rel => exact ⟨1, by go_num, by omega, HR2, HBV.out.trans ((below_regrown V dq osq).mono HBV.out.size)⟩
          case measure => simp [intOf]; omega
        | succ k =>
          obtain ⟨r, hr⟩ : ∃ r, L[k]? = some r := ⟨_, List.getElem?_eq_getElem (by rw [HN.out]; omega)⟩
          obtain ⟨e3, e4⟩ := hcell k r hr
          have HR1 := Lib.hid hr
          generalize hri : r.id = ri at *
          generalize hrp : r.pm = rp at *
          have HRI := Lib.hid hri
          clear hcell hr hri hrp
          have h0 : decide ((0 : Int) < ((k + 1 : Nat) : Int)) = true := by rw [decide_eq_true_eq]; omega
          have h0' : decide ((0 : Int) < (k : Int) + 1) = true := by rw [decide_eq_true_eq]; omega
          have hk1 : (k : Int) + 1 - 1 = (k : Int) := by omega
          go_wp2_with (fail)
          obtain ⟨V, hV⟩ : ∃ V, V = wr.alloc (Obj.cells #[.int .u16 (pi : Nat), .int .u8 (pp : Nat)] 43) := ⟨_, rfl⟩
          rw [← hV]
          have hAB : Below wr.heap.size wr V := by rw [hV]; exact (Below.refl _ _).alloc (Nat.le_refl _) _
          have HBV := Lib.hid (HBW.out.trans (hAB.mono HBW.out.size))
          obtain ⟨q0, q1⟩ := two_cells (w0 := V) (B := wr.heap.size) (x := .int .u16 (pi : Nat)) (y := .int .u8 (pp : Nat)) (t := 43) (by rw [hV]; exact heap_alloc_new _ _)
          have k0 := cell_regrown q0
          have k1 := cell_regrown q1
          have cM : ∀ dq os, Calls Try.prog 60 #[.agg #[.int .u16 (pi : Nat), .int .u8 (pp : Nat)]] (grow (redrawn V dq) os) fun e w'' => e = .returned (.bool true) ∧ ∃ p : Regrown, w'' = grow (redrawn V p.d) p.os := fun dq os => Calls.regrown_of (h7' ▸ pm_calls pi pp _)
          have cI : ∀ dq os, Calls Try.prog 61 #[.agg #[.int .u16 (pi : Nat), .int .u8 (pp : Nat)]] (grow (redrawn V dq) os) fun e w'' => e = .returned (.int .u16 (pi : Nat)) ∧ ∃ p : Regrown, w'' = grow (redrawn V p.d) p.os := fun dq os => Calls.regrown_of (id_calls pi pp _)
          have cJ : ∀ dq os, Calls Try.prog 61 #[.agg #[.int .u16 (ri : Nat), .int .u8 (rp : Nat)]] (grow (redrawn V dq) os) fun e w'' => e = .returned (.int .u16 (ri : Nat)) ∧ ∃ p : Regrown, w'' = grow (redrawn V p.d) p.os := fun dq os => Calls.regrown_of (id_calls ri rp _)
          have g3 := (hAB.cell (p := ⟨b, o + k * 2, none⟩) hlt).trans e3
          have g4 := (hAB.cell (p := ⟨b, o + k * 2 + 1, none⟩) hlt).trans e4
          have k2 := cell_regrown g3
          have k3 := cell_regrown g4
          clear hV hAB e1 e2 e3 e4 g3 g4 q0 q1
          by_cases hid : ri < pi
          · have hid' : decide ((pi : Int) ≤ (ri : Int)) = false := by rw [decide_eq_false_iff_not]; omega
            have HR2 := Lib.hid (hR.out.more HR1.out HP.out (by have := HPP.out; omega) (by have := HPI.out; have := HRI.out; omega))
            refine wp_region_quiet_below (by kernel_rfl) (by kernel_rfl) ?_
            repeat (first | go_big_quiet_step (first | exact cM _ _ | exact cI _ _ | exact cJ _ _) | quiet_step (first | exact cM _ _ | exact cI _ _ | exact cJ _ _))
            refine wpQuiet_nil ?_
            intro _ hw'
            obtain ⟨⟨dq, osq⟩, hw''⟩ := hw'
            subst hw''
            go_wp2_with (fail)
            go_roundw
            case rel => exact ⟨k + 2, by go_num, by omega, HR2, HBV.out.trans ((below_regrown V dq osq).mono HBV.out.size)⟩
            case measure => simp [intOf]; omega
          · have hid' : decide ((pi : Int) ≤ (ri : Int)) = true := by rw [decide_eq_true_eq]; omega
            have HV := Lib.hid (namedB_id HR1.out HP.out (by have := HPI.out; have := HRI.out; omega))
            refine wp_region_quiet_below (by kernel_rfl) (by kernel_rfl) ?_
            repeat (first | go_big_quiet_step (first | exact cM _ _ | exact cI _ _ | exact cJ _ _) | quiet_step (first | exact cM _ _ | exact cI _ _ | exact cJ _ _))
            refine wpQuiet_nil ?_
            intro _ hw'
            obtain ⟨⟨dq, osq⟩, hw''⟩ := hw'
            subst hw''
            go_wp2_with (fail)
            go_ret
            exact ⟨by rw [HV.out]; rfl, HBV.out.trans ((below_regrown V dq osq).mono HBV.out.size)⟩
      · have h7' : decide ((pp : Int) ≤ 7) = false := decide_eq_false (by omega)
        have HV := Lib.hid (namedB_pm HP.out (by have := HPP.out; omega))
        cases k with
        | zero =>
          simp only [Nat.zero_mul, Nat.add_zero] at e1 e2
          clear hcell
          go_wp2_with (fail)
          obtain ⟨V, hV⟩ : ∃ V, V = wr.alloc (Obj.cells #[.int .u16 (pi : Nat), .int .u8 (pp : Nat)] 43) := ⟨_, rfl⟩
          rw [← hV]
          have hAB : Below wr.heap.size wr V := by rw [hV]; exact (Below.refl _ _).alloc (Nat.le_refl _) _
          have HBV := Lib.hid (HBW.out.trans (hAB.mono HBW.out.size))
          obtain ⟨q0, q1⟩ := two_cells (w0 := V) (B := wr.heap.size) (x := .int .u16 (pi : Nat)) (y := .int .u8 (pp : Nat)) (t := 43) (by rw [hV]; exact heap_alloc_new _ _)
          have k0 := cell_regrown q0
          have k1 := cell_regrown q1
          have cM : ∀ dq os, Calls Try.prog 60 #[.agg #[.int .u16 (pi : Nat), .int .u8 (pp : Nat)]] (grow (redrawn V dq) os) fun e w'' => e = .returned (.bool false) ∧ ∃ p : Regrown, w'' = grow (redrawn V p.d) p.os := fun dq os => Calls.regrown_of (h7' ▸ pm_calls pi pp _)
          clear hV hAB e1 e2 q0 q1
          refine wp_region_quiet_below (by kernel_rfl) (by kernel_rfl) ?_
          repeat (first | go_big_quiet_step (first | exact cM _ _) | quiet_step (first | exact cM _ _))
          refine wpQuiet_nil ?_
          intro _ hw'
          obtain ⟨⟨dq, osq⟩, hw''⟩ := hw'
          subst hw''
          go_wp2_with (fail)
          go_ret
          exact ⟨by rw [HV.out]; rfl, HBV.out.trans ((below_regrown V dq osq).mono HBV.out.size)⟩
        | succ k =>
          clear hcell
          go_wp2_with (fail)
          obtain ⟨V, hV⟩ : ∃ V, V = wr.alloc (Obj.cells #[.int .u16 (pi : Nat), .int .u8 (pp : Nat)] 43) := ⟨_, rfl⟩
          rw [← hV]
          have hAB : Below wr.heap.size wr V := by rw [hV]; exact (Below.refl _ _).alloc (Nat.le_refl _) _
          have HBV := Lib.hid (HBW.out.trans (hAB.mono HBW.out.size))
          obtain ⟨q0, q1⟩ := two_cells (w0 := V) (B := wr.heap.size) (x := .int .u16 (pi : Nat)) (y := .int .u8 (pp : Nat)) (t := 43) (by rw [hV]; exact heap_alloc_new _ _)
          have k0 := cell_regrown q0
          have k1 := cell_regrown q1
          have cM : ∀ dq os, Calls Try.prog 60 #[.agg #[.int .u16 (pi : Nat), .int .u8 (pp : Nat)]] (grow (redrawn V dq) os) fun e w'' => e = .returned (.bool false) ∧ ∃ p : Regrown, w'' = grow (redrawn V p.d) p.os := fun dq os => Calls.regrown_of (h7' ▸ pm_calls pi pp _)
          clear hV hAB e1 e2 q0 q1
          refine wp_region_quiet_below (by kernel_rfl) (by kernel_rfl) ?_
          repeat (first | go_big_quiet_step (first | exact cM _ _) | quiet_step (first | exact cM _ _))
          refine wpQuiet_nil ?_
          intro _ hw'
          obtain ⟨⟨dq, osq⟩, hw''⟩ := hw'
          subst hw''
          go_wp2_with (fail)
          go_ret
          exact ⟨by rw [HV.out]; rfl, HBV.out.trans ((below_regrown V dq osq).mono HBV.out.size)⟩
    · obtain rfl : k = n := by omega
      have HV : Hid (namedB L = true) := Lib.hid (namedB_yes (by have h := hR.out; rw [← HN.out] at h; exact h) (by rw [HN.out]; exact h4))
      go_wp2_with (fail)
      go_ret
      exact ⟨by rw [HV.out]; rfl, hbw⟩
end Go.Proofs.Ytejhodjbgablaaa
