/- Which rows of keys and values may be. -/
import Derived.Test.YtejhodjbgablaaaAc3
import Derived.Test.YtejhodjbgablaaaKey
set_option linter.unusedSimpArgs false
set_option linter.unusedVariables false
namespace Go.Proofs.Ytejhodjbgablaaa
open Go.RowKit Go.Sort Go.Lib
abbrev ltS (a b : ByteArray) : Bool := Op.bytesLess a.toList b.toList
/-- So far they may be. -/
structure XRise (L : List Xt) (k : Nat) : Prop where
  ky : ∀ j p, j < k → L[j]? = some p → keyB p.key = true
  vl : ∀ j p, j < k → L[j]? = some p → p.val.size ≤ 16
  up : ∀ j p q, j + 1 < k → L[j]? = some p → L[j + 1]? = some q → ltS p.key q.key = true
theorem XRise.zero (L : List Xt) : XRise L 0 := ⟨fun j p h => absurd h (by omega), fun j p h => absurd h (by omega), fun j p q h => absurd h (by omega)⟩
theorem XRise.first {L : List Xt} {p : Xt} (hp : L[0]? = some p) (h1 : keyB p.key = true) (h2 : p.val.size ≤ 16) : XRise L 1 :=
  ⟨fun j q hj hq => by
      obtain rfl : j = 0 := by omega
      rw [hp] at hq; cases hq; exact h1, fun j q hj hq => by
      obtain rfl : j = 0 := by omega
      rw [hp] at hq; cases hq; exact h2, fun j p q h => absurd h (by omega)⟩
theorem XRise.more {L : List Xt} {k : Nat} {p q : Xt} (h : XRise L (k + 1)) (hp : L[k]? = some p) (hq : L[k + 1]? = some q) (h1 : keyB q.key = true) (h2 : q.val.size ≤ 16) (hlt : ltS p.key q.key = true) : XRise L (k + 2) :=
  ⟨fun j r hj hr => by
      by_cases hh : j < k + 1
      · exact h.ky j r hh hr
      · obtain rfl : j = k + 1 := by omega
        rw [hq] at hr; cases hr; exact h1,
   fun j r hj hr => by
      by_cases hh : j < k + 1
      · exact h.vl j r hh hr
      · obtain rfl : j = k + 1 := by omega
        rw [hq] at hr; cases hr; exact h2,
   fun j r s hj hr hs => by
      by_cases hh : j + 1 < k + 1
      · exact h.up j r s hh hr hs
      · obtain rfl : j = k := by omega
        rw [hp] at hr; rw [hq] at hs; cases hr; cases hs; exact hlt⟩
def riseX (L : List Xt) : Bool := (L.all fun p => keyB p.key && decide (p.val.size ≤ 16)) && (List.range L.length).all fun j => match L[j]?, L[j + 1]? with
  | some p, some q => ltS p.key q.key
  | _, _ => true
theorem riseX_iff {L : List Xt} : riseX L = true ↔ XRise L L.length := by
  unfold riseX
  rw [Bool.and_eq_true, List.all_eq_true, List.all_eq_true]
  constructor
  · rintro ⟨h1, h2⟩
    have h3 : ∀ (j : Nat) (p : Xt), L[j]? = some p → keyB p.key = true ∧ p.val.size ≤ 16 := fun j p hp => by
      have := h1 p (List.mem_of_getElem? hp)
      rw [Bool.and_eq_true, decide_eq_true_eq] at this
      exact this
    refine ⟨fun j p hj hp => (h3 j p hp).1, fun j p hj hp => (h3 j p hp).2, fun j p q hj hp hq => ?_⟩
    have := h2 j (List.mem_range.2 (by omega))
    rw [hp, hq] at this
    exact this
  · intro h
    refine ⟨fun p hp => ?_, fun j hj => ?_⟩
    · obtain ⟨k, hk⟩ := List.getElem?_of_mem hp
      have hl := (List.getElem?_eq_some_iff.1 hk).1
      rw [Bool.and_eq_true, decide_eq_true_eq]
      exact ⟨h.ky k p hl hk, h.vl k p hl hk⟩
    · cases hp : L[j]? with
      | none => rfl
      | some p =>
        cases hq : L[j + 1]? with
        | none => rfl
        | some q => exact h.up j p q (List.getElem?_eq_some_iff.1 hq).1 hp hq
def xsB (L : List Xt) : Bool := riseX L && decide (L.length ≤ 4)
theorem xsB_iff {L : List Xt} : xsB L = true ↔ XRise L L.length ∧ L.length ≤ 4 := by
  unfold xsB
  rw [Bool.and_eq_true, riseX_iff, decide_eq_true_eq]
theorem xsB_no {L : List Xt} (h : ¬ (XRise L L.length ∧ L.length ≤ 4)) : xsB L = false := by
  cases hb : xsB L
  · rfl
  · exact absurd (xsB_iff.1 hb) h
theorem xsB_key {L : List Xt} {k : Nat} {p : Xt} (hp : L[k]? = some p) (h : keyB p.key = false) : xsB L = false :=
  xsB_no fun ⟨h1, _⟩ => by have := h1.ky k p (List.getElem?_eq_some_iff.1 hp).1 hp; rw [h] at this; cases this
theorem xsB_val {L : List Xt} {k : Nat} {p : Xt} (hp : L[k]? = some p) (h : 16 < p.val.size) : xsB L = false :=
  xsB_no fun ⟨h1, _⟩ => by have := h1.vl k p (List.getElem?_eq_some_iff.1 hp).1 hp; omega
theorem xsB_up {L : List Xt} {k : Nat} {p q : Xt} (hp : L[k]? = some p) (hq : L[k + 1]? = some q) (h : ltS p.key q.key = false) : xsB L = false :=
  xsB_no fun ⟨h1, _⟩ => by have := h1.up k p q (List.getElem?_eq_some_iff.1 hq).1 hp hq; rw [h] at this; cases this
theorem xsB_long {L : List Xt} (h : 4 < L.length) : xsB L = false := xsB_no fun ⟨_, h2⟩ => by omega
set_option maxRecDepth 100000 in
set_option maxHeartbeats 4000000 in
theorem validXattrs_calls (A : Option Addr) (L : List Xt) (c : Nat) (w : World) (hc : Cel w A (xv L)) :
    Calls Try.prog 50 #[.slice A L.length c] w fun e w' => e = .returned (.bool (xsB L)) ∧ Below w.heap.size w w' := by
  obtain ⟨n, hn⟩ : ∃ n, L.length = n := ⟨_, rfl⟩
  have HN := Lib.hid hn
  rw [hn]
  clear hn
  by_cases h4 : n ≤ 4
  case neg =>
    have HV := Lib.hid (xsB_long (L := L) (by have := HN.out; omega))
    have h4' : (4 : Int) < (n : Int) := by omega
    go_enter Try.func50, Try.ntmps50
    go_wp2_with (fail)
    go_ret
    exact ⟨by rw [HV.out]; rfl, Below.refl _ _⟩
  case pos =>
  have h4' : ¬ (4 : Int) < (n : Int) := by omega
  go_enter Try.func50, Try.ntmps50
  go_wp2_with (fail)
  go_loopw [10] (fun i wr => ∃ k : Nat, i = .int .i64 k ∧ k ≤ n ∧ Hid (XRise L k) ∧ Below w.heap.size w wr) (fun i _ => n - (intOf i).toNat)
  case atStart => exact ⟨0, rfl, by omega, Lib.hid (XRise.zero L), Below.refl _ _⟩
  case round =>
    obtain ⟨k, rfl, hk, hR, hbw⟩ := hrel
    by_cases hkn : k < n
    · obtain ⟨b, o, rfl, hlt, hcell⟩ := (hc.below hbw).xt (by rw [HN.out]; omega)
      obtain ⟨p, hp⟩ : ∃ p, L[k]? = some p := ⟨_, List.getElem?_eq_getElem (by rw [HN.out]; exact hkn)⟩
      obtain ⟨e1, e2⟩ := hcell k p hp
      have HP := Lib.hid hp
      have HBW := Lib.hid hbw
      clear hp hbw
      generalize hpi : p.key = pk at *
      generalize hpp : p.val = pv at *
      have HPI := Lib.hid hpi
      have HPP := Lib.hid hpp
      clear hpi hpp
      have hK := mayKey_calls pk
      cases hkb : keyB pk
      case false =>
        rw [hkb] at hK
        have HV := Lib.hid (xsB_key HP.out (by rw [HPI.out]; exact hkb))
        clear hkb hcell
        go_wp2_with (fail)
        obtain ⟨V, hV⟩ : ∃ V, V = wr.alloc (Obj.cells #[.string pk, .string pv] 58) := ⟨_, rfl⟩
        rw [← hV]
        have hAB : Below wr.heap.size wr V := by rw [hV]; exact (Below.refl _ _).alloc (Nat.le_refl _) _
        have HBV := Lib.hid (HBW.out.trans (hAB.mono HBW.out.size))
        obtain ⟨q0, q1⟩ := two_cells (w0 := V) (B := wr.heap.size) (x := .string pk) (y := .string pv) (t := 58) (by rw [hV]; exact heap_alloc_new _ _)
        have k0 := cell_regrown q0
        have k1 := cell_regrown q1
        have cM : ∀ dq os, Calls Try.prog 56 #[.string pk] (grow (redrawn V dq) os) fun e w'' => e = .returned (.bool false) ∧ ∃ p : Regrown, w'' = grow (redrawn V p.d) p.os := fun dq os => Calls.regrown_of ((hK _).mono fun e w1 h => ⟨h.1, h.2 ▸ Below.refl _ _⟩)
        clear hV hAB e1 e2 q0 q1
        refine wp_region_quiet_below (by kernel_rfl) (by kernel_rfl) ?_
        repeat (first | go_big_quiet_step (first | exact cM _ _) | quiet_step (first | exact cM _ _))
        refine wpQuiet_nil ?_
        intro _ hw'
        obtain ⟨⟨dq, osq⟩, hw''⟩ := hw'
        subst hw''
        go_wp2_with (fail)
        go_ret
        exact ⟨by rw [HV.out]; rfl, HBV.out.trans ((below_regrown V dq osq).mono HBV.out.size)⟩
      case true =>
      rw [hkb] at hK
      have HKB := Lib.hid hkb
      clear hkb
      by_cases h16 : pv.size ≤ 16
      case neg =>
        have HV := Lib.hid (xsB_val HP.out (by rw [HPP.out]; omega))
        have d1 : decide ((16 : Int) < (pv.size : Int)) = true := by rw [decide_eq_true_eq]; omega
        clear hcell h16
        go_wp2_with (fail)
        obtain ⟨V, hV⟩ : ∃ V, V = wr.alloc (Obj.cells #[.string pk, .string pv] 58) := ⟨_, rfl⟩
        rw [← hV]
        have hAB : Below wr.heap.size wr V := by rw [hV]; exact (Below.refl _ _).alloc (Nat.le_refl _) _
        have HBV := Lib.hid (HBW.out.trans (hAB.mono HBW.out.size))
        obtain ⟨q0, q1⟩ := two_cells (w0 := V) (B := wr.heap.size) (x := .string pk) (y := .string pv) (t := 58) (by rw [hV]; exact heap_alloc_new _ _)
        have k0 := cell_regrown q0
        have k1 := cell_regrown q1
        have cM : ∀ dq os, Calls Try.prog 56 #[.string pk] (grow (redrawn V dq) os) fun e w'' => e = .returned (.bool true) ∧ ∃ p : Regrown, w'' = grow (redrawn V p.d) p.os := fun dq os => Calls.regrown_of ((hK _).mono fun e w1 h => ⟨h.1, h.2 ▸ Below.refl _ _⟩)
        clear hV hAB e1 e2 q0 q1
        refine wp_region_quiet_below (by kernel_rfl) (by kernel_rfl) ?_
        repeat (first | go_big_quiet_step (first | exact cM _ _) | quiet_step (first | exact cM _ _))
        refine wpQuiet_nil ?_
        intro _ hw'
        obtain ⟨⟨dq, osq⟩, hw''⟩ := hw'
        subst hw''
        go_wp2_with (fail)
        go_ret
        exact ⟨by rw [HV.out]; rfl, HBV.out.trans ((below_regrown V dq osq).mono HBV.out.size)⟩
      case pos =>
      have d1 : decide ((16 : Int) < (pv.size : Int)) = false := by rw [decide_eq_false_iff_not]; omega
      cases k with
      | zero =>
        have HR2 := Lib.hid (XRise.first HP.out (by rw [HPI.out]; exact HKB.out) (by rw [HPP.out]; exact h16))
        simp only [Nat.zero_mul, Nat.add_zero] at e1 e2
        clear hcell h16
        go_wp2_with (fail)
        obtain ⟨V, hV⟩ : ∃ V, V = wr.alloc (Obj.cells #[.string pk, .string pv] 58) := ⟨_, rfl⟩
        rw [← hV]
        have hAB : Below wr.heap.size wr V := by rw [hV]; exact (Below.refl _ _).alloc (Nat.le_refl _) _
        have HBV := Lib.hid (HBW.out.trans (hAB.mono HBW.out.size))
        obtain ⟨q0, q1⟩ := two_cells (w0 := V) (B := wr.heap.size) (x := .string pk) (y := .string pv) (t := 58) (by rw [hV]; exact heap_alloc_new _ _)
        have k0 := cell_regrown q0
        have k1 := cell_regrown q1
        have cM : ∀ dq os, Calls Try.prog 56 #[.string pk] (grow (redrawn V dq) os) fun e w'' => e = .returned (.bool true) ∧ ∃ p : Regrown, w'' = grow (redrawn V p.d) p.os := fun dq os => Calls.regrown_of ((hK _).mono fun e w1 h => ⟨h.1, h.2 ▸ Below.refl _ _⟩)
        clear hV hAB e1 e2 q0 q1
        refine wp_region_quiet_below (by kernel_rfl) (by kernel_rfl) ?_
        repeat (first | go_big_quiet_step (first | exact cM _ _) | quiet_step (first | exact cM _ _))
        refine wpQuiet_nil ?_
        intro _ hw'
        obtain ⟨⟨dq, osq⟩, hw''⟩ := hw'
        subst hw''
        go_wp2_with (fail)
        go_roundw
        case rel => exact ⟨1, by go_num, by omega, HR2, HBV.out.trans ((below_regrown V dq osq).mono HBV.out.size)⟩
        case measure => simp [intOf]; omega
      | succ k =>
        obtain ⟨r, hr⟩ : ∃ r, L[k]? = some r := ⟨_, List.getElem?_eq_getElem (by rw [HN.out]; omega)⟩
        obtain ⟨e3, e4⟩ := hcell k r hr
        have HR1 := Lib.hid hr
        generalize hri : r.key = rk at *
        have HRI := Lib.hid hri
        have h0 : decide ((0 : Int) < ((k + 1 : Nat) : Int)) = true := by rw [decide_eq_true_eq]; omega
        have h0' : decide ((0 : Int) < (k : Int) + 1) = true := by rw [decide_eq_true_eq]; omega
        have hk1 : (k : Int) + 1 - 1 = (k : Int) := by omega
        clear hcell hr hri
        cases hlt2 : ltS rk pk
        case false =>
          have HV := Lib.hid (xsB_up HR1.out HP.out (by rw [HPI.out, HRI.out]; exact hlt2))
          clear h16
          go_wp2_with (fail)
          obtain ⟨V, hV⟩ : ∃ V, V = wr.alloc (Obj.cells #[.string pk, .string pv] 58) := ⟨_, rfl⟩
          rw [← hV]
          have hAB : Below wr.heap.size wr V := by rw [hV]; exact (Below.refl _ _).alloc (Nat.le_refl _) _
          have HBV := Lib.hid (HBW.out.trans (hAB.mono HBW.out.size))
          obtain ⟨q0, q1⟩ := two_cells (w0 := V) (B := wr.heap.size) (x := .string pk) (y := .string pv) (t := 58) (by rw [hV]; exact heap_alloc_new _ _)
          have g3 := (hAB.cell (p := ⟨b, o + k * 2, none⟩) hlt).trans e3
          clear e3 e4
          have k0 := cell_regrown q0
          have k1 := cell_regrown q1
          have k2 := cell_regrown g3
          clear g3
          have cM : ∀ dq os, Calls Try.prog 56 #[.string pk] (grow (redrawn V dq) os) fun e w'' => e = .returned (.bool true) ∧ ∃ p : Regrown, w'' = grow (redrawn V p.d) p.os := fun dq os => Calls.regrown_of ((hK _).mono fun e w1 h => ⟨h.1, h.2 ▸ Below.refl _ _⟩)
          clear hV hAB e1 e2 q0 q1
          refine wp_region_quiet_below (by kernel_rfl) (by kernel_rfl) ?_
          repeat (first | go_big_quiet_step (first | exact cM _ _) | quiet_step (first | exact cM _ _))
          refine wpQuiet_nil ?_
          intro _ hw'
          obtain ⟨⟨dq, osq⟩, hw''⟩ := hw'
          subst hw''
          go_wp2_with (fail)
          go_ret
          exact ⟨by rw [HV.out]; rfl, HBV.out.trans ((below_regrown V dq osq).mono HBV.out.size)⟩
        case true =>
          have HR2 := Lib.hid (hR.out.more HR1.out HP.out (by rw [HPI.out]; exact HKB.out) (by rw [HPP.out]; exact h16) (by rw [HPI.out, HRI.out]; exact hlt2))
          clear h16
          go_wp2_with (fail)
          obtain ⟨V, hV⟩ : ∃ V, V = wr.alloc (Obj.cells #[.string pk, .string pv] 58) := ⟨_, rfl⟩
          rw [← hV]
          have hAB : Below wr.heap.size wr V := by rw [hV]; exact (Below.refl _ _).alloc (Nat.le_refl _) _
          have HBV := Lib.hid (HBW.out.trans (hAB.mono HBW.out.size))
          obtain ⟨q0, q1⟩ := two_cells (w0 := V) (B := wr.heap.size) (x := .string pk) (y := .string pv) (t := 58) (by rw [hV]; exact heap_alloc_new _ _)
          have g3 := (hAB.cell (p := ⟨b, o + k * 2, none⟩) hlt).trans e3
          clear e3 e4
          have k0 := cell_regrown q0
          have k1 := cell_regrown q1
          have k2 := cell_regrown g3
          clear g3
          have cM : ∀ dq os, Calls Try.prog 56 #[.string pk] (grow (redrawn V dq) os) fun e w'' => e = .returned (.bool true) ∧ ∃ p : Regrown, w'' = grow (redrawn V p.d) p.os := fun dq os => Calls.regrown_of ((hK _).mono fun e w1 h => ⟨h.1, h.2 ▸ Below.refl _ _⟩)
          clear hV hAB e1 e2 q0 q1
          refine wp_region_quiet_below (by kernel_rfl) (by kernel_rfl) ?_
          repeat (first | go_big_quiet_step (first | exact cM _ _) | quiet_step (first | exact cM _ _))
          refine wpQuiet_nil ?_
          intro _ hw'
          obtain ⟨⟨dq, osq⟩, hw''⟩ := hw'
          subst hw''
          go_wp2_with (fail)
          go_roundw
          case rel => exact ⟨k + 2, by go_num, by omega, HR2, HBV.out.trans ((below_regrown V dq osq).mono HBV.out.size)⟩
          case measure => simp [intOf]; omega
    · obtain rfl : k = n := by omega
      have HV : Hid (xsB L = true) := Lib.hid (xsB_iff.2 (⟨by have h := hR.out; rw [← HN.out] at h; exact h, by rw [HN.out]; exact h4⟩))
      go_wp2_with (fail)
      go_ret
      exact ⟨by rw [HV.out]; rfl, hbw⟩
end Go.Proofs.Ytejhodjbgablaaa
