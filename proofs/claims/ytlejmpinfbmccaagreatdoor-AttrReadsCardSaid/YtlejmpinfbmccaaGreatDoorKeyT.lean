/- Keys that may be; rows of keys and values that may be. -/
import Derived.Test.YtlejmpinfbmccaaGreatDoorAv
import Derived.Lib.Bytealg
import Derived.RegionTactic
import Derived.BigRegion
import Derived.Lib.QuietBelow
import Derived.Test.YtlejmpinfbmccaaGreatDoorAcT
set_option linter.unusedSimpArgs false
set_option linter.unusedVariables false
set_option linter.unusedSimpArgs false
set_option linter.unusedVariables false
namespace Go.Proofs.YtlejmpinfbmccaaGreatDoor
open Go.RowKit Go.Lib
theorem indexByte_neg (l : List UInt8) (b : UInt8) : Lib.indexByte l b < 0 ↔ b ∉ l := by
  induction l with
  | nil => simp [Lib.indexByte]
  | cons x l ih =>
    have h := Lib.indexByte_ge l b
    unfold Lib.indexByte
    by_cases hx : x = b
    · subst hx; simp
    · have hx2 : (x == b) = false := by simpa using hx
      have hx3 : ¬ b = x := fun e => hx e.symm
      rw [hx2]
      simp only [List.mem_cons, hx3, false_or, ← ih, Bool.false_eq_true, if_false]
      split
      · rename_i h1
        have : Lib.indexByte l b = -1 := by simpa using h1
        omega
      · rename_i h1
        have : ¬ Lib.indexByte l b = -1 := by simpa using h1
        omega
set_option maxRecDepth 100000 in
theorem slite_calls (s : ByteArray) (c : Int) (w : World) :
    Calls Tryz.prog 106 #[.string s, .int .u8 c] w fun e w' => e = .returned (.int .i64 (Lib.indexByte s.data.toList c.toNat.toUInt8)) ∧ w = w' := by
  go_enter Tryz.func106, Tryz.ntmps106
  go_wp2
  rw [run_callFunc_extern Tryz.func113 (by kernel_rfl) (by kernel_rfl) (by kernel_rfl) (e := Extern.BytealgIndexByte.indexByte) (by kernel_rfl), Lib.run_indexByteString]
  simp only [Result.andThen]
  rw [Oper.upon_value]
  go_wp2
  go_ret
  exact ⟨rfl, rfl⟩
set_option maxRecDepth 100000 in
theorem sindex_calls (s : ByteArray) (c : Int) (w : World) :
    Calls Tryz.prog 87 #[.string s, .int .u8 c] w fun e w' => e = .returned (.int .i64 (Lib.indexByte s.data.toList c.toNat.toUInt8)) ∧ w = w' := by
  go_enter Tryz.func87, Tryz.ntmps87
  go_wp2_with (go_at_call 106; refine (slite_calls _ _ _).mono ?_; rintro e w' ⟨rfl, rfl⟩)
  go_ret
  exact ⟨rfl, rfl⟩
/-- May there be a value under that key? -/
def keyB (s : ByteArray) : Bool := decide (0 < s.size) && (decide (s.size ≤ 8) && decide (Lib.indexByte s.data.toList 0 < 0))
theorem keyB_iff {s : ByteArray} : keyB s = true ↔ 0 < s.size ∧ s.size ≤ 8 ∧ (0 : UInt8) ∉ s.data.toList := by
  unfold keyB
  rw [Bool.and_eq_true, Bool.and_eq_true, decide_eq_true_eq, decide_eq_true_eq, decide_eq_true_eq, indexByte_neg]
theorem keyB_no {s : ByteArray} (h : ¬ (0 < s.size ∧ s.size ≤ 8 ∧ (0 : UInt8) ∉ s.data.toList)) : keyB s = false := by
  cases hb : keyB s
  · rfl
  · exact absurd (keyB_iff.1 hb) h
set_option maxRecDepth 100000 in
theorem mayKey_calls (s : ByteArray) (w : World) :
    Calls Tryz.prog 54 #[.string s] w fun e w' => e = .returned (.bool (keyB s)) ∧ w = w' := by
  by_cases h0 : 0 < s.size
  case neg =>
    have HV := Lib.hid (keyB_no (s := s) (fun h => h0 h.1))
    have d0 : decide ((0 : Int) < (s.size : Int)) = false := by rw [decide_eq_false_iff_not]; omega
    go_enter Tryz.func54, Tryz.ntmps54
    go_wp2_with (fail)
    go_ret
    exact ⟨by rw [HV.out]; rfl, rfl⟩
  case pos =>
  by_cases h8 : s.size ≤ 8
  case neg =>
    have HV := Lib.hid (keyB_no (s := s) (fun h => h8 h.2.1))
    have d0 : decide ((0 : Int) < (s.size : Int)) = true := by rw [decide_eq_true_eq]; omega
    have d1 : decide ((s.size : Int) ≤ 8) = false := by rw [decide_eq_false_iff_not]; omega
    go_enter Tryz.func54, Tryz.ntmps54
    go_wp2_with (fail)
    go_ret
    exact ⟨by rw [HV.out]; rfl, rfl⟩
  case pos =>
  have HV : Hid (keyB s = decide (Lib.indexByte s.data.toList 0 < 0)) := Lib.hid (by unfold keyB; rw [decide_eq_true h0, decide_eq_true h8, Bool.true_and, Bool.true_and])
  have d0 : decide ((0 : Int) < (s.size : Int)) = true := by rw [decide_eq_true_eq]; omega
  have d1 : decide ((s.size : Int) ≤ 8) = true := by rw [decide_eq_true_eq]; omega
  have hS := sindex_calls s 0 w
  rw [show (0 : Int).toNat.toUInt8 = 0 from rfl] at hS
  obtain ⟨i, hi⟩ : ∃ i, Lib.indexByte s.data.toList 0 = i := ⟨_, rfl⟩
  rw [hi] at hS
  have HI := Lib.hid hi
  clear hi
  go_enter Tryz.func54, Tryz.ntmps54
  go_wp2_with (fail)
  refine hS.mono ?_
  rintro e w' ⟨rfl, rfl⟩
  go_wp2_with (fail)
  go_ret
  exact ⟨by rw [HV.out, HI.out]; rfl, rfl⟩
set_option maxRecDepth 100000 in
theorem rkey_calls (s : ByteArray) (w : World) (hs : s.size ≤ 1099511627776) :
    Calls Tryz.prog 29 #[.string s] w (Q (.bool (keyB s)) w) := by
  go_enter Tryz.func29, Tryz.ntmps29
  go_wp2_with (fail)
  go_loopw [3] (fun i wr => ∃ k : Nat, i = .int .i64 k ∧ k ≤ s.size ∧ Hid (∀ j (hj : j < s.size), j < k → s[j] ≠ 0) ∧ ∃ q, wr = w.drewN q) (fun i _ => s.size - (intOf i).toNat)
  case atStart => exact ⟨0, rfl, by omega, Lib.hid (fun j hj h => absurd h (by omega)), 0, rfl⟩
  case round =>
    obtain ⟨k, rfl, hk, hR, q, rfl⟩ := hrel
    by_cases hks : k < s.size
    · by_cases h0 : s[k] = 0
      · have HV : Hid (keyB s = false) := Lib.hid (keyB_no fun h => h.2.2 (by
          have hm : s.data.toList[k]? = some s[k] := by rw [Array.getElem?_toList]; exact Array.getElem?_eq_getElem hks
          rw [h0] at hm
          exact List.mem_of_getElem? hm))
        have h0' : s[k].toNat = 0 := by rw [h0]; rfl
        clear h0
        go_wp2_with (fail)
        go_ret
        rw [HV.out]
        exact Q.of
      · have h0' : ((s[k].toNat : Int) == 0) = false := by
          rw [beq_eq_false_iff_ne]
          intro e
          exact h0 (UInt8.toNat_inj.1 (by simpa using e))
        have hR' := Lib.hid (show ∀ j (hj : j < s.size), j < k + 1 → s[j] ≠ 0 from fun j hj h => by
          by_cases e : j = k
          · subst e; exact h0
          · exact hR.out j hj (by omega))
        clear h0
        go_wp2_with (fail)
        go_roundw
        case rel => exact ⟨k + 1, by go_num, by omega, hR', q, rfl⟩
        case measure => simp [intOf]; omega
    · obtain rfl : k = s.size := by omega
      have hno : (0 : UInt8) ∉ s.data.toList := fun h => by
        obtain ⟨j, hj⟩ := List.getElem?_of_mem h
        have hl : j < s.size := by have := (List.getElem?_eq_some_iff.1 hj).1; simpa using this
        rw [Array.getElem?_toList] at hj
        have e : s.data[j]? = some s[j] := Array.getElem?_eq_getElem hl
        rw [e] at hj
        injection hj with hj
        exact hR.out j hl hl hj
      by_cases h0 : 1 ≤ s.size
      case neg =>
        have HV := Lib.hid (keyB_no (s := s) (fun h => h0 h.1))
        have d0 : decide ((1 : Int) ≤ (s.size : Int)) = false := by rw [decide_eq_false_iff_not]; omega
        clear h0 hno
        go_wp2_with (fail)
        go_ret
        rw [HV.out]
        exact Q.of
      case pos =>
      have HV : Hid (keyB s = decide ((s.size : Int) ≤ 8)) := Lib.hid (by
        by_cases h8 : s.size ≤ 8
        · rw [keyB_iff.2 ⟨h0, h8, hno⟩]; symm; rw [decide_eq_true_eq]; omega
        · rw [keyB_no fun h => h8 h.2.1]; symm; rw [decide_eq_false_iff_not]; omega)
      have d0 : decide ((1 : Int) ≤ (s.size : Int)) = true := by rw [decide_eq_true_eq]; omega
      clear h0 hno
      go_wp2_with (fail)
      go_ret
      rw [HV.out]
      exact Q.of
end Go.Proofs.YtlejmpinfbmccaaGreatDoor
/- Which rows of keys and values may be. -/
set_option linter.unusedSimpArgs false
set_option linter.unusedVariables false
namespace Go.Proofs.YtlejmpinfbmccaaGreatDoor
open Go.RowKit Go.Sort Go.Lib
abbrev ltS (a b : ByteArray) : Bool := Op.bytesLess a.toList b.toList
/-- So far they may be. -/
structure XRise (L : List Xt) (k : Nat) : Prop where
  ky : ∀ j p, j < k → L[j]? = some p → keyB p.key = true
  vl : ∀ j p, j < k → L[j]? = some p → p.val.size ≤ 16
  up : ∀ j p q, j + 1 < k → L[j]? = some p → L[j + 1]? = some q → ltS p.key q.key = true
theorem XRise.zero (L : List Xt) : XRise L 0 := ⟨fun j p h => absurd h (by omega), fun j p h => absurd h (by omega), fun j p q h => absurd h (by omega)⟩
theorem XRise.first {L : List Xt} {p : Xt} (hp : L[0]? = some p) (h1 : keyB p.key = true) (h2 : p.val.size ≤ 16) : XRise L 1 :=
  ⟨fun j q hj hq => by
      obtain rfl : j = 0 := by omega
      rw [hp] at hq; cases hq; exact h1, fun j q hj hq => by
      obtain rfl : j = 0 := by omega
      rw [hp] at hq; cases hq; exact h2, fun j p q h => absurd h (by omega)⟩
theorem XRise.more {L : List Xt} {k : Nat} {p q : Xt} (h : XRise L (k + 1)) (hp : L[k]? = some p) (hq : L[k + 1]? = some q) (h1 : keyB q.key = true) (h2 : q.val.size ≤ 16) (hlt : ltS p.key q.key = true) : XRise L (k + 2) :=
  ⟨fun j r hj hr => by
      by_cases hh : j < k + 1
      · exact h.ky j r hh hr
      · obtain rfl : j = k + 1 := by omega
        rw [hq] at hr; cases hr; exact h1,
   fun j r hj hr => by
      by_cases hh : j < k + 1
      · exact h.vl j r hh hr
      · obtain rfl : j = k + 1 := by omega
        rw [hq] at hr; cases hr; exact h2,
   fun j r s hj hr hs => by
      by_cases hh : j + 1 < k + 1
      · exact h.up j r s hh hr hs
      · obtain rfl : j = k := by omega
        rw [hp] at hr; rw [hq] at hs; cases hr; cases hs; exact hlt⟩
def riseX (L : List Xt) : Bool := (L.all fun p => keyB p.key && decide (p.val.size ≤ 16)) && (List.range L.length).all fun j => match L[j]?, L[j + 1]? with
  | some p, some q => ltS p.key q.key
  | _, _ => true
theorem riseX_iff {L : List Xt} : riseX L = true ↔ XRise L L.length := by
  unfold riseX
  rw [Bool.and_eq_true, List.all_eq_true, List.all_eq_true]
  constructor
  · rintro ⟨h1, h2⟩
    have h3 : ∀ (j : Nat) (p : Xt), L[j]? = some p → keyB p.key = true ∧ p.val.size ≤ 16 := fun j p hp => by
      have := h1 p (List.mem_of_getElem? hp)
      rw [Bool.and_eq_true, decide_eq_true_eq] at this
      exact this
    refine ⟨fun j p hj hp => (h3 j p hp).1, fun j p hj hp => (h3 j p hp).2, fun j p q hj hp hq => ?_⟩
    have := h2 j (List.mem_range.2 (by omega))
    rw [hp, hq] at this
    exact this
  · intro h
    refine ⟨fun p hp => ?_, fun j hj => ?_⟩
    · obtain ⟨k, hk⟩ := List.getElem?_of_mem hp
      have hl := (List.getElem?_eq_some_iff.1 hk).1
      rw [Bool.and_eq_true, decide_eq_true_eq]
      exact ⟨h.ky k p hl hk, h.vl k p hl hk⟩
    · cases hp : L[j]? with
      | none => rfl
      | some p =>
        cases hq : L[j + 1]? with
        | none => rfl
        | some q => exact h.up j p q (List.getElem?_eq_some_iff.1 hq).1 hp hq
def xsB (L : List Xt) : Bool := riseX L && decide (L.length ≤ 4)
theorem xsB_iff {L : List Xt} : xsB L = true ↔ XRise L L.length ∧ L.length ≤ 4 := by
  unfold xsB
  rw [Bool.and_eq_true, riseX_iff, decide_eq_true_eq]
theorem xsB_no {L : List Xt} (h : ¬ (XRise L L.length ∧ L.length ≤ 4)) : xsB L = false := by
  cases hb : xsB L
  · rfl
  · exact absurd (xsB_iff.1 hb) h
theorem xsB_key {L : List Xt} {k : Nat} {p : Xt} (hp : L[k]? = some p) (h : keyB p.key = false) : xsB L = false :=
  xsB_no fun ⟨h1, _⟩ => by have := h1.ky k p (List.getElem?_eq_some_iff.1 hp).1 hp; rw [h] at this; cases this
theorem xsB_val {L : List Xt} {k : Nat} {p : Xt} (hp : L[k]? = some p) (h : 16 < p.val.size) : xsB L = false :=
  xsB_no fun ⟨h1, _⟩ => by have := h1.vl k p (List.getElem?_eq_some_iff.1 hp).1 hp; omega
theorem xsB_up {L : List Xt} {k : Nat} {p q : Xt} (hp : L[k]? = some p) (hq : L[k + 1]? = some q) (h : ltS p.key q.key = false) : xsB L = false :=
  xsB_no fun ⟨h1, _⟩ => by have := h1.up k p q (List.getElem?_eq_some_iff.1 hq).1 hp hq; rw [h] at this; cases this
theorem xsB_long {L : List Xt} (h : 4 < L.length) : xsB L = false := xsB_no fun ⟨_, h2⟩ => by omega
set_option maxRecDepth 100000 in
set_option maxHeartbeats 4000000 in
theorem validXattrs_calls (A : Option Addr) (L : List Xt) (c : Nat) (w : World) (hc : Cel w A (xv L)) :
    Calls Tryz.prog 32 #[.slice A L.length c] w fun e w' => e = .returned (.bool (xsB L)) ∧ Below w.heap.size w w' := by
  obtain ⟨n, hn⟩ : ∃ n, L.length = n := ⟨_, rfl⟩
  have HN := Lib.hid hn
  rw [hn]
  clear hn
  by_cases h4 : n ≤ 4
  case neg =>
    have HV := Lib.hid (xsB_long (L := L) (by have := HN.out; omega))
    have h4' : (4 : Int) < (n : Int) := by omega
    go_enter Tryz.func32, Tryz.ntmps32
    go_wp2_with (fail)
    go_ret
    exact ⟨by rw [HV.out]; rfl, Below.refl _ _⟩
  case pos =>
  have h4' : ¬ (4 : Int) < (n : Int) := by omega
  go_enter Tryz.func32, Tryz.ntmps32
  go_wp2_with (fail)
  go_loopw [10] (fun i wr => ∃ k : Nat, i = .int .i64 k ∧ k ≤ n ∧ Hid (XRise L k) ∧ Below w.heap.size w wr) (fun i _ => n - (intOf i).toNat)
  case atStart => exact ⟨0, rfl, by omega, Lib.hid (XRise.zero L), Below.refl _ _⟩
  case round =>
    obtain ⟨k, rfl, hk, hR, hbw⟩ := hrel
    by_cases hkn : k < n
    · obtain ⟨b, o, rfl, hlt, hcell⟩ := (hc.below hbw).xt (by rw [HN.out]; omega)
      obtain ⟨p, hp⟩ : ∃ p, L[k]? = some p := ⟨_, List.getElem?_eq_getElem (by rw [HN.out]; exact hkn)⟩
      obtain ⟨e1, e2⟩ := hcell k p hp
      have HP := Lib.hid hp
      have HBW := Lib.hid hbw
      clear hp hbw
      generalize hpi : p.key = pk at *
      generalize hpp : p.val = pv at *
      have HPI := Lib.hid hpi
      have HPP := Lib.hid hpp
      clear hpi hpp
      have hK := mayKey_calls pk
      cases hkb : keyB pk
      case false =>
        rw [hkb] at hK
        have HV := Lib.hid (xsB_key HP.out (by rw [HPI.out]; exact hkb))
        clear hkb hcell
        go_wp2_with (fail)
        obtain ⟨V, hV⟩ : ∃ V, V = wr.alloc (Obj.cells #[.string pk, .string pv] 52) := ⟨_, rfl⟩
        rw [← hV]
        have hAB : Below wr.heap.size wr V := by rw [hV]; exact (Below.refl _ _).alloc (Nat.le_refl _) _
        have HBV := Lib.hid (HBW.out.trans (hAB.mono HBW.out.size))
        obtain ⟨q0, q1⟩ := two_cells (w0 := V) (B := wr.heap.size) (x := .string pk) (y := .string pv) (t := 52) (by rw [hV]; exact heap_alloc_new _ _)
        have k0 := cell_regrown q0
        have k1 := cell_regrown q1
        have cM : ∀ dq os, Calls Tryz.prog 54 #[.string pk] (grow (redrawn V dq) os) fun e w'' => e = .returned (.bool false) ∧ ∃ p : Regrown, w'' = grow (redrawn V p.d) p.os := fun dq os => Calls.regrown_of ((hK _).mono fun e w1 h => ⟨h.1, h.2 ▸ Below.refl _ _⟩)
        clear hV hAB e1 e2 q0 q1
        refine wp_region_quiet_below (by kernel_rfl) (by kernel_rfl) ?_
        repeat (first | go_big_quiet_step (first | exact cM _ _) | quiet_step (first | exact cM _ _))
        refine wpQuiet_nil ?_
        intro _ hw'
        obtain ⟨⟨dq, osq⟩, hw''⟩ := hw'
        subst hw''
        go_wp2_with (fail)
        go_ret
        exact ⟨by rw [HV.out]; rfl, HBV.out.trans ((below_regrown V dq osq).mono HBV.out.size)⟩
      case true =>
      rw [hkb] at hK
      have HKB := Lib.hid hkb
      clear hkb
      by_cases h16 : pv.size ≤ 16
      case neg =>
        have HV := Lib.hid (xsB_val HP.out (by rw [HPP.out]; omega))
        have d1 : decide ((16 : Int) < (pv.size : Int)) = true := by rw [decide_eq_true_eq]; omega
        clear hcell h16
        go_wp2_with (fail)
        obtain ⟨V, hV⟩ : ∃ V, V = wr.alloc (Obj.cells #[.string pk, .string pv] 52) := ⟨_, rfl⟩
        rw [← hV]
        have hAB : Below wr.heap.size wr V := by rw [hV]; exact (Below.refl _ _).alloc (Nat.le_refl _) _
        have HBV := Lib.hid (HBW.out.trans (hAB.mono HBW.out.size))
        obtain ⟨q0, q1⟩ := two_cells (w0 := V) (B := wr.heap.size) (x := .string pk) (y := .string pv) (t := 52) (by rw [hV]; exact heap_alloc_new _ _)
        have k0 := cell_regrown q0
        have k1 := cell_regrown q1
        have cM : ∀ dq os, Calls Tryz.prog 54 #[.string pk] (grow (redrawn V dq) os) fun e w'' => e = .returned (.bool true) ∧ ∃ p : Regrown, w'' = grow (redrawn V p.d) p.os := fun dq os => Calls.regrown_of ((hK _).mono fun e w1 h => ⟨h.1, h.2 ▸ Below.refl _ _⟩)
        clear hV hAB e1 e2 q0 q1
        refine wp_region_quiet_below (by kernel_rfl) (by kernel_rfl) ?_
        repeat (first | go_big_quiet_step (first | exact cM _ _) | quiet_step (first | exact cM _ _))
        refine wpQuiet_nil ?_
        intro _ hw'
        obtain ⟨⟨dq, osq⟩, hw''⟩ := hw'
        subst hw''
        go_wp2_with (fail)
        go_ret
        exact ⟨by rw [HV.out]; rfl, HBV.out.trans ((below_regrown V dq osq).mono HBV.out.size)⟩
      case pos =>
      have d1 : decide ((16 : Int) < (pv.size : Int)) = false := by rw [decide_eq_false_iff_not]; omega
      cases k with
      | zero =>
        have HR2 := Lib.hid (XRise.first HP.out (by rw [HPI.out]; exact HKB.out) (by rw [HPP.out]; exact h16))
        simp only [Nat.zero_mul, Nat.add_zero] at e1 e2
        clear hcell h16
        go_wp2_with (fail)
        obtain ⟨V, hV⟩ : ∃ V, V = wr.alloc (Obj.cells #[.string pk, .string pv] 52) := ⟨_, rfl⟩
        rw [← hV]
        have hAB : Below wr.heap.size wr V := by rw [hV]; exact (Below.refl _ _).alloc (Nat.le_refl _) _
        have HBV := Lib.hid (HBW.out.trans (hAB.mono HBW.out.size))
        obtain ⟨q0, q1⟩ := two_cells (w0 := V) (B := wr.heap.size) (x := .string pk) (y := .string pv) (t := 52) (by rw [hV]; exact heap_alloc_new _ _)
        have k0 := cell_regrown q0
        have k1 := cell_regrown q1
        have cM : ∀ dq os, Calls Tryz.prog 54 #[.string pk] (grow (redrawn V dq) os) fun e w'' => e = .returned (.bool true) ∧ ∃ p : Regrown, w'' = grow (redrawn V p.d) p.os := fun dq os => Calls.regrown_of ((hK _).mono fun e w1 h => ⟨h.1, h.2 ▸ Below.refl _ _⟩)
        clear hV hAB e1 e2 q0 q1
        refine wp_region_quiet_below (by kernel_rfl) (by kernel_rfl) ?_
        repeat (first | go_big_quiet_step (first | exact cM _ _) | quiet_step (first | exact cM _ _))
        refine wpQuiet_nil ?_
        intro _ hw'
        obtain ⟨⟨dq, osq⟩, hw''⟩ := hw'
        subst hw''
        go_wp2_with (fail)
        go_roundw
        case rel => exact ⟨1, by go_num, by omega, HR2, HBV.out.trans ((below_regrown V dq osq).mono HBV.out.size)⟩
        case measure => simp [intOf]; omega
      | succ k =>
        obtain ⟨r, hr⟩ : ∃ r, L[k]? = some r := ⟨_, List.getElem?_eq_getElem (by rw [HN.out]; omega)⟩
        obtain ⟨e3, e4⟩ := hcell k r hr
        have HR1 := Lib.hid hr
        generalize hri : r.key = rk at *
        have HRI := Lib.hid hri
        have h0 : decide ((0 : Int) < ((k + 1 : Nat) : Int)) = true := by rw [decide_eq_true_eq]; omega
        have h0' : decide ((0 : Int) < (k : Int) + 1) = true := by rw [decide_eq_true_eq]; omega
        have hk1 : (k : Int) + 1 - 1 = (k : Int) := by omega
        clear hcell hr hri
        cases hlt2 : ltS rk pk
        case false =>
          have HV := Lib.hid (xsB_up HR1.out HP.out (by rw [HPI.out, HRI.out]; exact hlt2))
          clear h16
          go_wp2_with (fail)
          obtain ⟨V, hV⟩ : ∃ V, V = wr.alloc (Obj.cells #[.string pk, .string pv] 52) := ⟨_, rfl⟩
          rw [← hV]
          have hAB : Below wr.heap.size wr V := by rw [hV]; exact (Below.refl _ _).alloc (Nat.le_refl _) _
          have HBV := Lib.hid (HBW.out.trans (hAB.mono HBW.out.size))
          obtain ⟨q0, q1⟩ := two_cells (w0 := V) (B := wr.heap.size) (x := .string pk) (y := .string pv) (t := 52) (by rw [hV]; exact heap_alloc_new _ _)
          have g3 := (hAB.cell (p := ⟨b, o + k * 2, none⟩) hlt).trans e3
          clear e3 e4
          have k0 := cell_regrown q0
          have k1 := cell_regrown q1
          have k2 := cell_regrown g3
          clear g3
          have cM : ∀ dq os, Calls Tryz.prog 54 #[.string pk] (grow (redrawn V dq) os) fun e w'' => e = .returned (.bool true) ∧ ∃ p : Regrown, w'' = grow (redrawn V p.d) p.os := fun dq os => Calls.regrown_of ((hK _).mono fun e w1 h => ⟨h.1, h.2 ▸ Below.refl _ _⟩)
          clear hV hAB e1 e2 q0 q1
          refine wp_region_quiet_below (by kernel_rfl) (by kernel_rfl) ?_
          repeat (first | go_big_quiet_step (first | exact cM _ _) | quiet_step (first | exact cM _ _))
          refine wpQuiet_nil ?_
          intro _ hw'
          obtain ⟨⟨dq, osq⟩, hw''⟩ := hw'
          subst hw''
          go_wp2_with (fail)
          go_ret
          exact ⟨by rw [HV.out]; rfl, HBV.out.trans ((below_regrown V dq osq).mono HBV.out.size)⟩
        case true =>
          have HR2 := Lib.hid (hR.out.more HR1.out HP.out (by rw [HPI.out]; exact HKB.out) (by rw [HPP.out]; exact h16) (by rw [HPI.out, HRI.out]; exact hlt2))
          clear h16
          go_wp2_with (fail)
          obtain ⟨V, hV⟩ : ∃ V, V = wr.alloc (Obj.cells #[.string pk, .string pv] 52) := ⟨_, rfl⟩
          rw [← hV]
          have hAB : Below wr.heap.size wr V := by rw [hV]; exact (Below.refl _ _).alloc (Nat.le_refl _) _
          have HBV := Lib.hid (HBW.out.trans (hAB.mono HBW.out.size))
          obtain ⟨q0, q1⟩ := two_cells (w0 := V) (B := wr.heap.size) (x := .string pk) (y := .string pv) (t := 52) (by rw [hV]; exact heap_alloc_new _ _)
          have g3 := (hAB.cell (p := ⟨b, o + k * 2, none⟩) hlt).trans e3
          clear e3 e4
          have k0 := cell_regrown q0
          have k1 := cell_regrown q1
          have k2 := cell_regrown g3
          clear g3
          have cM : ∀ dq os, Calls Tryz.prog 54 #[.string pk] (grow (redrawn V dq) os) fun e w'' => e = .returned (.bool true) ∧ ∃ p : Regrown, w'' = grow (redrawn V p.d) p.os := fun dq os => Calls.regrown_of ((hK _).mono fun e w1 h => ⟨h.1, h.2 ▸ Below.refl _ _⟩)
          clear hV hAB e1 e2 q0 q1
          refine wp_region_quiet_below (by kernel_rfl) (by kernel_rfl) ?_
          repeat (first | go_big_quiet_step (first | exact cM _ _) | quiet_step (first | exact cM _ _))
          refine wpQuiet_nil ?_
          intro _ hw'
          obtain ⟨⟨dq, osq⟩, hw''⟩ := hw'
          subst hw''
          go_wp2_with (fail)
          go_roundw
          case rel => exact ⟨k + 2, by go_num, by omega, HR2, HBV.out.trans ((below_regrown V dq osq).mono HBV.out.size)⟩
          case measure => simp [intOf]; omega
    · obtain rfl : k = n := by omega
      have HV : Hid (xsB L = true) := Lib.hid (xsB_iff.2 (⟨by have h := hR.out; rw [← HN.out] at h; exact h, by rw [HN.out]; exact h4⟩))
      go_wp2_with (fail)
      go_ret
      exact ⟨by rw [HV.out]; rfl, hbw⟩
end Go.Proofs.YtlejmpinfbmccaaGreatDoor
/- Which attributes may be. -/
set_option linter.unusedSimpArgs false
set_option linter.unusedVariables false
namespace Go.Proofs.YtlejmpinfbmccaaGreatDoor
open Go.RowKit
/-- May a list for what is begun be, or none? May such attributes be? -/
def defB (h : Bool) (d : Ac) : Bool := mayB d && (h || sameB d acZ)
/-- What Check answers. -/
def ckN (b : Bool) : Int := if b then 0 else 622
def amayB (x : At) : Bool := decide (x.bi ≤ 7) && (mayB x.ac && (defB x.hd x.df && xsB x.xs))
theorem lies_acZ (w : World) : Lies w acZ lieZ := ⟨Cel.nil _ _, Cel.nil _ _⟩
theorem sm_acZ : Sm acZ := ⟨by decide, by decide⟩
theorem sm_of_4 {x : Ac} (h1 : x.us.length ≤ 4) (h2 : x.gs.length ≤ 4) : Sm x := ⟨by omega, by omega⟩
theorem Ab.part {w : World} {b : Nat} {x : Ac} {p : Lie} (h : Ab w b x p) : ∀ j u, (x.c p).toList[j]? = some u → w.cell? ⟨b, 0 + j, none⟩ = some u := fun j u hu => by
  rw [Nat.zero_add, h.cell]
  simpa using hu
set_option maxRecDepth 100000 in
theorem validDef_calls (h : Bool) (d : Ac) (q : Lie) (w : World) (hl : Lies w d q) (hs : Sm d) :
    Calls Tryz.prog 31 #[.bool h, d.v q] w fun e w' => e = .returned (.bool (defB h d)) ∧ Below w.heap.size w w' := by
  obtain ⟨V, hV⟩ : ∃ V, V = w.alloc (.cells (d.c q) 25) := ⟨_, rfl⟩
  have hb : Below w.heap.size w V := by rw [hV]; exact (Below.refl _ _).alloc (Nat.le_refl _) _
  have hz : Ab V w.heap.size d q := by rw [hV]; exact Ab.new w d q
  have HZ := Lib.hid hz
  have HB := Lib.hid hb
  have HL := Lib.hid (hl.below hb)
  have c := check_calls d q V HL.out hs
  clear hl hz hb
  cases hm : mayB d
  case false =>
    rw [hm] at c
    have HV : Hid (defB h d = false) := Lib.hid (by unfold defB; rw [hm]; rfl)
    have HC := Lib.hid c
    clear hm c
    go_enter Tryz.func31, Tryz.ntmps31
    go_upto_region 1 with (fail)
    rw [← hV]
    clear hV
    go_wp2_with (refine wpList_load_part rfl 25 (.tmp 3) rfl w.heap.size 0 rfl (d.c q).toList _ HZ.out.part Tryz.underlying25 rfl acl_size (d.v q) rfl ?_)
    refine HC.out.mono ?_
    rintro e w1 ⟨rfl, hb1⟩
    have HB1 := Lib.hid (HB.out.trans (hb1.mono HB.out.size))
    clear hb1
    go_wp2_with (fail)
    go_ret
    exact ⟨by rw [HV.out]; rfl, HB1.out⟩
  case true =>
  rw [hm] at c
  have HV : Hid (defB h d = (h || sameB d acZ)) := Lib.hid (by unfold defB; rw [hm, Bool.true_and])
  have HC := Lib.hid c
  have HS := Lib.hid hs
  clear hm c
  cases h
  case true =>
    have HV2 : Hid (defB true d = true) := Lib.hid (by rw [HV.out]; rfl)
    go_enter Tryz.func31, Tryz.ntmps31
    go_upto_region 1 with (fail)
    rw [← hV]
    clear hV
    go_wp2_with (refine wpList_load_part rfl 25 (.tmp 3) rfl w.heap.size 0 rfl (d.c q).toList _ HZ.out.part Tryz.underlying25 rfl acl_size (d.v q) rfl ?_)
    refine HC.out.mono ?_
    rintro e w1 ⟨rfl, hb1⟩
    have HB1 := Lib.hid (HB.out.trans (hb1.mono HB.out.size))
    clear hb1
    go_wp2_with (fail)
    go_ret
    exact ⟨by rw [HV2.out]; rfl, HB1.out⟩
  case false =>
    have HV2 : Hid (defB false d = sameB d acZ) := Lib.hid (by rw [HV.out]; rfl)
    go_enter Tryz.func31, Tryz.ntmps31
    go_upto_region 1 with (fail)
    rw [← hV]
    clear hV
    go_wp2_with (refine wpList_load_part rfl 25 (.tmp 3) rfl w.heap.size 0 rfl (d.c q).toList _ HZ.out.part Tryz.underlying25 rfl acl_size (d.v q) rfl ?_)
    refine HC.out.mono ?_
    rintro e w1 ⟨rfl, hb1⟩
    have HB1 := Lib.hid (HB.out.trans (hb1.mono HB.out.size))
    have HZ1 := Lib.hid (HZ.out.on hb1)
    have HL1 := Lib.hid (HL.out.below hb1)
    clear hb1
    go_wp2_with (refine wpList_load_part rfl 25 (.tmp 3) rfl w.heap.size 0 rfl (d.c q).toList _ HZ1.out.part Tryz.underlying25 rfl acl_size (d.v q) rfl ?_)
    refine (lsame_calls d acZ q lieZ w1 HL1.out (lies_acZ _) HS.out sm_acZ).mono ?_
    rintro e w2 ⟨rfl, hb2⟩
    have HB2 := Lib.hid (HB1.out.trans (hb2.mono HB1.out.size))
    clear hb2
    go_wp2_with (fail)
    go_ret
    exact ⟨by rw [HV2.out]; rfl, HB2.out⟩
set_option maxRecDepth 100000 in
set_option maxHeartbeats 1000000 in
theorem acheck_calls (x : At) (p : ALie) (w : World) (h : ALies w x p) (hs : ASm x) :
    Calls Tryz.prog 11 #[x.v p] w fun e w' => e = .returned (.int .i64 (ckN (amayB x))) ∧ Below w.heap.size w w' := by
  obtain ⟨V, hV⟩ : ∃ V, V = w.alloc (.cells (x.c p) 28) := ⟨_, rfl⟩
  have hb : Below w.heap.size w V := by rw [hV]; exact (Below.refl _ _).alloc (Nat.le_refl _) _
  have hz : Bt V w.heap.size x p := by rw [hV]; exact Bt.new w x p
  have HZ := Lib.hid hz
  have HB := Lib.hid hb
  have HL := Lib.hid (h.below hb)
  have HS := Lib.hid hs
  have y0 := hz.c0
  clear h hz hb hs
  by_cases hbi : x.bi ≤ 7
  case neg =>
    have HV : Hid (amayB x = false) := Lib.hid (by unfold amayB; rw [decide_eq_false hbi]; rfl)
    have d0 : decide ((7 : Int) < (x.bi : Int)) = true := by rw [decide_eq_true_eq]; omega
    go_enter Tryz.func11, Tryz.ntmps11
    go_upto_region 1 with (fail)
    rw [← hV]
    clear hV
    go_wp2_with (fail)
    go_ret
    exact ⟨by rw [HV.out]; rfl, HB.out⟩
  case pos =>
  have d0 : decide ((7 : Int) < (x.bi : Int)) = false := by rw [decide_eq_false_iff_not]; omega
  have HV0 : Hid (amayB x = (mayB x.ac && (defB x.hd x.df && xsB x.xs))) := Lib.hid (by unfold amayB; rw [decide_eq_true hbi, Bool.true_and])
  clear hbi
  have c := check_calls x.ac p.p V HL.out.ac HS.out.ac
  cases hm : mayB x.ac
  case false =>
    rw [hm] at c
    have HV : Hid (amayB x = false) := Lib.hid (by rw [HV0.out, hm]; rfl)
    have HC := Lib.hid c
    clear hm c
    go_enter Tryz.func11, Tryz.ntmps11
    go_upto_region 1 with (fail)
    rw [← hV]
    clear hV
    go_wp2_with (refine wpList_load_part rfl 25 (.tmp 7) rfl w.heap.size 3 rfl (x.ac.c p.p).toList _ HZ.out.ac Tryz.underlying25 rfl acl_size (x.ac.v p.p) rfl ?_)
    refine HC.out.mono ?_
    rintro e w1 ⟨rfl, hb1⟩
    have HB1 := Lib.hid (HB.out.trans (hb1.mono HB.out.size))
    clear hb1
    go_wp2_with (fail)
    go_ret
    exact ⟨by rw [HV.out]; rfl, HB1.out⟩
  case true =>
  rw [hm] at c
  have HV1 : Hid (amayB x = (defB x.hd x.df && xsB x.xs)) := Lib.hid (by rw [HV0.out, hm, Bool.true_and])
  have HC := Lib.hid c
  clear hm c HV0
  go_enter Tryz.func11, Tryz.ntmps11
  go_upto_region 1 with (fail)
  rw [← hV]
  clear hV
  go_wp2_with (refine wpList_load_part rfl 25 (.tmp 7) rfl w.heap.size 3 rfl (x.ac.c p.p).toList _ HZ.out.ac Tryz.underlying25 rfl acl_size (x.ac.v p.p) rfl ?_)
  refine HC.out.mono ?_
  rintro e w1 ⟨rfl, hb1⟩
  have HB1 := Lib.hid (HB.out.trans (hb1.mono HB.out.size))
  have HZ1 := Lib.hid (HZ.out.on hb1)
  have HL1 := Lib.hid (HL.out.below hb1)
  clear hb1 HC HZ HB HL y0
  have y10 := HZ1.out.c10
  go_wp2_with (refine wpList_load_part rfl 25 (.tmp 15) rfl w.heap.size 11 rfl (x.df.c p.q).toList _ HZ1.out.df Tryz.underlying25 rfl acl_size (x.df.v p.q) rfl ?_)
  refine (validDef_calls x.hd x.df p.q w1 HL1.out.df HS.out.df).mono ?_
  rintro e w2 ⟨rfl, hb2⟩
  have HB2 := Lib.hid (HB1.out.trans (hb2.mono HB1.out.size))
  have HZ2 := Lib.hid (HZ1.out.on hb2)
  have HL2 := Lib.hid (HL1.out.below hb2)
  clear hb2 HZ1 HB1 HL1 y10
  have y18 := HZ2.out.c18
  cases hd : defB x.hd x.df
  case false =>
    have HV : Hid (amayB x = false) := Lib.hid (by rw [HV1.out, hd]; rfl)
    clear hd
    go_wp2_with (fail)
    go_ret
    exact ⟨by rw [HV.out]; rfl, HB2.out⟩
  case true =>
  have HV : Hid (amayB x = xsB x.xs) := Lib.hid (by rw [HV1.out, hd, Bool.true_and])
  clear hd
  go_wp2_with (fail)
  refine (validXattrs_calls p.X x.xs p.n w2 HL2.out.xs).mono ?_
  rintro e w3 ⟨rfl, hb3⟩
  have HB3 := Lib.hid (HB2.out.trans (hb3.mono HB2.out.size))
  clear hb3
  cases hx : xsB x.xs
  case false =>
    have HV' : Hid (amayB x = false) := Lib.hid (by rw [HV.out, hx])
    clear hx
    go_wp2_with (fail)
    go_ret
    exact ⟨by rw [HV'.out]; rfl, HB3.out⟩
  case true =>
    have HV' : Hid (amayB x = true) := Lib.hid (by rw [HV.out, hx])
    clear hx
    go_wp2_with (fail)
    go_ret
    exact ⟨by rw [HV'.out]; rfl, HB3.out⟩
end Go.Proofs.YtlejmpinfbmccaaGreatDoor
