/- Rows of named ones: which may be, which are the same. -/
import Derived.Test.YtejhodjbgablaaaAc1
import Derived.Laws.StructEq
import Derived.StillTactics
set_option linter.unusedSimpArgs false
set_option linter.unusedVariables false
namespace Go.Proofs.Ytejhodjbgablaaa
open Go.RowKit
theorem Cel.at0 {w : World} {A : Option Addr} {xs : List Value} (h : Cel w A xs) (h0 : 0 < xs.length) : ∃ b o, A = some ⟨b, o, none⟩ ∧ b < w.heap.size ∧ ∀ j u, xs[j]? = some u → w.cell? ⟨b, o + j, none⟩ = some u := by
  obtain ⟨⟨b, o, sp⟩, rfl, hlt, hc⟩ := h h0
  have h00 := hc 0 _ (List.getElem?_eq_getElem h0)
  have hsp : sp = none := by
    cases sp with
    | none => rfl
    | some q =>
      have e : (⟨b, o, some q⟩ : Addr).add 0 = ⟨b, o, some q⟩ := by simp [Addr.add]
      rw [e] at h00
      unfold World.cell? at h00
      split at h00
      · simp at h00
      · cases h00
  subst hsp
  refine ⟨b, o, rfl, hlt, fun j u hu => ?_⟩
  have := hc j u hu
  unfold Addr.add at this
  by_cases hj : j = 0
  · subst hj; simpa using this
  · simpa [hj] using this
/-- Element k's two cells. -/
theorem Cel.nm {w : World} {A : Option Addr} {L : List Nm} (h : Cel w A (nv L)) (h0 : 0 < L.length) : ∃ b o, A = some ⟨b, o, none⟩ ∧ b < w.heap.size ∧ ∀ k p, L[k]? = some p → w.cell? ⟨b, o + k * 2, none⟩ = some (.int .u16 (p.id : Nat)) ∧ w.cell? ⟨b, o + k * 2 + 1, none⟩ = some (.int .u8 (p.pm : Nat)) := by
  obtain ⟨b, o, e, hlt, hc⟩ := h.at0 (by rw [nv_length]; omega)
  refine ⟨b, o, e, hlt, fun k p hk => ?_⟩
  obtain ⟨h1, h2⟩ := nv_get hk
  exact ⟨hc _ _ h1, by rw [Nat.add_assoc]; exact hc _ _ h2⟩
/-- So far they may be: perms at most 7, ids rising. -/
structure Rise (L : List Nm) (k : Nat) : Prop where
  pm : ∀ j p, j < k → L[j]? = some p → p.pm ≤ 7
  id : ∀ j p q, j + 1 < k → L[j]? = some p → L[j + 1]? = some q → p.id < q.id
theorem Rise.zero (L : List Nm) : Rise L 0 := ⟨fun j p h => absurd h (by omega), fun j p q h => absurd h (by omega)⟩
theorem Rise.first {L : List Nm} {p : Nm} (hp : L[0]? = some p) (h7 : p.pm ≤ 7) : Rise L 1 :=
  ⟨fun j q hj hq => by obtain rfl : j = 0 := by omega
                       rw [hp] at hq; cases hq; exact h7, fun j p q h => absurd h (by omega)⟩
theorem Rise.more {L : List Nm} {k : Nat} {p q : Nm} (h : Rise L (k + 1)) (hp : L[k]? = some p) (hq : L[k + 1]? = some q) (h7 : q.pm ≤ 7) (hlt : p.id < q.id) : Rise L (k + 2) :=
  ⟨fun j r hj hr => by
      by_cases h1 : j < k + 1
      · exact h.pm j r h1 hr
      · obtain rfl : j = k + 1 := by omega
        rw [hq] at hr; cases hr; exact h7,
   fun j r s hj hr hs => by
      by_cases h1 : j + 1 < k + 1
      · exact h.id j r s h1 hr hs
      · obtain rfl : j = k := by omega
        rw [hp] at hr; rw [hq] at hs; cases hr; cases hs; exact hlt⟩
/-- Perms at most 7; ids rising. -/
def riseB (L : List Nm) : Bool := (L.all fun p => decide (p.pm ≤ 7)) && (List.range L.length).all fun j => match L[j]?, L[j + 1]? with
  | some p, some q => decide (p.id < q.id)
  | _, _ => true
theorem riseB_iff {L : List Nm} : riseB L = true ↔ Rise L L.length := by
  unfold riseB
  rw [Bool.and_eq_true, List.all_eq_true, List.all_eq_true]
  constructor
  · rintro ⟨h1, h2⟩
    refine ⟨fun j p hj hp => by simpa using h1 p (List.mem_of_getElem? hp), fun j p q hj hp hq => ?_⟩
    have := h2 j (List.mem_range.2 (by omega))
    rw [hp, hq] at this
    simpa using this
  · intro h
    refine ⟨fun p hp => ?_, fun j hj => ?_⟩
    · obtain ⟨k, hk⟩ := List.getElem?_of_mem hp
      simpa using h.pm k p (List.getElem?_eq_some_iff.1 hk).1 hk
    · cases hp : L[j]? with
      | none => rfl
      | some p =>
        cases hq : L[j + 1]? with
        | none => rfl
        | some q => simpa using h.id j p q (List.getElem?_eq_some_iff.1 hq).1 hp hq
/-- May such users, or groups, be? -/
def namedB (L : List Nm) : Bool := riseB L && decide (L.length ≤ 4)
theorem namedB_iff {L : List Nm} : namedB L = true ↔ Rise L L.length ∧ L.length ≤ 4 := by
  unfold namedB
  rw [Bool.and_eq_true, riseB_iff, decide_eq_true_eq]
theorem namedB_yes {L : List Nm} (h : Rise L L.length) (h4 : L.length ≤ 4) : namedB L = true := namedB_iff.2 ⟨h, h4⟩
theorem namedB_no {L : List Nm} (h : ¬ (Rise L L.length ∧ L.length ≤ 4)) : namedB L = false := by
  cases hb : namedB L
  · rfl
  · exact absurd (namedB_iff.1 hb) h
theorem namedB_pm {L : List Nm} {k : Nat} {p : Nm} (hp : L[k]? = some p) (h : 7 < p.pm) : namedB L = false :=
  namedB_no fun ⟨h1, _⟩ => by have := h1.pm k p (List.getElem?_eq_some_iff.1 hp).1 hp; omega
theorem namedB_id {L : List Nm} {k : Nat} {p q : Nm} (hp : L[k]? = some p) (hq : L[k + 1]? = some q) (h : q.id ≤ p.id) : namedB L = false :=
  namedB_no fun ⟨h1, _⟩ => by have := h1.id k p q (List.getElem?_eq_some_iff.1 hq).1 hp hq; omega
theorem namedB_long {L : List Nm} (h : 4 < L.length) : namedB L = false := namedB_no fun ⟨_, h2⟩ => by omega
theorem namedB_len {L : List Nm} (h : Rise L L.length) : namedB L = decide (L.length ≤ 4) := by
  by_cases h4 : L.length ≤ 4
  · rw [namedB_yes h h4]; simp [h4]
  · rw [namedB_long (by omega)]; simp [h4]
theorem namedB_nil : namedB [] = true := namedB_yes (Rise.zero _) (by simp)

set_option maxRecDepth 100000 in
theorem rnamed_calls (A : Option Addr) (L : List Nm) (c : Nat) (w : World) (hc : Cel w A (nv L)) (hlen : L.length ≤ 1099511627776) :
    Calls Try.prog 46 #[.slice A L.length c] w (Q (.bool (namedB L)) w) := by
  obtain ⟨n, hn⟩ : ∃ n, L.length = n := ⟨_, rfl⟩
  have HN := Lib.hid hn
  rw [hn] at hlen ⊢
  clear hn
  go_enter Try.func46, Try.ntmps46
  go_wp2_with (fail)
  go_loopw [3] (fun i wr => ∃ k : Nat, i = .int .i64 k ∧ k ≤ n ∧ Hid (Rise L k) ∧ ∃ q, wr = w.drewN q) (fun i _ => n - (intOf i).toNat)
  case atStart => exact ⟨0, rfl, by omega, Lib.hid (Rise.zero L), 0, rfl⟩
  case round =>
    obtain ⟨k, rfl, hk, hR, q, rfl⟩ := hrel
    by_cases hkn : k < n
    · obtain ⟨b, o, rfl, hlt, hcell⟩ := hc.nm (by rw [HN.out]; omega)
      obtain ⟨p, hp⟩ : ∃ p, L[k]? = some p := ⟨_, List.getElem?_eq_getElem (by rw [HN.out]; exact hkn)⟩
      obtain ⟨e1, e2⟩ := hcell k p hp
      have HP := Lib.hid hp
      clear hp
      by_cases h7 : p.pm ≤ 7
      · have h7' : decide (7 < (p.pm : Int)) = false := by rw [decide_eq_false_iff_not]; omega
        cases k with
        | zero =>
          have HR2 := Lib.hid (Rise.first HP.out h7)
          clear hcell
          go_wp2_with (fail)
          go_quiet (fail)
          go_wp2_with (fail)
          go_roundw
          case rel => exact ⟨1, by go_num, by omega, HR2, _, rfl⟩
          case measure => simp [intOf]; omega
        | succ k =>
          obtain ⟨r, hr⟩ : ∃ r, L[k]? = some r := ⟨_, List.getElem?_eq_getElem (by rw [HN.out]; omega)⟩
          obtain ⟨e3, e4⟩ := hcell k r hr
          have HR1 := Lib.hid hr
          have h0 : decide ((0 : Int) < ((k + 1 : Nat) : Int)) = true := by rw [decide_eq_true_eq]; omega
          have h0' : decide ((0 : Int) < (k : Int) + 1) = true := by rw [decide_eq_true_eq]; omega
          have hk1 : (k : Int) + 1 - 1 = (k : Int) := by omega
          clear hcell hr
          by_cases hid : r.id < p.id
          · have hid' : decide ((p.id : Int) ≤ (r.id : Int)) = false := by rw [decide_eq_false_iff_not]; omega
            have HR2 := Lib.hid (hR.out.more HR1.out HP.out h7 hid)
            go_wp2_with (fail)
            go_quiet (fail)
            go_wp2_with (fail)
            go_roundw
            case rel => exact ⟨k + 2, by go_num, by omega, HR2, _, rfl⟩
            case measure => simp [intOf]; omega
          · have hid' : decide ((p.id : Int) ≤ (r.id : Int)) = true := by rw [decide_eq_true_eq]; omega
            have HV := Lib.hid (namedB_id HR1.out HP.out (by omega))
            go_wp2_with (fail)
            go_quiet (fail)
            go_wp2_with (fail)
            go_ret
            rw [HV.out, World.drewN_drewN]
            exact Q.of
      · have h7' : decide (7 < (p.pm : Int)) = true := by rw [decide_eq_true_eq]; omega
        have HV := Lib.hid (namedB_pm HP.out (by omega))
        clear hcell
        go_wp2_with (fail)
        go_quiet (fail)
        go_wp2_with (fail)
        go_ret
        rw [HV.out, World.drewN_drewN]
        exact Q.of
    · obtain rfl : k = n := by omega
      have HV : Hid (namedB L = decide (k ≤ 4)) := by have h := hR.out; rw [← HN.out] at h; have := namedB_len h; rw [HN.out] at this; exact this
      go_wp2_with (fail)
      go_ret
      rw [HV.out]
      have : decide ((k : Int) ≤ 4) = decide (k ≤ 4) := by rw [decide_eq_decide]; omega
      try rw [this]
      exact Q.of
/-! ### which are the same -/
def eqN (a b c d : Nat) : Bool := decide (a = c) && decide (b = d)
set_option maxRecDepth 100000 in
theorem eqNm (a b c d : Nat) (w : World) :
    (Op.equalIn 10000 43 (.agg #[.int .u16 (a : Nat), .int .u8 (b : Nat)]) (.agg #[.int .u16 (c : Nat), .int .u8 (d : Nat)])).run Try.prog w = .ok (eqN a b c d) w := by
  have u3 := Try.underlying22
  have a3 := Try.isAgg22
  have z3 := Try.sizeOf22
  have u4 := Try.underlying5
  have a4 := Try.isAgg5
  have z4 := Try.sizeOf5
  have hS : Try.prog.underlying 43 = some (.struct (Try.prog.fieldsOf 43)) := by kernel_rfl
  have hp : Try.prog.stoodInHeld 43 = false := by kernel_rfl
  rw [show (10000 : Nat) = 9999 + 1 from rfl, run_equalIn_agg w 9999 43 _ _ hS hp]
  simp only [Program.fieldsOf, Try.underlying43]
  go_simp
  unfold eqN
  by_cases h1 : a = c <;> by_cases h2 : b = d <;> simp [h1, h2] <;> omega
/-- So far they are the same. -/
def Alike (L M : List Nm) (k : Nat) : Prop := ∀ j, j < k → L[j]? = M[j]?
theorem Alike.more {L M : List Nm} {k : Nat} (h : Alike L M k) (e : L[k]? = M[k]?) : Alike L M (k + 1) := fun j hj => by
  by_cases h1 : j < k
  · exact h j h1
  · obtain rfl : j = k := by omega
    exact e
theorem Alike.eq {L M : List Nm} (h : Alike L M L.length) (hl : L.length = M.length) : L = M := by
  apply List.ext_getElem?
  intro i
  by_cases hi : i < L.length
  · exact h i hi
  · rw [List.getElem?_eq_none (by omega), List.getElem?_eq_none (by omega)]
instance : DecidableEq Nm := fun p q => if h : p.id = q.id ∧ p.pm = q.pm then isTrue (by cases p; cases q; simp only at h; rw [h.1, h.2]) else isFalse (by rintro rfl; exact h ⟨rfl, rfl⟩)
def rowsB (L M : List Nm) : Bool := decide (L = M)
theorem rowsB_self (L : List Nm) : rowsB L L = true := decide_eq_true rfl
theorem rowsB_no {L M : List Nm} (h : L ≠ M) : rowsB L M = false := decide_eq_false h
theorem rowsB_iff {L M : List Nm} : rowsB L M = true ↔ L = M := decide_eq_true_iff
theorem rowsB_at {L M : List Nm} {k : Nat} {p q : Nm} (hp : L[k]? = some p) (hq : M[k]? = some q) (h : p ≠ q) : rowsB L M = false :=
  rowsB_no (by rintro rfl; rw [hp] at hq; cases hq; exact h rfl)
theorem nm_ext {p q : Nm} (h1 : p.id = q.id) (h2 : p.pm = q.pm) : p = q := by cases p; cases q; simp only at h1 h2; rw [h1, h2]
theorem eqN_yes (a b : Nat) : eqN a b a b = true := by simp [eqN]
theorem eqN_no {p q : Nm} (h : p ≠ q) : eqN p.id p.pm q.id q.pm = false := by
  cases hb : eqN p.id p.pm q.id q.pm
  · rfl
  · simp only [eqN, Bool.and_eq_true, decide_eq_true_eq] at hb
    exact absurd (nm_ext hb.1 hb.2) h
set_option maxRecDepth 100000 in
theorem rsame_calls (A B : Option Addr) (L M : List Nm) (c d : Nat) (w : World) (ha : Cel w A (nv L)) (hb : Cel w B (nv M)) (hlen : L.length ≤ 1099511627776) (hlen2 : M.length ≤ 1099511627776) :
    Calls Try.prog 47 #[.slice A L.length c, .slice B M.length d] w (Q (.bool (rowsB L M)) w) := by
  by_cases hn : L.length = M.length
  · obtain ⟨n, hLn⟩ : ∃ n, L.length = n := ⟨_, rfl⟩
    have hMn : M.length = n := by omega
    have HL := Lib.hid hLn
    have HM := Lib.hid hMn
    rw [hLn, hMn]
    rw [hLn] at hlen
    clear hn hLn hMn hlen2
    go_enter Try.func47, Try.ntmps47
    go_wp2_with (fail)
    go_loopw [5] (fun i wr => ∃ k : Nat, i = .int .i64 k ∧ k ≤ n ∧ Hid (Alike L M k) ∧ ∃ q, wr = w.drewN q) (fun i _ => n - (intOf i).toNat)
    case atStart => exact ⟨0, rfl, by omega, Lib.hid (fun j hj => absurd hj (by omega)), 0, rfl⟩
    case round =>
      obtain ⟨k, rfl, hk, hs, q, rfl⟩ := hrel
      by_cases h1 : k < n
      · obtain ⟨b1, o1, rfl, _, hca⟩ := ha.nm (by rw [HL.out]; omega)
        obtain ⟨b2, o2, rfl, _, hcb⟩ := hb.nm (by rw [HM.out]; omega)
        obtain ⟨p, hp⟩ : ∃ p, L[k]? = some p := ⟨_, List.getElem?_eq_getElem (by rw [HL.out]; exact h1)⟩
        obtain ⟨r, hr⟩ : ∃ r, M[k]? = some r := ⟨_, List.getElem?_eq_getElem (by rw [HM.out]; exact h1)⟩
        obtain ⟨e1, e2⟩ := hca k p hp
        obtain ⟨e3, e4⟩ := hcb k r hr
        have HP := Lib.hid hp
        have HR := Lib.hid hr
        clear hca hcb hp hr
        by_cases he : p = r
        · subst he
          have hE := fun w => eqNm p.id p.pm p.id p.pm w
          rw [eqN_yes] at hE
          have hs' := Lib.hid (hs.out.more (HP.out.trans HR.out.symm))
          go_wp2_with (fail)
          go_quiet (fail)
          go_wp2_with (fail)
          go_roundw
          case rel => exact ⟨k + 1, by go_num, by omega, hs', _, rfl⟩
          case measure => simp [intOf]; omega
        · have hE := fun w => eqNm p.id p.pm r.id r.pm w
          rw [eqN_no he] at hE
          have HV := Lib.hid (rowsB_at HP.out HR.out he)
          clear he
          go_wp2_with (fail)
          go_quiet (fail)
          go_wp2_with (fail)
          go_ret
          rw [HV.out, World.drewN_drewN]
          exact Q.of
      · obtain rfl : k = n := by omega
        have HV : Hid (rowsB L M = true) := Lib.hid (rowsB_iff.2 (by have h := hs.out; rw [← HL.out] at h; exact h.eq (HL.out.trans HM.out.symm)))
        go_wp2_with (fail)
        go_ret
        rw [HV.out]
        exact Q.of
  · have HV : Hid (rowsB L M = false) := Lib.hid (rowsB_no (by rintro rfl; exact hn rfl))
    have hne : ((L.length : Int) == (M.length : Nat)) = false := by rw [beq_eq_false_iff_ne]; omega
    go_enter Try.func47, Try.ntmps47
    go_wp2_with (fail)
    go_ret
    rw [HV.out]
    exact Q.self
set_option maxRecDepth 100000 in
theorem equal_calls (A B : Option Addr) (L M : List Nm) (c d : Nat) (w : World) (ha : Cel w A (nv L)) (hb : Cel w B (nv M)) (hlen : L.length ≤ 1099511627776) (hlen2 : M.length ≤ 1099511627776) :
    Calls Try.prog 62 #[.slice A L.length c, .slice B M.length d] w (Q (.bool (rowsB L M)) w) := by
  by_cases hn : L.length = M.length
  · obtain ⟨n, hLn⟩ : ∃ n, L.length = n := ⟨_, rfl⟩
    have hMn : M.length = n := by omega
    have HL := Lib.hid hLn
    have HM := Lib.hid hMn
    rw [hLn, hMn]
    rw [hLn] at hlen
    clear hn hLn hMn hlen2
    go_enter Try.func62, Try.ntmps62
    go_wp2_with (fail)
    go_loopw [13] (fun i wr => ∃ k : Nat, i = .int .i64 k ∧ k ≤ n ∧ Hid (Alike L M k) ∧ ∃ q, wr = w.drewN q) (fun i _ => n - (intOf i).toNat)
    case atStart => exact ⟨0, rfl, by omega, Lib.hid (fun j hj => absurd hj (by omega)), 0, rfl⟩
    case round =>
      obtain ⟨k, rfl, hk, hs, q, rfl⟩ := hrel
      by_cases h1 : k < n
      · obtain ⟨b1, o1, rfl, _, hca⟩ := ha.nm (by rw [HL.out]; omega)
        obtain ⟨b2, o2, rfl, _, hcb⟩ := hb.nm (by rw [HM.out]; omega)
        obtain ⟨p, hp⟩ : ∃ p, L[k]? = some p := ⟨_, List.getElem?_eq_getElem (by rw [HL.out]; exact h1)⟩
        obtain ⟨r, hr⟩ : ∃ r, M[k]? = some r := ⟨_, List.getElem?_eq_getElem (by rw [HM.out]; exact h1)⟩
        obtain ⟨e1, e2⟩ := hca k p hp
        obtain ⟨e3, e4⟩ := hcb k r hr
        have HP := Lib.hid hp
        have HR := Lib.hid hr
        clear hca hcb hp hr
        by_cases he : p = r
        · subst he
          have hE := fun w => eqNm p.id p.pm p.id p.pm w
          rw [eqN_yes] at hE
          have hs' := Lib.hid (hs.out.more (HP.out.trans HR.out.symm))
          go_wp2_with (fail)
          go_quiet (fail)
          go_wp2_with (fail)
          go_roundw
          case rel => exact ⟨k + 1, by go_num, by omega, hs', _, rfl⟩
          case measure => simp [intOf]; omega
        · have hE := fun w => eqNm p.id p.pm r.id r.pm w
          rw [eqN_no he] at hE
          have HV := Lib.hid (rowsB_at HP.out HR.out he)
          clear he
          go_wp2_with (fail)
          go_quiet (fail)
          go_wp2_with (fail)
          go_ret
          rw [HV.out, World.drewN_drewN]
          exact Q.of
      · obtain rfl : k = n := by omega
        have HV : Hid (rowsB L M = true) := Lib.hid (rowsB_iff.2 (by have h := hs.out; rw [← HL.out] at h; exact h.eq (HL.out.trans HM.out.symm)))
        go_wp2_with (fail)
        go_ret
        rw [HV.out]
        exact Q.of
  · have HV : Hid (rowsB L M = false) := Lib.hid (rowsB_no (by rintro rfl; exact hn rfl))
    have hne : ((L.length : Int) == (M.length : Nat)) = false := by rw [beq_eq_false_iff_ne]; omega
    go_enter Try.func62, Try.ntmps62
    go_wp2_with (fail)
    go_ret
    rw [HV.out]
    exact Q.self
end Go.Proofs.Ytejhodjbgablaaa
