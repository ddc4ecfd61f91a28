/- Keys, and lists that may be: what Key, check, misfit, barred answer; the document's Key and May. -/
import Derived.Test.YthfafejjjmdpbaaVm
set_option linter.unusedSimpArgs false
set_option linter.unusedVariables false
namespace Go.Proofs.Ythfafejjjmdpbaa
open Go.RowKit Go.Lib
theorem empty_no {s : ByteArray} (h : s.size ≠ 0) : (s.toList == ([] : List UInt8)) = false := by
  rw [beq_eq_false_iff_ne, bdata]
  intro e
  apply h
  have := congrArg List.length e
  simpa using this
theorem keyN_empty : keyN ⟨#[]⟩ = 622 := by unfold keyN; rw [if_pos (.inl rfl)]
theorem keyN_idx {s : ByteArray} (h : ¬ Lib.indexByte s.data.toList 0 < 0) : keyN s = 622 := by unfold keyN; rw [if_pos (.inr h)]
theorem keyN_long {s : ByteArray} (h : Lib.indexByte s.data.toList 0 < 0) (h8 : 8 < s.size) : keyN s = 634 := by
  unfold keyN
  rw [if_neg (by rintro (h1 | h1) <;> omega), if_pos h8]
theorem keyN_ok {s : ByteArray} (h0 : s.size ≠ 0) (h : Lib.indexByte s.data.toList 0 < 0) (h8 : ¬ 8 < s.size) : keyN s = 0 := by
  unfold keyN
  rw [if_neg (by rintro (h1 | h1) <;> omega), if_neg h8]
theorem size_zero {s : ByteArray} (h : s.size = 0) : s = ⟨#[]⟩ := by
  cases s with
  | mk d =>
    have : d = #[] := Array.eq_empty_of_size_eq_zero h
    rw [this]
set_option maxRecDepth 100000 in
theorem key_calls (s : ByteArray) (w : World) :
    Calls Try.prog 12 #[.string s] w fun e w' => e = .returned (.int .i64 (keyN s)) ∧ w = w' := by
  by_cases h0 : s.size = 0
  case pos =>
    obtain rfl := size_zero h0
    have HV := Lib.hid keyN_empty
    clear h0
    go_enter Try.func12, Try.ntmps12
    go_wp2_with (fail)
    go_ret
    exact ⟨by rw [HV.out]; rfl, rfl⟩
  case neg =>
  have e0 := empty_no h0
  have hS := sindex_calls s 0 w
  rw [show (0 : Int).toNat.toUInt8 = 0 from rfl] at hS
  by_cases hi : Lib.indexByte s.data.toList 0 < 0
  case neg =>
    have HV := Lib.hid (keyN_idx hi)
    generalize Lib.indexByte s.data.toList 0 = i at hi hS
    have HS := Lib.hid hS
    clear hS h0
    have d0 : decide (0 ≤ i) = true := by rw [decide_eq_true_eq]; omega
    go_enter Try.func12, Try.ntmps12
    go_wp2_with (fail)
    refine HS.out.mono ?_
    rintro e w' ⟨rfl, rfl⟩
    go_wp2_with (fail)
    go_ret
    exact ⟨by rw [HV.out]; rfl, rfl⟩
  case pos =>
  by_cases h8 : 8 < s.size
  case pos =>
    have HV := Lib.hid (keyN_long hi h8)
    generalize Lib.indexByte s.data.toList 0 = i at hi hS
    have HS := Lib.hid hS
    clear hS h0
    have d0 : decide (0 ≤ i) = false := by rw [decide_eq_false_iff_not]; omega
    have d1 : decide ((8 : Int) < (s.size : Int)) = true := by rw [decide_eq_true_eq]; omega
    go_enter Try.func12, Try.ntmps12
    go_wp2_with (fail)
    refine HS.out.mono ?_
    rintro e w' ⟨rfl, rfl⟩
    go_wp2_with (fail)
    go_ret
    exact ⟨by rw [HV.out]; rfl, rfl⟩
  case neg =>
    have HV := Lib.hid (keyN_ok h0 hi h8)
    generalize Lib.indexByte s.data.toList 0 = i at hi hS
    have HS := Lib.hid hS
    clear hS h0
    have d0 : decide (0 ≤ i) = false := by rw [decide_eq_false_iff_not]; omega
    have d1 : decide ((8 : Int) < (s.size : Int)) = false := by rw [decide_eq_false_iff_not]; omega
    go_enter Try.func12, Try.ntmps12
    go_wp2_with (fail)
    refine HS.out.mono ?_
    rintro e w' ⟨rfl, rfl⟩
    go_wp2_with (fail)
    go_ret
    exact ⟨by rw [HV.out]; rfl, rfl⟩
set_option maxRecDepth 100000 in
theorem rkeyN_calls (s : ByteArray) (w : World) (hs : s.size ≤ 1099511627776) :
    Calls Try.prog 13 #[.string s] w (Q (.int .i64 (keyN s)) w) := by
  go_enter Try.func13, Try.ntmps13
  go_wp2_with (fail)
  go_loopw [3] (fun i wr => ∃ k : Nat, i = .int .i64 k ∧ k ≤ s.size ∧ Hid (∀ j (hj : j < s.size), j < k → s[j] ≠ 0) ∧ ∃ q, wr = w.drewN q) (fun i _ => s.size - (intOf i).toNat)
  case atStart => exact ⟨0, rfl, by omega, Lib.hid (fun j hj h => absurd h (by omega)), 0, rfl⟩
  case round =>
    obtain ⟨k, rfl, hk, hR, q, rfl⟩ := hrel
    by_cases hks : k < s.size
    · by_cases h0 : s[k] = 0
      · have HV : Hid (keyN s = 622) := Lib.hid (keyN_idx fun hn => by
          rw [indexByte_neg] at hn
          apply hn
          have hm : s.data.toList[k]? = some s[k] := by rw [Array.getElem?_toList]; exact Array.getElem?_eq_getElem hks
          rw [h0] at hm
          exact List.mem_of_getElem? hm)
        have h0' : s[k].toNat = 0 := by rw [h0]; rfl
        clear h0
        go_wp2_with (fail)
        go_ret
        rw [HV.out]
        exact Q.of
      · have h0' : ((s[k].toNat : Int) == 0) = false := by
          rw [beq_eq_false_iff_ne]
          intro e
          exact h0 (UInt8.toNat_inj.1 (by simpa using e))
        have hR' := Lib.hid (show ∀ j (hj : j < s.size), j < k + 1 → s[j] ≠ 0 from fun j hj h => by
          by_cases e : j = k
          · subst e; exact h0
          · exact hR.out j hj (by omega))
        clear h0
        go_wp2_with (fail)
        go_roundw
        case rel => exact ⟨k + 1, by go_num, by omega, hR', q, rfl⟩
        case measure => simp [intOf]; omega
    · obtain rfl : k = s.size := by omega
      have hno : (0 : UInt8) ∉ s.data.toList := fun h => by
        obtain ⟨j, hj⟩ := List.getElem?_of_mem h
        have hl : j < s.size := by have := (List.getElem?_eq_some_iff.1 hj).1; simpa using this
        rw [Array.getElem?_toList] at hj
        have e : s.data[j]? = some s[j] := Array.getElem?_eq_getElem hl
        rw [e] at hj
        injection hj with hj
        exact hR.out j hl hl hj
      rw [← indexByte_neg] at hno
      have HN := Lib.hid hno
      clear hno hR
      by_cases h0 : s.size = 0
      case pos =>
        obtain rfl := size_zero h0
        have HV := Lib.hid keyN_empty
        clear h0 HN hs hk hks
        go_wp2_with (fail)
        go_ret
        rw [HV.out]
        exact Q.of
      case neg =>
      have e0 := empty_no h0
      by_cases h8 : 8 < s.size
      case pos =>
        have HV := Lib.hid (keyN_long HN.out h8)
        have d1 : decide ((8 : Int) < (s.size : Int)) = true := by rw [decide_eq_true_eq]; omega
        clear h0
        go_wp2_with (fail)
        go_ret
        rw [HV.out]
        exact Q.of
      case neg =>
        have HV := Lib.hid (keyN_ok h0 HN.out h8)
        have d1 : decide ((8 : Int) < (s.size : Int)) = false := by rw [decide_eq_false_iff_not]; omega
        clear h0
        go_wp2_with (fail)
        go_ret
        rw [HV.out]
        exact Q.of
/-! ### lists that may be -/
/-- Attributes with these values, and everything else zero. -/
def xat (L : List Xt) : At := ⟨0, 0, 0, acZ, false, acZ, L⟩
def xlie (A : Option Addr) (c : Nat) : ALie := ⟨lieZ, lieZ, A, c⟩
theorem xat_may (L : List Xt) : amayB (xat L) = xsB L := by
  unfold amayB xat
  rw [defB_no, sameB_iff.2 rfl, mayB_acZ]
  rfl
theorem xat_lies {w : World} {A : Option Addr} {L : List Xt} {c : Nat} (h : Cel w A (xv L)) : ALies w (xat L) (xlie A c) := ⟨lies_acZ w, lies_acZ w, h⟩
theorem xat_sm {L : List Xt} (h : L.length ≤ 1099511627776) : ASm (xat L) := ⟨sm_acZ, sm_acZ, h⟩
/-- What check answers. -/
def chN (L : List Xt) : Int := if xsB L = false then 622 else 0
set_option maxRecDepth 100000 in
theorem xcheck_calls (A : Option Addr) (L : List Xt) (c : Nat) (w : World) (hc : Cel w A (xv L)) (hl : L.length ≤ 1099511627776) :
    Calls Try.prog 21 #[.slice A L.length c] w fun e w' => e = .returned (.int .i64 (chN L)) ∧ Below w.heap.size w w' := by
  have h := acheck_calls (xat L) (xlie A c) w (xat_lies hc) (xat_sm hl)
  rw [xat_may] at h
  have HV : Hid (ckN (xsB L) = chN L) := Lib.hid (by unfold ckN chN; cases xsB L <;> rfl)
  rw [HV.out] at h
  have H := Lib.hid h
  clear h HV
  go_enter Try.func21, Try.ntmps21
  go_wp2_with (fail)
  refine H.out.mono ?_
  rintro e w1 ⟨rfl, hb⟩
  go_wp2_with (fail)
  go_ret
  exact ⟨rfl, hb⟩
set_option maxRecDepth 100000 in
theorem rxmay_calls (A : Option Addr) (L : List Xt) (c : Nat) (w : World) (hc : Cel w A (xv L)) (hl : L.length ≤ 1099511627776) (hk : ∀ (k : Nat) q, L[k]? = some q → q.key.size ≤ 1099511627776) :
    Calls Try.prog 19 #[.slice A L.length c] w fun e w' => e = .returned (.bool (xsB L)) ∧ Below w.heap.size w w' := by
  have h := ramay_calls (xat L) (xlie A c) w (xat_lies hc) (xat_sm hl) hk
  rw [xat_may] at h
  have H := Lib.hid h
  clear h
  go_enter Try.func19, Try.ntmps19
  go_wp2_with (fail)
  refine H.out.mono ?_
  rintro e w1 ⟨rfl, hb⟩
  go_wp2_with (fail)
  go_ret
  exact ⟨rfl, hb⟩
set_option maxRecDepth 100000 in
theorem misfit_calls (k v : ByteArray) (how : Int) (w : World) (h0 : 0 ≤ how) (h1 : how < 256) :
    Calls Try.prog 22 #[.string k, .string v, .int .u8 how] w fun e w' => e = .returned (.int .i64 (misN k v how)) ∧ w = w' := by
  by_cases h2 : 2 < how
  case pos =>
    have HV : Hid (misN k v how = 622) := Lib.hid (by unfold misN; rw [if_pos h2])
    go_enter Try.func22, Try.ntmps22
    go_wp2_with (fail)
    go_ret
    exact ⟨by rw [HV.out]; rfl, rfl⟩
  case neg =>
  have hK := key_calls k w
  by_cases h3 : keyN k = 0
  case neg =>
    have HV : Hid (misN k v how = keyN k) := Lib.hid (by unfold misN; rw [if_neg h2, if_pos h3])
    have hne : (keyN k == 0) = false := by rw [beq_eq_false_iff_ne]; exact h3
    generalize keyN k = n at *
    have HK := Lib.hid hK
    clear hK h3
    go_enter Try.func22, Try.ntmps22
    go_wp2_with (fail)
    refine HK.out.mono ?_
    rintro e w' ⟨rfl, rfl⟩
    go_wp2_with (fail)
    go_ret
    exact ⟨by rw [HV.out]; rfl, rfl⟩
  case pos =>
  rw [h3] at hK
  have HK := Lib.hid hK
  have H3 := Lib.hid h3
  clear hK h3
  by_cases h4 : 16 < v.size
  case pos =>
    have HV : Hid (misN k v how = 634) := Lib.hid (by unfold misN; rw [if_neg h2, H3.out, if_neg (by decide), if_pos h4])
    have d1 : decide ((16 : Int) < (v.size : Int)) = true := by rw [decide_eq_true_eq]; omega
    go_enter Try.func22, Try.ntmps22
    go_wp2_with (fail)
    refine HK.out.mono ?_
    rintro e w' ⟨rfl, rfl⟩
    go_wp2_with (fail)
    go_ret
    exact ⟨by rw [HV.out]; rfl, rfl⟩
  case neg =>
    have HV : Hid (misN k v how = 0) := Lib.hid (by unfold misN; rw [if_neg h2, H3.out, if_neg (by decide), if_neg h4])
    have d1 : decide ((16 : Int) < (v.size : Int)) = false := by rw [decide_eq_false_iff_not]; omega
    go_enter Try.func22, Try.ntmps22
    go_wp2_with (fail)
    refine HK.out.mono ?_
    rintro e w' ⟨rfl, rfl⟩
    go_wp2_with (fail)
    go_ret
    exact ⟨by rw [HV.out]; rfl, rfl⟩
set_option maxRecDepth 100000 in
theorem barred_calls (how : Int) (b : Bool) (n : Nat) (w : World) (h0 : 0 ≤ how) (h2 : how ≤ 2) (hn : n ≤ 1099511627776) :
    Calls Try.prog 24 #[.int .u8 how, .bool b, .int .i64 n] w fun e w' => e = .returned (.int .i64 (barN how b n)) ∧ w = w' := by
  obtain ⟨r, hr⟩ : ∃ r, barN how b n = r := ⟨_, rfl⟩
  rw [hr]
  by_cases h4 : 4 ≤ n
  all_goals obtain rfl | rfl | rfl : how = 0 ∨ how = 1 ∨ how = 2 := by omega
  all_goals cases b
  all_goals
    unfold barN at hr
    simp [h4] at hr
    subst hr
    have d0 : (4 : Int) ≤ (n : Int) ↔ 4 ≤ n := by omega
    go_enter Try.func24, Try.ntmps24
    go_wp2_with (fail)
    go_ret
    exact ⟨rfl, rfl⟩
end Go.Proofs.Ythfafejjjmdpbaa
