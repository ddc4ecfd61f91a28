/- Keys that may be; rows of keys and values that may be. -/
import Derived.Test.YtejhodjbgablaaaAv
import Derived.Lib.Bytealg
import Derived.RegionTactic
import Derived.BigRegion
import Derived.Lib.QuietBelow
set_option linter.unusedSimpArgs false
set_option linter.unusedVariables false
namespace Go.Proofs.Ytejhodjbgablaaa
open Go.RowKit Go.Lib
theorem indexByte_neg (l : List UInt8) (b : UInt8) : Lib.indexByte l b < 0 ↔ b ∉ l := by
  induction l with
  | nil => simp [Lib.indexByte]
  | cons x l ih =>
    have h := Lib.indexByte_ge l b
    unfold Lib.indexByte
    by_cases hx : x = b
    · subst hx; simp
    · have hx2 : (x == b) = false := by simpa using hx
      have hx3 : ¬ b = x := fun e => hx e.symm
      rw [hx2]
      simp only [List.mem_cons, hx3, false_or, ← ih, Bool.false_eq_true, if_false]
      split
      · rename_i h1
        have : Lib.indexByte l b = -1 := by simpa using h1
        omega
      · rename_i h1
        have : ¬ Lib.indexByte l b = -1 := by simpa using h1
        omega
set_option maxRecDepth 100000 in
theorem slite_calls (s : ByteArray) (c : Int) (w : World) :
    Calls Try.prog 65 #[.string s, .int .u8 c] w fun e w' => e = .returned (.int .i64 (Lib.indexByte s.data.toList c.toNat.toUInt8)) ∧ w = w' := by
  go_enter Try.func65, Try.ntmps65
  go_wp2
  rw [run_callFunc_extern Try.func67 (by kernel_rfl) (by kernel_rfl) (by kernel_rfl) (e := Extern.BytealgIndexByte.indexByte) (by kernel_rfl), Lib.run_indexByteString]
  simp only [Result.andThen]
  rw [Oper.upon_value]
  go_wp2
  go_ret
  exact ⟨rfl, rfl⟩
set_option maxRecDepth 100000 in
theorem sindex_calls (s : ByteArray) (c : Int) (w : World) :
    Calls Try.prog 63 #[.string s, .int .u8 c] w fun e w' => e = .returned (.int .i64 (Lib.indexByte s.data.toList c.toNat.toUInt8)) ∧ w = w' := by
  go_enter Try.func63, Try.ntmps63
  go_wp2_with (go_at_call 65; refine (slite_calls _ _ _).mono ?_; rintro e w' ⟨rfl, rfl⟩)
  go_ret
  exact ⟨rfl, rfl⟩
/-- May there be a value under that key? -/
def keyB (s : ByteArray) : Bool := decide (0 < s.size) && (decide (s.size ≤ 8) && decide (Lib.indexByte s.data.toList 0 < 0))
theorem keyB_iff {s : ByteArray} : keyB s = true ↔ 0 < s.size ∧ s.size ≤ 8 ∧ (0 : UInt8) ∉ s.data.toList := by
  unfold keyB
  rw [Bool.and_eq_true, Bool.and_eq_true, decide_eq_true_eq, decide_eq_true_eq, decide_eq_true_eq, indexByte_neg]
theorem keyB_no {s : ByteArray} (h : ¬ (0 < s.size ∧ s.size ≤ 8 ∧ (0 : UInt8) ∉ s.data.toList)) : keyB s = false := by
  cases hb : keyB s
  · rfl
  · exact absurd (keyB_iff.1 hb) h
set_option maxRecDepth 100000 in
theorem mayKey_calls (s : ByteArray) (w : World) :
    Calls Try.prog 56 #[.string s] w fun e w' => e = .returned (.bool (keyB s)) ∧ w = w' := by
  by_cases h0 : 0 < s.size
  case neg =>
    have HV := Lib.hid (keyB_no (s := s) (fun h => h0 h.1))
    have d0 : decide ((0 : Int) < (s.size : Int)) = false := by rw [decide_eq_false_iff_not]; omega
    go_enter Try.func56, Try.ntmps56
    go_wp2_with (fail)
    go_ret
    exact ⟨by rw [HV.out]; rfl, rfl⟩
  case pos =>
  by_cases h8 : s.size ≤ 8
  case neg =>
    have HV := Lib.hid (keyB_no (s := s) (fun h => h8 h.2.1))
    have d0 : decide ((0 : Int) < (s.size : Int)) = true := by rw [decide_eq_true_eq]; omega
    have d1 : decide ((s.size : Int) ≤ 8) = false := by rw [decide_eq_false_iff_not]; omega
    go_enter Try.func56, Try.ntmps56
    go_wp2_with (fail)
    go_ret
    exact ⟨by rw [HV.out]; rfl, rfl⟩
  case pos =>
  have HV : Hid (keyB s = decide (Lib.indexByte s.data.toList 0 < 0)) := Lib.hid (by unfold keyB; rw [decide_eq_true h0, decide_eq_true h8, Bool.true_and, Bool.true_and])
  have d0 : decide ((0 : Int) < (s.size : Int)) = true := by rw [decide_eq_true_eq]; omega
  have d1 : decide ((s.size : Int) ≤ 8) = true := by rw [decide_eq_true_eq]; omega
  have hS := sindex_calls s 0 w
  rw [show (0 : Int).toNat.toUInt8 = 0 from rfl] at hS
  obtain ⟨i, hi⟩ : ∃ i, Lib.indexByte s.data.toList 0 = i := ⟨_, rfl⟩
  rw [hi] at hS
  have HI := Lib.hid hi
  clear hi
  go_enter Try.func56, Try.ntmps56
  go_wp2_with (fail)
  refine hS.mono ?_
  rintro e w' ⟨rfl, rfl⟩
  go_wp2_with (fail)
  go_ret
  exact ⟨by rw [HV.out, HI.out]; rfl, rfl⟩
set_option maxRecDepth 100000 in
theorem rkey_calls (s : ByteArray) (w : World) (hs : s.size ≤ 1099511627776) :
    Calls Try.prog 32 #[.string s] w (Q (.bool (keyB s)) w) := by
  go_enter Try.func32, Try.ntmps32
  go_wp2_with (fail)
  go_loopw [3] (fun i wr => ∃ k : Nat, i = .int .i64 k ∧ k ≤ s.size ∧ Hid (∀ j (hj : j < s.size), j < k → s[j] ≠ 0) ∧ ∃ q, wr = w.drewN q) (fun i _ => s.size - (intOf i).toNat)
  case atStart => exact ⟨0, rfl, by omega, Lib.hid (fun j hj h => absurd h (by omega)), 0, rfl⟩
  case round =>
    obtain ⟨k, rfl, hk, hR, q, rfl⟩ := hrel
    by_cases hks : k < s.size
    · by_cases h0 : s[k] = 0
      · have HV : Hid (keyB s = false) := Lib.hid (keyB_no fun h => h.2.2 (by
          have hm : s.data.toList[k]? = some s[k] := by rw [Array.getElem?_toList]; exact Array.getElem?_eq_getElem hks
          rw [h0] at hm
          exact List.mem_of_getElem? hm))
        have h0' : s[k].toNat = 0 := by rw [h0]; rfl
        clear h0
        go_wp2_with (fail)
        go_ret
        rw [HV.out]
        exact Q.of
      · have h0' : ((s[k].toNat : Int) == 0) = false := by
          rw [beq_eq_false_iff_ne]
          intro e
          exact h0 (UInt8.toNat_inj.1 (by simpa using e))
        have hR' := Lib.hid (show ∀ j (hj : j < s.size), j < k + 1 → s[j] ≠ 0 from fun j hj h => by
          by_cases e : j = k
          · subst e; exact h0
          · exact hR.out j hj (by omega))
        clear h0
        go_wp2_with (fail)
        go_roundw
        case rel => exact ⟨k + 1, by go_num, by omega, hR', q, rfl⟩
        case measure => simp [intOf]; omega
    · obtain rfl : k = s.size := by omega
      have hno : (0 : UInt8) ∉ s.data.toList := fun h => by
        obtain ⟨j, hj⟩ := List.getElem?_of_mem h
        have hl : j < s.size := by have := (List.getElem?_eq_some_iff.1 hj).1; simpa using this
        rw [Array.getElem?_toList] at hj
        have e : s.data[j]? = some s[j] := Array.getElem?_eq_getElem hl
        rw [e] at hj
        injection hj with hj
        exact hR.out j hl hl hj
      by_cases h0 : 1 ≤ s.size
      case neg =>
        have HV := Lib.hid (keyB_no (s := s) (fun h => h0 h.1))
        have d0 : decide ((1 : Int) ≤ (s.size : Int)) = false := by rw [decide_eq_false_iff_not]; omega
        clear h0 hno
        go_wp2_with (fail)
        go_ret
        rw [HV.out]
        exact Q.of
      case pos =>
      have HV : Hid (keyB s = decide ((s.size : Int) ≤ 8)) := Lib.hid (by
        by_cases h8 : s.size ≤ 8
        · rw [keyB_iff.2 ⟨h0, h8, hno⟩]; symm; rw [decide_eq_true_eq]; omega
        · rw [keyB_no fun h => h8 h.2.1]; symm; rw [decide_eq_false_iff_not]; omega)
      have d0 : decide ((1 : Int) ≤ (s.size : Int)) = true := by rw [decide_eq_true_eq]; omega
      clear h0 hno
      go_wp2_with (fail)
      go_ret
      rw [HV.out]
      exact Q.of
end Go.Proofs.Ytejhodjbgablaaa
