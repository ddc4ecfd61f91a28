/- What the document's own Get hands back, whatever it is given. -/
import Derived.Test.YtlfpjfijlngpcaaDoorProg
import Derived.Test.YtlfpjfijlngpcaaDoorMem
import Derived.WalkKit
import Derived.WalkSpells
import Derived.WalkLawsBesides
import Derived.Lib.Hide
import Derived.Deep.QuietTactic
import Derived.BigQuiet
set_option linter.unusedSimpArgs false
set_option linter.unusedVariables false
namespace Go.Proofs.YtlfpjfijlngpcaaDoor
open Go.RowKit WordMath

instance isFld_dec (a n : Int) : Decidable (isFld a n) := by unfold isFld; infer_instance
/-- What Get answers: the value, the error. -/
def getV (v a n : Int) : Int := if isFld a n then (fld v.toNat a.toNat n.toNat : Nat) else 0
def getE (a n : Int) : Int := if isFld a n then 0 else 2
theorem getV_yes {v a n : Int} (h : isFld a n) : getV v a n = (fld v.toNat a.toNat n.toNat : Nat) := if_pos h
theorem getE_yes {a n : Int} (h : isFld a n) : getE a n = 0 := if_pos h
theorem getV_no {v a n : Int} (h : ¬ isFld a n) : getV v a n = 0 := if_neg h
theorem getE_no {a n : Int} (h : ¬ isFld a n) : getE a n = 2 := if_neg h
/-! The document's way. -/
theorem bit_calls (v a : Int) (w : World) (v0 : 0 ≤ v) (h1 : 0 ≤ a) (h2 : a < 64) :
    Calls Tryd.prog 44 #[.int .u64 v, .int .i64 a] w fun e w' => e = .returned (.int .u64 (bitN v.toNat a.toNat : Nat)) ∧ w = w' := by
  have key : Hid ((v / 2 ^ a.toNat).tmod 2 = (bitN v.toNat a.toNat : Nat)) := by
    obtain ⟨v, rfl⟩ := Int.eq_ofNat_of_zero_le v0
    have e : ((v : Int) / 2 ^ a.toNat) = ((v / 2 ^ a.toNat : Nat) : Int) := by simp
    show ((v : Int) / 2 ^ a.toNat).tmod 2 = _
    rw [e, Int.tmod_eq_emod_of_nonneg (Int.natCast_nonneg _)]
    unfold bitN
    simp only [Int.toNat_natCast]
    omega
  go_enter Tryd.func44, Tryd.ntmps44
  go_wp2
  go_ret
  rw [key.out]
  exact ⟨rfl, rfl⟩
theorem field_yes (a n : Int) (w : World) (h1 : 0 ≤ a) (h2 : 1 ≤ n) (h3 : n ≤ 64 - a) :
    Calls Tryd.prog 43 #[.int .i64 a, .int .i64 n] w fun e w' => e = .returned (.bool true) ∧ w = w' := by
  have h4 : a ≤ 64 - n := by omega
  have h5 : n ≤ 64 := by omega
  have h6 : a ≤ 63 := by omega
  clear h3
  go_enter Tryd.func43, Tryd.ntmps43
  go_wp2
  go_ret
  exact ⟨by simp, rfl⟩
theorem field_no (a n : Int) (w : World) (ha : a ≤ 9223372036854775807) (h : ¬ isFld a n) :
    Calls Tryd.prog 43 #[.int .i64 a, .int .i64 n] w fun e w' => e = .returned (.bool false) ∧ w = w' := by
  have hh := Lib.hid h
  clear h
  go_enter Tryd.func43, Tryd.ntmps43
  go_wp2
  all_goals
    go_ret
  · exact ⟨by have := hh.out; unfold isFld at this; simp; omega, rfl⟩
  all_goals exact ⟨rfl, rfl⟩

theorem refget_calls (v a n : Int) (w : World) (v0 : 0 ≤ v) (_v1 : v < 18446744073709551616) (ha : a ≤ 9223372036854775807) :
    Calls Tryd.prog 39 #[.int .u64 v, .int .i64 a, .int .i64 n] w fun e w' => e = .returned (.tuple #[.int .u64 (getV v a n), .int .i64 (getE a n)]) ∧ w = w' := by
  by_cases h : isFld a n
  · have k1 := Lib.hid (getV_yes (v := v) h)
    have k2 := Lib.hid (getE_yes h)
    obtain ⟨h1, h2, h3⟩ := h
    have k3 := Lib.hid (fld_zero v.toNat (a.toNat + n.toNat))
    go_enter Tryd.func39, Tryd.ntmps39
    go_wp2_with (go_at_call 43; refine (field_yes _ _ _ (by omega) (by omega) (by omega)).mono ?_; rintro e w' ⟨rfl, rfl⟩)
    go_loop [8, 9] (fun x i => ∃ j : Int, i = .int .i64 j ∧ -1 ≤ j ∧ j ≤ n - 1 ∧ x = .int .u64 (fld v.toNat (a + j + 1).toNat (n - 1 - j).toNat : Nat)) (fun _ i => (intOf i + 1).toNat)
    case atStart =>
      refine ⟨_, rfl, by omega, by omega, ?_⟩
      rw [show (n - 1 - (n - 1)).toNat = 0 by omega, fld_zero]
      rfl
    case round =>
      obtain ⟨j, rfl, j0, j1, rfl⟩ := hrel
      by_cases hj : 0 ≤ j
      · have hstep := get_step v.toNat a.toNat (n - 1 - j).toNat j.toNat
        have hlt := fld_lt64 v.toNat (a + j).toNat (n - 1 - j + 1).toNat (by omega)
        have HS : Hid (2 * fld v.toNat (a + j + 1).toNat (n - 1 - j).toNat + bitN v.toNat (a + j).toNat = fld v.toNat (a + j).toNat (n - 1 - j + 1).toNat) := by
          rw [show (a + j + 1).toNat = a.toNat + j.toNat + 1 by omega, show (a + j).toNat = a.toNat + j.toNat by omega, show (n - 1 - j + 1).toNat = (n - 1 - j).toNat + 1 by omega]
          exact hstep
        have b1 : 2 * fld v.toNat (a + j + 1).toNat (n - 1 - j).toNat + bitN v.toNat (a + j).toNat < 18446744073709551616 := by rw [HS.out]; exact hlt
        clear hstep hlt
        go_wp2_with (go_at_call 44; refine (bit_calls _ _ _ (by omega) (by omega) (by omega)).mono ?_; rintro e w' ⟨rfl, rfl⟩)
        go_round
        case rel =>
          refine ⟨j - 1, rfl, by omega, by omega, ?_⟩
          rw [show (a + (j - 1) + 1).toNat = (a + j).toNat by omega, show (n - 1 - (j - 1)).toNat = (n - 1 - j + 1).toNat by omega, ← HS.out]
          rfl
        case measure => simp [intOf]; omega
      · go_wp2_with (fail)
        go_ret2
        obtain rfl : j = -1 := by omega
        rw [k1.out, k2.out, show (a + -1 + 1).toNat = a.toNat by omega, show (n - 1 - -1).toNat = n.toNat by omega]
        exact ⟨rfl, rfl⟩
  · have k1 := Lib.hid (getV_no (v := v) h)
    have k2 := Lib.hid (getE_no h)
    have hh := Lib.hid h
    clear h
    go_enter Tryd.func39, Tryd.ntmps39
    go_wp2_with (go_at_call 43; refine (field_no _ _ _ ha hh.out).mono ?_; rintro e w' ⟨rfl, rfl⟩)
    go_ret2
    rw [k1.out, k2.out]
    exact ⟨rfl, rfl⟩

end Go.Proofs.YtlfpjfijlngpcaaDoor
