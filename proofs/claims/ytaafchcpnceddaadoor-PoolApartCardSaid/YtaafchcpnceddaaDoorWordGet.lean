/- What word.Get, word.Put and the document's own Get and Put hand back, whatever they are given. -/
import Derived.Test.YtaafchcpnceddaaDoorProg
import Derived.Test.YtaafchcpnceddaaDoorMem
import Derived.WalkKit
import Derived.WalkSpells
import Derived.WalkLawsBesides
import Derived.Lib.Hide
import Derived.Deep.QuietTactic
import Derived.BigQuiet
set_option linter.unusedSimpArgs false
set_option linter.unusedVariables false
namespace Go.Proofs.YtaafchcpnceddaaDoor
open Go.RowKit WordMath

def onesN (n : Nat) : Nat := 2 ^ n - 1
theorem onesN_lt {n : Nat} (h : n ≤ 64) : onesN n < 18446744073709551616 := by
  have := pow_le64 h
  have := Nat.two_pow_pos n
  unfold onesN; omega
theorem ones_ok (a n : Int) (w : World) (h1 : 0 ≤ a) (h2 : 1 ≤ n) (h3 : n ≤ 64 - a) :
    Calls Tryd.prog 37 #[.int .i64 a, .int .i64 n] w fun e w' => e = .returned (.tuple #[.int .u64 (onesN n.toNat : Nat), .bool true]) ∧ w = w' := by
  have key := Lib.hid (top_div_int n (by omega) (by omega))
  go_enter Tryd.func37, Tryd.ntmps37
  go_wp2
  go_ret2
  rw [key.out]
  exact ⟨rfl, rfl⟩
theorem ones_no (a n : Int) (w : World) (ha : a ≤ 9223372036854775807) (h : ¬ isFld a n) :
    Calls Tryd.prog 37 #[.int .i64 a, .int .i64 n] w fun e w' => e = .returned (.tuple #[.int .u64 0, .bool false]) ∧ w = w' := by
  unfold isFld at h
  by_cases ha0 : a < 0
  · go_enter Tryd.func37, Tryd.ntmps37
    go_wp2
    go_ret2
    exact ⟨rfl, rfl⟩
  by_cases hn : n < 1
  · clear h
    go_enter Tryd.func37, Tryd.ntmps37
    go_wp2
    go_ret2
    exact ⟨rfl, rfl⟩
  have h' : 64 - a < n := by omega
  clear h
  go_enter Tryd.func37, Tryd.ntmps37
  go_wp2
  go_ret2
  exact ⟨rfl, rfl⟩

instance isFld_dec (a n : Int) : Decidable (isFld a n) := by unfold isFld; infer_instance
/-- What Get answers: the value, the error. -/
def getV (v a n : Int) : Int := if isFld a n then (fld v.toNat a.toNat n.toNat : Nat) else 0
def getE (a n : Int) : Int := if isFld a n then 0 else 2
theorem getV_yes {v a n : Int} (h : isFld a n) : getV v a n = (fld v.toNat a.toNat n.toNat : Nat) := if_pos h
theorem getE_yes {a n : Int} (h : isFld a n) : getE a n = 0 := if_pos h
theorem getV_no {v a n : Int} (h : ¬ isFld a n) : getV v a n = 0 := if_neg h
theorem getE_no {a n : Int} (h : ¬ isFld a n) : getE a n = 2 := if_neg h
theorem get_key (v a n : Int) (v0 : 0 ≤ v) (v1 : v < 18446744073709551616) (h1 : 0 ≤ a) (h2 : 1 ≤ n) (h3 : n ≤ 64 - a) :
    bits BinOp.and IntKind.u64 (v / 2 ^ a.toNat) ↑(onesN n.toNat) = (fld v.toNat a.toNat n.toNat : Nat) := by
  obtain ⟨v, rfl⟩ := Int.eq_ofNat_of_zero_le v0
  have e : ((v : Int) / 2 ^ a.toNat) = ((v / 2 ^ a.toNat : Nat) : Int) := by simp
  rw [e, bits_and_u64_nat _ _ (Nat.lt_of_le_of_lt (Nat.div_le_self _ _) (by omega)) (onesN_lt (by omega))]
  unfold onesN fld
  rw [Nat.and_two_pow_sub_one_eq_mod]
  simp
/-- What Put answers. -/
def isPut (a n x : Int) : Prop := isFld a n ∧ x.toNat < 2 ^ n.toNat
instance isPut_dec (a n x : Int) : Decidable (isPut a n x) := by unfold isPut; infer_instance
def putV (v a n x : Int) : Int := if isPut a n x then (put v.toNat a.toNat n.toNat x.toNat : Nat) else 0
def putE (a n x : Int) : Int := if isPut a n x then 0 else 2
theorem putV_yes {v a n x : Int} (h : isPut a n x) : putV v a n x = (put v.toNat a.toNat n.toNat x.toNat : Nat) := if_pos h
theorem putE_yes {a n x : Int} (h : isPut a n x) : putE a n x = 0 := if_pos h
theorem putV_no {v a n x : Int} (h : ¬ isPut a n x) : putV v a n x = 0 := if_neg h
theorem putE_no {a n x : Int} (h : ¬ isPut a n x) : putE a n x = 2 := if_neg h
theorem put_key (v a n x : Int) (v0 : 0 ≤ v) (v1 : v < 18446744073709551616) (h1 : 0 ≤ a) (h2 : 1 ≤ n) (h3 : n ≤ 64 - a) (x0 : 0 ≤ x) (x1 : x.toNat < 2 ^ n.toNat) :
    bits BinOp.or IntKind.u64 (bits BinOp.andNot IntKind.u64 v (IntKind.u64.wrap (↑(onesN n.toNat) * 2 ^ a.toNat))) (IntKind.u64.wrap (x * 2 ^ a.toNat)) = (put v.toNat a.toNat n.toNat x.toNat : Nat) := by
  obtain ⟨v, rfl⟩ := Int.eq_ofNat_of_zero_le v0
  obtain ⟨x, rfl⟩ := Int.eq_ofNat_of_zero_le x0
  obtain ⟨a, rfl⟩ := Int.eq_ofNat_of_zero_le h1
  obtain ⟨n, rfl⟩ := Int.eq_ofNat_of_zero_le (show 0 ≤ n by omega)
  simp only [Int.toNat_natCast] at *
  have hlt : ∀ y : Nat, y < 2 ^ n → y * 2 ^ a < 18446744073709551616 := by
    intro y hy
    have h := Nat.mul_lt_mul_of_pos_right hy (Nat.two_pow_pos a)
    rw [← Nat.pow_add] at h
    exact Nat.lt_of_lt_of_le h (pow_le64 (by omega))
  have l1 := hlt (onesN n) (by unfold onesN; have := Nat.two_pow_pos n; omega)
  have l2 := hlt x x1
  have e1 : IntKind.u64.wrap (↑(onesN n) * 2 ^ a) = ((onesN n * 2 ^ a : Nat) : Int) := by
    rw [IntKind.wrap_u64]
    have : ((onesN n : Int) * 2 ^ a) = ((onesN n * 2 ^ a : Nat) : Int) := by simp
    rw [this]; omega
  have e2 : IntKind.u64.wrap (↑x * 2 ^ a) = ((x * 2 ^ a : Nat) : Int) := by
    rw [IntKind.wrap_u64]
    have : ((x : Int) * 2 ^ a) = ((x * 2 ^ a : Nat) : Int) := by simp
    rw [this]; omega
  rw [e1, e2, u64_andNot_nat _ _ (by omega) l1, u64_or_nat _ _ (Nat.lt_of_le_of_lt Nat.and_le_left (by omega)) l2]
  congr 1
  exact put_or v a n x x1 (by simpa using (show v < 18446744073709551616 by omega)) (by omega)
theorem put_calls (v a n x : Int) (w : World) (v0 : 0 ≤ v) (v1 : v < 18446744073709551616) (ha : a ≤ 9223372036854775807) (x0 : 0 ≤ x) :
    Calls Tryd.prog 31 #[.int .u64 v, .int .i64 a, .int .i64 n, .int .u64 x] w (Q (.tuple #[.int .u64 (putV v a n x), .int .i64 (putE a n x)]) w) := by
  by_cases h : isFld a n
  · by_cases hx : x.toNat < 2 ^ n.toNat
    · have k1 := Lib.hid (putV_yes (v := v) ⟨h, hx⟩)
      have k2 := Lib.hid (putE_yes ⟨h, hx⟩)
      obtain ⟨h1, h2, h3⟩ := h
      have key := Lib.hid (put_key v a n x v0 v1 h1 h2 h3 x0 hx)
      have hle : x ≤ (onesN n.toNat : Nat) := by unfold onesN; omega
      clear hx
      go_enter Tryd.func31, Tryd.ntmps31
      go_wp2_with (go_at_call 37; refine (ones_ok _ _ _ (by omega) (by omega) (by omega)).mono ?_; rintro e w' ⟨rfl, rfl⟩)
      go_quiet (fail)
      go_wp2
      go_ret2
      rw [k1.out, k2.out, ← key.out]
      exact Q.of
    · have hp : ¬ isPut a n x := fun hh => hx hh.2
      have k1 := Lib.hid (putV_no (v := v) hp)
      have k2 := Lib.hid (putE_no hp)
      obtain ⟨h1, h2, h3⟩ := h
      have hle : (onesN n.toNat : Nat) < x := by have := Nat.two_pow_pos n.toNat; unfold onesN; omega
      clear hx hp
      go_enter Tryd.func31, Tryd.ntmps31
      go_wp2_with (go_at_call 37; refine (ones_ok _ _ _ (by omega) (by omega) (by omega)).mono ?_; rintro e w' ⟨rfl, rfl⟩)
      go_ret2
      rw [k1.out, k2.out]
      exact Q.self
  · have hp : ¬ isPut a n x := fun hh => h hh.1
    have k1 := Lib.hid (putV_no (v := v) hp)
    have k2 := Lib.hid (putE_no hp)
    have hh := Lib.hid h
    clear h hp
    go_enter Tryd.func31, Tryd.ntmps31
    go_wp2_with (go_at_call 37; refine (ones_no _ _ _ ha hh.out).mono ?_; rintro e w' ⟨rfl, rfl⟩)
    go_ret2
    rw [k1.out, k2.out]
    exact Q.self

/-! The document's way. -/
theorem bit_calls (v a : Int) (w : World) (v0 : 0 ≤ v) (h1 : 0 ≤ a) (h2 : a < 64) :
    Calls Tryd.prog 38 #[.int .u64 v, .int .i64 a] w fun e w' => e = .returned (.int .u64 (bitN v.toNat a.toNat : Nat)) ∧ w = w' := by
  have key : Hid ((v / 2 ^ a.toNat).tmod 2 = (bitN v.toNat a.toNat : Nat)) := by
    obtain ⟨v, rfl⟩ := Int.eq_ofNat_of_zero_le v0
    have e : ((v : Int) / 2 ^ a.toNat) = ((v / 2 ^ a.toNat : Nat) : Int) := by simp
    show ((v : Int) / 2 ^ a.toNat).tmod 2 = _
    rw [e, Int.tmod_eq_emod_of_nonneg (Int.natCast_nonneg _)]
    unfold bitN
    simp only [Int.toNat_natCast]
    omega
  go_enter Tryd.func38, Tryd.ntmps38
  go_wp2
  go_ret
  rw [key.out]
  exact ⟨rfl, rfl⟩
theorem field_yes (a n : Int) (w : World) (h1 : 0 ≤ a) (h2 : 1 ≤ n) (h3 : n ≤ 64 - a) :
    Calls Tryd.prog 39 #[.int .i64 a, .int .i64 n] w fun e w' => e = .returned (.bool true) ∧ w = w' := by
  have h4 : a ≤ 64 - n := by omega
  have h5 : n ≤ 64 := by omega
  have h6 : a ≤ 63 := by omega
  clear h3
  go_enter Tryd.func39, Tryd.ntmps39
  go_wp2
  go_ret
  exact ⟨by simp, rfl⟩
theorem field_no (a n : Int) (w : World) (ha : a ≤ 9223372036854775807) (h : ¬ isFld a n) :
    Calls Tryd.prog 39 #[.int .i64 a, .int .i64 n] w fun e w' => e = .returned (.bool false) ∧ w = w' := by
  have hh := Lib.hid h
  clear h
  go_enter Tryd.func39, Tryd.ntmps39
  go_wp2
  all_goals
    go_ret
  · exact ⟨by have := hh.out; unfold isFld at this; simp; omega, rfl⟩
  all_goals exact ⟨rfl, rfl⟩

end Go.Proofs.YtaafchcpnceddaaDoor
