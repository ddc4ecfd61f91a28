/- What word.Get, word.Put and the document's own Get and Put hand back, whatever they are given. -/
import Derived.Test.YtlejmpinfbmccaaGreatDoorProg
import Derived.Test.YtlejmpinfbmccaaGreatDoorMemT
import Derived.WalkKit
import Derived.WalkSpells
import Derived.WalkLawsBesides
import Derived.Lib.Hide
import Derived.Deep.QuietTactic
import Derived.BigQuiet
import Derived.Test.YtlejmpinfbmccaaGreatDoorMathT
set_option linter.unusedSimpArgs false
set_option linter.unusedVariables false
namespace Go.Proofs.YtlejmpinfbmccaaGreatDoor
open Go.RowKit WordMath

def onesN (n : Nat) : Nat := 2 ^ n - 1
theorem onesN_lt {n : Nat} (h : n ≤ 64) : onesN n < 18446744073709551616 := by
  have := pow_le64 h
  have := Nat.two_pow_pos n
  unfold onesN; omega
theorem ones_ok (a n : Int) (w : World) (h1 : 0 ≤ a) (h2 : 1 ≤ n) (h3 : n ≤ 64 - a) :
    Calls Tryz.prog 107 #[.int .i64 a, .int .i64 n] w fun e w' => e = .returned (.tuple #[.int .u64 (onesN n.toNat : Nat), .bool true]) ∧ w = w' := by
  have key := Lib.hid (top_div_int n (by omega) (by omega))
  go_enter Tryz.func107, Tryz.ntmps107
  go_wp2
  go_ret2
  rw [key.out]
  exact ⟨rfl, rfl⟩
theorem ones_no (a n : Int) (w : World) (ha : a ≤ 9223372036854775807) (h : ¬ isFld a n) :
    Calls Tryz.prog 107 #[.int .i64 a, .int .i64 n] w fun e w' => e = .returned (.tuple #[.int .u64 0, .bool false]) ∧ w = w' := by
  unfold isFld at h
  by_cases ha0 : a < 0
  · go_enter Tryz.func107, Tryz.ntmps107
    go_wp2
    go_ret2
    exact ⟨rfl, rfl⟩
  by_cases hn : n < 1
  · clear h
    go_enter Tryz.func107, Tryz.ntmps107
    go_wp2
    go_ret2
    exact ⟨rfl, rfl⟩
  have h' : 64 - a < n := by omega
  clear h
  go_enter Tryz.func107, Tryz.ntmps107
  go_wp2
  go_ret2
  exact ⟨rfl, rfl⟩

instance isFld_dec (a n : Int) : Decidable (isFld a n) := by unfold isFld; infer_instance
/-- What Get answers: the value, the error. -/
def getV (v a n : Int) : Int := if isFld a n then (fld v.toNat a.toNat n.toNat : Nat) else 0
def getE (a n : Int) : Int := if isFld a n then 0 else 2
theorem getV_yes {v a n : Int} (h : isFld a n) : getV v a n = (fld v.toNat a.toNat n.toNat : Nat) := if_pos h
theorem getE_yes {a n : Int} (h : isFld a n) : getE a n = 0 := if_pos h
theorem getV_no {v a n : Int} (h : ¬ isFld a n) : getV v a n = 0 := if_neg h
theorem getE_no {a n : Int} (h : ¬ isFld a n) : getE a n = 2 := if_neg h
theorem get_key (v a n : Int) (v0 : 0 ≤ v) (v1 : v < 18446744073709551616) (h1 : 0 ≤ a) (h2 : 1 ≤ n) (h3 : n ≤ 64 - a) :
    bits BinOp.and IntKind.u64 (v / 2 ^ a.toNat) ↑(onesN n.toNat) = (fld v.toNat a.toNat n.toNat : Nat) := by
  obtain ⟨v, rfl⟩ := Int.eq_ofNat_of_zero_le v0
  have e : ((v : Int) / 2 ^ a.toNat) = ((v / 2 ^ a.toNat : Nat) : Int) := by simp
  rw [e, bits_and_u64_nat _ _ (Nat.lt_of_le_of_lt (Nat.div_le_self _ _) (by omega)) (onesN_lt (by omega))]
  unfold onesN fld
  rw [Nat.and_two_pow_sub_one_eq_mod]
  simp
theorem get_calls (v a n : Int) (w : World) (v0 : 0 ≤ v) (v1 : v < 18446744073709551616) (ha : a ≤ 9223372036854775807) :
    Calls Tryz.prog 96 #[.int .u64 v, .int .i64 a, .int .i64 n] w fun e w' => e = .returned (.tuple #[.int .u64 (getV v a n), .int .i64 (getE a n)]) ∧ w = w' := by
  by_cases h : isFld a n
  · obtain ⟨h1, h2, h3⟩ := h
    have k1 := Lib.hid (getV_yes (v := v) ⟨h1, h2, h3⟩)
    have k2 := Lib.hid (getE_yes ⟨h1, h2, h3⟩)
    have key := Lib.hid (get_key v a n v0 v1 h1 h2 h3)
    go_enter Tryz.func96, Tryz.ntmps96
    go_wp2_with (go_at_call 107; refine (ones_ok _ _ _ (by omega) (by omega) (by omega)).mono ?_; rintro e w' ⟨rfl, rfl⟩)
    go_ret2
    rw [k1.out, k2.out, key.out]
    exact ⟨rfl, rfl⟩
  · have k1 := Lib.hid (getV_no (v := v) h)
    have k2 := Lib.hid (getE_no h)
    have hh := Lib.hid h
    clear h
    go_enter Tryz.func96, Tryz.ntmps96
    go_wp2_with (go_at_call 107; refine (ones_no _ _ _ ha hh.out).mono ?_; rintro e w' ⟨rfl, rfl⟩)
    go_ret2
    rw [k1.out, k2.out]
    exact ⟨rfl, rfl⟩

/-- What Put answers. -/
def isPut (a n x : Int) : Prop := isFld a n ∧ x.toNat < 2 ^ n.toNat
instance isPut_dec (a n x : Int) : Decidable (isPut a n x) := by unfold isPut; infer_instance
def putV (v a n x : Int) : Int := if isPut a n x then (put v.toNat a.toNat n.toNat x.toNat : Nat) else 0
def putE (a n x : Int) : Int := if isPut a n x then 0 else 2
theorem putV_yes {v a n x : Int} (h : isPut a n x) : putV v a n x = (put v.toNat a.toNat n.toNat x.toNat : Nat) := if_pos h
theorem putE_yes {a n x : Int} (h : isPut a n x) : putE a n x = 0 := if_pos h
theorem putV_no {v a n x : Int} (h : ¬ isPut a n x) : putV v a n x = 0 := if_neg h
theorem putE_no {a n x : Int} (h : ¬ isPut a n x) : putE a n x = 2 := if_neg h
theorem put_key (v a n x : Int) (v0 : 0 ≤ v) (v1 : v < 18446744073709551616) (h1 : 0 ≤ a) (h2 : 1 ≤ n) (h3 : n ≤ 64 - a) (x0 : 0 ≤ x) (x1 : x.toNat < 2 ^ n.toNat) :
    bits BinOp.or IntKind.u64 (bits BinOp.andNot IntKind.u64 v (IntKind.u64.wrap (↑(onesN n.toNat) * 2 ^ a.toNat))) (IntKind.u64.wrap (x * 2 ^ a.toNat)) = (put v.toNat a.toNat n.toNat x.toNat : Nat) := by
  obtain ⟨v, rfl⟩ := Int.eq_ofNat_of_zero_le v0
  obtain ⟨x, rfl⟩ := Int.eq_ofNat_of_zero_le x0
  obtain ⟨a, rfl⟩ := Int.eq_ofNat_of_zero_le h1
  obtain ⟨n, rfl⟩ := Int.eq_ofNat_of_zero_le (show 0 ≤ n by omega)
  simp only [Int.toNat_natCast] at *
  have hlt : ∀ y : Nat, y < 2 ^ n → y * 2 ^ a < 18446744073709551616 := by
    intro y hy
    have h := Nat.mul_lt_mul_of_pos_right hy (Nat.two_pow_pos a)
    rw [← Nat.pow_add] at h
    exact Nat.lt_of_lt_of_le h (pow_le64 (by omega))
  have l1 := hlt (onesN n) (by unfold onesN; have := Nat.two_pow_pos n; omega)
  have l2 := hlt x x1
  have e1 : IntKind.u64.wrap (↑(onesN n) * 2 ^ a) = ((onesN n * 2 ^ a : Nat) : Int) := by
    rw [IntKind.wrap_u64]
    have : ((onesN n : Int) * 2 ^ a) = ((onesN n * 2 ^ a : Nat) : Int) := by simp
    rw [this]; omega
  have e2 : IntKind.u64.wrap (↑x * 2 ^ a) = ((x * 2 ^ a : Nat) : Int) := by
    rw [IntKind.wrap_u64]
    have : ((x : Int) * 2 ^ a) = ((x * 2 ^ a : Nat) : Int) := by simp
    rw [this]; omega
  rw [e1, e2, u64_andNot_nat _ _ (by omega) l1, u64_or_nat _ _ (Nat.lt_of_le_of_lt Nat.and_le_left (by omega)) l2]
  congr 1
  exact put_or v a n x x1 (by simpa using (show v < 18446744073709551616 by omega)) (by omega)
theorem put_calls (v a n x : Int) (w : World) (v0 : 0 ≤ v) (v1 : v < 18446744073709551616) (ha : a ≤ 9223372036854775807) (x0 : 0 ≤ x) :
    Calls Tryz.prog 89 #[.int .u64 v, .int .i64 a, .int .i64 n, .int .u64 x] w (Q (.tuple #[.int .u64 (putV v a n x), .int .i64 (putE a n x)]) w) := by
  by_cases h : isFld a n
  · by_cases hx : x.toNat < 2 ^ n.toNat
    · have k1 := Lib.hid (putV_yes (v := v) ⟨h, hx⟩)
      have k2 := Lib.hid (putE_yes ⟨h, hx⟩)
      obtain ⟨h1, h2, h3⟩ := h
      have key := Lib.hid (put_key v a n x v0 v1 h1 h2 h3 x0 hx)
      have hle : x ≤ (onesN n.toNat : Nat) := by unfold onesN; omega
      clear hx
      go_enter Tryz.func89, Tryz.ntmps89
      go_wp2_with (go_at_call 107; refine (ones_ok _ _ _ (by omega) (by omega) (by omega)).mono ?_; rintro e w' ⟨rfl, rfl⟩)
      go_quiet (fail)
      go_wp2
      go_ret2
      rw [k1.out, k2.out, ← key.out]
      exact Q.of
    · have hp : ¬ isPut a n x := fun hh => hx hh.2
      have k1 := Lib.hid (putV_no (v := v) hp)
      have k2 := Lib.hid (putE_no hp)
      obtain ⟨h1, h2, h3⟩ := h
      have hle : (onesN n.toNat : Nat) < x := by have := Nat.two_pow_pos n.toNat; unfold onesN; omega
      clear hx hp
      go_enter Tryz.func89, Tryz.ntmps89
      go_wp2_with (go_at_call 107; refine (ones_ok _ _ _ (by omega) (by omega) (by omega)).mono ?_; rintro e w' ⟨rfl, rfl⟩)
      go_ret2
      rw [k1.out, k2.out]
      exact Q.self
  · have hp : ¬ isPut a n x := fun hh => h hh.1
    have k1 := Lib.hid (putV_no (v := v) hp)
    have k2 := Lib.hid (putE_no hp)
    have hh := Lib.hid h
    clear h hp
    go_enter Tryz.func89, Tryz.ntmps89
    go_wp2_with (go_at_call 107; refine (ones_no _ _ _ ha hh.out).mono ?_; rintro e w' ⟨rfl, rfl⟩)
    go_ret2
    rw [k1.out, k2.out]
    exact Q.self

/-! The document's way. -/
theorem bit_calls (v a : Int) (w : World) (v0 : 0 ≤ v) (h1 : 0 ≤ a) (h2 : a < 64) :
    Calls Tryz.prog 93 #[.int .u64 v, .int .i64 a] w fun e w' => e = .returned (.int .u64 (bitN v.toNat a.toNat : Nat)) ∧ w = w' := by
  have key : Hid ((v / 2 ^ a.toNat).tmod 2 = (bitN v.toNat a.toNat : Nat)) := by
    obtain ⟨v, rfl⟩ := Int.eq_ofNat_of_zero_le v0
    have e : ((v : Int) / 2 ^ a.toNat) = ((v / 2 ^ a.toNat : Nat) : Int) := by simp
    show ((v : Int) / 2 ^ a.toNat).tmod 2 = _
    rw [e, Int.tmod_eq_emod_of_nonneg (Int.natCast_nonneg _)]
    unfold bitN
    simp only [Int.toNat_natCast]
    omega
  go_enter Tryz.func93, Tryz.ntmps93
  go_wp2
  go_ret
  rw [key.out]
  exact ⟨rfl, rfl⟩
theorem field_yes (a n : Int) (w : World) (h1 : 0 ≤ a) (h2 : 1 ≤ n) (h3 : n ≤ 64 - a) :
    Calls Tryz.prog 92 #[.int .i64 a, .int .i64 n] w fun e w' => e = .returned (.bool true) ∧ w = w' := by
  have h4 : a ≤ 64 - n := by omega
  have h5 : n ≤ 64 := by omega
  have h6 : a ≤ 63 := by omega
  clear h3
  go_enter Tryz.func92, Tryz.ntmps92
  go_wp2
  go_ret
  exact ⟨by simp, rfl⟩
theorem field_no (a n : Int) (w : World) (ha : a ≤ 9223372036854775807) (h : ¬ isFld a n) :
    Calls Tryz.prog 92 #[.int .i64 a, .int .i64 n] w fun e w' => e = .returned (.bool false) ∧ w = w' := by
  have hh := Lib.hid h
  clear h
  go_enter Tryz.func92, Tryz.ntmps92
  go_wp2
  all_goals
    go_ret
  · exact ⟨by have := hh.out; unfold isFld at this; simp; omega, rfl⟩
  all_goals exact ⟨rfl, rfl⟩

end Go.Proofs.YtlejmpinfbmccaaGreatDoor
/- What the document's own Get and Put (bit by bit) hand back: the same. -/
namespace Go.Proofs.YtlejmpinfbmccaaGreatDoor
open Go.RowKit WordMath
theorem refget_calls (v a n : Int) (w : World) (v0 : 0 ≤ v) (_v1 : v < 18446744073709551616) (ha : a ≤ 9223372036854775807) :
    Calls Tryz.prog 94 #[.int .u64 v, .int .i64 a, .int .i64 n] w fun e w' => e = .returned (.tuple #[.int .u64 (getV v a n), .int .i64 (getE a n)]) ∧ w = w' := by
  by_cases h : isFld a n
  · have k1 := Lib.hid (getV_yes (v := v) h)
    have k2 := Lib.hid (getE_yes h)
    obtain ⟨h1, h2, h3⟩ := h
    have k3 := Lib.hid (fld_zero v.toNat (a.toNat + n.toNat))
    go_enter Tryz.func94, Tryz.ntmps94
    go_wp2_with (go_at_call 92; refine (field_yes _ _ _ (by omega) (by omega) (by omega)).mono ?_; rintro e w' ⟨rfl, rfl⟩)
    go_loop [8, 9] (fun x i => ∃ j : Int, i = .int .i64 j ∧ -1 ≤ j ∧ j ≤ n - 1 ∧ x = .int .u64 (fld v.toNat (a + j + 1).toNat (n - 1 - j).toNat : Nat)) (fun _ i => (intOf i + 1).toNat)
    case atStart =>
      refine ⟨_, rfl, by omega, by omega, ?_⟩
      rw [show (n - 1 - (n - 1)).toNat = 0 by omega, fld_zero]
      rfl
    case round =>
      obtain ⟨j, rfl, j0, j1, rfl⟩ := hrel
      by_cases hj : 0 ≤ j
      · have hstep := get_step v.toNat a.toNat (n - 1 - j).toNat j.toNat
        have hlt := fld_lt64 v.toNat (a + j).toNat (n - 1 - j + 1).toNat (by omega)
        have HS : Hid (2 * fld v.toNat (a + j + 1).toNat (n - 1 - j).toNat + bitN v.toNat (a + j).toNat = fld v.toNat (a + j).toNat (n - 1 - j + 1).toNat) := by
          rw [show (a + j + 1).toNat = a.toNat + j.toNat + 1 by omega, show (a + j).toNat = a.toNat + j.toNat by omega, show (n - 1 - j + 1).toNat = (n - 1 - j).toNat + 1 by omega]
          exact hstep
        have b1 : 2 * fld v.toNat (a + j + 1).toNat (n - 1 - j).toNat + bitN v.toNat (a + j).toNat < 18446744073709551616 := by rw [HS.out]; exact hlt
        clear hstep hlt
        go_wp2_with (go_at_call 93; refine (bit_calls _ _ _ (by omega) (by omega) (by omega)).mono ?_; rintro e w' ⟨rfl, rfl⟩)
        go_round
        case rel =>
          refine ⟨j - 1, rfl, by omega, by omega, ?_⟩
          rw [show (a + (j - 1) + 1).toNat = (a + j).toNat by omega, show (n - 1 - (j - 1)).toNat = (n - 1 - j + 1).toNat by omega, ← HS.out]
          rfl
        case measure => simp [intOf]; omega
      · go_wp2_with (fail)
        go_ret2
        obtain rfl : j = -1 := by omega
        rw [k1.out, k2.out, show (a + -1 + 1).toNat = a.toNat by omega, show (n - 1 - -1).toNat = n.toNat by omega]
        exact ⟨rfl, rfl⟩
  · have k1 := Lib.hid (getV_no (v := v) h)
    have k2 := Lib.hid (getE_no h)
    have hh := Lib.hid h
    clear h
    go_enter Tryz.func94, Tryz.ntmps94
    go_wp2_with (go_at_call 92; refine (field_no _ _ _ ha hh.out).mono ?_; rintro e w' ⟨rfl, rfl⟩)
    go_ret2
    rw [k1.out, k2.out]
    exact ⟨rfl, rfl⟩

def Zeros (x n j : Nat) : Prop := ∀ t, n ≤ t → t < j → bitN x t = 0
theorem refput_calls (v a n x : Int) (w : World) (v0 : 0 ≤ v) (v1 : v < 18446744073709551616) (ha : a ≤ 9223372036854775807) (x0 : 0 ≤ x) (x1 : x < 18446744073709551616) :
    Calls Tryz.prog 68 #[.int .u64 v, .int .i64 a, .int .i64 n, .int .u64 x] w fun e w' => e = .returned (.tuple #[.int .u64 (putV v a n x), .int .i64 (putE a n x)]) ∧ w = w' := by
  by_cases h : isFld a n
  · by_cases hx : x.toNat < 2 ^ n.toNat
    · have k1 := Lib.hid (putV_yes (v := v) ⟨h, hx⟩)
      have k2 := Lib.hid (putE_yes ⟨h, hx⟩)
      obtain ⟨h1, h2, h3⟩ := h
      have hP : put v.toNat a.toNat n.toNat x.toNat < 18446744073709551616 := put_lt _ _ _ _ hx (by simp; omega) (by omega)
      have HX := Lib.hid hx
      clear hx
      go_enter Tryz.func68, Tryz.ntmps68
      go_wp2_with (go_at_call 92; refine (field_yes _ _ _ (by omega) (by omega) (by omega)).mono ?_; rintro e w' ⟨rfl, rfl⟩)
      go_loop [10] (fun i => ∃ j : Int, i = .int .i64 j ∧ n ≤ j ∧ j ≤ 64) (fun i => (64 - intOf i).toNat)
      case atStart => exact ⟨_, rfl, by omega, by omega⟩
      case round =>
        obtain ⟨j, rfl, j0, j1⟩ := hrel
        by_cases hj : j < 64
        · have hz := bit_zero_of x.toNat n.toNat j.toNat HX.out (by omega)
          have hb : ((bitN x.toNat j.toNat : Int) == 1) = false := by rw [hz]; rfl
          clear hz
          go_wp2_with (go_at_call 93; refine (bit_calls _ _ _ (by omega) (by omega) (by omega)).mono ?_; rintro e w' ⟨rfl, rfl⟩)
          go_round
          case rel => exact ⟨j + 1, rfl, by omega, by omega⟩
          case measure => simp [intOf]; omega
        · go_wp2_with (fail)
          go_loop [11, 12, 13] (fun y i _ => ∃ j : Int, i = .int .i64 j ∧ -1 ≤ j ∧ j ≤ 63 ∧ y = .int .u64 (put v.toNat a.toNat n.toNat x.toNat / 2 ^ (j + 1).toNat : Nat)) (fun _ i _ => (intOf i + 1).toNat)
          case atStart =>
            refine ⟨_, rfl, by omega, by omega, ?_⟩
            rw [Nat.div_eq_of_lt (by simpa using hP)]
            rfl
          case round =>
            obtain ⟨i, rfl, i0, i1, rfl⟩ := hrel
            by_cases hi : 0 ≤ i
            · have hstep := down_step (put v.toNat a.toNat n.toNat x.toNat) i.toNat
              have hle := Nat.div_le_self (put v.toNat a.toNat n.toNat x.toNat) (2 ^ i.toNat)
              by_cases hin : a ≤ i ∧ i < a + n
              · obtain ⟨hin1, hin2⟩ := hin
                have hb := bit_put_in v.toNat a.toNat n.toNat x.toNat i.toNat HX.out (by omega) (by omega)
                rw [hb] at hstep
                have HS : Hid (2 * (put v.toNat a.toNat n.toNat x.toNat / 2 ^ (i + 1).toNat) + bitN x.toNat (i - a).toNat = put v.toNat a.toNat n.toNat x.toNat / 2 ^ i.toNat) := by
                  rw [show (i + 1).toNat = i.toNat + 1 by omega, show (i - a).toNat = i.toNat - a.toNat by omega]
                  exact hstep
                have b1 : 2 * (put v.toNat a.toNat n.toNat x.toNat / 2 ^ (i + 1).toNat) + bitN x.toNat (i - a).toNat < 18446744073709551616 := by rw [HS.out]; omega
                clear hstep hb hle
                generalize put v.toNat a.toNat n.toNat x.toNat / 2 ^ (i + 1).toNat = z at *
                go_wp2_with (go_at_call 93; refine (bit_calls _ _ _ (by omega) (by omega) (by omega)).mono ?_; rintro e w' ⟨rfl, rfl⟩)
                go_round
                case rel =>
                  refine ⟨i - 1, rfl, by omega, by omega, ?_⟩
                  rw [show (i - 1 + 1).toNat = i.toNat by omega, ← HS.out]
                  rfl
                case measure => simp [intOf]; omega
              · have hout : i < a ∨ a + n ≤ i := by omega
                clear hin
                have hb := bit_put_out v.toNat a.toNat n.toNat x.toNat i.toNat HX.out (by omega)
                rw [hb] at hstep
                have HS : Hid (2 * (put v.toNat a.toNat n.toNat x.toNat / 2 ^ (i + 1).toNat) + bitN v.toNat i.toNat = put v.toNat a.toNat n.toNat x.toNat / 2 ^ i.toNat) := by
                  rw [show (i + 1).toNat = i.toNat + 1 by omega]
                  exact hstep
                have b1 : 2 * (put v.toNat a.toNat n.toNat x.toNat / 2 ^ (i + 1).toNat) + bitN v.toNat i.toNat < 18446744073709551616 := by rw [HS.out]; omega
                clear hstep hb hle
                generalize put v.toNat a.toNat n.toNat x.toNat / 2 ^ (i + 1).toNat = z at *
                rcases hout with hout | hout
                all_goals
                  go_wp2_with (go_at_call 93; refine (bit_calls _ _ _ (by omega) (by omega) (by omega)).mono ?_; rintro e w' ⟨rfl, rfl⟩)
                  go_round
                  case rel =>
                    refine ⟨i - 1, rfl, by omega, by omega, ?_⟩
                    rw [show (i - 1 + 1).toNat = i.toNat by omega, ← HS.out]
                    rfl
                  case measure => simp [intOf]; omega
            · go_wp2_with (fail)
              go_ret2
              obtain rfl : i = -1 := by omega
              rw [k1.out, k2.out, show (-1 + 1 : Int).toNat = 0 by decide, Int.pow_zero, Int.ediv_one]
              exact ⟨rfl, rfl⟩
    · have hp : ¬ isPut a n x := fun hh => hx hh.2
      have k1 := Lib.hid (putV_no (v := v) hp)
      have k2 := Lib.hid (putE_no hp)
      obtain ⟨h1, h2, h3⟩ := h
      have HX := Lib.hid hx
      clear hx hp
      go_enter Tryz.func68, Tryz.ntmps68
      go_wp2_with (go_at_call 92; refine (field_yes _ _ _ (by omega) (by omega) (by omega)).mono ?_; rintro e w' ⟨rfl, rfl⟩)
      go_loop [10] (fun i => ∃ j : Int, i = .int .i64 j ∧ n ≤ j ∧ j ≤ 64 ∧ Zeros x.toNat n.toNat j.toNat) (fun i => (64 - intOf i).toNat)
      case atStart => exact ⟨_, rfl, by omega, by omega, fun t h1 h2 => by omega⟩
      case round =>
        obtain ⟨j, rfl, j0, j1, hz⟩ := hrel
        have hj : j < 64 := by
          refine Int.lt_of_not_ge fun hge => HX.out ?_
          exact bit_lt_of _ _ (by simp; omega) fun t h1 h2 => hz t h1 (by omega)
        by_cases hb : bitN x.toNat j.toNat = 1
        · have hb1 : ((bitN x.toNat j.toNat : Int) == 1) = true := by rw [hb]; rfl
          clear hb
          go_wp2_with (go_at_call 93; refine (bit_calls _ _ _ (by omega) (by omega) (by omega)).mono ?_; rintro e w' ⟨rfl, rfl⟩)
          go_ret2
          rw [k1.out, k2.out]
          exact ⟨rfl, rfl⟩
        · have hz' : Zeros x.toNat n.toNat (j + 1).toNat := by
            intro t t1 t2
            by_cases ht : t < j.toNat
            · exact hz t t1 ht
            · obtain rfl : t = j.toNat := by omega
              have := bitN_lt x.toNat j.toNat
              omega
          have hb1 : ((bitN x.toNat j.toNat : Int) == 1) = false := by
            rw [beq_eq_false_iff_ne]; omega
          clear hb
          go_wp2_with (go_at_call 93; refine (bit_calls _ _ _ (by omega) (by omega) (by omega)).mono ?_; rintro e w' ⟨rfl, rfl⟩)
          go_round
          case rel => exact ⟨j + 1, rfl, by omega, by omega, hz'⟩
          case measure => simp [intOf]; omega
  · have hp : ¬ isPut a n x := fun hh => h hh.1
    have k1 := Lib.hid (putV_no (v := v) hp)
    have k2 := Lib.hid (putE_no hp)
    have hh := Lib.hid h
    clear h hp
    go_enter Tryz.func68, Tryz.ntmps68
    go_wp2_with (go_at_call 92; refine (field_no _ _ _ ha hh.out).mono ?_; rintro e w' ⟨rfl, rfl⟩)
    go_ret2
    rw [k1.out, k2.out]
    exact ⟨rfl, rfl⟩
end Go.Proofs.YtlejmpinfbmccaaGreatDoor
/- What the document's own Text hands back: the bytes of the words. -/
namespace Go.Proofs.YtlejmpinfbmccaaGreatDoor
open Go.RowKit WordMath

theorem u64_info : (Tryz.prog.info? 49).map (fun i => (i.zero, i.size, i.bytes)) = some (some (.int .u64 0), 1, 8) := by kernel_rfl
theorem u8_info : (Tryz.prog.info? 5).map (fun i => (i.zero, i.size, i.bytes)) = some (some (.int .u8 0), 1, 1) := by kernel_rfl
def isTxt (l : List Nat) (n : Int) : Prop := 0 ≤ n ∧ n ≤ 8 * l.length
instance isTxt_dec (l : List Nat) (n : Int) : Decidable (isTxt l n) := by unfold isTxt; infer_instance
/-- What Text answers. -/
def txtV (l : List Nat) (n : Int) : ByteArray := if isTxt l n then ⟨(textL l n.toNat).toArray⟩ else ⟨#[]⟩
def txtE (l : List Nat) (n : Int) : Int := if isTxt l n then 0 else 2
theorem txtV_yes {l : List Nat} {n : Int} (h : isTxt l n) : txtV l n = ⟨(textL l n.toNat).toArray⟩ := if_pos h
theorem txtE_yes {l : List Nat} {n : Int} (h : isTxt l n) : txtE l n = 0 := if_pos h
theorem txtV_no {l : List Nat} {n : Int} (h : ¬ isTxt l n) : txtV l n = ⟨#[]⟩ := if_neg h
theorem txtE_no {l : List Nat} {n : Int} (h : ¬ isTxt l n) : txtE l n = 2 := if_neg h
/-- It hands back a text and an error; nothing that was there has turned. -/
def GivesText (s : ByteArray) (err : Int) (w : World) (e : Ending) (w' : World) : Prop :=
  e = .returned (.tuple #[.string s, .int .i64 err]) ∧ Below w.heap.size w w'
theorem refget8_calls (v a : Int) (w : World) (v0 : 0 ≤ v) (v1 : v < 18446744073709551616) (a0 : 0 ≤ a) (a1 : a ≤ 56) :
    Calls Tryz.prog 94 #[.int .u64 v, .int .i64 a, .int .i64 8] w fun e w' => e = .returned (.tuple #[.int .u64 (fld v.toNat a.toNat 8 : Nat), .int .i64 0]) ∧ w = w' := by
  have hp : isFld a 8 := ⟨a0, by omega, by omega⟩
  have h := refget_calls v a 8 w v0 v1 (by omega)
  rw [getV_yes hp, getE_yes hp] at h
  exact h
set_option maxRecDepth 100000 in
theorem rtext_calls (A : Option Addr) (l : List Nat) (c : Nat) (n : Int) (w : World) (hn : -9223372036854775808 ≤ n) (hn2 : n ≤ 9223372036854775807) (hr : Row w A l) (hl : Wd l) (hlen : l.length ≤ 1099511627776) :
    Calls Tryz.prog 72 #[.slice A l.length c, .int .i64 n] w (GivesText (txtV l n) (txtE l n) w) := by
  obtain ⟨i0, hi0, hz0, hs0, hb0⟩ := info_parts u8_info
  by_cases h : isTxt l n
  · have kv := Lib.hid (txtV_yes h)
    have ke := Lib.hid (txtE_yes h)
    obtain ⟨h0, h1⟩ := h
    obtain ⟨n, rfl⟩ := Int.eq_ofNat_of_zero_le h0
    rw [Int.toNat_natCast] at kv
    have HZ := Lib.hid hz0
    have HS := Lib.hid hs0
    have HB := Lib.hid hb0
    have HI := Lib.hid hi0
    clear hz0 hs0 hb0 hi0
    by_cases hn0 : (n : Int) ≤ 0
    · have hconv := run_text_own (P := Tryz.prog) (s := []) (World.ownsRow_nil w w.heap.size 5 1) 139 9 Tryz.underlying139 Tryz.underlying5 Tryz.underlying9
      have kn : Hid (textL l n = []) := by
        show textL l n = []
        rw [show n = 0 by omega]; rfl
      go_enter Tryz.func72, Tryz.ntmps72
      go_wp2_with (fail)
      go_loopw [6, 7] (fun v i wr => i = .int .i64 0 ∧ v = .slice none 0 0 ∧ w = wr) (fun _ _ _ => 0)
      case atStart => exact ⟨rfl, rfl, rfl⟩
      case round =>
        obtain ⟨rfl, rfl, rfl⟩ := hrel
        go_wp2_with (fail)
        go_ret2
        rw [kv.out, ke.out, kn.out]
        exact ⟨rfl, Below.refl _ _⟩
    · have hn8 : ((n : Int) - 1) / 8 < l.length := by omega
      go_enter Tryz.func72, Tryz.ntmps72
      go_wp2_with (fail)
      go_loopw [6, 7] (fun v i wr => ∃ k : Nat, i = .int .i64 k ∧ k ≤ n ∧ wr.ownsRow w.heap.size 5 1 v k (bv (textL l k)) ∧ Below w.heap.size w wr) (fun _ i _ => n - (intOf i).toNat)
      case atStart => exact ⟨0, rfl, by omega, World.ownsRow_nil _ _ _ _, Below.refl _ _⟩
      case round =>
        obtain ⟨k, rfl, hk, hown, hb⟩ := hrel
        by_cases hks : k < n
        · have hk8 : k / 8 < l.length := by omega
          obtain ⟨ad, rfl, _, hcs⟩ := hr.below hb (by omega)
          have hcl := hcs (k / 8) hk8
          have hw := hl (k / 8)
          have hts := Lib.hid (textL_succ l k)
          clear hcs hl hr
          generalize l.getD (k / 8) 0 = x at *
          have hfl : fld x (8 * (k % 8)) 8 < 256 := by simpa using fld_lt x (8 * (k % 8)) 8
          have hbs := hb.size
          go_wp2_with (first
            | (go_at_call 94; refine (refget8_calls _ _ _ (by omega) (by omega) (by omega) (by omega)).mono ?_; rintro e w' ⟨rfl, rfl⟩)
            | (at_builtin; refine wpList_append_own _ rfl (.tmp 41) (.tmp 44) 139 rfl w.heap.size 5 i0 (.int .u8 0) 1 1 Tryz.underlying139 HI.out HZ.out HS.out HB.out rfl (by decide) u6 k (bv (textL l k)) rfl (hown.alloc _) ⟨wr.heap.size, 0, none⟩ 1 1 [.int .u8 ((fld x (8 * (k % 8)) 8 : Nat) : Int)] rfl rfl (cell_one_new _ _ _) (by simp [Value.oneCell']) (by unfold maxLen; omega) (by omega) (by simp; omega) ?_; intro v1 w1 hown1 hgrow1 _))
          go_roundw
          case rel =>
            refine ⟨k + 1, by go_num, by omega, ?_, (hb.alloc hb.size _).grown hgrow1 (by simp; omega) fun g hg => (hown.lt g hg).1⟩
            rw [hts.out, bv_append]
            have e : bv [UInt8.ofNat (fld x (8 * (k % 8)) 8)] = [Value.int .u8 ((fld x (8 * (k % 8)) 8 : Nat) : Int)] := by
              simp [bv, Nat.mod_eq_of_lt hfl]
            rw [e]; exact hown1
          case measure => simp [intOf]; omega
        · have hconv := run_text_own (P := Tryz.prog) hown 139 9 Tryz.underlying139 Tryz.underlying5 Tryz.underlying9
          obtain rfl : k = n := by omega
          go_wp2_with (fail)
          go_ret2
          rw [kv.out, ke.out]
          exact ⟨rfl, hb⟩
  · have kv := Lib.hid (txtV_no h)
    have ke := Lib.hid (txtE_no h)
    unfold isTxt at h
    by_cases hn0 : n < 0
    · clear h
      go_enter Tryz.func72, Tryz.ntmps72
      go_wp2_with (fail)
      go_ret2
      rw [kv.out, ke.out]
      exact ⟨rfl, Below.refl _ _⟩
    · have h2 : l.length ≤ (n - 1) / 8 := by omega
      have h3 : 0 < n := by omega
      clear h
      go_enter Tryz.func72, Tryz.ntmps72
      go_wp2_with (fail)
      go_ret2
      rw [kv.out, ke.out]
      exact ⟨rfl, Below.refl _ _⟩
end Go.Proofs.YtlejmpinfbmccaaGreatDoor
