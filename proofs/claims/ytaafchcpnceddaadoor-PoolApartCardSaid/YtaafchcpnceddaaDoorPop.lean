/- What math/bits.OnesCount64 and TrailingZeros64 hand back, whatever word they are given. -/
import Derived.Test.YtaafchcpnceddaaDoorProg
import Derived.Test.YtaafchcpnceddaaDoorMem
import Derived.Test.YtaafchcpnceddaaDoorPopMath
import Derived.Lib.Hide
set_option linter.unusedSimpArgs false
set_option linter.unusedVariables false
namespace Go.Proofs.YtaafchcpnceddaaDoor
open Go.RowKit WordMath
theorem and_le (a b : Nat) : a &&& b ≤ b := Nat.and_le_right
theorem f1_le (M x : Nat) : f1 M x ≤ 2 * M := by unfold f1; have := and_le (x / 2) M; have := and_le x M; omega
theorem f2_le (M x : Nat) : f2 M x ≤ 2 * M := by unfold f2; have := and_le (x / 4) M; have := and_le x M; omega
theorem f3_le (M x : Nat) : f3 M x ≤ M := and_le _ _
theorem k1 (x : Nat) (hx : x < 18446744073709551616) : IntKind.u64.wrap (bits BinOp.and IntKind.u64 ((x : Int) / 2) 6148914691236517205 + bits BinOp.and IntKind.u64 (x : Int) 6148914691236517205) = ((f1 6148914691236517205 x : Nat) : Int) := by
  have h := f1_le 6148914691236517205 x
  have e := bits_and_u64_nat (x / 2) 6148914691236517205 (by omega) (by omega)
  have e' := bits_and_u64_nat x 6148914691236517205 (by omega) (by omega)
  rw [Int.natCast_ediv] at e
  rw [show ((x : Int) / 2) = (x : Int) / ((2 : Nat) : Int) from rfl]
  have q : ((6148914691236517205 : Nat) : Int) = 6148914691236517205 := rfl
  rw [q] at e e'
  rw [e, e', IntKind.wrap_u64]
  unfold f1 at h ⊢
  omega
theorem k2 (x : Nat) (hx : x < 18446744073709551616) : IntKind.u64.wrap (bits BinOp.and IntKind.u64 ((x : Int) / 4) 3689348814741910323 + bits BinOp.and IntKind.u64 (x : Int) 3689348814741910323) = ((f2 3689348814741910323 x : Nat) : Int) := by
  have h := f2_le 3689348814741910323 x
  have e := bits_and_u64_nat (x / 4) 3689348814741910323 (by omega) (by omega)
  have e' := bits_and_u64_nat x 3689348814741910323 (by omega) (by omega)
  rw [Int.natCast_ediv] at e
  rw [show ((x : Int) / 4) = (x : Int) / ((4 : Nat) : Int) from rfl]
  have q : ((3689348814741910323 : Nat) : Int) = 3689348814741910323 := rfl
  rw [q] at e e'
  rw [e, e', IntKind.wrap_u64]
  unfold f2 at h ⊢
  omega
theorem k3 (x : Nat) (hx : x ≤ 7378697629483820646) : bits BinOp.and IntKind.u64 (IntKind.u64.wrap ((x : Int) / 16 + (x : Int))) 1085102592571150095 = ((f3 1085102592571150095 x : Nat) : Int) := by
  have e := bits_and_u64_nat (x / 16 + x) 1085102592571150095 (by omega) (by omega)
  have q : IntKind.u64.wrap ((x : Int) / 16 + (x : Int)) = ((x / 16 + x : Nat) : Int) := by rw [IntKind.wrap_u64]; omega
  rw [q]
  exact e
theorem k4 (x d : Nat) (_hd : 0 < d) (hx : x + x / d < 18446744073709551616) : IntKind.u64.wrap ((x : Int) + (x : Int) / (d : Int)) = ((x + x / d : Nat) : Int) := by
  have q : ((x : Int) + (x : Int) / (d : Int)) = ((x + x / d : Nat) : Int) := by simp
  rw [q, IntKind.wrap_u64]
  generalize x + x / d = y at *
  omega
theorem k5 (x : Nat) (hx : x < 9223372036854775808) : bits BinOp.and IntKind.i64 (x : Int) 127 = ((x % 128 : Nat) : Int) := by
  have h1 : (BitVec.ofInt 64 (x : Int)).toNat = x := by
    rw [BitVec.ofInt_natCast, BitVec.toNat_ofNat]; exact Nat.mod_eq_of_lt (by omega)
  have h2 : (BitVec.ofInt 64 127).toNat = 127 := by decide
  show IntKind.i64.wrap ((BitVec.ofInt 64 (x : Int) &&& BitVec.ofInt 64 127).toNat : Int) = _
  rw [BitVec.toNat_and, h1, h2]
  have e : x &&& 127 = x % 128 := Nat.and_two_pow_sub_one_eq_mod x 7
  rw [e]
  simp [IntKind.wrap, IntKind.bits, IntKind.signed]
  omega
theorem pop_calls (x : Int) (w : World) (x0 : 0 ≤ x) (x1 : x < 18446744073709551616) :
    Calls Tryd.prog 35 #[.int .u64 x] w fun e w' => e = .returned (.int .i64 (popc x.toNat 64 : Nat)) ∧ w = w' := by
  obtain ⟨x, rfl⟩ := Int.eq_ofNat_of_zero_le x0
  have hx : x < 18446744073709551616 := by omega
  have l1 := f1_le 6148914691236517205 x
  have l2 := f2_le 3689348814741910323 (f1 6148914691236517205 x)
  have l3 := f3_le 1085102592571150095 (f2 3689348814741910323 (f1 6148914691236517205 x))
  have e1 := Lib.hid (k1 x hx)
  have e2 := Lib.hid (k2 (f1 6148914691236517205 x) (by omega))
  have e3 := Lib.hid (k3 (f2 3689348814741910323 (f1 6148914691236517205 x)) (by omega))
  have es := Lib.hid (swar_eq x hx)
  clear x0 x1
  go_enter Tryd.func35, Tryd.ntmps35
  go_wp2
  go_ret
  simp only [e1.out, e2.out, e3.out]
  have es' := es.out
  unfold swar at es'
  simp only at es'
  generalize f3 1085102592571150095 (f2 3689348814741910323 (f1 6148914691236517205 x)) = z at *
  have e4 := k4 z 256 (by decide) (by omega)
  have e5 := k4 (z + z / 256) 65536 (by decide) (by omega)
  have e6 := k4 (z + z / 256 + (z + z / 256) / 65536) 4294967296 (by decide) (by omega)
  rw [show ((256 : Nat) : Int) = 256 from rfl] at e4
  rw [show ((65536 : Nat) : Int) = 65536 from rfl] at e5
  rw [show ((4294967296 : Nat) : Int) = 4294967296 from rfl] at e6
  have hlt : z + z / 256 + (z + z / 256) / 65536 + (z + z / 256 + (z + z / 256) / 65536) / 4294967296 < 9223372036854775808 := by omega
  have e7 := k5 _ hlt
  have e8 : wrap64 ((z + z / 256 + (z + z / 256) / 65536 + (z + z / 256 + (z + z / 256) / 65536) / 4294967296 : Nat) : Int) = _ := IntWalk.wrap64_in _ ⟨by omega, by omega⟩
  simp only [e4, e5, e6, e8, e7, es']
  exact ⟨rfl, trivial⟩
/-- The table in its variable. -/
def TabAt (w : World) : Prop := ∀ j, j < 64 → w.cell? ⟨0, j, none⟩ = some (.int .u8 (Lib.deBruijn64tab.getD j 0 : Nat))
theorem tz_key (x a : Nat) (hx : x < 18446744073709551616) (hx0 : x ≠ 0) (hlow : x &&& (18446744073709551616 - x) = a) :
    IntKind.u64.wrap (bits BinOp.and IntKind.u64 (x : Int) (IntKind.u64.wrap (-(x : Int))) * 285870213051353865) / 288230376151711744 = ((a * 285870213051353865 % 18446744073709551616 / 288230376151711744 : Nat) : Int) := by
  have e1 : IntKind.u64.wrap (-(x : Int)) = ((18446744073709551616 - x : Nat) : Int) := by rw [IntKind.wrap_u64]; omega
  rw [e1, bits_and_u64_nat x _ hx (by omega), hlow, IntKind.wrap_u64]
  omega
theorem tz_core (x k idx : Nat) (w : World) (hx0 : ((x : Int) == 0) = false)
    (key : IntKind.u64.wrap (bits BinOp.and IntKind.u64 (x : Int) (IntKind.u64.wrap (-(x : Int))) * 285870213051353865) / 288230376151711744 = (idx : Int))
    (hi : idx < 64) (hk : k < 64) (hcell : w.cell? ⟨0, idx, none⟩ = some (.int .u8 k)) :
    Calls Tryd.prog 30 #[.int .u64 x] w fun e w' => e = .returned (.int .i64 k) ∧ w = w' := by
  go_enter Tryd.func30, Tryd.ntmps30
  go_wp2_with (simp only [key])
  go_ret
  exact ⟨rfl, rfl⟩
theorem tz_calls (x : Int) (w : World) (x0 : 0 ≤ x) (x1 : x < 18446744073709551616) (hT : TabAt w) :
    Calls Tryd.prog 30 #[.int .u64 x] w fun e w' => e = .returned (.int .i64 (Lib.ctz 64 x.toNat : Nat)) ∧ w = w' := by
  obtain ⟨x, rfl⟩ := Int.eq_ofNat_of_zero_le x0
  by_cases hx : x = 0
  · subst hx
    go_enter Tryd.func30, Tryd.ntmps30
    go_wp2
    go_ret
    exact ⟨rfl, rfl⟩
  · rw [Int.toNat_natCast]
    obtain ⟨hlow, hk⟩ := Lib.lowest_bit 64 x hx (by simp; omega)
    obtain ⟨hi, htab⟩ := Lib.deBruijn64_at _ hk
    have hcell := hT _ hi
    rw [htab] at hcell
    exact tz_core x _ _ w (by simp; omega) (tz_key x _ (by omega) hx hlow) hi hk hcell
end Go.Proofs.YtaafchcpnceddaaDoor
