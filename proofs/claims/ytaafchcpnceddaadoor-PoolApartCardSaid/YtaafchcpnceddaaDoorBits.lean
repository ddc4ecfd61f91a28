/- What is told of the bits of a row: Has, Lowest, Count, the program's and the document's own; Same. -/
import Derived.Test.YtaafchcpnceddaaDoorWordRef
import Derived.Test.YtaafchcpnceddaaDoorPop
import Derived.Test.YtaafchcpnceddaaDoorBitMath
set_option linter.unusedSimpArgs false
set_option linter.unusedVariables false
namespace Go.Proofs.YtaafchcpnceddaaDoor
open Go.RowKit WordMath

theorem inside_yes (A : Option Addr) (l : List Nat) (c : Nat) (i : Int) (w : World) (hi : i ≤ 9223372036854775807) (h0 : 0 ≤ i) (h1 : i / 64 < l.length) :
    Calls Tryd.prog 36 #[.slice A l.length c, .int .i64 i] w fun e w' => e = .returned (.bool true) ∧ w = w' := by
  go_enter Tryd.func36, Tryd.ntmps36
  go_wp2
  go_ret
  exact ⟨by simp, rfl⟩
theorem inside_no (A : Option Addr) (l : List Nat) (c : Nat) (i : Int) (w : World) (hi : i ≤ 9223372036854775807) (h : i < 0 ∨ l.length ≤ i / 64) :
    Calls Tryd.prog 36 #[.slice A l.length c, .int .i64 i] w fun e w' => e = .returned (.bool false) ∧ w = w' := by
  by_cases h0 : i < 0
  · go_enter Tryd.func36, Tryd.ntmps36
    go_wp2
    go_ret
    exact ⟨rfl, rfl⟩
  · have h1 : l.length ≤ i / 64 := by omega
    clear h
    go_enter Tryd.func36, Tryd.ntmps36
    go_wp2
    go_ret
    exact ⟨by simp; omega, rfl⟩
theorem rinside_yes (A : Option Addr) (l : List Nat) (c : Nat) (i : Int) (w : World) (hi : i ≤ 9223372036854775807) (h0 : 0 ≤ i) (h1 : i / 64 < l.length) :
    Calls Tryd.prog 33 #[.slice A l.length c, .int .i64 i] w fun e w' => e = .returned (.bool true) ∧ w = w' := by
  go_enter Tryd.func33, Tryd.ntmps33
  go_wp2
  go_ret
  exact ⟨by simp, rfl⟩
theorem rinside_no (A : Option Addr) (l : List Nat) (c : Nat) (i : Int) (w : World) (hi : i ≤ 9223372036854775807) (h : i < 0 ∨ l.length ≤ i / 64) :
    Calls Tryd.prog 33 #[.slice A l.length c, .int .i64 i] w fun e w' => e = .returned (.bool false) ∧ w = w' := by
  by_cases h0 : i < 0
  · go_enter Tryd.func33, Tryd.ntmps33
    go_wp2
    go_ret
    exact ⟨rfl, rfl⟩
  · have h1 : l.length ≤ i / 64 := by omega
    clear h
    go_enter Tryd.func33, Tryd.ntmps33
    go_wp2
    go_ret
    exact ⟨by simp; omega, rfl⟩

def isBit (l : List Nat) (i : Int) : Prop := 0 ≤ i ∧ i / 64 < l.length
instance isBit_dec (l : List Nat) (i : Int) : Decidable (isBit l i) := by unfold isBit; infer_instance
/-- What Has answers. -/
def hasV (l : List Nat) (i : Int) : Bool := if isBit l i then bitL l i.toNat == 1 else false
def hasE (l : List Nat) (i : Int) : Int := if isBit l i then 0 else 2
theorem hasV_yes {l : List Nat} {i : Int} (h : isBit l i) : hasV l i = (bitL l i.toNat == 1) := if_pos h
theorem hasE_yes {l : List Nat} {i : Int} (h : isBit l i) : hasE l i = 0 := if_pos h
theorem hasV_no {l : List Nat} {i : Int} (h : ¬ isBit l i) : hasV l i = false := if_neg h
theorem hasE_no {l : List Nat} {i : Int} (h : ¬ isBit l i) : hasE l i = 2 := if_neg h
/-- The word of a row that holds bit i, and where it lies. -/
theorem Row.word {w : World} {A : Option Addr} {l : List Nat} (h : Row w A l) {i : Int} (hi : isBit l i) :
    ∃ ad, A = some ad ∧ w.cell? (ad.add (i / 64).toNat) = some (.int .u64 ((l.getD (i / 64).toNat 0 : Nat) : Int)) := by
  obtain ⟨h0, h1⟩ := hi
  obtain ⟨ad, e, _, hc⟩ := h (by omega)
  exact ⟨ad, e, hc _ (by omega)⟩
theorem bit_key (v i : Int) (v0 : 0 ≤ v) (_i0 : 0 ≤ i) (_i1 : i < 64) (v1 : v < 18446744073709551616) : bits BinOp.and IntKind.u64 (v / 2 ^ i.toNat) 1 = (bitN v.toNat i.toNat : Nat) := by
  obtain ⟨v, rfl⟩ := Int.eq_ofNat_of_zero_le v0
  have e : ((v : Int) / 2 ^ i.toNat) = ((v / 2 ^ i.toNat : Nat) : Int) := by simp
  have h := bits_and_u64_nat (v / 2 ^ i.toNat) 1 (Nat.lt_of_le_of_lt (Nat.div_le_self _ _) (by omega)) (by omega)
  rw [e]
  refine h.trans ?_
  rw [Nat.and_one_is_mod]
  rfl
theorem eq_one (n : Nat) : (((n : Int)) == 1) = (n == 1) := by
  by_cases h : n = 1
  · subst h; rfl
  · have h1 : (n == 1) = false := by simpa using h
    rw [h1, beq_eq_false_iff_ne]; omega
theorem bitL_int (l : List Nat) (i : Int) (h0 : 0 ≤ i) : bitN (l.getD (i / 64).toNat 0) (i % 64).toNat = bitL l i.toNat := by
  unfold bitL
  rw [show (i / 64).toNat = i.toNat / 64 by omega, show (i % 64).toNat = i.toNat % 64 by omega]
theorem has_calls (A : Option Addr) (l : List Nat) (c : Nat) (i : Int) (w : World) (hi : i ≤ 9223372036854775807) (hr : Row w A l) (hl : Wd l) :
    Calls Tryd.prog 28 #[.slice A l.length c, .int .i64 i] w fun e w' => e = .returned (.tuple #[.bool (hasV l i), .int .i64 (hasE l i)]) ∧ w = w' := by
  by_cases h : isBit l i
  · have kv := Lib.hid (hasV_yes h)
    have ke := Lib.hid (hasE_yes h)
    obtain ⟨ad, rfl, hc⟩ := hr.word h
    obtain ⟨h0, h1⟩ := h
    have hw := hl (i / 64).toNat
    have key := Lib.hid (bit_key (l.getD (i / 64).toNat 0 : Nat) (i % 64) (by omega) (by omega) (by omega) (by omega))
    have kb := Lib.hid (bitL_int l i h0)
    clear hr hl
    go_enter Tryd.func28, Tryd.ntmps28
    go_wp2_with (go_at_call 36; refine (inside_yes _ _ _ _ _ hi (by omega) (by omega)).mono ?_; rintro e w' ⟨rfl, rfl⟩)
    go_ret2
    rw [kv.out, ke.out, ← eq_one, ← kb.out]
    have k2 := key.out
    rw [Int.toNat_natCast] at k2
    rw [← k2]
    exact ⟨rfl, rfl⟩
  · have kv := Lib.hid (hasV_no h)
    have ke := Lib.hid (hasE_no h)
    have hn : i < 0 ∨ l.length ≤ i / 64 := by unfold isBit at h; omega
    clear h
    go_enter Tryd.func28, Tryd.ntmps28
    go_wp2_with (go_at_call 36; refine (inside_no _ _ _ _ _ hi (by omega)).mono ?_; rintro e w' ⟨rfl, rfl⟩)
    go_ret2
    rw [kv.out, ke.out]
    exact ⟨rfl, rfl⟩
theorem rhas_calls (A : Option Addr) (l : List Nat) (c : Nat) (i : Int) (w : World) (hi : i ≤ 9223372036854775807) (hr : Row w A l) (hl : Wd l) :
    Calls Tryd.prog 32 #[.slice A l.length c, .int .i64 i] w fun e w' => e = .returned (.tuple #[.bool (hasV l i), .int .i64 (hasE l i)]) ∧ w = w' := by
  by_cases h : isBit l i
  · have kv := Lib.hid (hasV_yes h)
    have ke := Lib.hid (hasE_yes h)
    obtain ⟨ad, rfl, hc⟩ := hr.word h
    obtain ⟨h0, h1⟩ := h
    have hw := hl (i / 64).toNat
    have kb := Lib.hid (bitL_int l i h0)
    clear hr hl
    go_enter Tryd.func32, Tryd.ntmps32
    go_wp2_with (first | (go_at_call 33; refine (rinside_yes _ _ _ _ _ hi (by omega) (by omega)).mono ?_; rintro e w' ⟨rfl, rfl⟩) | (go_at_call 38; refine (bit_calls _ _ _ (by omega) (by omega) (by omega)).mono ?_; rintro e w' ⟨rfl, rfl⟩))
    go_ret2
    rw [kv.out, ke.out, ← eq_one, ← kb.out]
    exact ⟨rfl, rfl⟩
  · have kv := Lib.hid (hasV_no h)
    have ke := Lib.hid (hasE_no h)
    have hn : i < 0 ∨ l.length ≤ i / 64 := by unfold isBit at h; omega
    clear h
    go_enter Tryd.func32, Tryd.ntmps32
    go_wp2_with (go_at_call 33; refine (rinside_no _ _ _ _ _ hi (by omega)).mono ?_; rintro e w' ⟨rfl, rfl⟩)
    go_ret2
    rw [kv.out, ke.out]
    exact ⟨rfl, rfl⟩

/-- What Lowest answers. -/
def lowV (l : List Nat) (n : Int) : Int := ((lowest l (lim l n)).getD 0 : Nat)
def lowB (l : List Nat) (n : Int) : Bool := (lowest l (lim l n)).isSome
theorem low_none {l : List Nat} {n : Int} (h : Full l (lim l n)) : lowV l n = 0 ∧ lowB l n = false := by
  unfold lowV lowB; rw [lowest_none h]; exact ⟨rfl, rfl⟩
theorem low_some {l : List Nat} {n : Int} {r : Nat} (h : Full l r) (h0 : bitL l r = 0) (hr : r < lim l n) : lowV l n = r ∧ lowB l n = true := by
  unfold lowV lowB; rw [lowest_some hr h0 h]; exact ⟨rfl, rfl⟩
theorem not_key (x : Nat) (hx : x < 18446744073709551616) : bits .xor .u64 IntKind.u64.max (x : Int) = ((18446744073709551615 - x : Nat) : Int) := by
  show IntKind.u64.wrap ((BitVec.ofInt 64 IntKind.u64.max ^^^ BitVec.ofInt 64 (x : Int)).toNat : Int) = _
  have h1 : BitVec.ofInt 64 IntKind.u64.max = BitVec.allOnes 64 := by decide
  have h2 : (BitVec.ofInt 64 (x : Int)).toNat = x := by
    rw [BitVec.ofInt_natCast, BitVec.toNat_ofNat]; exact Nat.mod_eq_of_lt (by omega)
  rw [h1, BitVec.allOnes_xor, BitVec.toNat_not, h2, IntKind.wrap_u64]
  omega
/-- What Count answers. -/
def cntV (l : List Nat) (n : Int) : Int := (cnt l (lim l n) : Nat)
theorem mask_key (x i : Int) (x0 : 0 ≤ x) (x1 : x < 18446744073709551616) (i0 : 0 < i) (i1 : i < 64) :
    bits BinOp.and IntKind.u64 x (IntKind.u64.wrap (IntKind.u64.wrap (2 ^ i.toNat) - 1)) = (x.toNat % 2 ^ i.toNat : Nat) := by
  obtain ⟨x, rfl⟩ := Int.eq_ofNat_of_zero_le x0
  obtain ⟨i, rfl⟩ := Int.eq_ofNat_of_zero_le (Int.le_of_lt i0)
  simp only [Int.toNat_natCast]
  have hp : 2 ^ i < 18446744073709551616 := by
    have := Nat.pow_lt_pow_right (a := 2) (by decide) (show i < 64 by omega)
    simpa using this
  have h1 := Nat.two_pow_pos i
  have e : ((2 : Int) ^ i) = ((2 ^ i : Nat) : Int) := by simp
  have e2 : IntKind.u64.wrap (IntKind.u64.wrap ((2 : Int) ^ i) - 1) = ((2 ^ i - 1 : Nat) : Int) := by
    rw [e, IntKind.wrap_u64, IntKind.wrap_u64]; omega
  rw [e2, bits_and_u64_nat _ _ (by omega) (by omega), Nat.and_two_pow_sub_one_eq_mod]
theorem count_calls (A : Option Addr) (l : List Nat) (c : Nat) (n : Int) (w : World) (hn : -9223372036854775808 ≤ n) (hn2 : n ≤ 9223372036854775807) (hr : Row w A l) (hl : Wd l) (hlen : l.length ≤ 140737488355328) :
    Calls Tryd.prog 26 #[.slice A l.length c, .int .i64 n] w fun e w' => e = .returned (.int .i64 (cntV l n)) ∧ w = w' := by
  go_enter Tryd.func26, Tryd.ntmps26
  go_wp2_with (fail)
  go_loop [5, 11] (fun s i => ∃ k : Nat, i = .int .i64 k ∧ k ≤ l.length ∧ (k = 0 ∨ 64 * k < n + 64) ∧ s = .int .i64 (cnt l (min n.toNat (64 * k)) : Nat)) (fun _ i => l.length - (intOf i).toNat)
  case atStart => exact ⟨0, rfl, by omega, by omega, by rw [Nat.mul_zero, Nat.min_zero]; rfl⟩
  case round =>
    obtain ⟨k, rfl, hk, hkn, rfl⟩ := hrel
    have hb := cnt_le l (min n.toNat (64 * k))
    have hmin : min n.toNat (64 * k) ≤ 64 * k := Nat.min_le_right _ _
    by_cases hkl : k < l.length
    · obtain ⟨ad, rfl, _, hcs⟩ := hr (by omega)
      have hc := hcs k hkl
      have hw := hl k
      have hlow : -9223372036854775808 ≤ n - 64 * k := by omega
      by_cases h0 : n - 64 * k ≤ 0
      · have E1 : Hid (cntV l n = (cnt l (min n.toNat (64 * k)) : Nat)) := by
          show cntV l n = _
          unfold cntV lim
          congr 2; omega
        clear hr hl hcs hkn
        generalize min n.toNat (64 * k) = m at *
        go_wp2_with (fail)
        go_ret
        rw [E1.out]
        exact ⟨rfl, rfl⟩
      · have e0 : min n.toNat (64 * k) = 64 * k := by omega
        rw [e0] at hb ⊢
        clear hmin e0
        by_cases h64 : n - 64 * k < 64
        · have km := Lib.hid (mask_key (l.getD k 0 : Nat) (n - 64 * k) (by omega) (by omega) (by omega) h64)
          have E1 : Hid (cnt l (min n.toNat (64 * (k + 1))) = cnt l (64 * k) + popc (l.getD k 0 % 2 ^ (n - 64 * k).toNat) 64) := by
            show cnt l _ = _
            rw [popc_mod _ _ _ (by omega), show min n.toNat (64 * (k + 1)) = 64 * k + (n - 64 * k).toNat by omega, cnt_word _ _ _ (by omega)]
          have hb3 := popc_le (l.getD k 0 % 2 ^ (n - 64 * k).toNat) 64
          have hmw : l.getD k 0 % 2 ^ (n - 64 * k).toNat < 18446744073709551616 := Nat.lt_of_le_of_lt (Nat.mod_le _ _) hw
          clear hr hl hcs hkn
          generalize l.getD k 0 = x at *
          generalize hy : x % 2 ^ (n - 64 * k).toNat = y at *
          have HY := Lib.hid hy
          clear hy
          go_wp2_with (go_at_call 35; rw [km.out]; refine (pop_calls _ _ (by omega) (by rw [Int.toNat_natCast, HY.out]; omega)).mono ?_; rintro e w' ⟨rfl, rfl⟩; rw [Int.toNat_natCast, Int.toNat_natCast, HY.out])
          go_round
          case rel =>
            refine ⟨k + 1, by go_num, by omega, by omega, ?_⟩
            rw [E1.out]
            go_num
          case measure => simp [intOf]; omega
        · have E1 : Hid (cnt l (min n.toNat (64 * (k + 1))) = cnt l (64 * k) + popc (l.getD k 0) 64) := by
            show cnt l _ = _
            rw [show min n.toNat (64 * (k + 1)) = 64 * k + 64 by omega, cnt_word _ _ _ (Nat.le_refl _)]
          have hb3 := popc_le (l.getD k 0) 64
          clear hr hl hcs hkn
          generalize l.getD k 0 = x at *
          go_wp2_with (go_at_call 35; refine (pop_calls _ _ (by omega) (by omega)).mono ?_; rintro e w' ⟨rfl, rfl⟩; rw [Int.toNat_natCast])
          go_round
          case rel =>
            refine ⟨k + 1, by go_num, by omega, by omega, ?_⟩
            rw [E1.out]
            go_num
          case measure => simp [intOf]; omega
    · obtain rfl : k = l.length := by omega
      have E1 : Hid (cntV l n = (cnt l (min n.toNat (64 * l.length)) : Nat)) := rfl
      clear hkn
      generalize min n.toNat (64 * l.length) = m at *
      go_wp2_with (fail)
      go_ret
      rw [E1.out]
      exact ⟨rfl, rfl⟩

end Go.Proofs.YtaafchcpnceddaaDoor
