/- What the document's own More, Of and Words hand back. -/
import Derived.Test.YtlfpjfijlngpcaaDoorSum1
import Derived.Test.YtlfpjfijlngpcaaDoorWordMath
import Derived.Test.YtlfpjfijlngpcaaDoorRefTx
set_option linter.unusedSimpArgs false
set_option linter.unusedVariables false
namespace Go.Proofs.YtlfpjfijlngpcaaDoor
open Go.RowKit SumMath WordMath
theorem flip_key2 (c : Nat) (h : c < 4294967296) : bits .xor .u32 (c : Int) 4294967295 = ((c ^^^ M : Nat) : Int) :=
  u32_xor_nat c 4294967295 h (by decide)
theorem halves_succ (j c : Nat) : halves (j + 1) c = half (halves j c) := by rw [halves_add]; rfl
theorem half_odd {x : Nat} (h : x % 2 = 1) (hx : x < 4294967296) : bits .xor .u32 ((x : Int) / 2) 3988292384 = ((half x : Nat) : Int) := by
  have e : ((x : Int) / 2) = ((x / 2 : Nat) : Int) := by simp
  have := u32_xor_nat (x / 2) 3988292384 (by omega) (by decide)
  rw [e]
  unfold half
  rw [if_pos h]
  exact this
theorem half_even {x : Nat} (h : ¬ x % 2 = 1) : ((x : Int) / 2) = ((half x : Nat) : Int) := by
  unfold half
  rw [if_neg h]; simp
theorem rmore_calls (c : Nat) (s : ByteArray) (w : World) (hc : c < 4294967296) (hs : s.size ≤ 1099511627776) :
    Calls Tryd.prog 29 #[.int .u32 c, .string s] w fun e w' => e = .returned (.int .u32 (moreV c (bytesN s.data.toList) : Nat)) ∧ w = w' := by
  have hfc := flip_lt hc
  have k0 := Lib.hid (flip_key2 c hc)
  have kv : Hid (crcTo (c ^^^ M) s s.size ^^^ M = moreV c (bytesN s.data.toList)) := by
    show crcTo (c ^^^ M) s s.size ^^^ M = _
    rw [crcTo_all]; rfl
  generalize c ^^^ M = c0 at *
  go_enter Tryd.func29, Tryd.ntmps29
  go_wp2_with (first | rw [k0.out])
  go_loop [0, 5] (fun x i => ∃ k : Nat, i = .int .i64 k ∧ k ≤ s.size ∧ x = .int .u32 (crcTo c0 s k : Nat)) (fun _ i => s.size - (intOf i).toNat)
  case atStart => exact ⟨0, rfl, by omega, rfl⟩
  case round =>
    obtain ⟨k, rfl, hk, rfl⟩ := hrel
    have hx := crcTo_lt s k hfc
    by_cases h1 : k < s.size
    · have ks := Lib.hid (crcTo_succ c0 s k h1)
      have hb := UInt8.toNat_lt s[k]
      have k1 := Lib.hid (u32_xor_nat (crcTo c0 s k) s[k].toNat hx (by omega))
      have hxb : crcTo c0 s k ^^^ s[k].toNat < 4294967296 := Nat.xor_lt_two_pow (n := 32) hx (by omega)
      have ku : Hid (upd (crcTo c0 s k) s[k].toNat = halves 8 (crcTo c0 s k ^^^ s[k].toNat)) := rfl
      generalize crcTo c0 s k ^^^ s[k].toNat = y at *
      go_wp2_with (first | rw [k1.out])
      go_loop [0, 6] (fun x i => ∃ j : Nat, i = .int .i64 j ∧ j ≤ 8 ∧ x = .int .u32 (halves j y : Nat)) (fun _ i => 8 - (intOf i).toNat)
      case atStart => exact ⟨0, rfl, by omega, rfl⟩
      case round =>
        obtain ⟨j, rfl, hj, rfl⟩ := hrel
        have hz := halves_lt32 j hxb
        by_cases h2 : j < 8
        · have hh := Lib.hid (halves_succ j y)
          generalize halves j y = z at *
          by_cases h3 : z % 2 = 1
          · have t1 : ((z : Int) % 2 == 1) = true := by rw [beq_iff_eq]; omega
            have t2 := Lib.hid (half_odd h3 hz)
            go_wp2_with (first | rw [t2.out])
            go_round
            case rel => exact ⟨j + 1, by go_num, by omega, by rw [hh.out]⟩
            case measure => simp [intOf]; omega
          · have t1 : ((z : Int) % 2 == 1) = false := by rw [beq_eq_false_iff_ne]; omega
            have t2 := Lib.hid (half_even h3)
            go_wp2_with (fail)
            go_round
            case rel => exact ⟨j + 1, by go_num, by omega, by rw [hh.out, t2.out]⟩
            case measure => simp [intOf]; omega
        · obtain rfl : j = 8 := by omega
          go_wp2_with (fail)
          go_round
          case rel => exact ⟨k + 1, by go_num, by omega, by rw [ks.out, ku.out]⟩
          case measure => simp [intOf]; omega
    · obtain rfl : k = s.size := by omega
      have k1 := Lib.hid (flip_key2 _ hx)
      go_wp2_with (first | rw [k1.out])
      go_ret
      rw [kv.out]
      exact ⟨rfl, rfl⟩
end Go.Proofs.YtlfpjfijlngpcaaDoor
