/- What More and Of hand back. -/
import Derived.Test.YtganpdplikbppaaDoorSum1
set_option linter.unusedSimpArgs false
set_option linter.unusedVariables false
namespace Go.Proofs.YtganpdplikbppaaDoor
open Go.RowKit SumMath
theorem more_calls (c : Nat) (s : ByteArray) (w : World) (hc : c < 4294967296) (hs : s.size ≤ 1099511627776) (hT : TabAt w) :
    Calls Tryd.prog 32 #[.int .u32 c, .string s] w fun e w' => e = .returned (.int .u32 (moreV c (bytesN s.data.toList) : Nat)) ∧ w = w' := by
  have hfc := flip_lt hc
  have k0 := Lib.hid (flip_key c hc)
  have HT := Lib.hid hT
  clear hT
  have kv : Hid (crcTo (c ^^^ M) s s.size ^^^ M = moreV c (bytesN s.data.toList)) := by
    show crcTo (c ^^^ M) s s.size ^^^ M = _
    rw [crcTo_all]; rfl
  generalize c ^^^ M = c0 at *
  go_enter Tryd.func32, Tryd.ntmps32
  go_wp2_with (first | rw [k0.out])
  go_loop [0, 10] (fun x i => ∃ k : Nat, i = .int .i64 k ∧ k ≤ s.size ∧ x = .int .u32 (crcTo c0 s k : Nat)) (fun _ i => s.size - (intOf i).toNat)
  case atStart => exact ⟨0, rfl, by omega, rfl⟩
  case round =>
    obtain ⟨k, rfl, hk, rfl⟩ := hrel
    have hx := crcTo_lt s k hfc
    by_cases h1 : k < s.size
    · have ks := Lib.hid (crcTo_succ c0 s k h1)
      have hb := UInt8.toNat_lt s[k]
      go_wp2_with (go_at_call 46; refine (update_calls _ _ _ hx hb HT.out).mono ?_; rintro e w' ⟨rfl, rfl⟩)
      go_round
      case rel => exact ⟨k + 1, by go_num, by omega, by rw [ks.out]⟩
      case measure => simp [intOf]; omega
    · obtain rfl : k = s.size := by omega
      have k1 := Lib.hid (flip_key _ hx)
      go_wp2_with (first | rw [k1.out])
      go_ret
      rw [kv.out]
      exact ⟨rfl, rfl⟩
theorem of_calls (s : ByteArray) (w : World) (hs : s.size ≤ 1099511627776) (hT : TabAt w) :
    Calls Tryd.prog 22 #[.string s] w fun e w' => e = .returned (.int .u32 (moreV 0 (bytesN s.data.toList) : Nat)) ∧ w = w' := by
  go_enter Tryd.func22, Tryd.ntmps22
  go_wp2_with (go_at_call 32; refine (more_calls 0 _ _ (by decide) hs hT).mono ?_; rintro e w' ⟨rfl, rfl⟩)
  go_ret
  exact ⟨rfl, rfl⟩
end Go.Proofs.YtganpdplikbppaaDoor
