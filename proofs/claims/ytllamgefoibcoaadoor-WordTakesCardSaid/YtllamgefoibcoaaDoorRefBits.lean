/- What the document's own Lowest, Count and Same tell of rows of bits. -/
import Derived.Test.YtllamgefoibcoaaDoorBits
namespace Go.Proofs.YtllamgefoibcoaaDoor
open Go.RowKit WordMath
theorem rlowest_calls (A : Option Addr) (l : List Nat) (c : Nat) (n : Int) (w : World) (hn : n ≤ 9223372036854775807) (hr : Row w A l) (hl : Wd l) (hlen : l.length ≤ 140737488355328) :
    Calls Tryd.prog 18 #[.slice A l.length c, .int .i64 n] w fun e w' => e = .returned (.tuple #[.int .i64 (lowV l n), .bool (lowB l n)]) ∧ w = w' := by
  go_enter Tryd.func18, Tryd.ntmps18
  go_wp2_with (fail)
  go_loop [6] (fun i => ∃ k : Int, i = .int .i64 k ∧ 0 ≤ k ∧ k ≤ 64 * l.length ∧ Full l k.toNat) (fun i => 64 * l.length + 1 - (intOf i).toNat)
  case atStart => exact ⟨0, rfl, by omega, by omega, ⟨fun i hi => absurd hi (by omega)⟩⟩
  case round =>
    obtain ⟨k, rfl, hk0, hk, hf⟩ := hrel
    by_cases h1 : k < n
    · by_cases h2 : k < 64 * l.length
      · obtain ⟨ad, rfl, hc⟩ := hr.word (i := k) ⟨by omega, by omega⟩
        have hw := hl (k / 64).toNat
        have kb := Lib.hid (bitL_int l k (by omega))
        by_cases hb : bitL l k.toNat = 0
        · obtain ⟨e1, e2⟩ := low_some (l := l) (n := n) hf hb (by unfold lim; omega)
          have E1 := Lib.hid e1
          have E2 := Lib.hid e2
          have hz : ((bitN (l.getD (k / 64).toNat 0) (k % 64).toNat : Int) == 0) = true := by rw [kb.out, hb]; rfl
          clear hr hl e1 e2 hb
          generalize l.getD (k / 64).toNat 0 = x at *
          go_wp2_with (first | (go_at_call 30; refine (rinside_yes _ _ _ _ _ (by omega) (by omega) (by omega)).mono ?_; rintro e w' ⟨rfl, rfl⟩) | (go_at_call 28; refine (bit_calls _ _ _ (by omega) (by omega) (by omega)).mono ?_; rintro e w' ⟨rfl, rfl⟩; rw [Int.toNat_natCast]))
          go_ret2
          rw [E1.out, E2.out, Int.toNat_of_nonneg hk0]
          exact ⟨rfl, rfl⟩
        · have hz : ((bitN (l.getD (k / 64).toNat 0) (k % 64).toNat : Int) == 0) = false := by rw [kb.out, beq_eq_false_iff_ne]; omega
          have hf' : Full l (k + 1).toNat := ⟨fun i hi => by
            by_cases h : i < k.toNat
            · exact hf.all i h
            · obtain rfl : i = k.toNat := by omega
              have := bitL_lt l k.toNat
              omega⟩
          clear hr hl hb
          generalize l.getD (k / 64).toNat 0 = x at *
          go_wp2_with (first | (go_at_call 30; refine (rinside_yes _ _ _ _ _ (by omega) (by omega) (by omega)).mono ?_; rintro e w' ⟨rfl, rfl⟩) | (go_at_call 28; refine (bit_calls _ _ _ (by omega) (by omega) (by omega)).mono ?_; rintro e w' ⟨rfl, rfl⟩; rw [Int.toNat_natCast]))
          go_round
          case rel => exact ⟨k + 1, rfl, by omega, by omega, hf'⟩
          case measure => simp [intOf]; omega
      · obtain ⟨e1, e2⟩ := low_none (l := l) (n := n) (hf.less (by unfold lim; omega))
        have E1 := Lib.hid e1
        have E2 := Lib.hid e2
        clear e1 e2
        go_wp2_with (go_at_call 30; refine (rinside_no _ _ _ _ _ (by omega) (by omega)).mono ?_; rintro e w' ⟨rfl, rfl⟩)
        go_ret2
        rw [E1.out, E2.out]
        exact ⟨rfl, rfl⟩
    · obtain ⟨e1, e2⟩ := low_none (l := l) (n := n) (hf.less (by unfold lim; omega))
      have E1 := Lib.hid e1
      have E2 := Lib.hid e2
      clear e1 e2
      go_wp2_with (fail)
      go_ret2
      rw [E1.out, E2.out]
      exact ⟨rfl, rfl⟩
theorem rcount_calls (A : Option Addr) (l : List Nat) (c : Nat) (n : Int) (w : World) (hn : n ≤ 9223372036854775807) (hr : Row w A l) (hl : Wd l) (hlen : l.length ≤ 140737488355328) :
    Calls Tryd.prog 21 #[.slice A l.length c, .int .i64 n] w fun e w' => e = .returned (.int .i64 (cntV l n)) ∧ w = w' := by
  go_enter Tryd.func21, Tryd.ntmps21
  go_wp2_with (fail)
  go_loop [5, 6] (fun s i => ∃ k : Int, i = .int .i64 k ∧ 0 ≤ k ∧ k ≤ 64 * l.length ∧ k ≤ max 0 n ∧ s = .int .i64 (cnt l k.toNat : Nat)) (fun _ i => 64 * l.length + 1 - (intOf i).toNat)
  case atStart => exact ⟨0, rfl, by omega, by omega, by omega, rfl⟩
  case round =>
    obtain ⟨k, rfl, hk0, hk, hkn, rfl⟩ := hrel
    have hb := cnt_le l k.toNat
    by_cases h1 : k < n
    · by_cases h2 : k < 64 * l.length
      · obtain ⟨ad, rfl, hc⟩ := hr.word (i := k) ⟨by omega, by omega⟩
        have hw := hl (k / 64).toNat
        have kb := Lib.hid (bitL_int l k (by omega))
        have E1 : Hid (cnt l (k + 1).toNat = cnt l k.toNat + bitN (l.getD (k / 64).toNat 0) (k % 64).toNat) := by
          show cnt l _ = _
          rw [kb.out, show (k + 1).toNat = k.toNat + 1 by omega]; rfl
        have hb2 := bitN_lt (l.getD (k / 64).toNat 0) (k % 64).toNat
        clear hr hl hkn
        generalize l.getD (k / 64).toNat 0 = x at *
        go_wp2_with (first | (go_at_call 30; refine (rinside_yes _ _ _ _ _ (by omega) (by omega) (by omega)).mono ?_; rintro e w' ⟨rfl, rfl⟩) | (go_at_call 28; refine (bit_calls _ _ _ (by omega) (by omega) (by omega)).mono ?_; rintro e w' ⟨rfl, rfl⟩; rw [Int.toNat_natCast]))
        go_round
        case rel =>
          refine ⟨k + 1, rfl, by omega, by omega, by omega, ?_⟩
          rw [E1.out]
          go_num
        case measure => simp [intOf]; omega
      · have E1 : Hid (cntV l n = (cnt l k.toNat : Nat)) := by
          show cntV l n = _
          unfold cntV lim
          congr 2; omega
        clear hkn
        go_wp2_with (go_at_call 30; refine (rinside_no _ _ _ _ _ (by omega) (by omega)).mono ?_; rintro e w' ⟨rfl, rfl⟩)
        go_ret
        rw [E1.out]
        exact ⟨rfl, rfl⟩
    · have E1 : Hid (cntV l n = (cnt l k.toNat : Nat)) := by
        show cntV l n = _
        unfold cntV lim
        congr 2; omega
      clear hkn
      go_wp2_with (fail)
      go_ret
      rw [E1.out]
      exact ⟨rfl, rfl⟩

/-- Same, of two rows that are the same. -/
theorem same_calls (A B : Option Addr) (l : List Nat) (c d : Nat) (w : World) (ha : Row w A l) (hb : Row w B l) (hlen : l.length ≤ 140737488355328) :
    Calls Tryd.prog 19 #[.slice A l.length c, .slice B l.length d] w (Q (.bool true) w) := by
  go_enter Tryd.func19, Tryd.ntmps19
  go_wp2_with (fail)
  go_loopw [5] (fun i wr => ∃ k : Nat, i = .int .i64 k ∧ k ≤ l.length ∧ ∃ m, wr = w.drewN m) (fun i _ => l.length - (intOf i).toNat)
  case atStart => exact ⟨0, rfl, by omega, 0, rfl⟩
  case round =>
    obtain ⟨k, rfl, hk, m, rfl⟩ := hrel
    by_cases h1 : k < l.length
    · obtain ⟨ad, rfl, _, hca⟩ := ha (by omega)
      obtain ⟨ad', rfl, _, hcb⟩ := hb (by omega)
      have h1a := hca k h1
      have h1b := hcb k h1
      clear hca hcb ha hb
      go_wp2_with (fail)
      go_quiet (fail)
      go_wp2_with (fail)
      go_roundw
      case rel => exact ⟨k + 1, by go_num, by omega, _, rfl⟩
      case measure => simp [intOf]; omega
    · go_wp2_with (fail)
      go_ret
      exact Q.of
end Go.Proofs.YtllamgefoibcoaaDoor
