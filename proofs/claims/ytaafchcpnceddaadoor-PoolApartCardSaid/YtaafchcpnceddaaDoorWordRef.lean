/- What the document's own Get and Put (bit by bit) hand back: the same. -/
import Derived.Test.YtaafchcpnceddaaDoorWordGet
set_option linter.unusedSimpArgs false
set_option linter.unusedVariables false
namespace Go.Proofs.YtaafchcpnceddaaDoor
open Go.RowKit WordMath
def Zeros (x n j : Nat) : Prop := ∀ t, n ≤ t → t < j → bitN x t = 0
theorem refput_calls (v a n x : Int) (w : World) (v0 : 0 ≤ v) (v1 : v < 18446744073709551616) (ha : a ≤ 9223372036854775807) (x0 : 0 ≤ x) (x1 : x < 18446744073709551616) :
    Calls Tryd.prog 34 #[.int .u64 v, .int .i64 a, .int .i64 n, .int .u64 x] w fun e w' => e = .returned (.tuple #[.int .u64 (putV v a n x), .int .i64 (putE a n x)]) ∧ w = w' := by
  by_cases h : isFld a n
  · by_cases hx : x.toNat < 2 ^ n.toNat
    · have k1 := Lib.hid (putV_yes (v := v) ⟨h, hx⟩)
      have k2 := Lib.hid (putE_yes ⟨h, hx⟩)
      obtain ⟨h1, h2, h3⟩ := h
      have hP : put v.toNat a.toNat n.toNat x.toNat < 18446744073709551616 := put_lt _ _ _ _ hx (by simp; omega) (by omega)
      have HX := Lib.hid hx
      clear hx
      go_enter Tryd.func34, Tryd.ntmps34
      go_wp2_with (go_at_call 39; refine (field_yes _ _ _ (by omega) (by omega) (by omega)).mono ?_; rintro e w' ⟨rfl, rfl⟩)
      go_loop [10] (fun i => ∃ j : Int, i = .int .i64 j ∧ n ≤ j ∧ j ≤ 64) (fun i => (64 - intOf i).toNat)
      case atStart => exact ⟨_, rfl, by omega, by omega⟩
      case round =>
        obtain ⟨j, rfl, j0, j1⟩ := hrel
        by_cases hj : j < 64
        · have hz := bit_zero_of x.toNat n.toNat j.toNat HX.out (by omega)
          have hb : ((bitN x.toNat j.toNat : Int) == 1) = false := by rw [hz]; rfl
          clear hz
          go_wp2_with (go_at_call 38; refine (bit_calls _ _ _ (by omega) (by omega) (by omega)).mono ?_; rintro e w' ⟨rfl, rfl⟩)
          go_round
          case rel => exact ⟨j + 1, rfl, by omega, by omega⟩
          case measure => simp [intOf]; omega
        · go_wp2_with (fail)
          go_loop [11, 12, 13] (fun y i _ => ∃ j : Int, i = .int .i64 j ∧ -1 ≤ j ∧ j ≤ 63 ∧ y = .int .u64 (put v.toNat a.toNat n.toNat x.toNat / 2 ^ (j + 1).toNat : Nat)) (fun _ i _ => (intOf i + 1).toNat)
          case atStart =>
            refine ⟨_, rfl, by omega, by omega, ?_⟩
            rw [Nat.div_eq_of_lt (by simpa using hP)]
            rfl
          case round =>
            obtain ⟨i, rfl, i0, i1, rfl⟩ := hrel
            by_cases hi : 0 ≤ i
            · have hstep := down_step (put v.toNat a.toNat n.toNat x.toNat) i.toNat
              have hle := Nat.div_le_self (put v.toNat a.toNat n.toNat x.toNat) (2 ^ i.toNat)
              by_cases hin : a ≤ i ∧ i < a + n
              · obtain ⟨hin1, hin2⟩ := hin
                have hb := bit_put_in v.toNat a.toNat n.toNat x.toNat i.toNat HX.out (by omega) (by omega)
                rw [hb] at hstep
                have HS : Hid (2 * (put v.toNat a.toNat n.toNat x.toNat / 2 ^ (i + 1).toNat) + bitN x.toNat (i - a).toNat = put v.toNat a.toNat n.toNat x.toNat / 2 ^ i.toNat) := by
                  rw [show (i + 1).toNat = i.toNat + 1 by omega, show (i - a).toNat = i.toNat - a.toNat by omega]
                  exact hstep
                have b1 : 2 * (put v.toNat a.toNat n.toNat x.toNat / 2 ^ (i + 1).toNat) + bitN x.toNat (i - a).toNat < 18446744073709551616 := by rw [HS.out]; omega
                clear hstep hb hle
                generalize put v.toNat a.toNat n.toNat x.toNat / 2 ^ (i + 1).toNat = z at *
                go_wp2_with (go_at_call 38; refine (bit_calls _ _ _ (by omega) (by omega) (by omega)).mono ?_; rintro e w' ⟨rfl, rfl⟩)
                go_round
                case rel =>
                  refine ⟨i - 1, rfl, by omega, by omega, ?_⟩
                  rw [show (i - 1 + 1).toNat = i.toNat by omega, ← HS.out]
                  rfl
                case measure => simp [intOf]; omega
              · have hout : i < a ∨ a + n ≤ i := by omega
                clear hin
                have hb := bit_put_out v.toNat a.toNat n.toNat x.toNat i.toNat HX.out (by omega)
                rw [hb] at hstep
                have HS : Hid (2 * (put v.toNat a.toNat n.toNat x.toNat / 2 ^ (i + 1).toNat) + bitN v.toNat i.toNat = put v.toNat a.toNat n.toNat x.toNat / 2 ^ i.toNat) := by
                  rw [show (i + 1).toNat = i.toNat + 1 by omega]
                  exact hstep
                have b1 : 2 * (put v.toNat a.toNat n.toNat x.toNat / 2 ^ (i + 1).toNat) + bitN v.toNat i.toNat < 18446744073709551616 := by rw [HS.out]; omega
                clear hstep hb hle
                generalize put v.toNat a.toNat n.toNat x.toNat / 2 ^ (i + 1).toNat = z at *
                rcases hout with hout | hout
                all_goals
                  go_wp2_with (go_at_call 38; refine (bit_calls _ _ _ (by omega) (by omega) (by omega)).mono ?_; rintro e w' ⟨rfl, rfl⟩)
                  go_round
                  case rel =>
                    refine ⟨i - 1, rfl, by omega, by omega, ?_⟩
                    rw [show (i - 1 + 1).toNat = i.toNat by omega, ← HS.out]
                    rfl
                  case measure => simp [intOf]; omega
            · go_wp2_with (fail)
              go_ret2
              obtain rfl : i = -1 := by omega
              rw [k1.out, k2.out, show (-1 + 1 : Int).toNat = 0 by decide, Int.pow_zero, Int.ediv_one]
              exact ⟨rfl, rfl⟩
    · have hp : ¬ isPut a n x := fun hh => hx hh.2
      have k1 := Lib.hid (putV_no (v := v) hp)
      have k2 := Lib.hid (putE_no hp)
      obtain ⟨h1, h2, h3⟩ := h
      have HX := Lib.hid hx
      clear hx hp
      go_enter Tryd.func34, Tryd.ntmps34
      go_wp2_with (go_at_call 39; refine (field_yes _ _ _ (by omega) (by omega) (by omega)).mono ?_; rintro e w' ⟨rfl, rfl⟩)
      go_loop [10] (fun i => ∃ j : Int, i = .int .i64 j ∧ n ≤ j ∧ j ≤ 64 ∧ Zeros x.toNat n.toNat j.toNat) (fun i => (64 - intOf i).toNat)
      case atStart => exact ⟨_, rfl, by omega, by omega, fun t h1 h2 => by omega⟩
      case round =>
        obtain ⟨j, rfl, j0, j1, hz⟩ := hrel
        have hj : j < 64 := by
          refine Int.lt_of_not_ge fun hge => HX.out ?_
          exact bit_lt_of _ _ (by simp; omega) fun t h1 h2 => hz t h1 (by omega)
        by_cases hb : bitN x.toNat j.toNat = 1
        · have hb1 : ((bitN x.toNat j.toNat : Int) == 1) = true := by rw [hb]; rfl
          clear hb
          go_wp2_with (go_at_call 38; refine (bit_calls _ _ _ (by omega) (by omega) (by omega)).mono ?_; rintro e w' ⟨rfl, rfl⟩)
          go_ret2
          rw [k1.out, k2.out]
          exact ⟨rfl, rfl⟩
        · have hz' : Zeros x.toNat n.toNat (j + 1).toNat := by
            intro t t1 t2
            by_cases ht : t < j.toNat
            · exact hz t t1 ht
            · obtain rfl : t = j.toNat := by omega
              have := bitN_lt x.toNat j.toNat
              omega
          have hb1 : ((bitN x.toNat j.toNat : Int) == 1) = false := by
            rw [beq_eq_false_iff_ne]; omega
          clear hb
          go_wp2_with (go_at_call 38; refine (bit_calls _ _ _ (by omega) (by omega) (by omega)).mono ?_; rintro e w' ⟨rfl, rfl⟩)
          go_round
          case rel => exact ⟨j + 1, rfl, by omega, by omega, hz'⟩
          case measure => simp [intOf]; omega
  · have hp : ¬ isPut a n x := fun hh => h hh.1
    have k1 := Lib.hid (putV_no (v := v) hp)
    have k2 := Lib.hid (putE_no hp)
    have hh := Lib.hid h
    clear h hp
    go_enter Tryd.func34, Tryd.ntmps34
    go_wp2_with (go_at_call 39; refine (field_no _ _ _ ha hh.out).mono ?_; rintro e w' ⟨rfl, rfl⟩)
    go_ret2
    rw [k1.out, k2.out]
    exact ⟨rfl, rfl⟩
end Go.Proofs.YtaafchcpnceddaaDoor
