/- What the document's own Get (bit by bit) hands back: the same. -/
import Derived.Test.YtppnicdhahgigaaDoorWordGet
namespace Go.Proofs.YtppnicdhahgigaaDoor
open Go.RowKit WordMath
theorem refget_calls (v a n : Int) (w : World) (v0 : 0 ≤ v) (_v1 : v < 18446744073709551616) (ha : a ≤ 9223372036854775807) :
    Calls Tryd.prog 53 #[.int .u64 v, .int .i64 a, .int .i64 n] w fun e w' => e = .returned (.tuple #[.int .u64 (getV v a n), .int .i64 (getE a n)]) ∧ w = w' := by
  by_cases h : isFld a n
  · have k1 := Lib.hid (getV_yes (v := v) h)
    have k2 := Lib.hid (getE_yes h)
    obtain ⟨h1, h2, h3⟩ := h
    have k3 := Lib.hid (fld_zero v.toNat (a.toNat + n.toNat))
    go_enter Tryd.func53, Tryd.ntmps53
    go_wp2_with (go_at_call 60; refine (field_yes _ _ _ (by omega) (by omega) (by omega)).mono ?_; rintro e w' ⟨rfl, rfl⟩)
    go_loop [8, 9] (fun x i => ∃ j : Int, i = .int .i64 j ∧ -1 ≤ j ∧ j ≤ n - 1 ∧ x = .int .u64 (fld v.toNat (a + j + 1).toNat (n - 1 - j).toNat : Nat)) (fun _ i => (intOf i + 1).toNat)
    case atStart =>
      refine ⟨_, rfl, by omega, by omega, ?_⟩
      rw [show (n - 1 - (n - 1)).toNat = 0 by omega, fld_zero]
      rfl
    case round =>
      obtain ⟨j, rfl, j0, j1, rfl⟩ := hrel
      by_cases hj : 0 ≤ j
      · have hstep := get_step v.toNat a.toNat (n - 1 - j).toNat j.toNat
        have hlt := fld_lt64 v.toNat (a + j).toNat (n - 1 - j + 1).toNat (by omega)
        have HS : Hid (2 * fld v.toNat (a + j + 1).toNat (n - 1 - j).toNat + bitN v.toNat (a + j).toNat = fld v.toNat (a + j).toNat (n - 1 - j + 1).toNat) := by
          rw [show (a + j + 1).toNat = a.toNat + j.toNat + 1 by omega, show (a + j).toNat = a.toNat + j.toNat by omega, show (n - 1 - j + 1).toNat = (n - 1 - j).toNat + 1 by omega]
          exact hstep
        have b1 : 2 * fld v.toNat (a + j + 1).toNat (n - 1 - j).toNat + bitN v.toNat (a + j).toNat < 18446744073709551616 := by rw [HS.out]; exact hlt
        clear hstep hlt
        go_wp2_with (go_at_call 61; refine (bit_calls _ _ _ (by omega) (by omega) (by omega)).mono ?_; rintro e w' ⟨rfl, rfl⟩)
        go_round
        case rel =>
          refine ⟨j - 1, rfl, by omega, by omega, ?_⟩
          rw [show (a + (j - 1) + 1).toNat = (a + j).toNat by omega, show (n - 1 - (j - 1)).toNat = (n - 1 - j + 1).toNat by omega, ← HS.out]
          rfl
        case measure => simp [intOf]; omega
      · go_wp2_with (fail)
        go_ret2
        obtain rfl : j = -1 := by omega
        rw [k1.out, k2.out, show (a + -1 + 1).toNat = a.toNat by omega, show (n - 1 - -1).toNat = n.toNat by omega]
        exact ⟨rfl, rfl⟩
  · have k1 := Lib.hid (getV_no (v := v) h)
    have k2 := Lib.hid (getE_no h)
    have hh := Lib.hid h
    clear h
    go_enter Tryd.func53, Tryd.ntmps53
    go_wp2_with (go_at_call 60; refine (field_no _ _ _ ha hh.out).mono ?_; rintro e w' ⟨rfl, rfl⟩)
    go_ret2
    rw [k1.out, k2.out]
    exact ⟨rfl, rfl⟩
end Go.Proofs.YtppnicdhahgigaaDoor
