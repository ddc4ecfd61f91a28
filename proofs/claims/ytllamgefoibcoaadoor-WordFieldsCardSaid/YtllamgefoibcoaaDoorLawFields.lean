/- WordFields: for every word, place, width and value the law's call hands back true; nothing that was there has turned. -/
import Derived.Test.YtllamgefoibcoaaDoorAlive
namespace Go.Proofs.YtllamgefoibcoaaDoor
open Go.RowKit WordMath
theorem fields_calls (v a n x : Int) (w : World) (v0 : 0 ≤ v) (v1 : v < 18446744073709551616) (ha : a ≤ 9223372036854775807) (x0 : 0 ≤ x) (x1 : x < 18446744073709551616) (hT : TabAt w) :
    Calls Tryd.prog 3 #[.int .u64 v, .int .i64 a, .int .i64 n, .int .u64 x] w fun e w' => e = .returned (.bool true) ∧ Below w.heap.size w w' := by
  have HT := Lib.hid hT
  clear hT
  go_enter Tryd.func3, Tryd.ntmps3
  go_wp2_with (first
    | (go_at_call 8; refine (get_calls _ _ _ _ v0 v1 ha).mono ?_; rintro e w' ⟨rfl, rfl⟩)
    | (go_at_call 9; refine (refget_calls _ _ _ _ v0 v1 ha).mono ?_; rintro e w' ⟨rfl, rfl⟩)
    | (go_at_call 10; refine (put_calls _ _ _ _ _ v0 v1 ha x0).mono ?_; rintro e w' ⟨rfl, m, rfl⟩)
    | (go_at_call 11; refine (refput_calls _ _ _ _ _ v0 v1 ha x0 x1).mono ?_; rintro e w' ⟨rfl, rfl⟩)
    | (go_at_call 12; refine (alive_calls _ (HT.out.drewN m)).mono ?_; rintro e w' ⟨rfl, hb⟩))
  go_ret
  exact ⟨rfl, (below_drewN (Below.refl _ _) m).trans hb⟩
end Go.Proofs.YtllamgefoibcoaaDoor
