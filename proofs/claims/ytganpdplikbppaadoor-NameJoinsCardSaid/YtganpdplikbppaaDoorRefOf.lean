/- What the document's own Of hands back. -/
import Derived.Test.YtganpdplikbppaaDoorSum2
set_option linter.unusedSimpArgs false
set_option linter.unusedVariables false
namespace Go.Proofs.YtganpdplikbppaaDoor
open Go.RowKit SumMath WordMath
theorem rof_calls (s : ByteArray) (w : World) (hs : s.size ≤ 1099511627776) :
    Calls Tryd.prog 23 #[.string s] w fun e w' => e = .returned (.int .u32 (moreV 0 (bytesN s.data.toList) : Nat)) ∧ w = w' := by
  go_enter Tryd.func23, Tryd.ntmps23
  go_wp2_with (go_at_call 33; refine (rmore_calls 0 _ _ (by decide) hs).mono ?_; rintro e w' ⟨rfl, rfl⟩)
  go_ret
  exact ⟨rfl, rfl⟩
end Go.Proofs.YtganpdplikbppaaDoor
