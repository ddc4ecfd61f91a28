/- What every row of this seat asks of the program. -/
import Derived.Test.YtghppmgieljgiaaRows
import Derived.Test.YtghppmgieljgiaaKit
import Derived.Test.YtghppmgieljgiaaOpen
import Derived.ProofKit
namespace Go.Proofs.Ytghppmgieljgiaa
open Go.ChangeShapes Go.WideShapes Go.ChangeAt Go.RowKit
theorem own : ownKnob Try.prog.godebug = none := by kernel_rfl
theorem laidOut : laidOutB Try.prog = true := by kernel_rfl
end Go.Proofs.Ytghppmgieljgiaa
