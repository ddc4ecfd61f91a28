/- Rows of keys and values: slices.Equal, slices.Clone. -/
import Derived.Test.YtejhodjbgablaaaAv
import Derived.Test.YtejhodjbgablaaaAc6
set_option linter.unusedSimpArgs false
set_option linter.unusedVariables false
namespace Go.Proofs.Ytejhodjbgablaaa
open Go.RowKit
end Go.Proofs.Ytejhodjbgablaaa
