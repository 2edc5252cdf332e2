/- The model's RomanOf. -/
import Derived.Test.YtefnnmclebmecaaDoorRS
import Derived.Test.YtefnnmclebmecaaDoorRIo
namespace Go.Proofs.YtefnnmclebmecaaDoor
open Go.RowKit
set_option linter.unusedVariables false
set_option maxRecDepth 100000
end Go.Proofs.YtefnnmclebmecaaDoor
