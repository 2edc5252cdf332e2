/- The model's RomanOf. -/
import Derived.Test.YtagipmfkmikagaaDoorRS
import Derived.Test.YtagipmfkmikagaaDoorRIo
namespace Go.Proofs.YtagipmfkmikagaaDoor
open Go.RowKit
set_option linter.unusedVariables false
set_option maxRecDepth 100000
end Go.Proofs.YtagipmfkmikagaaDoor
