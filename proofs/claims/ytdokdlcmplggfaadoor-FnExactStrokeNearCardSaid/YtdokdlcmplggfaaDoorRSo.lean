/- The model's RomanOf. -/
import Derived.Test.YtdokdlcmplggfaaDoorRS
import Derived.Test.YtdokdlcmplggfaaDoorRIo
namespace Go.Proofs.YtdokdlcmplggfaaDoor
open Go.RowKit
set_option linter.unusedVariables false
set_option maxRecDepth 100000
end Go.Proofs.YtdokdlcmplggfaaDoor
