/- The model's RomanOf. -/
import Derived.Test.YtdognkjpiineiaaDoorRS
import Derived.Test.YtdognkjpiineiaaDoorRIo
namespace Go.Proofs.YtdognkjpiineiaaDoor
open Go.RowKit
set_option linter.unusedVariables false
set_option maxRecDepth 100000
end Go.Proofs.YtdognkjpiineiaaDoor
