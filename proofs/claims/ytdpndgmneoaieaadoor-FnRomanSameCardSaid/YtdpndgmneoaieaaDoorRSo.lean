/- The model's RomanOf. -/
import Derived.Test.YtdpndgmneoaieaaDoorRS
import Derived.Test.YtdpndgmneoaieaaDoorRIo
namespace Go.Proofs.YtdpndgmneoaieaaDoor
open Go.RowKit
set_option linter.unusedVariables false
end Go.Proofs.YtdpndgmneoaieaaDoor
