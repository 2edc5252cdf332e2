/- The draws of chapter 1 (package spec): what each law draws. -/
import Derived.Test.YtdpndgmneoaieaaDoorDs
import Derived.Test.YtdpndgmneoaieaaDoorLL
namespace Go.Proofs.YtdpndgmneoaieaaDoor
open Go.RowKit
set_option linter.unusedVariables false
end Go.Proofs.YtdpndgmneoaieaaDoor
