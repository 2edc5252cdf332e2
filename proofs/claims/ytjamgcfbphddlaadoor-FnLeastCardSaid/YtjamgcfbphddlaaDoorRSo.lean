/- The model's RomanOf. -/
import Derived.Test.YtjamgcfbphddlaaDoorRS
import Derived.Test.YtjamgcfbphddlaaDoorRIo
namespace Go.Proofs.YtjamgcfbphddlaaDoor
open Go.RowKit
set_option linter.unusedVariables false
end Go.Proofs.YtjamgcfbphddlaaDoor
