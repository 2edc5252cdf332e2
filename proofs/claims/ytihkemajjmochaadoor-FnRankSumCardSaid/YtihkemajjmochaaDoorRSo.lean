/- The model's RomanOf. -/
import Derived.Test.YtihkemajjmochaaDoorRS
import Derived.Test.YtihkemajjmochaaDoorRIo
namespace Go.Proofs.YtihkemajjmochaaDoor
open Go.RowKit
set_option linter.unusedVariables false
end Go.Proofs.YtihkemajjmochaaDoor
