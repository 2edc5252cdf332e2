/- The model's RomanOf. -/
import Derived.Test.YtejhiilkbckobaaDoorRS
import Derived.Test.YtejhiilkbckobaaDoorRIo
namespace Go.Proofs.YtejhiilkbckobaaDoor
open Go.RowKit
set_option linter.unusedVariables false
set_option maxRecDepth 100000
end Go.Proofs.YtejhiilkbckobaaDoor
