/- The model's RomanOf. -/
import Derived.Test.YtejhiilkbckobaaRS
import Derived.Test.YtejhiilkbckobaaRIo
namespace Go.Proofs.Ytejhiilkbckobaa
open Go.RowKit
set_option linter.unusedVariables false
set_option maxRecDepth 100000
end Go.Proofs.Ytejhiilkbckobaa
