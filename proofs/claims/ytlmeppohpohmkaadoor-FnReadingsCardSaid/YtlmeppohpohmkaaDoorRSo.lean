/- The model's RomanOf. -/
import Derived.Test.YtlmeppohpohmkaaDoorRS
import Derived.Test.YtlmeppohpohmkaaDoorRIo
namespace Go.Proofs.YtlmeppohpohmkaaDoor
open Go.RowKit
set_option linter.unusedVariables false
end Go.Proofs.YtlmeppohpohmkaaDoor
