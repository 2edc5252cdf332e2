/- The model's RomanOf. -/
import Derived.Test.YtlmeppohpohmkaaRS
import Derived.Test.YtlmeppohpohmkaaRIo
namespace Go.Proofs.Ytlmeppohpohmkaa
open Go.RowKit
set_option linter.unusedVariables false
end Go.Proofs.Ytlmeppohpohmkaa
