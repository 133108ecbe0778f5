
import Derived.Test.YtgckofoaiojocaaA8
namespace Go.Proofs.Ytgckofoaiojocaa
open Go.RowKit
set_option linter.unusedVariables false

end Go.Proofs.Ytgckofoaiojocaa
