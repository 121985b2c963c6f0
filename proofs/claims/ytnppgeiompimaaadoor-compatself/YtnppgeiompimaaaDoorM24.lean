import Derived.Test.YtnppgeiompimaaaDoorM23
import Derived.Deep.DeepCutAuto
namespace Go.Proofs.YtnppgeiompimaaaDoor
set_option linter.unusedSimpArgs false
set_option linter.unusedVariables false
set_option linter.unusedSimpArgs false
set_option linter.unusedVariables false
open Go.RowKit

end Go.Proofs.YtnppgeiompimaaaDoor

