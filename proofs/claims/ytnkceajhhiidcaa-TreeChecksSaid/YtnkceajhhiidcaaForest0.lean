/- Forests of six, plainly: those of the sets 0 to 1128. -/
import Derived.Test.YtnkceajhhiidcaaForestP
namespace Go.Proofs.Ytnkceajhhiidcaa
open Go.Proofs
set_option maxRecDepth 100000
theorem forest_0 : allC goodC 0 1129 = true := by kernel_rfl
end Go.Proofs.Ytnkceajhhiidcaa
