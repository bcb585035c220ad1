/- Forests of six, plainly: those of the sets 1129 to 3617. -/
import Derived.Test.YtnkceajhhiidcaaForestP
namespace Go.Proofs.Ytnkceajhhiidcaa
open Go.Proofs
set_option maxRecDepth 100000
theorem forest_1 : allC goodC 1129 2489 = true := by kernel_rfl
end Go.Proofs.Ytnkceajhhiidcaa
