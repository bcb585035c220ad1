/- Forests of six, plainly: those of the sets 7441 to 12328. -/
import Derived.Test.YtnkceajhhiidcaaForestP
namespace Go.Proofs.Ytnkceajhhiidcaa
open Go.Proofs
set_option maxRecDepth 100000
theorem forest_3 : allC goodC 7441 4888 = true := by kernel_rfl
end Go.Proofs.Ytnkceajhhiidcaa
