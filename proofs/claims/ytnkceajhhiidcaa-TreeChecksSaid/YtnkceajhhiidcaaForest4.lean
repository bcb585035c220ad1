/- Forests of six, plainly: those of the sets 12329 to 17953. -/
import Derived.Test.YtnkceajhhiidcaaForestP
namespace Go.Proofs.Ytnkceajhhiidcaa
open Go.Proofs
set_option maxRecDepth 100000
theorem forest_4 : allC goodC 12329 5625 = true := by kernel_rfl
end Go.Proofs.Ytnkceajhhiidcaa
