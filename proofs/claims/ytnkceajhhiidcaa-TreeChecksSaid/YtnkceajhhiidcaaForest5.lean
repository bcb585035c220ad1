/- Forests of six, plainly: those of the sets 17954 to 32767. -/
import Derived.Test.YtnkceajhhiidcaaForestP
namespace Go.Proofs.Ytnkceajhhiidcaa
open Go.Proofs
set_option maxRecDepth 100000
theorem forest_5 : allC goodC 17954 14814 = true := by kernel_rfl
end Go.Proofs.Ytnkceajhhiidcaa
