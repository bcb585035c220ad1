/- Forests of six, plainly: those of the sets 3618 to 7440. -/
import Derived.Test.YtnkceajhhiidcaaForestP
namespace Go.Proofs.Ytnkceajhhiidcaa
open Go.Proofs
set_option maxRecDepth 100000
theorem forest_2 : allC goodC 3618 3823 = true := by kernel_rfl
end Go.Proofs.Ytnkceajhhiidcaa
