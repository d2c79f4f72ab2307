/- Stage 6: whether names are joined, in the document. -/
import Derived.Test.YtigohccehllmnaaG69
import Derived.Test.YtigohccehllmnaaGl
namespace Go.Proofs.Ytigohccehllmnaa
set_option linter.unusedSimpArgs false
set_option linter.unusedVariables false
open Go.RowKit Go.Shelf
section
attribute [local go_sem ↓] exec_app at_app
attribute [local go_sem] Oper.semAt_some
end
end Go.Proofs.Ytigohccehllmnaa
