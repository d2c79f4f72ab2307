/- Stage 6: what the document says of a side and of chains. -/
import Derived.Test.YtigohccehllmnaaDj
namespace Go.Proofs.Ytigohccehllmnaa
set_option linter.unusedSimpArgs false
set_option linter.unusedVariables false
open Go.RowKit Go.Shelf
section
attribute [local go_sem ↓] exec_app at_app
attribute [local go_sem] Oper.semAt_some
end
end Go.Proofs.Ytigohccehllmnaa
