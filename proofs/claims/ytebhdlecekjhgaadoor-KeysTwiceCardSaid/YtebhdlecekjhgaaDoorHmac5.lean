/- So many bytes of a key, the document's own. No condition. -/
import Derived.Test.YtebhdlecekjhgaaDoorHmac4
namespace Go.Proofs.YtebhdlecekjhgaaDoor.sha
open Go.RowKit
attribute [local go_sem ↓] Go.wp_at_zero Go.wp_at_succ
attribute [local go_sem] str_size str_append conv_one conv_one_drew
set_option linter.unusedVariables false
set_option maxRecDepth 100000

end Go.Proofs.YtebhdlecekjhgaaDoor.sha
