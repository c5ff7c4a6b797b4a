/- Whether two slices of changes are the same, as the laws ask; a record's blocks, at the law's awake. No condition but the slices' cells. -/
import Derived.Test.YtplfbpihhcnnmaaDoorWal3
import Derived.Test.YtplfbpihhcnnmaaDoorBytes2
import Derived.Deep.QuietTactic
import Derived.Laws.StructEq
namespace Go.Proofs.YtplfbpihhcnnmaaDoor.wal
open Go.RowKit
attribute [local go_sem ↓] Go.wp_at_zero Go.wp_at_succ
attribute [local go_sem] str_size str_bl str_append
set_option linter.unusedVariables false
set_option maxRecDepth 100000

end Go.Proofs.YtplfbpihhcnnmaaDoor.wal
