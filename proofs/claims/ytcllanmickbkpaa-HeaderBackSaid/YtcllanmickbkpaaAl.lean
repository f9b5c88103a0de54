/- The example holds: a contract. -/
import Derived.Test.YtcllanmickbkpaaHA1
import Derived.Test.YtcllanmickbkpaaCt
namespace Go.Proofs.Ytcllanmickbkpaa
open Go.RowKit

noncomputable section
def cAl : ConF := fixC 24 (.bool true)
set_option maxRecDepth 1000000 in
theorem alive_ans : zflat (zans Try.prog tab ftab cTb 24 [] []) = some (.bool true, []) := by kernel_rfl
theorem cAl_ok : ConOk Try.prog cAl := fixC_ok (zflat_ok tab_ok mixed fun_ok cTb_ok alive_ans .nil) rfl
end
end Go.Proofs.Ytcllanmickbkpaa
