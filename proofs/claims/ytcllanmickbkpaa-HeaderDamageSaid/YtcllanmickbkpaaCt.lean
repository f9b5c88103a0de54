/- The table of the code of 32 bits: what it is, and its contract. -/
import Derived.Test.YtcllanmickbkpaaTab
import Derived.Test.YtcllanmickbkpaaMG
namespace Go.Proofs.Ytcllanmickbkpaa
open Go.RowKit

noncomputable section
def tD32 : List DV := [.int .u32 0, .int .u32 136331795, .int .u32 272663590, .int .u32 408995381, .int .u32 545327180, .int .u32 681658975, .int .u32 817990762, .int .u32 954322553, .int .u32 1090654360, .int .u32 1226986123, .int .u32 1363317950, .int .u32 1499649709, .int .u32 1635981524, .int .u32 1772313287, .int .u32 1908645106, .int .u32 2044976865]
set_option maxRecDepth 1000000 in
theorem tab32_ans : zflat (zans Try.prog tab ftab noC 77 [.int .u32 136331795] []) = some (.agg tD32, []) := by kernel_rfl
def cTb : ConF := liftC (fixI 77 .u32 136331795 (.agg tD32))
theorem cTb_ok : ConOk Try.prog cTb := liftC_ok (fixI_ok (zflat_ok tab_ok mixed fun_ok noC_ok tab32_ans .nil))
end
end Go.Proofs.Ytcllanmickbkpaa
