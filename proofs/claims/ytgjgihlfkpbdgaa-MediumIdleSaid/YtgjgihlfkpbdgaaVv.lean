/- The examples: a contract. -/
import Derived.Test.YtgjgihlfkpbdgaaUz
namespace Go.Proofs.Ytgjgihlfkpbdgaa
open Go.RowKit

noncomputable section
abbrev fAv : FuncId := 17
set_option maxRecDepth 1000000 in
theorem alive_run : zflat (zans Try.prog tab ftab noC fAv [] []) = some (.bool true, []) := by kernel_rfl
theorem av_ans : Ans Try.prog fAv [] (.bool true) ⟨0, [], []⟩ := zflat_ok tab_ok mixed fun_ok noC_ok alive_run .nil
end
end Go.Proofs.Ytgjgihlfkpbdgaa
