/- The program's types and functions as tables, checked against it. -/
import Derived.Test.YtkcldejfmmeoaaaMF
import Derived.Test.YtkcldejfmmeoaaaRows
namespace Go.Proofs.Ytkcldejfmmeoaaa
open Go.RowKit

noncomputable section
noncomputable def tab0 : Nat → Option TI
  | 1 => some ⟨.fn, 1, 8, [.nilf], true⟩
  | 2 => some ⟨.int .i64, 1, 8, [.int .i64 0], true⟩
  | 3 => some ⟨.int .i64, 1, 8, [.int .i64 0], true⟩
  | 4 => some ⟨.bool, 1, 1, [.bool false], true⟩
  | 5 => some ⟨.int .u8, 1, 1, [.int .u8 0], true⟩
  | 9 => some ⟨.str, 1, 16, [.str .empty], true⟩
  | 12 => some ⟨.int .u64, 1, 8, [.int .u64 0], true⟩
  | 20 => some ⟨.iface, 1, 16, [.nili], false⟩
  | 21 => some ⟨.int .i32, 1, 4, [.int .i32 0], true⟩
  | 22 => some ⟨.slice 34, 1, 24, [.nil], true⟩
  | 23 => some ⟨.fn, 1, 8, [.nilf], true⟩
  | 24 => some ⟨.fn, 1, 8, [.nilf], true⟩
  | 25 => some ⟨.slice 5, 1, 24, [.nil], true⟩
  | 26 => some ⟨.int .i64, 1, 8, [.int .i64 0], true⟩
  | 28 => some ⟨.fn, 1, 8, [.nilf], true⟩
  | 30 => some ⟨.fn, 1, 8, [.nilf], true⟩
  | 32 => some ⟨.fn, 1, 8, [.nilf], true⟩
  | 33 => some ⟨.struct [(5, 0, 1), (5, 1, 1), (25, 2, 1), (22, 3, 1)], 4, 56, [.int .u8 0, .int .u8 0, .nil, .nil], true⟩
  | 34 => some ⟨.struct [(5, 0, 1), (5, 1, 1), (25, 2, 1), (22, 3, 1)], 4, 56, [.int .u8 0, .int .u8 0, .nil, .nil], true⟩
  | 36 => some ⟨.fn, 1, 8, [.nilf], true⟩
  | 37 => some ⟨.fn, 1, 8, [.nilf], true⟩
  | 38 => some ⟨.fn, 1, 8, [.nilf], true⟩
  | 39 => some ⟨.fn, 1, 8, [.nilf], true⟩
  | 40 => some ⟨.fn, 1, 8, [.nilf], true⟩
  | 41 => some ⟨.fn, 1, 8, [.nilf], true⟩
  | 43 => some ⟨.fn, 1, 8, [.nilf], true⟩
  | 45 => some ⟨.fn, 1, 8, [.nilf], true⟩
  | 46 => some ⟨.fn, 1, 8, [.nilf], true⟩
  | 47 => some ⟨.fn, 1, 8, [.nilf], true⟩
  | 48 => some ⟨.fn, 1, 8, [.nilf], true⟩
  | 49 => some ⟨.fn, 1, 8, [.nilf], true⟩
  | 50 => some ⟨.fn, 1, 8, [.nilf], true⟩
  | 52 => some ⟨.fn, 1, 8, [.nilf], true⟩
  | 53 => some ⟨.fn, 1, 8, [.nilf], true⟩
  | 54 => some ⟨.fn, 1, 8, [.nilf], true⟩
  | 55 => some ⟨.fn, 1, 8, [.nilf], true⟩
  | 56 => some ⟨.fn, 1, 8, [.nilf], true⟩
  | 57 => some ⟨.fn, 1, 8, [.nilf], true⟩
  | 58 => some ⟨.fn, 1, 8, [.nilf], true⟩
  | 59 => some ⟨.struct [(3, 0, 1)], 1, 8, [.int .i64 0], true⟩
  | 60 => some ⟨.struct [(3, 0, 1)], 1, 8, [.int .i64 0], true⟩
  | 61 => some ⟨.fn, 1, 8, [.nilf], true⟩
  | 62 => some ⟨.fn, 1, 8, [.nilf], true⟩
  | 64 => some ⟨.fn, 1, 8, [.nilf], true⟩
  | 65 => some ⟨.fn, 1, 8, [.nilf], true⟩
  | 66 => some ⟨.fn, 1, 8, [.nilf], true⟩
  | 67 => some ⟨.fn, 1, 8, [.nilf], true⟩
  | 68 => some ⟨.fn, 1, 8, [.nilf], true⟩
  | 69 => some ⟨.fn, 1, 8, [.nilf], true⟩
  | 70 => some ⟨.fn, 1, 8, [.nilf], true⟩
  | 71 => some ⟨.fn, 1, 8, [.nilf], true⟩
  | 72 => some ⟨.fn, 1, 8, [.nilf], true⟩
  | 73 => some ⟨.fn, 1, 8, [.nilf], true⟩
  | 74 => some ⟨.fn, 1, 8, [.nilf], true⟩
  | 75 => some ⟨.fn, 1, 8, [.nilf], true⟩
  | 76 => some ⟨.fn, 1, 8, [.nilf], true⟩
  | 78 => some ⟨.ptr 60, 1, 8, [.nilp], true⟩
  | 80 => some ⟨.fn, 1, 8, [.nilf], true⟩
  | 82 => some ⟨.fn, 1, 8, [.nilf], true⟩
  | 84 => some ⟨.fn, 1, 8, [.nilf], true⟩
  | 85 => some ⟨.fn, 1, 8, [.nilf], true⟩
  | 86 => some ⟨.fn, 1, 8, [.nilf], true⟩
  | 88 => some ⟨.fn, 1, 8, [.nilf], true⟩
  | 89 => some ⟨.fn, 1, 8, [.nilf], true⟩
  | 95 => some ⟨.fn, 1, 8, [.nilf], true⟩
  | 96 => some ⟨.int .u32, 1, 4, [.int .u32 0], true⟩
  | 99 => some ⟨.fn, 1, 8, [.nilf], true⟩
  | 100 => some ⟨.ptr 5, 1, 8, [.nilp], true⟩
  | _ => none

noncomputable def ksOf : Nat → List (Nat × Nat)
  | 4 => [(13, 15)]
  | 7 => [(13, 12), (18, 18)]
  | 10 => [(5, 1000)]
  | 20 => [(6, 50)]
  | 30 => [(10, 1000)]
  | 55 => [(6, 6)]
  | 60 => [(4, 6)]
  | _ => []

def tab : Tab := cutT 101 tab0
def ftab : FTab := ftabOf Try.prog ksOf 61
end
set_option maxRecDepth 1000000 in
theorem tab_ok : TabOk Try.prog tab := tabOk_of (by kernel_rfl)
set_option maxRecDepth 1000000 in
theorem fun_ok : FunOk Try.prog tab ftab := funOk_of (by kernel_rfl)
theorem mixed : Try.prog.follows .mixedOrders = true := by kernel_rfl
end Go.Proofs.Ytkcldejfmmeoaaa
