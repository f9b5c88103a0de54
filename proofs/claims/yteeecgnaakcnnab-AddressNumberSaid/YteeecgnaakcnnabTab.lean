/- The program's types and functions as tables, checked against it. -/
import Derived.Test.YteeecgnaakcnnabV24
import Derived.Test.YteeecgnaakcnnabRows
namespace Go.Proofs.Yteeecgnaakcnnab
open Go.RowKit

noncomputable section
noncomputable def tab0 : Nat → Option TI
  | 1 => some ⟨.fn, 1, 8, [.nilf], true⟩
  | 2 => some ⟨.int .i64, 1, 8, [.int .i64 0], true⟩
  | 3 => some ⟨.int .i64, 1, 8, [.int .i64 0], true⟩
  | 4 => some ⟨.bool, 1, 1, [.bool false], true⟩
  | 5 => some ⟨.int .u8, 1, 1, [.int .u8 0], true⟩
  | 9 => some ⟨.str, 1, 16, [.str .empty], true⟩
  | 12 => some ⟨.int .u64, 1, 8, [.int .u64 0], true⟩
  | 20 => some ⟨.iface, 1, 16, [.nili], false⟩
  | 21 => some ⟨.int .i32, 1, 4, [.int .i32 0], true⟩
  | 22 => some ⟨.array 6 5, 6, 6, [.int .u8 0, .int .u8 0, .int .u8 0, .int .u8 0, .int .u8 0, .int .u8 0], true⟩
  | 23 => some ⟨.array 6 5, 6, 6, [.int .u8 0, .int .u8 0, .int .u8 0, .int .u8 0, .int .u8 0, .int .u8 0], true⟩
  | 24 => some ⟨.int .u64, 1, 8, [.int .u64 0], true⟩
  | 25 => some ⟨.fn, 1, 8, [.nilf], true⟩
  | 26 => some ⟨.int .i64, 1, 8, [.int .i64 0], true⟩
  | 28 => some ⟨.fn, 1, 8, [.nilf], true⟩
  | 29 => some ⟨.fn, 1, 8, [.nilf], true⟩
  | 30 => some ⟨.fn, 1, 8, [.nilf], true⟩
  | 31 => some ⟨.fn, 1, 8, [.nilf], true⟩
  | 32 => some ⟨.slice 23, 1, 24, [.nil], true⟩
  | 33 => some ⟨.fn, 1, 8, [.nilf], true⟩
  | 35 => some ⟨.fn, 1, 8, [.nilf], true⟩
  | 37 => some ⟨.fn, 1, 8, [.nilf], true⟩
  | 38 => some ⟨.fn, 1, 8, [.nilf], true⟩
  | 39 => some ⟨.fn, 1, 8, [.nilf], true⟩
  | 40 => some ⟨.fn, 1, 8, [.nilf], true⟩
  | 41 => some ⟨.fn, 1, 8, [.nilf], true⟩
  | 42 => some ⟨.fn, 1, 8, [.nilf], true⟩
  | 43 => some ⟨.fn, 1, 8, [.nilf], true⟩
  | 44 => some ⟨.fn, 1, 8, [.nilf], true⟩
  | 45 => some ⟨.fn, 1, 8, [.nilf], true⟩
  | 46 => some ⟨.fn, 1, 8, [.nilf], true⟩
  | 47 => some ⟨.fn, 1, 8, [.nilf], true⟩
  | 48 => some ⟨.int .u64, 1, 8, [.int .u64 0], true⟩
  | 49 => some ⟨.fn, 1, 8, [.nilf], true⟩
  | 51 => some ⟨.fn, 1, 8, [.nilf], true⟩
  | 52 => some ⟨.fn, 1, 8, [.nilf], true⟩
  | 53 => some ⟨.fn, 1, 8, [.nilf], true⟩
  | 54 => some ⟨.fn, 1, 8, [.nilf], true⟩
  | 56 => some ⟨.fn, 1, 8, [.nilf], true⟩
  | 57 => some ⟨.slice 5, 1, 24, [.nil], true⟩
  | 58 => some ⟨.fn, 1, 8, [.nilf], true⟩
  | 59 => some ⟨.fn, 1, 8, [.nilf], true⟩
  | 65 => some ⟨.fn, 1, 8, [.nilf], true⟩
  | 66 => some ⟨.int .u32, 1, 4, [.int .u32 0], true⟩
  | 69 => some ⟨.fn, 1, 8, [.nilf], true⟩
  | 70 => some ⟨.ptr 5, 1, 8, [.nilp], true⟩
  | _ => none

noncomputable def ksOf : Nat → List (Nat × Nat)
  | 3 => [(4, 3)]
  | 6 => [(4, 32)]
  | 10 => [(1, 3)]
  | 11 => [(6, 9)]
  | 15 => [(6, 8)]
  | 18 => [(1, 6)]
  | 21 => [(7, 4)]
  | 25 => [(5, 6), (8, 14)]
  | 26 => [(3, 14), (4, 14), (7, 5), (9, 5)]
  | _ => []

def tab : Tab := cutT 71 tab0
def ftab : FTab := ftabOf Try.prog ksOf 33
end
set_option maxRecDepth 1000000 in
theorem tab_ok : TabOk Try.prog tab := tabOk_of (by kernel_rfl)
set_option maxRecDepth 1000000 in
theorem fun_ok : FunOk Try.prog tab ftab := funOk_of (by kernel_rfl)
theorem mixed : Try.prog.follows .mixedOrders = true := by kernel_rfl
end Go.Proofs.Yteeecgnaakcnnab
