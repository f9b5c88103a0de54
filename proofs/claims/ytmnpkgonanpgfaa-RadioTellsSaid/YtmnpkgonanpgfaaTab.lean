/- The program's types and functions as tables, checked against it. -/
import Derived.Test.YtmnpkgonanpgfaaMF
import Derived.Test.YtmnpkgonanpgfaaRows
namespace Go.Proofs.Ytmnpkgonanpgfaa
open Go.RowKit

noncomputable section
noncomputable def tab0 : Nat → Option TI
  | 1 => some ⟨.fn, 1, 8, [.nilf], true⟩
  | 2 => some ⟨.int .i64, 1, 8, [.int .i64 0], true⟩
  | 3 => some ⟨.int .i64, 1, 8, [.int .i64 0], true⟩
  | 4 => some ⟨.bool, 1, 1, [.bool false], true⟩
  | 5 => some ⟨.int .u8, 1, 1, [.int .u8 0], true⟩
  | 9 => some ⟨.str, 1, 16, [.str .empty], true⟩
  | 12 => some ⟨.int .u64, 1, 8, [.int .u64 0], true⟩
  | 20 => some ⟨.iface, 1, 16, [.nili], false⟩
  | 21 => some ⟨.int .i32, 1, 4, [.int .i32 0], true⟩
  | 22 => some ⟨.slice 31, 1, 24, [.nil], true⟩
  | 23 => some ⟨.slice 32, 1, 24, [.nil], true⟩
  | 24 => some ⟨.struct [(22, 0, 1), (23, 1, 1)], 2, 48, [.nil, .nil], true⟩
  | 25 => some ⟨.struct [(22, 0, 1), (23, 1, 1)], 2, 48, [.nil, .nil], true⟩
  | 26 => some ⟨.int .i64, 1, 8, [.int .i64 0], true⟩
  | 27 => some ⟨.fn, 1, 8, [.nilf], true⟩
  | 28 => some ⟨.fn, 1, 8, [.nilf], true⟩
  | 29 => some ⟨.fn, 1, 8, [.nilf], true⟩
  | 30 => some ⟨.struct [(3, 0, 1), (3, 1, 1), (3, 2, 1), (3, 3, 1)], 4, 32, [.int .i64 0, .int .i64 0, .int .i64 0, .int .i64 0], true⟩
  | 31 => some ⟨.struct [(3, 0, 1), (3, 1, 1), (3, 2, 1), (3, 3, 1)], 4, 32, [.int .i64 0, .int .i64 0, .int .i64 0, .int .i64 0], true⟩
  | 32 => some ⟨.slice 3, 1, 24, [.nil], true⟩
  | 34 => some ⟨.fn, 1, 8, [.nilf], true⟩
  | 36 => some ⟨.fn, 1, 8, [.nilf], true⟩
  | 37 => some ⟨.fn, 1, 8, [.nilf], true⟩
  | 38 => some ⟨.fn, 1, 8, [.nilf], true⟩
  | 40 => some ⟨.fn, 1, 8, [.nilf], true⟩
  | 41 => some ⟨.fn, 1, 8, [.nilf], true⟩
  | 43 => some ⟨.fn, 1, 8, [.nilf], true⟩
  | 44 => some ⟨.fn, 1, 8, [.nilf], true⟩
  | 45 => some ⟨.fn, 1, 8, [.nilf], true⟩
  | 46 => some ⟨.fn, 1, 8, [.nilf], true⟩
  | 48 => some ⟨.fn, 1, 8, [.nilf], true⟩
  | 50 => some ⟨.fn, 1, 8, [.nilf], true⟩
  | 52 => some ⟨.fn, 1, 8, [.nilf], true⟩
  | 53 => some ⟨.fn, 1, 8, [.nilf], true⟩
  | 54 => some ⟨.fn, 1, 8, [.nilf], true⟩
  | 55 => some ⟨.fn, 1, 8, [.nilf], true⟩
  | 56 => some ⟨.fn, 1, 8, [.nilf], true⟩
  | 57 => some ⟨.fn, 1, 8, [.nilf], true⟩
  | 58 => some ⟨.fn, 1, 8, [.nilf], true⟩
  | 60 => some ⟨.fn, 1, 8, [.nilf], true⟩
  | 61 => some ⟨.fn, 1, 8, [.nilf], true⟩
  | 62 => some ⟨.slice 25, 1, 24, [.nil], true⟩
  | 63 => some ⟨.fn, 1, 8, [.nilf], true⟩
  | 64 => some ⟨.fn, 1, 8, [.nilf], true⟩
  | 65 => some ⟨.fn, 1, 8, [.nilf], true⟩
  | 66 => some ⟨.fn, 1, 8, [.nilf], true⟩
  | 67 => some ⟨.fn, 1, 8, [.nilf], true⟩
  | 68 => some ⟨.fn, 1, 8, [.nilf], true⟩
  | 69 => some ⟨.fn, 1, 8, [.nilf], true⟩
  | 70 => some ⟨.fn, 1, 8, [.nilf], true⟩
  | 71 => some ⟨.fn, 1, 8, [.nilf], true⟩
  | 72 => some ⟨.array 4 3, 4, 32, [.int .i64 0, .int .i64 0, .int .i64 0, .int .i64 0], true⟩
  | 73 => some ⟨.fn, 1, 8, [.nilf], true⟩
  | 74 => some ⟨.fn, 1, 8, [.nilf], true⟩
  | 75 => some ⟨.fn, 1, 8, [.nilf], true⟩
  | 76 => some ⟨.int .u64, 1, 8, [.int .u64 0], true⟩
  | 77 => some ⟨.fn, 1, 8, [.nilf], true⟩
  | 78 => some ⟨.ptr 31, 1, 8, [.nilp], true⟩
  | 79 => some ⟨.fn, 1, 8, [.nilf], true⟩
  | 80 => some ⟨.fn, 1, 8, [.nilf], true⟩
  | 81 => some ⟨.fn, 1, 8, [.nilf], true⟩
  | 82 => some ⟨.fn, 1, 8, [.nilf], true⟩
  | 83 => some ⟨.fn, 1, 8, [.nilf], true⟩
  | 84 => some ⟨.int .u64, 1, 8, [.int .u64 0], true⟩
  | 85 => some ⟨.fn, 1, 8, [.nilf], true⟩
  | 86 => some ⟨.fn, 1, 8, [.nilf], true⟩
  | 87 => some ⟨.fn, 1, 8, [.nilf], true⟩
  | 93 => some ⟨.fn, 1, 8, [.nilf], true⟩
  | 94 => some ⟨.int .u32, 1, 4, [.int .u32 0], true⟩
  | 97 => some ⟨.fn, 1, 8, [.nilf], true⟩
  | 98 => some ⟨.ptr 5, 1, 8, [.nilp], true⟩
  | _ => none

noncomputable def ksOf : Nat → List (Nat × Nat)
  | 4 => [(10, 29)]
  | 9 => [(9, 2000)]
  | 10 => [(8, 19)]
  | 22 => [(6, 8)]
  | 23 => [(9, 12)]
  | 25 => [(5, 10)]
  | 30 => [(9, 16)]
  | 31 => [(6, 10), (11, 10)]
  | 39 => [(1, 22)]
  | 40 => [(1, 2000)]
  | 46 => [(0, 1000)]
  | 49 => [(1, 28), (2, 1000)]
  | 50 => [(1, 22)]
  | 59 => [(1, 4)]
  | 60 => [(5, 5)]
  | _ => []

def tab : Tab := cutT 99 tab0
def ftab : FTab := ftabOf Try.prog ksOf 63
end
set_option maxRecDepth 1000000 in
theorem tab_ok : TabOk Try.prog tab := tabOk_of (by kernel_rfl)
set_option maxRecDepth 1000000 in
theorem fun_ok : FunOk Try.prog tab ftab := funOk_of (by kernel_rfl)
theorem mixed : Try.prog.follows .mixedOrders = true := by kernel_rfl
end Go.Proofs.Ytmnpkgonanpgfaa
