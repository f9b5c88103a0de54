/- The program's types and functions as tables, checked against it. -/
import Derived.Test.YtgjgihlfkpbdgaaMF
import Derived.Test.YtgjgihlfkpbdgaaRows
namespace Go.Proofs.Ytgjgihlfkpbdgaa
open Go.RowKit

noncomputable section
noncomputable def tab0 : Nat → Option TI
  | 1 => some ⟨.fn, 1, 8, [.nilf], true⟩
  | 2 => some ⟨.int .i64, 1, 8, [.int .i64 0], true⟩
  | 3 => some ⟨.int .i64, 1, 8, [.int .i64 0], true⟩
  | 4 => some ⟨.bool, 1, 1, [.bool false], true⟩
  | 5 => some ⟨.int .u8, 1, 1, [.int .u8 0], true⟩
  | 9 => some ⟨.str, 1, 16, [.str .empty], true⟩
  | 12 => some ⟨.int .u64, 1, 8, [.int .u64 0], true⟩
  | 20 => some ⟨.iface, 1, 16, [.nili], false⟩
  | 21 => some ⟨.int .i32, 1, 4, [.int .i32 0], true⟩
  | 22 => some ⟨.slice 64, 1, 24, [.nil], true⟩
  | 23 => some ⟨.slice 55, 1, 24, [.nil], true⟩
  | 24 => some ⟨.struct [(22, 0, 1), (23, 1, 1)], 2, 48, [.nil, .nil], true⟩
  | 25 => some ⟨.struct [(22, 0, 1), (23, 1, 1)], 2, 48, [.nil, .nil], true⟩
  | 26 => some ⟨.fn, 1, 8, [.nilf], true⟩
  | 27 => some ⟨.slice 32, 1, 24, [.nil], true⟩
  | 28 => some ⟨.int .i64, 1, 8, [.int .i64 0], true⟩
  | 29 => some ⟨.fn, 1, 8, [.nilf], true⟩
  | 30 => some ⟨.fn, 1, 8, [.nilf], true⟩
  | 31 => some ⟨.struct [(3, 0, 1), (3, 1, 1), (3, 2, 1), (3, 3, 1)], 4, 32, [.int .i64 0, .int .i64 0, .int .i64 0, .int .i64 0], true⟩
  | 32 => some ⟨.struct [(3, 0, 1), (3, 1, 1), (3, 2, 1), (3, 3, 1)], 4, 32, [.int .i64 0, .int .i64 0, .int .i64 0, .int .i64 0], true⟩
  | 34 => some ⟨.fn, 1, 8, [.nilf], true⟩
  | 36 => some ⟨.fn, 1, 8, [.nilf], true⟩
  | 38 => some ⟨.fn, 1, 8, [.nilf], true⟩
  | 39 => some ⟨.fn, 1, 8, [.nilf], true⟩
  | 40 => some ⟨.fn, 1, 8, [.nilf], true⟩
  | 41 => some ⟨.fn, 1, 8, [.nilf], true⟩
  | 42 => some ⟨.slice 4, 1, 24, [.nil], true⟩
  | 43 => some ⟨.fn, 1, 8, [.nilf], true⟩
  | 45 => some ⟨.fn, 1, 8, [.nilf], true⟩
  | 46 => some ⟨.fn, 1, 8, [.nilf], true⟩
  | 47 => some ⟨.fn, 1, 8, [.nilf], true⟩
  | 48 => some ⟨.fn, 1, 8, [.nilf], true⟩
  | 50 => some ⟨.fn, 1, 8, [.nilf], true⟩
  | 52 => some ⟨.fn, 1, 8, [.nilf], true⟩
  | 53 => some ⟨.fn, 1, 8, [.nilf], true⟩
  | 54 => some ⟨.fn, 1, 8, [.nilf], true⟩
  | 55 => some ⟨.slice 3, 1, 24, [.nil], true⟩
  | 56 => some ⟨.fn, 1, 8, [.nilf], true⟩
  | 57 => some ⟨.fn, 1, 8, [.nilf], true⟩
  | 58 => some ⟨.fn, 1, 8, [.nilf], true⟩
  | 60 => some ⟨.fn, 1, 8, [.nilf], true⟩
  | 61 => some ⟨.fn, 1, 8, [.nilf], true⟩
  | 62 => some ⟨.fn, 1, 8, [.nilf], true⟩
  | 63 => some ⟨.struct [(3, 0, 1), (3, 1, 1), (3, 2, 1), (3, 3, 1)], 4, 32, [.int .i64 0, .int .i64 0, .int .i64 0, .int .i64 0], true⟩
  | 64 => some ⟨.struct [(3, 0, 1), (3, 1, 1), (3, 2, 1), (3, 3, 1)], 4, 32, [.int .i64 0, .int .i64 0, .int .i64 0, .int .i64 0], true⟩
  | 65 => some ⟨.fn, 1, 8, [.nilf], true⟩
  | 66 => some ⟨.fn, 1, 8, [.nilf], true⟩
  | 67 => some ⟨.fn, 1, 8, [.nilf], true⟩
  | 68 => some ⟨.fn, 1, 8, [.nilf], true⟩
  | 69 => some ⟨.fn, 1, 8, [.nilf], true⟩
  | 70 => some ⟨.fn, 1, 8, [.nilf], true⟩
  | 71 => some ⟨.fn, 1, 8, [.nilf], true⟩
  | 72 => some ⟨.slice 90, 1, 24, [.nil], true⟩
  | 73 => some ⟨.fn, 1, 8, [.nilf], true⟩
  | 74 => some ⟨.fn, 1, 8, [.nilf], true⟩
  | 75 => some ⟨.fn, 1, 8, [.nilf], true⟩
  | 76 => some ⟨.fn, 1, 8, [.nilf], true⟩
  | 77 => some ⟨.fn, 1, 8, [.nilf], true⟩
  | 78 => some ⟨.fn, 1, 8, [.nilf], true⟩
  | 79 => some ⟨.fn, 1, 8, [.nilf], true⟩
  | 80 => some ⟨.fn, 1, 8, [.nilf], true⟩
  | 81 => some ⟨.fn, 1, 8, [.nilf], true⟩
  | 82 => some ⟨.fn, 1, 8, [.nilf], true⟩
  | 83 => some ⟨.fn, 1, 8, [.nilf], true⟩
  | 84 => some ⟨.fn, 1, 8, [.nilf], true⟩
  | 85 => some ⟨.fn, 1, 8, [.nilf], true⟩
  | 86 => some ⟨.fn, 1, 8, [.nilf], true⟩
  | 87 => some ⟨.fn, 1, 8, [.nilf], true⟩
  | 88 => some ⟨.fn, 1, 8, [.nilf], true⟩
  | 89 => some ⟨.fn, 1, 8, [.nilf], true⟩
  | 90 => some ⟨.slice 94, 1, 24, [.nil], true⟩
  | 91 => some ⟨.fn, 1, 8, [.nilf], true⟩
  | 92 => some ⟨.fn, 1, 8, [.nilf], true⟩
  | 93 => some ⟨.struct [(4, 0, 1), (4, 1, 1), (3, 2, 1)], 3, 16, [.bool false, .bool false, .int .i64 0], true⟩
  | 94 => some ⟨.struct [(4, 0, 1), (4, 1, 1), (3, 2, 1)], 3, 16, [.bool false, .bool false, .int .i64 0], true⟩
  | 95 => some ⟨.fn, 1, 8, [.nilf], true⟩
  | 96 => some ⟨.fn, 1, 8, [.nilf], true⟩
  | 97 => some ⟨.fn, 1, 8, [.nilf], true⟩
  | 98 => some ⟨.fn, 1, 8, [.nilf], true⟩
  | 99 => some ⟨.fn, 1, 8, [.nilf], true⟩
  | 100 => some ⟨.fn, 1, 8, [.nilf], true⟩
  | 101 => some ⟨.fn, 1, 8, [.nilf], true⟩
  | 102 => some ⟨.array 4 3, 4, 32, [.int .i64 0, .int .i64 0, .int .i64 0, .int .i64 0], true⟩
  | 103 => some ⟨.fn, 1, 8, [.nilf], true⟩
  | 104 => some ⟨.int .u64, 1, 8, [.int .u64 0], true⟩
  | 105 => some ⟨.fn, 1, 8, [.nilf], true⟩
  | 106 => some ⟨.int .u64, 1, 8, [.int .u64 0], true⟩
  | 107 => some ⟨.fn, 1, 8, [.nilf], true⟩
  | 113 => some ⟨.fn, 1, 8, [.nilf], true⟩
  | 114 => some ⟨.int .u32, 1, 4, [.int .u32 0], true⟩
  | 117 => some ⟨.fn, 1, 8, [.nilf], true⟩
  | 118 => some ⟨.ptr 5, 1, 8, [.nilp], true⟩
  | _ => none

noncomputable def ksOf : Nat → List (Nat × Nat)
  | 3 => [(21, 49)]
  | 4 => [(6, 19)]
  | 5 => [(11, 21)]
  | 6 => [(16, 11), (17, 11), (23, 28)]
  | 7 => [(14, 14), (22, 11), (23, 11)]
  | 8 => [(5, 1000), (6, 11), (14, 9), (19, 11), (21, 10)]
  | 9 => [(19, 11)]
  | 10 => [(2, 1000)]
  | 16 => [(9, 7), (12, 6), (14, 1059)]
  | 17 => [(2, 8), (3, 7), (4, 8), (6, 8)]
  | 18 => [(6, 8)]
  | 22 => [(15, 14)]
  | 23 => [(6, 8)]
  | 33 => [(6, 8)]
  | 35 => [(12, 25)]
  | 42 => [(6, 7)]
  | 44 => [(1, 9)]
  | 48 => [(8, 9), (11, 26)]
  | 52 => [(4, 33)]
  | 54 => [(1, 22)]
  | 55 => [(1, 2000)]
  | 61 => [(5, 14)]
  | 63 => [(3, 9)]
  | 64 => [(1, 28), (2, 8)]
  | 65 => [(1, 22)]
  | 80 => [(1, 4)]
  | _ => []

def tab : Tab := cutT 119 tab0
def ftab : FTab := ftabOf Try.prog ksOf 81
end
set_option maxRecDepth 1000000 in
theorem tab_ok : TabOk Try.prog tab := tabOk_of (by kernel_rfl)
set_option maxRecDepth 1000000 in
theorem fun_ok : FunOk Try.prog tab ftab := funOk_of (by kernel_rfl)
theorem mixed : Try.prog.follows .mixedOrders = true := by kernel_rfl
end Go.Proofs.Ytgjgihlfkpbdgaa
