/- The program's types and functions as tables, checked against it. -/
import Derived.Test.YtcllanmickbkpaaMF
import Derived.Test.YtcllanmickbkpaaRows
namespace Go.Proofs.Ytcllanmickbkpaa
open Go.RowKit

noncomputable section
noncomputable def tab0 : Nat → Option TI
  | 1 => some ⟨.fn, 1, 8, [.nilf], true⟩
  | 2 => some ⟨.int .i64, 1, 8, [.int .i64 0], true⟩
  | 3 => some ⟨.int .i64, 1, 8, [.int .i64 0], true⟩
  | 4 => some ⟨.bool, 1, 1, [.bool false], true⟩
  | 5 => some ⟨.int .u8, 1, 1, [.int .u8 0], true⟩
  | 9 => some ⟨.str, 1, 16, [.str .empty], true⟩
  | 12 => some ⟨.int .u64, 1, 8, [.int .u64 0], true⟩
  | 20 => some ⟨.iface, 1, 16, [.nili], false⟩
  | 21 => some ⟨.int .i32, 1, 4, [.int .i32 0], true⟩
  | 22 => some ⟨.array 6 5, 6, 6, [.int .u8 0, .int .u8 0, .int .u8 0, .int .u8 0, .int .u8 0, .int .u8 0], true⟩
  | 23 => some ⟨.array 6 5, 6, 6, [.int .u8 0, .int .u8 0, .int .u8 0, .int .u8 0, .int .u8 0, .int .u8 0], true⟩
  | 24 => some ⟨.struct [(5, 0, 1), (5, 1, 1), (4, 2, 1), (4, 3, 1), (4, 4, 1), (4, 5, 1), (4, 6, 1), (4, 7, 1), (4, 8, 1), (3, 9, 1), (23, 10, 6), (23, 16, 6), (23, 22, 6), (23, 28, 6), (3, 34, 1), (3, 35, 1), (3, 36, 1), (5, 37, 1), (4, 38, 1), (4, 39, 1)], 40, 80, [.int .u8 0, .int .u8 0, .bool false, .bool false, .bool false, .bool false, .bool false, .bool false, .bool false, .int .i64 0, .int .u8 0, .int .u8 0, .int .u8 0, .int .u8 0, .int .u8 0, .int .u8 0, .int .u8 0, .int .u8 0, .int .u8 0, .int .u8 0, .int .u8 0, .int .u8 0, .int .u8 0, .int .u8 0, .int .u8 0, .int .u8 0, .int .u8 0, .int .u8 0, .int .u8 0, .int .u8 0, .int .u8 0, .int .u8 0, .int .u8 0, .int .u8 0, .int .i64 0, .int .i64 0, .int .i64 0, .int .u8 0, .bool false, .bool false], true⟩
  | 25 => some ⟨.struct [(5, 0, 1), (5, 1, 1), (4, 2, 1), (4, 3, 1), (4, 4, 1), (4, 5, 1), (4, 6, 1), (4, 7, 1), (4, 8, 1), (3, 9, 1), (23, 10, 6), (23, 16, 6), (23, 22, 6), (23, 28, 6), (3, 34, 1), (3, 35, 1), (3, 36, 1), (5, 37, 1), (4, 38, 1), (4, 39, 1)], 40, 80, [.int .u8 0, .int .u8 0, .bool false, .bool false, .bool false, .bool false, .bool false, .bool false, .bool false, .int .i64 0, .int .u8 0, .int .u8 0, .int .u8 0, .int .u8 0, .int .u8 0, .int .u8 0, .int .u8 0, .int .u8 0, .int .u8 0, .int .u8 0, .int .u8 0, .int .u8 0, .int .u8 0, .int .u8 0, .int .u8 0, .int .u8 0, .int .u8 0, .int .u8 0, .int .u8 0, .int .u8 0, .int .u8 0, .int .u8 0, .int .u8 0, .int .u8 0, .int .i64 0, .int .i64 0, .int .i64 0, .int .u8 0, .bool false, .bool false], true⟩
  | 26 => some ⟨.slice 5, 1, 24, [.nil], true⟩
  | 27 => some ⟨.struct [(25, 0, 40), (26, 40, 1)], 41, 104, [.int .u8 0, .int .u8 0, .bool false, .bool false, .bool false, .bool false, .bool false, .bool false, .bool false, .int .i64 0, .int .u8 0, .int .u8 0, .int .u8 0, .int .u8 0, .int .u8 0, .int .u8 0, .int .u8 0, .int .u8 0, .int .u8 0, .int .u8 0, .int .u8 0, .int .u8 0, .int .u8 0, .int .u8 0, .int .u8 0, .int .u8 0, .int .u8 0, .int .u8 0, .int .u8 0, .int .u8 0, .int .u8 0, .int .u8 0, .int .u8 0, .int .u8 0, .int .i64 0, .int .i64 0, .int .i64 0, .int .u8 0, .bool false, .bool false, .nil], true⟩
  | 28 => some ⟨.struct [(25, 0, 40), (26, 40, 1)], 41, 104, [.int .u8 0, .int .u8 0, .bool false, .bool false, .bool false, .bool false, .bool false, .bool false, .bool false, .int .i64 0, .int .u8 0, .int .u8 0, .int .u8 0, .int .u8 0, .int .u8 0, .int .u8 0, .int .u8 0, .int .u8 0, .int .u8 0, .int .u8 0, .int .u8 0, .int .u8 0, .int .u8 0, .int .u8 0, .int .u8 0, .int .u8 0, .int .u8 0, .int .u8 0, .int .u8 0, .int .u8 0, .int .u8 0, .int .u8 0, .int .u8 0, .int .u8 0, .int .i64 0, .int .i64 0, .int .i64 0, .int .u8 0, .bool false, .bool false, .nil], true⟩
  | 29 => some ⟨.fn, 1, 8, [.nilf], true⟩
  | 30 => some ⟨.fn, 1, 8, [.nilf], true⟩
  | 31 => some ⟨.int .i64, 1, 8, [.int .i64 0], true⟩
  | 33 => some ⟨.fn, 1, 8, [.nilf], true⟩
  | 35 => some ⟨.fn, 1, 8, [.nilf], true⟩
  | 37 => some ⟨.fn, 1, 8, [.nilf], true⟩
  | 39 => some ⟨.fn, 1, 8, [.nilf], true⟩
  | 41 => some ⟨.fn, 1, 8, [.nilf], true⟩
  | 43 => some ⟨.fn, 1, 8, [.nilf], true⟩
  | 45 => some ⟨.fn, 1, 8, [.nilf], true⟩
  | 47 => some ⟨.fn, 1, 8, [.nilf], true⟩
  | 48 => some ⟨.fn, 1, 8, [.nilf], true⟩
  | 49 => some ⟨.fn, 1, 8, [.nilf], true⟩
  | 50 => some ⟨.fn, 1, 8, [.nilf], true⟩
  | 51 => some ⟨.fn, 1, 8, [.nilf], true⟩
  | 53 => some ⟨.fn, 1, 8, [.nilf], true⟩
  | 55 => some ⟨.fn, 1, 8, [.nilf], true⟩
  | 56 => some ⟨.fn, 1, 8, [.nilf], true⟩
  | 57 => some ⟨.fn, 1, 8, [.nilf], true⟩
  | 58 => some ⟨.fn, 1, 8, [.nilf], true⟩
  | 59 => some ⟨.int .u16, 1, 2, [.int .u16 0], true⟩
  | 60 => some ⟨.int .u32, 1, 4, [.int .u32 0], true⟩
  | 61 => some ⟨.slice 59, 1, 24, [.nil], true⟩
  | 62 => some ⟨.int .u64, 1, 8, [.int .u64 0], true⟩
  | 63 => some ⟨.fn, 1, 8, [.nilf], true⟩
  | 64 => some ⟨.struct [(3, 0, 1), (3, 1, 1), (4, 2, 1), (4, 3, 1)], 4, 24, [.int .i64 0, .int .i64 0, .bool false, .bool false], true⟩
  | 65 => some ⟨.struct [(3, 0, 1), (3, 1, 1), (4, 2, 1), (4, 3, 1)], 4, 24, [.int .i64 0, .int .i64 0, .bool false, .bool false], true⟩
  | 67 => some ⟨.fn, 1, 8, [.nilf], true⟩
  | 68 => some ⟨.fn, 1, 8, [.nilf], true⟩
  | 69 => some ⟨.fn, 1, 8, [.nilf], true⟩
  | 70 => some ⟨.fn, 1, 8, [.nilf], true⟩
  | 71 => some ⟨.fn, 1, 8, [.nilf], true⟩
  | 72 => some ⟨.fn, 1, 8, [.nilf], true⟩
  | 73 => some ⟨.fn, 1, 8, [.nilf], true⟩
  | 74 => some ⟨.fn, 1, 8, [.nilf], true⟩
  | 75 => some ⟨.fn, 1, 8, [.nilf], true⟩
  | 76 => some ⟨.fn, 1, 8, [.nilf], true⟩
  | 78 => some ⟨.fn, 1, 8, [.nilf], true⟩
  | 79 => some ⟨.fn, 1, 8, [.nilf], true⟩
  | 80 => some ⟨.fn, 1, 8, [.nilf], true⟩
  | 81 => some ⟨.fn, 1, 8, [.nilf], true⟩
  | 82 => some ⟨.fn, 1, 8, [.nilf], true⟩
  | 83 => some ⟨.fn, 1, 8, [.nilf], true⟩
  | 84 => some ⟨.fn, 1, 8, [.nilf], true⟩
  | 85 => some ⟨.fn, 1, 8, [.nilf], true⟩
  | 86 => some ⟨.fn, 1, 8, [.nilf], true⟩
  | 87 => some ⟨.fn, 1, 8, [.nilf], true⟩
  | 88 => some ⟨.fn, 1, 8, [.nilf], true⟩
  | 89 => some ⟨.ptr 23, 1, 8, [.nilp], true⟩
  | 90 => some ⟨.array 4 89, 4, 32, [.nilp, .nilp, .nilp, .nilp], true⟩
  | 91 => some ⟨.fn, 1, 8, [.nilf], true⟩
  | 92 => some ⟨.ptr 25, 1, 8, [.nilp], true⟩
  | 93 => some ⟨.slice 89, 1, 24, [.nil], true⟩
  | 94 => some ⟨.fn, 1, 8, [.nilf], true⟩
  | 95 => some ⟨.fn, 1, 8, [.nilf], true⟩
  | 96 => some ⟨.fn, 1, 8, [.nilf], true⟩
  | 97 => some ⟨.fn, 1, 8, [.nilf], true⟩
  | 98 => some ⟨.int .u64, 1, 8, [.int .u64 0], true⟩
  | 99 => some ⟨.slice 23, 1, 24, [.nil], true⟩
  | 100 => some ⟨.fn, 1, 8, [.nilf], true⟩
  | 101 => some ⟨.fn, 1, 8, [.nilf], true⟩
  | 102 => some ⟨.fn, 1, 8, [.nilf], true⟩
  | 104 => some ⟨.fn, 1, 8, [.nilf], true⟩
  | 105 => some ⟨.slice 26, 1, 24, [.nil], true⟩
  | 106 => some ⟨.fn, 1, 8, [.nilf], true⟩
  | 107 => some ⟨.fn, 1, 8, [.nilf], true⟩
  | 108 => some ⟨.fn, 1, 8, [.nilf], true⟩
  | 109 => some ⟨.fn, 1, 8, [.nilf], true⟩
  | 110 => some ⟨.slice 3, 1, 24, [.nil], true⟩
  | 111 => some ⟨.fn, 1, 8, [.nilf], true⟩
  | 112 => some ⟨.fn, 1, 8, [.nilf], true⟩
  | 113 => some ⟨.array 16 60, 16, 64, [.int .u32 0, .int .u32 0, .int .u32 0, .int .u32 0, .int .u32 0, .int .u32 0, .int .u32 0, .int .u32 0, .int .u32 0, .int .u32 0, .int .u32 0, .int .u32 0, .int .u32 0, .int .u32 0, .int .u32 0, .int .u32 0], true⟩
  | 114 => some ⟨.fn, 1, 8, [.nilf], true⟩
  | 115 => some ⟨.fn, 1, 8, [.nilf], true⟩
  | 116 => some ⟨.fn, 1, 8, [.nilf], true⟩
  | 124 => some ⟨.fn, 1, 8, [.nilf], true⟩
  | 125 => some ⟨.ptr 5, 1, 8, [.nilp], true⟩
  | _ => none

noncomputable def ksOf : Nat → List (Nat × Nat)
  | 3 => [(13, 71), (17, 9)]
  | 4 => [(10, 9)]
  | 8 => [(1, 1000)]
  | 9 => [(6, 5), (7, 1000)]
  | 10 => [(5, 5)]
  | 13 => [(7, 1000), (9, 1000), (11, 1000), (12, 1000)]
  | 14 => [(6, 1000), (8, 1000), (10, 1000), (11, 1000)]
  | 22 => [(10, 11)]
  | 23 => [(6, 15), (20, 4), (22, 4), (24, 4), (28, 4), (35, 8), (36, 11)]
  | 24 => [(4, 25)]
  | 29 => [(1, 11), (12, 15)]
  | 30 => [(1, 10)]
  | 33 => [(1, 25), (14, 15)]
  | 34 => [(1, 18)]
  | 38 => [(3, 11), (8, 1000)]
  | 40 => [(4, 5)]
  | 44 => [(1, 12)]
  | 52 => [(1, 25)]
  | 54 => [(1, 9)]
  | 62 => [(1, 4)]
  | 68 => [(1, 12)]
  | _ => []

def tab : Tab := cutT 126 tab0
def ftab : FTab := ftabOf Try.prog ksOf 80
end
set_option maxRecDepth 1000000 in
theorem tab_ok : TabOk Try.prog tab := tabOk_of (by kernel_rfl)
set_option maxRecDepth 1000000 in
theorem fun_ok : FunOk Try.prog tab ftab := funOk_of (by kernel_rfl)
theorem mixed : Try.prog.follows .mixedOrders = true := by kernel_rfl
end Go.Proofs.Ytcllanmickbkpaa
