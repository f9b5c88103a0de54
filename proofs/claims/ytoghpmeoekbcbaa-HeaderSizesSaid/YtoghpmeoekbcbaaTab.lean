/- The program's types and functions as tables, checked against it. -/
import Derived.Test.YtoghpmeoekbcbaaV24
import Derived.Test.YtoghpmeoekbcbaaRows
namespace Go.Proofs.Ytoghpmeoekbcbaa
open Go.RowKit

noncomputable section
noncomputable def tab0 : Nat → Option TI
  | 1 => some ⟨.fn, 1, 8, [.nilf], true⟩
  | 2 => some ⟨.int .i64, 1, 8, [.int .i64 0], true⟩
  | 3 => some ⟨.int .i64, 1, 8, [.int .i64 0], true⟩
  | 4 => some ⟨.bool, 1, 1, [.bool false], true⟩
  | 5 => some ⟨.int .u8, 1, 1, [.int .u8 0], true⟩
  | 9 => some ⟨.str, 1, 16, [.str .empty], true⟩
  | 12 => some ⟨.int .u64, 1, 8, [.int .u64 0], true⟩
  | 20 => some ⟨.iface, 1, 16, [.nili], false⟩
  | 21 => some ⟨.int .i32, 1, 4, [.int .i32 0], true⟩
  | 22 => some ⟨.array 6 5, 6, 6, [.int .u8 0, .int .u8 0, .int .u8 0, .int .u8 0, .int .u8 0, .int .u8 0], true⟩
  | 23 => some ⟨.array 6 5, 6, 6, [.int .u8 0, .int .u8 0, .int .u8 0, .int .u8 0, .int .u8 0, .int .u8 0], true⟩
  | 24 => some ⟨.struct [(5, 0, 1), (5, 1, 1), (4, 2, 1), (4, 3, 1), (4, 4, 1), (4, 5, 1), (4, 6, 1), (4, 7, 1), (4, 8, 1), (3, 9, 1), (23, 10, 6), (23, 16, 6), (23, 22, 6), (23, 28, 6), (3, 34, 1), (3, 35, 1), (3, 36, 1), (5, 37, 1), (4, 38, 1), (4, 39, 1)], 40, 80, [.int .u8 0, .int .u8 0, .bool false, .bool false, .bool false, .bool false, .bool false, .bool false, .bool false, .int .i64 0, .int .u8 0, .int .u8 0, .int .u8 0, .int .u8 0, .int .u8 0, .int .u8 0, .int .u8 0, .int .u8 0, .int .u8 0, .int .u8 0, .int .u8 0, .int .u8 0, .int .u8 0, .int .u8 0, .int .u8 0, .int .u8 0, .int .u8 0, .int .u8 0, .int .u8 0, .int .u8 0, .int .u8 0, .int .u8 0, .int .u8 0, .int .u8 0, .int .i64 0, .int .i64 0, .int .i64 0, .int .u8 0, .bool false, .bool false], true⟩
  | 25 => some ⟨.struct [(5, 0, 1), (5, 1, 1), (4, 2, 1), (4, 3, 1), (4, 4, 1), (4, 5, 1), (4, 6, 1), (4, 7, 1), (4, 8, 1), (3, 9, 1), (23, 10, 6), (23, 16, 6), (23, 22, 6), (23, 28, 6), (3, 34, 1), (3, 35, 1), (3, 36, 1), (5, 37, 1), (4, 38, 1), (4, 39, 1)], 40, 80, [.int .u8 0, .int .u8 0, .bool false, .bool false, .bool false, .bool false, .bool false, .bool false, .bool false, .int .i64 0, .int .u8 0, .int .u8 0, .int .u8 0, .int .u8 0, .int .u8 0, .int .u8 0, .int .u8 0, .int .u8 0, .int .u8 0, .int .u8 0, .int .u8 0, .int .u8 0, .int .u8 0, .int .u8 0, .int .u8 0, .int .u8 0, .int .u8 0, .int .u8 0, .int .u8 0, .int .u8 0, .int .u8 0, .int .u8 0, .int .u8 0, .int .u8 0, .int .i64 0, .int .i64 0, .int .i64 0, .int .u8 0, .bool false, .bool false], true⟩
  | 26 => some ⟨.slice 5, 1, 24, [.nil], true⟩
  | 27 => some ⟨.struct [(25, 0, 40), (26, 40, 1)], 41, 104, [.int .u8 0, .int .u8 0, .bool false, .bool false, .bool false, .bool false, .bool false, .bool false, .bool false, .int .i64 0, .int .u8 0, .int .u8 0, .int .u8 0, .int .u8 0, .int .u8 0, .int .u8 0, .int .u8 0, .int .u8 0, .int .u8 0, .int .u8 0, .int .u8 0, .int .u8 0, .int .u8 0, .int .u8 0, .int .u8 0, .int .u8 0, .int .u8 0, .int .u8 0, .int .u8 0, .int .u8 0, .int .u8 0, .int .u8 0, .int .u8 0, .int .u8 0, .int .i64 0, .int .i64 0, .int .i64 0, .int .u8 0, .bool false, .bool false, .nil], true⟩
  | 28 => some ⟨.struct [(25, 0, 40), (26, 40, 1)], 41, 104, [.int .u8 0, .int .u8 0, .bool false, .bool false, .bool false, .bool false, .bool false, .bool false, .bool false, .int .i64 0, .int .u8 0, .int .u8 0, .int .u8 0, .int .u8 0, .int .u8 0, .int .u8 0, .int .u8 0, .int .u8 0, .int .u8 0, .int .u8 0, .int .u8 0, .int .u8 0, .int .u8 0, .int .u8 0, .int .u8 0, .int .u8 0, .int .u8 0, .int .u8 0, .int .u8 0, .int .u8 0, .int .u8 0, .int .u8 0, .int .u8 0, .int .u8 0, .int .i64 0, .int .i64 0, .int .i64 0, .int .u8 0, .bool false, .bool false, .nil], true⟩
  | 29 => some ⟨.fn, 1, 8, [.nilf], true⟩
  | 30 => some ⟨.slice 25, 1, 24, [.nil], true⟩
  | 31 => some ⟨.int .i64, 1, 8, [.int .i64 0], true⟩
  | 33 => some ⟨.fn, 1, 8, [.nilf], true⟩
  | 34 => some ⟨.fn, 1, 8, [.nilf], true⟩
  | 35 => some ⟨.fn, 1, 8, [.nilf], true⟩
  | 36 => some ⟨.slice 26, 1, 24, [.nil], true⟩
  | 37 => some ⟨.slice 31, 1, 24, [.nil], true⟩
  | 39 => some ⟨.fn, 1, 8, [.nilf], true⟩
  | 41 => some ⟨.fn, 1, 8, [.nilf], true⟩
  | 43 => some ⟨.fn, 1, 8, [.nilf], true⟩
  | 45 => some ⟨.fn, 1, 8, [.nilf], true⟩
  | 46 => some ⟨.fn, 1, 8, [.nilf], true⟩
  | 47 => some ⟨.fn, 1, 8, [.nilf], true⟩
  | 48 => some ⟨.fn, 1, 8, [.nilf], true⟩
  | 50 => some ⟨.fn, 1, 8, [.nilf], true⟩
  | 52 => some ⟨.fn, 1, 8, [.nilf], true⟩
  | 54 => some ⟨.fn, 1, 8, [.nilf], true⟩
  | 56 => some ⟨.fn, 1, 8, [.nilf], true⟩
  | 57 => some ⟨.fn, 1, 8, [.nilf], true⟩
  | 58 => some ⟨.fn, 1, 8, [.nilf], true⟩
  | 59 => some ⟨.fn, 1, 8, [.nilf], true⟩
  | 61 => some ⟨.fn, 1, 8, [.nilf], true⟩
  | 62 => some ⟨.fn, 1, 8, [.nilf], true⟩
  | 63 => some ⟨.fn, 1, 8, [.nilf], true⟩
  | 64 => some ⟨.int .u16, 1, 2, [.int .u16 0], true⟩
  | 65 => some ⟨.int .u32, 1, 4, [.int .u32 0], true⟩
  | 66 => some ⟨.slice 64, 1, 24, [.nil], true⟩
  | 67 => some ⟨.int .u64, 1, 8, [.int .u64 0], true⟩
  | 68 => some ⟨.fn, 1, 8, [.nilf], true⟩
  | 69 => some ⟨.fn, 1, 8, [.nilf], true⟩
  | 70 => some ⟨.fn, 1, 8, [.nilf], true⟩
  | 71 => some ⟨.struct [(3, 0, 1), (3, 1, 1), (4, 2, 1), (4, 3, 1)], 4, 24, [.int .i64 0, .int .i64 0, .bool false, .bool false], true⟩
  | 72 => some ⟨.struct [(3, 0, 1), (3, 1, 1), (4, 2, 1), (4, 3, 1)], 4, 24, [.int .i64 0, .int .i64 0, .bool false, .bool false], true⟩
  | 74 => some ⟨.fn, 1, 8, [.nilf], true⟩
  | 75 => some ⟨.fn, 1, 8, [.nilf], true⟩
  | 76 => some ⟨.fn, 1, 8, [.nilf], true⟩
  | 77 => some ⟨.fn, 1, 8, [.nilf], true⟩
  | 78 => some ⟨.fn, 1, 8, [.nilf], true⟩
  | 79 => some ⟨.fn, 1, 8, [.nilf], true⟩
  | 80 => some ⟨.fn, 1, 8, [.nilf], true⟩
  | 82 => some ⟨.fn, 1, 8, [.nilf], true⟩
  | 83 => some ⟨.fn, 1, 8, [.nilf], true⟩
  | 84 => some ⟨.fn, 1, 8, [.nilf], true⟩
  | 85 => some ⟨.fn, 1, 8, [.nilf], true⟩
  | 86 => some ⟨.fn, 1, 8, [.nilf], true⟩
  | 87 => some ⟨.fn, 1, 8, [.nilf], true⟩
  | 88 => some ⟨.fn, 1, 8, [.nilf], true⟩
  | 89 => some ⟨.fn, 1, 8, [.nilf], true⟩
  | 90 => some ⟨.fn, 1, 8, [.nilf], true⟩
  | 91 => some ⟨.fn, 1, 8, [.nilf], true⟩
  | 92 => some ⟨.fn, 1, 8, [.nilf], true⟩
  | 93 => some ⟨.fn, 1, 8, [.nilf], true⟩
  | 94 => some ⟨.ptr 23, 1, 8, [.nilp], true⟩
  | 95 => some ⟨.array 4 94, 4, 32, [.nilp, .nilp, .nilp, .nilp], true⟩
  | 96 => some ⟨.fn, 1, 8, [.nilf], true⟩
  | 97 => some ⟨.ptr 25, 1, 8, [.nilp], true⟩
  | 98 => some ⟨.slice 94, 1, 24, [.nil], true⟩
  | 99 => some ⟨.fn, 1, 8, [.nilf], true⟩
  | 100 => some ⟨.fn, 1, 8, [.nilf], true⟩
  | 101 => some ⟨.fn, 1, 8, [.nilf], true⟩
  | 102 => some ⟨.fn, 1, 8, [.nilf], true⟩
  | 103 => some ⟨.fn, 1, 8, [.nilf], true⟩
  | 105 => some ⟨.fn, 1, 8, [.nilf], true⟩
  | 106 => some ⟨.fn, 1, 8, [.nilf], true⟩
  | 107 => some ⟨.fn, 1, 8, [.nilf], true⟩
  | 108 => some ⟨.fn, 1, 8, [.nilf], true⟩
  | 109 => some ⟨.fn, 1, 8, [.nilf], true⟩
  | 110 => some ⟨.int .u64, 1, 8, [.int .u64 0], true⟩
  | 111 => some ⟨.slice 23, 1, 24, [.nil], true⟩
  | 112 => some ⟨.fn, 1, 8, [.nilf], true⟩
  | 113 => some ⟨.fn, 1, 8, [.nilf], true⟩
  | 114 => some ⟨.array 16 65, 16, 64, [.int .u32 0, .int .u32 0, .int .u32 0, .int .u32 0, .int .u32 0, .int .u32 0, .int .u32 0, .int .u32 0, .int .u32 0, .int .u32 0, .int .u32 0, .int .u32 0, .int .u32 0, .int .u32 0, .int .u32 0, .int .u32 0], true⟩
  | 115 => some ⟨.fn, 1, 8, [.nilf], true⟩
  | 116 => some ⟨.slice 3, 1, 24, [.nil], true⟩
  | 117 => some ⟨.fn, 1, 8, [.nilf], true⟩
  | 118 => some ⟨.fn, 1, 8, [.nilf], true⟩
  | 119 => some ⟨.fn, 1, 8, [.nilf], true⟩
  | 120 => some ⟨.fn, 1, 8, [.nilf], true⟩
  | 128 => some ⟨.fn, 1, 8, [.nilf], true⟩
  | 129 => some ⟨.ptr 5, 1, 8, [.nilp], true⟩
  | _ => none

noncomputable def ksOf : Nat → List (Nat × Nat)
  | 4 => [(13, 71), (17, 9)]
  | 5 => [(10, 9)]
  | 8 => [(9, 24), (11, 20)]
  | 11 => [(6, 5), (7, 1000)]
  | 15 => [(10, 11)]
  | 16 => [(7, 1000), (9, 1000), (11, 1000), (12, 1000)]
  | 19 => [(4, 25)]
  | 21 => [(1, 1000)]
  | 22 => [(5, 5)]
  | 24 => [(6, 1000), (8, 1000), (10, 1000), (11, 1000)]
  | 30 => [(6, 15), (20, 4), (22, 4), (24, 4), (28, 4), (35, 8), (36, 11)]
  | 34 => [(1, 11), (12, 15)]
  | 38 => [(3, 11), (8, 1000)]
  | 40 => [(1, 18)]
  | 41 => [(1, 10)]
  | 44 => [(1, 25), (14, 15)]
  | 47 => [(4, 5)]
  | 51 => [(1, 12)]
  | 56 => [(1, 25)]
  | 58 => [(1, 9)]
  | 64 => [(1, 12)]
  | 65 => [(1, 4)]
  | _ => []

def tab : Tab := cutT 130 tab0
def ftab : FTab := ftabOf Try.prog ksOf 84
end
set_option maxRecDepth 1000000 in
theorem tab_ok : TabOk Try.prog tab := tabOk_of (by kernel_rfl)
set_option maxRecDepth 1000000 in
theorem fun_ok : FunOk Try.prog tab ftab := funOk_of (by kernel_rfl)
theorem mixed : Try.prog.follows .mixedOrders = true := by kernel_rfl
end Go.Proofs.Ytoghpmeoekbcbaa
