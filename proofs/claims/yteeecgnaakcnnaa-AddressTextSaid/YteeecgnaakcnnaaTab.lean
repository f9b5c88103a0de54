/- The program's types and functions as tables, checked against it. -/
import Derived.Test.YteeecgnaakcnnaaV24
import Derived.Test.YteeecgnaakcnnaaRows
namespace Go.Proofs.Yteeecgnaakcnnaa
open Go.RowKit

noncomputable section
noncomputable def tab0 : Nat → Option TI
  | 1 => some ⟨.fn, 1, 8, [.nilf], true⟩
  | 2 => some ⟨.int .i64, 1, 8, [.int .i64 0], true⟩
  | 3 => some ⟨.int .i64, 1, 8, [.int .i64 0], true⟩
  | 4 => some ⟨.bool, 1, 1, [.bool false], true⟩
  | 5 => some ⟨.int .u8, 1, 1, [.int .u8 0], true⟩
  | 9 => some ⟨.str, 1, 16, [.str .empty], true⟩
  | 12 => some ⟨.int .u64, 1, 8, [.int .u64 0], true⟩
  | 20 => some ⟨.iface, 1, 16, [.nili], false⟩
  | 21 => some ⟨.int .i32, 1, 4, [.int .i32 0], true⟩
  | 22 => some ⟨.int .u16, 1, 2, [.int .u16 0], true⟩
  | 23 => some ⟨.slice 5, 1, 24, [.nil], true⟩
  | 24 => some ⟨.struct [(23, 0, 1), (3, 1, 1)], 2, 32, [.nil, .int .i64 0], true⟩
  | 25 => some ⟨.struct [(23, 0, 1), (3, 1, 1)], 2, 32, [.nil, .int .i64 0], true⟩
  | 26 => some ⟨.int .i64, 1, 8, [.int .i64 0], true⟩
  | 28 => some ⟨.fn, 1, 8, [.nilf], true⟩
  | 30 => some ⟨.fn, 1, 8, [.nilf], true⟩
  | 32 => some ⟨.fn, 1, 8, [.nilf], true⟩
  | 33 => some ⟨.fn, 1, 8, [.nilf], true⟩
  | 35 => some ⟨.fn, 1, 8, [.nilf], true⟩
  | 36 => some ⟨.fn, 1, 8, [.nilf], true⟩
  | 37 => some ⟨.slice 23, 1, 24, [.nil], true⟩
  | 39 => some ⟨.fn, 1, 8, [.nilf], true⟩
  | 40 => some ⟨.int .u64, 1, 8, [.int .u64 0], true⟩
  | 42 => some ⟨.fn, 1, 8, [.nilf], true⟩
  | 43 => some ⟨.fn, 1, 8, [.nilf], true⟩
  | 44 => some ⟨.fn, 1, 8, [.nilf], true⟩
  | 45 => some ⟨.fn, 1, 8, [.nilf], true⟩
  | 46 => some ⟨.fn, 1, 8, [.nilf], true⟩
  | 47 => some ⟨.fn, 1, 8, [.nilf], true⟩
  | 48 => some ⟨.int .u32, 1, 4, [.int .u32 0], true⟩
  | 50 => some ⟨.fn, 1, 8, [.nilf], true⟩
  | 52 => some ⟨.fn, 1, 8, [.nilf], true⟩
  | 54 => some ⟨.fn, 1, 8, [.nilf], true⟩
  | 55 => some ⟨.fn, 1, 8, [.nilf], true⟩
  | 57 => some ⟨.fn, 1, 8, [.nilf], true⟩
  | 58 => some ⟨.fn, 1, 8, [.nilf], true⟩
  | 59 => some ⟨.fn, 1, 8, [.nilf], true⟩
  | 60 => some ⟨.fn, 1, 8, [.nilf], true⟩
  | 61 => some ⟨.fn, 1, 8, [.nilf], true⟩
  | 62 => some ⟨.fn, 1, 8, [.nilf], true⟩
  | 64 => some ⟨.fn, 1, 8, [.nilf], true⟩
  | 65 => some ⟨.fn, 1, 8, [.nilf], true⟩
  | 67 => some ⟨.fn, 1, 8, [.nilf], true⟩
  | 68 => some ⟨.fn, 1, 8, [.nilf], true⟩
  | 69 => some ⟨.fn, 1, 8, [.nilf], true⟩
  | 70 => some ⟨.fn, 1, 8, [.nilf], true⟩
  | 71 => some ⟨.fn, 1, 8, [.nilf], true⟩
  | 72 => some ⟨.fn, 1, 8, [.nilf], true⟩
  | 73 => some ⟨.fn, 1, 8, [.nilf], true⟩
  | 74 => some ⟨.fn, 1, 8, [.nilf], true⟩
  | 76 => some ⟨.fn, 1, 8, [.nilf], true⟩
  | 77 => some ⟨.fn, 1, 8, [.nilf], true⟩
  | 78 => some ⟨.fn, 1, 8, [.nilf], true⟩
  | 79 => some ⟨.slice 81, 1, 24, [.nil], true⟩
  | 80 => some ⟨.struct [(5, 0, 1), (40, 1, 1), (23, 2, 1)], 3, 40, [.int .u8 0, .int .u64 0, .nil], true⟩
  | 81 => some ⟨.struct [(5, 0, 1), (40, 1, 1), (23, 2, 1)], 3, 40, [.int .u8 0, .int .u64 0, .nil], true⟩
  | 82 => some ⟨.fn, 1, 8, [.nilf], true⟩
  | 83 => some ⟨.fn, 1, 8, [.nilf], true⟩
  | 84 => some ⟨.fn, 1, 8, [.nilf], true⟩
  | 85 => some ⟨.fn, 1, 8, [.nilf], true⟩
  | 86 => some ⟨.array 6 5, 6, 6, [.int .u8 0, .int .u8 0, .int .u8 0, .int .u8 0, .int .u8 0, .int .u8 0], true⟩
  | 87 => some ⟨.array 6 5, 6, 6, [.int .u8 0, .int .u8 0, .int .u8 0, .int .u8 0, .int .u8 0, .int .u8 0], true⟩
  | 88 => some ⟨.slice 9, 1, 24, [.nil], true⟩
  | 90 => some ⟨.fn, 1, 8, [.nilf], true⟩
  | 91 => some ⟨.fn, 1, 8, [.nilf], true⟩
  | 92 => some ⟨.slice 87, 1, 24, [.nil], true⟩
  | 94 => some ⟨.fn, 1, 8, [.nilf], true⟩
  | 95 => some ⟨.fn, 1, 8, [.nilf], true⟩
  | 96 => some ⟨.fn, 1, 8, [.nilf], true⟩
  | 97 => some ⟨.fn, 1, 8, [.nilf], true⟩
  | 98 => some ⟨.fn, 1, 8, [.nilf], true⟩
  | 99 => some ⟨.fn, 1, 8, [.nilf], true⟩
  | 101 => some ⟨.fn, 1, 8, [.nilf], true⟩
  | 102 => some ⟨.fn, 1, 8, [.nilf], true⟩
  | 103 => some ⟨.fn, 1, 8, [.nilf], true⟩
  | 104 => some ⟨.fn, 1, 8, [.nilf], true⟩
  | 105 => some ⟨.fn, 1, 8, [.nilf], true⟩
  | 107 => some ⟨.fn, 1, 8, [.nilf], true⟩
  | 109 => some ⟨.fn, 1, 8, [.nilf], true⟩
  | 111 => some ⟨.fn, 1, 8, [.nilf], true⟩
  | 112 => some ⟨.fn, 1, 8, [.nilf], true⟩
  | 113 => some ⟨.fn, 1, 8, [.nilf], true⟩
  | 114 => some ⟨.fn, 1, 8, [.nilf], true⟩
  | 115 => some ⟨.fn, 1, 8, [.nilf], true⟩
  | 116 => some ⟨.fn, 1, 8, [.nilf], true⟩
  | 117 => some ⟨.fn, 1, 8, [.nilf], true⟩
  | 118 => some ⟨.fn, 1, 8, [.nilf], true⟩
  | 119 => some ⟨.fn, 1, 8, [.nilf], true⟩
  | 120 => some ⟨.fn, 1, 8, [.nilf], true⟩
  | 121 => some ⟨.fn, 1, 8, [.nilf], true⟩
  | 122 => some ⟨.fn, 1, 8, [.nilf], true⟩
  | 123 => some ⟨.fn, 1, 8, [.nilf], true⟩
  | 124 => some ⟨.fn, 1, 8, [.nilf], true⟩
  | 125 => some ⟨.fn, 1, 8, [.nilf], true⟩
  | 127 => some ⟨.fn, 1, 8, [.nilf], true⟩
  | 128 => some ⟨.int .u64, 1, 8, [.int .u64 0], true⟩
  | 129 => some ⟨.fn, 1, 8, [.nilf], true⟩
  | 130 => some ⟨.fn, 1, 8, [.nilf], true⟩
  | 131 => some ⟨.fn, 1, 8, [.nilf], true⟩
  | 132 => some ⟨.fn, 1, 8, [.nilf], true⟩
  | 133 => some ⟨.fn, 1, 8, [.nilf], true⟩
  | 134 => some ⟨.fn, 1, 8, [.nilf], true⟩
  | 135 => some ⟨.fn, 1, 8, [.nilf], true⟩
  | 137 => some ⟨.fn, 1, 8, [.nilf], true⟩
  | 138 => some ⟨.fn, 1, 8, [.nilf], true⟩
  | 139 => some ⟨.fn, 1, 8, [.nilf], true⟩
  | 140 => some ⟨.fn, 1, 8, [.nilf], true⟩
  | 141 => some ⟨.fn, 1, 8, [.nilf], true⟩
  | 142 => some ⟨.fn, 1, 8, [.nilf], true⟩
  | 150 => some ⟨.fn, 1, 8, [.nilf], true⟩
  | 151 => some ⟨.ptr 5, 1, 8, [.nilp], true⟩
  | _ => none

noncomputable def ksOf : Nat → List (Nat × Nat)
  | 4 => [(3, 7), (22, 34)]
  | 7 => [(32, 11), (35, 11), (38, 11), (41, 10), (29, 10)]
  | 12 => [(7, 63)]
  | 14 => [(7, 3), (9, 3)]
  | 17 => [(2, 5)]
  | 22 => [(3, 3)]
  | 23 => [(5, 9)]
  | 30 => [(9, 3)]
  | 32 => [(7, 18)]
  | 34 => [(5, 4)]
  | 39 => [(9, 12)]
  | 46 => [(6, 8)]
  | 55 => [(6, 8)]
  | 57 => [(7, 4)]
  | 58 => [(1, 6)]
  | 59 => [(7, 10)]
  | 61 => [(7, 22)]
  | 62 => [(1, 3)]
  | 63 => [(1, 3), (3, 3)]
  | 69 => [(9, 23)]
  | 71 => [(9, 5)]
  | 78 => [(6, 9)]
  | 79 => [(4, 9)]
  | 80 => [(1, 8), (8, 5)]
  | 81 => [(1, 8), (8, 5)]
  | 82 => [(9, 11)]
  | 93 => [(1, 8), (8, 5)]
  | 94 => [(1, 8), (8, 4)]
  | 101 => [(3, 14), (4, 14), (7, 5), (9, 5)]
  | 106 => [(6, 8), (9, 5)]
  | 107 => [(4, 5)]
  | 108 => [(5, 6), (8, 14)]
  | _ => []

def tab : Tab := cutT 152 tab0
def ftab : FTab := ftabOf Try.prog ksOf 122
end
set_option maxRecDepth 1000000 in
theorem tab_ok : TabOk Try.prog tab := tabOk_of (by kernel_rfl)
set_option maxRecDepth 1000000 in
theorem fun_ok : FunOk Try.prog tab ftab := funOk_of (by kernel_rfl)
theorem mixed : Try.prog.follows .mixedOrders = true := by kernel_rfl
end Go.Proofs.Yteeecgnaakcnnaa
