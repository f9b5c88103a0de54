/- The program's types and functions as tables, checked against it. -/
import Derived.Test.YtioglkmdapghhaaMF
import Derived.Test.YtioglkmdapghhaaRows
namespace Go.Proofs.Ytioglkmdapghhaa
open Go.RowKit

noncomputable section
noncomputable def tab0 : Nat → Option TI
  | 1 => some ⟨.fn, 1, 8, [.nilf], true⟩
  | 2 => some ⟨.int .i64, 1, 8, [.int .i64 0], true⟩
  | 3 => some ⟨.int .i64, 1, 8, [.int .i64 0], true⟩
  | 4 => some ⟨.bool, 1, 1, [.bool false], true⟩
  | 5 => some ⟨.int .u8, 1, 1, [.int .u8 0], true⟩
  | 9 => some ⟨.str, 1, 16, [.str .empty], true⟩
  | 12 => some ⟨.int .u64, 1, 8, [.int .u64 0], true⟩
  | 20 => some ⟨.iface, 1, 16, [.nili], false⟩
  | 21 => some ⟨.int .i32, 1, 4, [.int .i32 0], true⟩
  | 22 => some ⟨.slice 5, 1, 24, [.nil], true⟩
  | 23 => some ⟨.slice 22, 1, 24, [.nil], true⟩
  | 24 => some ⟨.int .u64, 1, 8, [.int .u64 0], true⟩
  | 25 => some ⟨.fn, 1, 8, [.nilf], true⟩
  | 26 => some ⟨.fn, 1, 8, [.nilf], true⟩
  | 27 => some ⟨.int .i64, 1, 8, [.int .i64 0], true⟩
  | 29 => some ⟨.fn, 1, 8, [.nilf], true⟩
  | 31 => some ⟨.fn, 1, 8, [.nilf], true⟩
  | 32 => some ⟨.fn, 1, 8, [.nilf], true⟩
  | 33 => some ⟨.fn, 1, 8, [.nilf], true⟩
  | 35 => some ⟨.fn, 1, 8, [.nilf], true⟩
  | 37 => some ⟨.fn, 1, 8, [.nilf], true⟩
  | 38 => some ⟨.fn, 1, 8, [.nilf], true⟩
  | 39 => some ⟨.fn, 1, 8, [.nilf], true⟩
  | 40 => some ⟨.fn, 1, 8, [.nilf], true⟩
  | 41 => some ⟨.fn, 1, 8, [.nilf], true⟩
  | 42 => some ⟨.int .u16, 1, 2, [.int .u16 0], true⟩
  | 43 => some ⟨.fn, 1, 8, [.nilf], true⟩
  | 44 => some ⟨.int .u32, 1, 4, [.int .u32 0], true⟩
  | 45 => some ⟨.fn, 1, 8, [.nilf], true⟩
  | 46 => some ⟨.fn, 1, 8, [.nilf], true⟩
  | 47 => some ⟨.fn, 1, 8, [.nilf], true⟩
  | 48 => some ⟨.fn, 1, 8, [.nilf], true⟩
  | 49 => some ⟨.fn, 1, 8, [.nilf], true⟩
  | 50 => some ⟨.slice 58, 1, 24, [.nil], true⟩
  | 51 => some ⟨.fn, 1, 8, [.nilf], true⟩
  | 52 => some ⟨.fn, 1, 8, [.nilf], true⟩
  | 53 => some ⟨.fn, 1, 8, [.nilf], true⟩
  | 54 => some ⟨.fn, 1, 8, [.nilf], true⟩
  | 56 => some ⟨.fn, 1, 8, [.nilf], true⟩
  | 57 => some ⟨.struct [(5, 0, 1), (5, 1, 1), (22, 2, 1), (50, 3, 1)], 4, 56, [.int .u8 0, .int .u8 0, .nil, .nil], true⟩
  | 58 => some ⟨.struct [(5, 0, 1), (5, 1, 1), (22, 2, 1), (50, 3, 1)], 4, 56, [.int .u8 0, .int .u8 0, .nil, .nil], true⟩
  | 60 => some ⟨.fn, 1, 8, [.nilf], true⟩
  | 61 => some ⟨.fn, 1, 8, [.nilf], true⟩
  | 62 => some ⟨.fn, 1, 8, [.nilf], true⟩
  | 63 => some ⟨.fn, 1, 8, [.nilf], true⟩
  | 64 => some ⟨.fn, 1, 8, [.nilf], true⟩
  | 65 => some ⟨.fn, 1, 8, [.nilf], true⟩
  | 67 => some ⟨.fn, 1, 8, [.nilf], true⟩
  | 69 => some ⟨.fn, 1, 8, [.nilf], true⟩
  | 70 => some ⟨.fn, 1, 8, [.nilf], true⟩
  | 71 => some ⟨.fn, 1, 8, [.nilf], true⟩
  | 72 => some ⟨.fn, 1, 8, [.nilf], true⟩
  | 73 => some ⟨.fn, 1, 8, [.nilf], true⟩
  | 74 => some ⟨.fn, 1, 8, [.nilf], true⟩
  | 75 => some ⟨.fn, 1, 8, [.nilf], true⟩
  | 76 => some ⟨.fn, 1, 8, [.nilf], true⟩
  | 77 => some ⟨.fn, 1, 8, [.nilf], true⟩
  | 78 => some ⟨.fn, 1, 8, [.nilf], true⟩
  | 79 => some ⟨.struct [(22, 0, 1), (3, 1, 1)], 2, 32, [.nil, .int .i64 0], true⟩
  | 80 => some ⟨.struct [(22, 0, 1), (3, 1, 1)], 2, 32, [.nil, .int .i64 0], true⟩
  | 82 => some ⟨.fn, 1, 8, [.nilf], true⟩
  | 84 => some ⟨.fn, 1, 8, [.nilf], true⟩
  | 86 => some ⟨.fn, 1, 8, [.nilf], true⟩
  | 88 => some ⟨.fn, 1, 8, [.nilf], true⟩
  | 90 => some ⟨.fn, 1, 8, [.nilf], true⟩
  | 91 => some ⟨.fn, 1, 8, [.nilf], true⟩
  | 92 => some ⟨.fn, 1, 8, [.nilf], true⟩
  | 93 => some ⟨.fn, 1, 8, [.nilf], true⟩
  | 94 => some ⟨.fn, 1, 8, [.nilf], true⟩
  | 95 => some ⟨.fn, 1, 8, [.nilf], true⟩
  | 96 => some ⟨.fn, 1, 8, [.nilf], true⟩
  | 97 => some ⟨.struct [(3, 0, 1)], 1, 8, [.int .i64 0], true⟩
  | 98 => some ⟨.struct [(3, 0, 1)], 1, 8, [.int .i64 0], true⟩
  | 99 => some ⟨.fn, 1, 8, [.nilf], true⟩
  | 100 => some ⟨.fn, 1, 8, [.nilf], true⟩
  | 102 => some ⟨.fn, 1, 8, [.nilf], true⟩
  | 103 => some ⟨.fn, 1, 8, [.nilf], true⟩
  | 104 => some ⟨.fn, 1, 8, [.nilf], true⟩
  | 105 => some ⟨.fn, 1, 8, [.nilf], true⟩
  | 106 => some ⟨.fn, 1, 8, [.nilf], true⟩
  | 107 => some ⟨.fn, 1, 8, [.nilf], true⟩
  | 108 => some ⟨.fn, 1, 8, [.nilf], true⟩
  | 109 => some ⟨.fn, 1, 8, [.nilf], true⟩
  | 110 => some ⟨.fn, 1, 8, [.nilf], true⟩
  | 111 => some ⟨.fn, 1, 8, [.nilf], true⟩
  | 112 => some ⟨.fn, 1, 8, [.nilf], true⟩
  | 113 => some ⟨.fn, 1, 8, [.nilf], true⟩
  | 114 => some ⟨.fn, 1, 8, [.nilf], true⟩
  | 115 => some ⟨.fn, 1, 8, [.nilf], true⟩
  | 116 => some ⟨.fn, 1, 8, [.nilf], true⟩
  | 117 => some ⟨.fn, 1, 8, [.nilf], true⟩
  | 119 => some ⟨.ptr 98, 1, 8, [.nilp], true⟩
  | 121 => some ⟨.fn, 1, 8, [.nilf], true⟩
  | 123 => some ⟨.fn, 1, 8, [.nilf], true⟩
  | 125 => some ⟨.fn, 1, 8, [.nilf], true⟩
  | 126 => some ⟨.int .u64, 1, 8, [.int .u64 0], true⟩
  | 128 => some ⟨.fn, 1, 8, [.nilf], true⟩
  | 129 => some ⟨.fn, 1, 8, [.nilf], true⟩
  | 131 => some ⟨.fn, 1, 8, [.nilf], true⟩
  | 132 => some ⟨.fn, 1, 8, [.nilf], true⟩
  | 133 => some ⟨.fn, 1, 8, [.nilf], true⟩
  | 135 => some ⟨.fn, 1, 8, [.nilf], true⟩
  | 136 => some ⟨.fn, 1, 8, [.nilf], true⟩
  | 137 => some ⟨.fn, 1, 8, [.nilf], true⟩
  | 145 => some ⟨.fn, 1, 8, [.nilf], true⟩
  | 146 => some ⟨.ptr 5, 1, 8, [.nilp], true⟩
  | _ => none

noncomputable def ksOf : Nat → List (Nat × Nat)
  | 6 => [(13, 15)]
  | 9 => [(13, 12), (18, 18)]
  | 16 => [(9, 12)]
  | 25 => [(6, 8)]
  | 28 => [(5, 1000)]
  | 38 => [(6, 50)]
  | 52 => [(9, 3)]
  | 53 => [(7, 18)]
  | 59 => [(3, 3)]
  | 62 => [(10, 1000)]
  | 100 => [(6, 6)]
  | 102 => [(1, 8), (8, 5)]
  | 103 => [(2, 5)]
  | 104 => [(1, 8), (8, 5)]
  | 108 => [(4, 6)]
  | 109 => [(9, 11)]
  | _ => []

def tab : Tab := cutT 147 tab0
def ftab : FTab := ftabOf Try.prog ksOf 112
end
set_option maxRecDepth 1000000 in
theorem tab_ok : TabOk Try.prog tab := tabOk_of (by kernel_rfl)
set_option maxRecDepth 1000000 in
theorem fun_ok : FunOk Try.prog tab ftab := funOk_of (by kernel_rfl)
theorem mixed : Try.prog.follows .mixedOrders = true := by kernel_rfl
end Go.Proofs.Ytioglkmdapghhaa
