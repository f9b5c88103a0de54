/- The program's types and functions as tables, checked against it. -/
import Derived.Test.YtmpmhkjfpeagkaaMF
import Derived.Test.YtmpmhkjfpeagkaaRows
namespace Go.Proofs.Ytmpmhkjfpeagkaa
open Go.RowKit

noncomputable section
noncomputable def tab0 : Nat → Option TI
  | 1 => some ⟨.fn, 1, 8, [.nilf], true⟩
  | 2 => some ⟨.int .i64, 1, 8, [.int .i64 0], true⟩
  | 3 => some ⟨.int .i64, 1, 8, [.int .i64 0], true⟩
  | 4 => some ⟨.bool, 1, 1, [.bool false], true⟩
  | 5 => some ⟨.int .u8, 1, 1, [.int .u8 0], true⟩
  | 9 => some ⟨.str, 1, 16, [.str .empty], true⟩
  | 12 => some ⟨.int .u64, 1, 8, [.int .u64 0], true⟩
  | 20 => some ⟨.iface, 1, 16, [.nili], false⟩
  | 21 => some ⟨.int .i32, 1, 4, [.int .i32 0], true⟩
  | 22 => some ⟨.slice 5, 1, 24, [.nil], true⟩
  | 23 => some ⟨.int .i64, 1, 8, [.int .i64 0], true⟩
  | 25 => some ⟨.fn, 1, 8, [.nilf], true⟩
  | 26 => some ⟨.slice 30, 1, 24, [.nil], true⟩
  | 27 => some ⟨.array 6 5, 6, 6, [.int .u8 0, .int .u8 0, .int .u8 0, .int .u8 0, .int .u8 0, .int .u8 0], true⟩
  | 28 => some ⟨.array 6 5, 6, 6, [.int .u8 0, .int .u8 0, .int .u8 0, .int .u8 0, .int .u8 0, .int .u8 0], true⟩
  | 29 => some ⟨.struct [(28, 0, 6), (28, 6, 6), (22, 12, 1)], 13, 40, [.int .u8 0, .int .u8 0, .int .u8 0, .int .u8 0, .int .u8 0, .int .u8 0, .int .u8 0, .int .u8 0, .int .u8 0, .int .u8 0, .int .u8 0, .int .u8 0, .nil], true⟩
  | 30 => some ⟨.struct [(28, 0, 6), (28, 6, 6), (22, 12, 1)], 13, 40, [.int .u8 0, .int .u8 0, .int .u8 0, .int .u8 0, .int .u8 0, .int .u8 0, .int .u8 0, .int .u8 0, .int .u8 0, .int .u8 0, .int .u8 0, .int .u8 0, .nil], true⟩
  | 31 => some ⟨.fn, 1, 8, [.nilf], true⟩
  | 32 => some ⟨.fn, 1, 8, [.nilf], true⟩
  | 33 => some ⟨.slice 22, 1, 24, [.nil], true⟩
  | 34 => some ⟨.slice 23, 1, 24, [.nil], true⟩
  | 36 => some ⟨.fn, 1, 8, [.nilf], true⟩
  | 37 => some ⟨.fn, 1, 8, [.nilf], true⟩
  | 39 => some ⟨.fn, 1, 8, [.nilf], true⟩
  | 40 => some ⟨.fn, 1, 8, [.nilf], true⟩
  | 41 => some ⟨.fn, 1, 8, [.nilf], true⟩
  | 43 => some ⟨.fn, 1, 8, [.nilf], true⟩
  | 45 => some ⟨.fn, 1, 8, [.nilf], true⟩
  | 46 => some ⟨.fn, 1, 8, [.nilf], true⟩
  | 47 => some ⟨.fn, 1, 8, [.nilf], true⟩
  | 48 => some ⟨.fn, 1, 8, [.nilf], true⟩
  | 49 => some ⟨.fn, 1, 8, [.nilf], true⟩
  | 50 => some ⟨.fn, 1, 8, [.nilf], true⟩
  | 51 => some ⟨.slice 54, 1, 24, [.nil], true⟩
  | 52 => some ⟨.slice 3, 1, 24, [.nil], true⟩
  | 53 => some ⟨.fn, 1, 8, [.nilf], true⟩
  | 54 => some ⟨.int .u16, 1, 2, [.int .u16 0], true⟩
  | 55 => some ⟨.fn, 1, 8, [.nilf], true⟩
  | 56 => some ⟨.fn, 1, 8, [.nilf], true⟩
  | 57 => some ⟨.array 4 5, 4, 4, [.int .u8 0, .int .u8 0, .int .u8 0, .int .u8 0], true⟩
  | 59 => some ⟨.fn, 1, 8, [.nilf], true⟩
  | 60 => some ⟨.fn, 1, 8, [.nilf], true⟩
  | 61 => some ⟨.fn, 1, 8, [.nilf], true⟩
  | 62 => some ⟨.fn, 1, 8, [.nilf], true⟩
  | 63 => some ⟨.int .u64, 1, 8, [.int .u64 0], true⟩
  | 64 => some ⟨.fn, 1, 8, [.nilf], true⟩
  | 66 => some ⟨.fn, 1, 8, [.nilf], true⟩
  | 67 => some ⟨.fn, 1, 8, [.nilf], true⟩
  | 68 => some ⟨.fn, 1, 8, [.nilf], true⟩
  | 69 => some ⟨.fn, 1, 8, [.nilf], true⟩
  | 70 => some ⟨.fn, 1, 8, [.nilf], true⟩
  | 71 => some ⟨.fn, 1, 8, [.nilf], true⟩
  | 72 => some ⟨.fn, 1, 8, [.nilf], true⟩
  | 73 => some ⟨.fn, 1, 8, [.nilf], true⟩
  | 74 => some ⟨.fn, 1, 8, [.nilf], true⟩
  | 75 => some ⟨.fn, 1, 8, [.nilf], true⟩
  | 76 => some ⟨.fn, 1, 8, [.nilf], true⟩
  | 77 => some ⟨.fn, 1, 8, [.nilf], true⟩
  | 78 => some ⟨.fn, 1, 8, [.nilf], true⟩
  | 79 => some ⟨.fn, 1, 8, [.nilf], true⟩
  | 80 => some ⟨.fn, 1, 8, [.nilf], true⟩
  | 81 => some ⟨.fn, 1, 8, [.nilf], true⟩
  | 82 => some ⟨.fn, 1, 8, [.nilf], true⟩
  | 83 => some ⟨.fn, 1, 8, [.nilf], true⟩
  | 84 => some ⟨.fn, 1, 8, [.nilf], true⟩
  | 85 => some ⟨.fn, 1, 8, [.nilf], true⟩
  | 86 => some ⟨.int .u64, 1, 8, [.int .u64 0], true⟩
  | 87 => some ⟨.fn, 1, 8, [.nilf], true⟩
  | 88 => some ⟨.array 16 5, 16, 16, [.int .u8 0, .int .u8 0, .int .u8 0, .int .u8 0, .int .u8 0, .int .u8 0, .int .u8 0, .int .u8 0, .int .u8 0, .int .u8 0, .int .u8 0, .int .u8 0, .int .u8 0, .int .u8 0, .int .u8 0, .int .u8 0], true⟩
  | 89 => some ⟨.fn, 1, 8, [.nilf], true⟩
  | 90 => some ⟨.fn, 1, 8, [.nilf], true⟩
  | 91 => some ⟨.fn, 1, 8, [.nilf], true⟩
  | 92 => some ⟨.fn, 1, 8, [.nilf], true⟩
  | 93 => some ⟨.fn, 1, 8, [.nilf], true⟩
  | 94 => some ⟨.int .u32, 1, 4, [.int .u32 0], true⟩
  | 95 => some ⟨.fn, 1, 8, [.nilf], true⟩
  | 103 => some ⟨.fn, 1, 8, [.nilf], true⟩
  | 104 => some ⟨.ptr 5, 1, 8, [.nilp], true⟩
  | _ => none

noncomputable def ksOf : Nat → List (Nat × Nat)
  | 3 => [(5, 9), (15, 16)]
  | 4 => [(15, 15)]
  | 8 => [(9, 17), (12, 12)]
  | 9 => [(12, 5), (21, 1000)]
  | 19 => [(9, 4), (10, 4), (11, 9)]
  | 20 => [(6, 37)]
  | 23 => [(6, 8)]
  | 24 => [(7, 14)]
  | 25 => [(3, 12), (4, 29)]
  | 27 => [(5, 1000)]
  | 29 => [(3, 1000), (4, 6), (13, 4)]
  | 35 => [(1, 6), (2, 24)]
  | 39 => [(1, 1000), (2, 8)]
  | _ => []

def tab : Tab := cutT 105 tab0
def ftab : FTab := ftabOf Try.prog ksOf 60
end
set_option maxRecDepth 1000000 in
theorem tab_ok : TabOk Try.prog tab := tabOk_of (by kernel_rfl)
set_option maxRecDepth 1000000 in
theorem fun_ok : FunOk Try.prog tab ftab := funOk_of (by kernel_rfl)
theorem mixed : Try.prog.follows .mixedOrders = true := by kernel_rfl
end Go.Proofs.Ytmpmhkjfpeagkaa
