/- The program's types and functions as tables, checked against it. -/
import Derived.Test.YtmdomipnjlhmeabV24
import Derived.Test.YtmdomipnjlhmeabRows
namespace Go.Proofs.Ytmdomipnjlhmeab
open Go.RowKit

noncomputable section
noncomputable def tab0 : Nat → Option TI
  | 1 => some ⟨.fn, 1, 8, [.nilf], true⟩
  | 2 => some ⟨.int .i64, 1, 8, [.int .i64 0], true⟩
  | 3 => some ⟨.int .i64, 1, 8, [.int .i64 0], true⟩
  | 4 => some ⟨.bool, 1, 1, [.bool false], true⟩
  | 5 => some ⟨.int .u8, 1, 1, [.int .u8 0], true⟩
  | 9 => some ⟨.str, 1, 16, [.str .empty], true⟩
  | 12 => some ⟨.int .u64, 1, 8, [.int .u64 0], true⟩
  | 20 => some ⟨.iface, 1, 16, [.nili], false⟩
  | 21 => some ⟨.int .i32, 1, 4, [.int .i32 0], true⟩
  | 22 => some ⟨.array 6 5, 6, 6, [.int .u8 0, .int .u8 0, .int .u8 0, .int .u8 0, .int .u8 0, .int .u8 0], true⟩
  | 23 => some ⟨.array 6 5, 6, 6, [.int .u8 0, .int .u8 0, .int .u8 0, .int .u8 0, .int .u8 0, .int .u8 0], true⟩
  | 24 => some ⟨.int .u64, 1, 8, [.int .u64 0], true⟩
  | 25 => some ⟨.fn, 1, 8, [.nilf], true⟩
  | 26 => some ⟨.int .i64, 1, 8, [.int .i64 0], true⟩
  | 28 => some ⟨.fn, 1, 8, [.nilf], true⟩
  | 29 => some ⟨.fn, 1, 8, [.nilf], true⟩
  | 30 => some ⟨.fn, 1, 8, [.nilf], true⟩
  | 31 => some ⟨.fn, 1, 8, [.nilf], true⟩
  | 32 => some ⟨.slice 23, 1, 24, [.nil], true⟩
  | 33 => some ⟨.fn, 1, 8, [.nilf], true⟩
  | 35 => some ⟨.fn, 1, 8, [.nilf], true⟩
  | 37 => some ⟨.fn, 1, 8, [.nilf], true⟩
  | 38 => some ⟨.fn, 1, 8, [.nilf], true⟩
  | 39 => some ⟨.fn, 1, 8, [.nilf], true⟩
  | 40 => some ⟨.fn, 1, 8, [.nilf], true⟩
  | 41 => some ⟨.fn, 1, 8, [.nilf], true⟩
  | 42 => some ⟨.fn, 1, 8, [.nilf], true⟩
  | 43 => some ⟨.fn, 1, 8, [.nilf], true⟩
  | 44 => some ⟨.fn, 1, 8, [.nilf], true⟩
  | 45 => some ⟨.slice 5, 1, 24, [.nil], true⟩
  | 47 => some ⟨.fn, 1, 8, [.nilf], true⟩
  | 48 => some ⟨.int .u32, 1, 4, [.int .u32 0], true⟩
  | 49 => some ⟨.fn, 1, 8, [.nilf], true⟩
  | 50 => some ⟨.fn, 1, 8, [.nilf], true⟩
  | 51 => some ⟨.fn, 1, 8, [.nilf], true⟩
  | 52 => some ⟨.fn, 1, 8, [.nilf], true⟩
  | 53 => some ⟨.fn, 1, 8, [.nilf], true⟩
  | 54 => some ⟨.fn, 1, 8, [.nilf], true⟩
  | 55 => some ⟨.fn, 1, 8, [.nilf], true⟩
  | 57 => some ⟨.fn, 1, 8, [.nilf], true⟩
  | 59 => some ⟨.fn, 1, 8, [.nilf], true⟩
  | 60 => some ⟨.fn, 1, 8, [.nilf], true⟩
  | 61 => some ⟨.slice 63, 1, 24, [.nil], true⟩
  | 62 => some ⟨.fn, 1, 8, [.nilf], true⟩
  | 63 => some ⟨.int .u16, 1, 2, [.int .u16 0], true⟩
  | 64 => some ⟨.fn, 1, 8, [.nilf], true⟩
  | 65 => some ⟨.fn, 1, 8, [.nilf], true⟩
  | 66 => some ⟨.fn, 1, 8, [.nilf], true⟩
  | 67 => some ⟨.fn, 1, 8, [.nilf], true⟩
  | 68 => some ⟨.fn, 1, 8, [.nilf], true⟩
  | 69 => some ⟨.int .u64, 1, 8, [.int .u64 0], true⟩
  | 70 => some ⟨.fn, 1, 8, [.nilf], true⟩
  | 72 => some ⟨.fn, 1, 8, [.nilf], true⟩
  | 73 => some ⟨.fn, 1, 8, [.nilf], true⟩
  | 74 => some ⟨.fn, 1, 8, [.nilf], true⟩
  | 75 => some ⟨.fn, 1, 8, [.nilf], true⟩
  | 76 => some ⟨.fn, 1, 8, [.nilf], true⟩
  | 77 => some ⟨.fn, 1, 8, [.nilf], true⟩
  | 78 => some ⟨.slice 3, 1, 24, [.nil], true⟩
  | 79 => some ⟨.fn, 1, 8, [.nilf], true⟩
  | 80 => some ⟨.fn, 1, 8, [.nilf], true⟩
  | 81 => some ⟨.fn, 1, 8, [.nilf], true⟩
  | 82 => some ⟨.fn, 1, 8, [.nilf], true⟩
  | 84 => some ⟨.fn, 1, 8, [.nilf], true⟩
  | 85 => some ⟨.fn, 1, 8, [.nilf], true⟩
  | 86 => some ⟨.fn, 1, 8, [.nilf], true⟩
  | 87 => some ⟨.array 16 5, 16, 16, [.int .u8 0, .int .u8 0, .int .u8 0, .int .u8 0, .int .u8 0, .int .u8 0, .int .u8 0, .int .u8 0, .int .u8 0, .int .u8 0, .int .u8 0, .int .u8 0, .int .u8 0, .int .u8 0, .int .u8 0, .int .u8 0], true⟩
  | 88 => some ⟨.fn, 1, 8, [.nilf], true⟩
  | 89 => some ⟨.fn, 1, 8, [.nilf], true⟩
  | 90 => some ⟨.array 16 48, 16, 64, [.int .u32 0, .int .u32 0, .int .u32 0, .int .u32 0, .int .u32 0, .int .u32 0, .int .u32 0, .int .u32 0, .int .u32 0, .int .u32 0, .int .u32 0, .int .u32 0, .int .u32 0, .int .u32 0, .int .u32 0, .int .u32 0], true⟩
  | 91 => some ⟨.fn, 1, 8, [.nilf], true⟩
  | 92 => some ⟨.fn, 1, 8, [.nilf], true⟩
  | 93 => some ⟨.fn, 1, 8, [.nilf], true⟩
  | 101 => some ⟨.fn, 1, 8, [.nilf], true⟩
  | 102 => some ⟨.ptr 5, 1, 8, [.nilp], true⟩
  | _ => none

noncomputable def ksOf : Nat → List (Nat × Nat)
  | 3 => [(4, 3)]
  | 6 => [(4, 32)]
  | 9 => [(9, 35)]
  | 13 => [(9, 14), (10, 35)]
  | 14 => [(8, 44)]
  | 18 => [(1, 3)]
  | 19 => [(6, 9)]
  | 23 => [(6, 8)]
  | 26 => [(1, 6)]
  | 41 => [(4, 5)]
  | 42 => [(4, 5)]
  | 48 => [(7, 4)]
  | 52 => [(5, 6), (8, 14)]
  | 53 => [(3, 14), (4, 14), (7, 5), (9, 5)]
  | _ => []

def tab : Tab := cutT 103 tab0
def ftab : FTab := ftabOf Try.prog ksOf 72
end
set_option maxRecDepth 1000000 in
theorem tab_ok : TabOk Try.prog tab := tabOk_of (by kernel_rfl)
set_option maxRecDepth 1000000 in
theorem fun_ok : FunOk Try.prog tab ftab := funOk_of (by kernel_rfl)
theorem mixed : Try.prog.follows .mixedOrders = true := by kernel_rfl
end Go.Proofs.Ytmdomipnjlhmeab
