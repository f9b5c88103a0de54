/- The program's types and functions as tables, checked against it. -/
import Derived.Test.YtekfnefpheakkaaV24
import Derived.Test.YtekfnefpheakkaaRows
namespace Go.Proofs.Ytekfnefpheakkaa
open Go.RowKit

noncomputable section
noncomputable def tab0 : Nat → Option TI
  | 1 => some ⟨.fn, 1, 8, [.nilf], true⟩
  | 2 => some ⟨.int .i64, 1, 8, [.int .i64 0], true⟩
  | 3 => some ⟨.int .i64, 1, 8, [.int .i64 0], true⟩
  | 4 => some ⟨.bool, 1, 1, [.bool false], true⟩
  | 5 => some ⟨.int .u8, 1, 1, [.int .u8 0], true⟩
  | 9 => some ⟨.str, 1, 16, [.str .empty], true⟩
  | 12 => some ⟨.int .u64, 1, 8, [.int .u64 0], true⟩
  | 20 => some ⟨.iface, 1, 16, [.nili], false⟩
  | 21 => some ⟨.int .i32, 1, 4, [.int .i32 0], true⟩
  | 22 => some ⟨.int .u16, 1, 2, [.int .u16 0], true⟩
  | 23 => some ⟨.slice 5, 1, 24, [.nil], true⟩
  | 24 => some ⟨.struct [(23, 0, 1), (3, 1, 1)], 2, 32, [.nil, .int .i64 0], true⟩
  | 25 => some ⟨.struct [(23, 0, 1), (3, 1, 1)], 2, 32, [.nil, .int .i64 0], true⟩
  | 26 => some ⟨.int .i64, 1, 8, [.int .i64 0], true⟩
  | 28 => some ⟨.fn, 1, 8, [.nilf], true⟩
  | 30 => some ⟨.fn, 1, 8, [.nilf], true⟩
  | 32 => some ⟨.fn, 1, 8, [.nilf], true⟩
  | 33 => some ⟨.fn, 1, 8, [.nilf], true⟩
  | 35 => some ⟨.fn, 1, 8, [.nilf], true⟩
  | 36 => some ⟨.fn, 1, 8, [.nilf], true⟩
  | 37 => some ⟨.slice 23, 1, 24, [.nil], true⟩
  | 39 => some ⟨.fn, 1, 8, [.nilf], true⟩
  | 40 => some ⟨.int .u64, 1, 8, [.int .u64 0], true⟩
  | 42 => some ⟨.fn, 1, 8, [.nilf], true⟩
  | 43 => some ⟨.fn, 1, 8, [.nilf], true⟩
  | 44 => some ⟨.fn, 1, 8, [.nilf], true⟩
  | 45 => some ⟨.fn, 1, 8, [.nilf], true⟩
  | 46 => some ⟨.fn, 1, 8, [.nilf], true⟩
  | 47 => some ⟨.fn, 1, 8, [.nilf], true⟩
  | 49 => some ⟨.fn, 1, 8, [.nilf], true⟩
  | 50 => some ⟨.fn, 1, 8, [.nilf], true⟩
  | 52 => some ⟨.fn, 1, 8, [.nilf], true⟩
  | 53 => some ⟨.fn, 1, 8, [.nilf], true⟩
  | 54 => some ⟨.fn, 1, 8, [.nilf], true⟩
  | 55 => some ⟨.fn, 1, 8, [.nilf], true⟩
  | 56 => some ⟨.fn, 1, 8, [.nilf], true⟩
  | 57 => some ⟨.fn, 1, 8, [.nilf], true⟩
  | 58 => some ⟨.int .u32, 1, 4, [.int .u32 0], true⟩
  | 59 => some ⟨.fn, 1, 8, [.nilf], true⟩
  | 60 => some ⟨.fn, 1, 8, [.nilf], true⟩
  | 61 => some ⟨.fn, 1, 8, [.nilf], true⟩
  | 62 => some ⟨.fn, 1, 8, [.nilf], true⟩
  | 63 => some ⟨.fn, 1, 8, [.nilf], true⟩
  | 64 => some ⟨.fn, 1, 8, [.nilf], true⟩
  | 65 => some ⟨.fn, 1, 8, [.nilf], true⟩
  | 66 => some ⟨.fn, 1, 8, [.nilf], true⟩
  | 67 => some ⟨.fn, 1, 8, [.nilf], true⟩
  | 68 => some ⟨.fn, 1, 8, [.nilf], true⟩
  | 69 => some ⟨.fn, 1, 8, [.nilf], true⟩
  | 70 => some ⟨.fn, 1, 8, [.nilf], true⟩
  | 72 => some ⟨.fn, 1, 8, [.nilf], true⟩
  | 74 => some ⟨.fn, 1, 8, [.nilf], true⟩
  | 75 => some ⟨.fn, 1, 8, [.nilf], true⟩
  | 76 => some ⟨.fn, 1, 8, [.nilf], true⟩
  | 77 => some ⟨.fn, 1, 8, [.nilf], true⟩
  | 78 => some ⟨.int .u64, 1, 8, [.int .u64 0], true⟩
  | 79 => some ⟨.fn, 1, 8, [.nilf], true⟩
  | 87 => some ⟨.fn, 1, 8, [.nilf], true⟩
  | 88 => some ⟨.ptr 5, 1, 8, [.nilp], true⟩
  | _ => none

noncomputable def ksOf : Nat → List (Nat × Nat)
  | 8 => [(2, 5)]
  | 13 => [(3, 3)]
  | 14 => [(5, 9)]
  | 20 => [(9, 12)]
  | 28 => [(6, 8)]
  | 29 => [(1, 8), (8, 5)]
  | 30 => [(1, 8), (8, 5)]
  | 31 => [(9, 11)]
  | 43 => [(9, 3)]
  | 44 => [(7, 18)]
  | _ => []

def tab : Tab := cutT 89 tab0
def ftab : FTab := ftabOf Try.prog ksOf 59
end
set_option maxRecDepth 1000000 in
theorem tab_ok : TabOk Try.prog tab := tabOk_of (by kernel_rfl)
set_option maxRecDepth 1000000 in
theorem fun_ok : FunOk Try.prog tab ftab := funOk_of (by kernel_rfl)
theorem mixed : Try.prog.follows .mixedOrders = true := by kernel_rfl
end Go.Proofs.Ytekfnefpheakkaa
