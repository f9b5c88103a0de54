/- The register of 32 bits, over any bytes. -/
import Derived.Test.YtmdomipnjlhmeabTab
import Derived.Test.YtmdomipnjlhmeabBw
namespace Go.Proofs.Ytmdomipnjlhmeab
open Go.RowKit

noncomputable section
def T32 : List (BitVec 32) := [0, 136331795, 272663590, 408995381, 545327180, 681658975, 817990762, 954322553, 1090654360, 1226986123, 1363317950, 1499649709, 1635981524, 1772313287, 1908645106, 2044976865]
def tD32 : List DV := [.int .u32 0, .int .u32 136331795, .int .u32 272663590, .int .u32 408995381, .int .u32 545327180, .int .u32 681658975, .int .u32 817990762, .int .u32 954322553, .int .u32 1090654360, .int .u32 1226986123, .int .u32 1363317950, .int .u32 1499649709, .int .u32 1635981524, .int .u32 1772313287, .int .u32 1908645106, .int .u32 2044976865]
theorem tD32_eq : tD32 = T32.map w32 := by kernel_rfl
def te32 (i : Nat) : BitVec 32 := T32.getD i 0
theorem tD32_nth {i : Nat} (h : i < 16) : nth tD32 i = some (w32 (te32 i)) := by
  have hl : i < T32.length := h
  rw [nth_eq, tD32_eq, List.getElem?_map, List.getElem?_eq_getElem hl, te32, List.getD, List.getElem?_eq_getElem hl]
  rfl
def n1_32 (r : BitVec 32) (c : UInt8) : Nat := (r >>> 28).toNat ^^^ (c.toNat / 16)
def n2_32 (r : BitVec 32) (c : UInt8) : Nat := (r >>> 28).toNat ^^^ (c.toNat % 16)
def m32 (r : BitVec 32) (c : UInt8) : BitVec 32 := r <<< 4 ^^^ te32 (n1_32 r c)
/-- the register after one byte more -/
def st32 (r : BitVec 32) (c : UInt8) : BitVec 32 := m32 r c <<< 4 ^^^ te32 (n2_32 (m32 r c) c)
def H32 : Hp := ⟨1, [⟨0, 0, 90, tD32⟩]⟩
def S32 (xs : List (List DV)) (k : Nat) (r : BitVec 32) : Slots := mkT 47 [(0, w32 r), (7, .ptr 0 0), (8, .int .i64 28), (15, .list 1 xs), (16, iN xs.length), (17, iN k)]
abbrev live32 : List Nat := [0, 7, 8, 15, 16, 17]
abbrev lp32 : Code := loopAt (bodyOf ftab 62) 0
set_option maxRecDepth 1000000 in
theorem round32 (xs : List (List DV)) (k : Nat) (r m s t1 t2 : BitVec 32) (c : UInt8) (j1 j2 : Nat) : zsee Try.prog tab ftab noC (ksF ftab 62) live32 lp32 (S32 xs k r) H32
      [(18, .b true), (19, .n (.fptr [i8 c])), (30, .n (.ptr 0 j1)), (31, .n (w32 t1)), (0, .w (w32 m)), (42, .n (.ptr 0 j2)), (43, .n (w32 t2)), (0, .w (w32 s)), (17, .w (iN (k + 1)))] =
    some (.normal, S32 xs (k + 1) s, H32, [decide ((k : Int) < (xs.length : Int)) = true, idxOk (k : Int) xs.length = true, nth xs (k : Int).toNat = some [i8 c],
      idxOk (bitD .xor .u8 (IntKind.u8.wrap (shrD .u32 (r.toNat : Int) 28)) (shrD .u8 (c.toNat : Int) 4)) 16 = true, DV.ptr 0 (0 + (bitD .xor .u8 (IntKind.u8.wrap (shrD .u32 (r.toNat : Int) 28)) (shrD .u8 (c.toNat : Int) 4)).toNat * 1) = .ptr 0 j1, nth tD32 j1 = some (w32 t1), DV.int .u32 (bitD .xor .u32 (shlD .u32 (r.toNat : Int) 4) (t1.toNat : Int)) = w32 m,
      idxOk (bitD .xor .u8 (IntKind.u8.wrap (shrD .u32 (m.toNat : Int) 28)) (bitD .and .u8 (c.toNat : Int) 15)) 16 = true, DV.ptr 0 (0 + (bitD .xor .u8 (IntKind.u8.wrap (shrD .u32 (m.toNat : Int) 28)) (bitD .and .u8 (c.toNat : Int) 15)).toNat * 1) = .ptr 0 j2, nth tD32 j2 = some (w32 t2), DV.int .u32 (bitD .xor .u32 (shlD .u32 (m.toNat : Int) 4) (t2.toNat : Int)) = w32 s, DV.int .i64 (IntKind.i64.wrap ((k : Int) + 1)) = iN (k + 1)]) := by
  kernel_rfl
set_option maxRecDepth 1000000 in
theorem out32 (xs : List (List DV)) (k : Nat) (r : BitVec 32) : zsee Try.prog tab ftab noC (ksF ftab 62) [0] lp32 (S32 xs k r) H32 [(18, .b false)] =
    some (.exit 0, mkT 47 [(0, w32 r)], H32, [decide ((k : Int) < (xs.length : Int)) = false]) := by
  kernel_rfl
end
end Go.Proofs.Ytmdomipnjlhmeab
