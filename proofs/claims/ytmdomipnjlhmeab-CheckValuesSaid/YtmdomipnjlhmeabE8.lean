/- The register of 8 bits, over any bytes. -/
import Derived.Test.YtmdomipnjlhmeabTab
import Derived.Test.YtmdomipnjlhmeabBw
namespace Go.Proofs.Ytmdomipnjlhmeab
open Go.RowKit

noncomputable section
def T8 : List (BitVec 8) := [0, 97, 194, 163, 229, 132, 39, 70, 171, 202, 105, 8, 78, 47, 140, 237]
def tD8 : List DV := [.int .u8 0, .int .u8 97, .int .u8 194, .int .u8 163, .int .u8 229, .int .u8 132, .int .u8 39, .int .u8 70, .int .u8 171, .int .u8 202, .int .u8 105, .int .u8 8, .int .u8 78, .int .u8 47, .int .u8 140, .int .u8 237]
theorem tD8_eq : tD8 = T8.map w8 := by kernel_rfl
def te8 (i : Nat) : BitVec 8 := T8.getD i 0
theorem tD8_nth {i : Nat} (h : i < 16) : nth tD8 i = some (w8 (te8 i)) := by
  have hl : i < T8.length := h
  rw [nth_eq, tD8_eq, List.getElem?_map, List.getElem?_eq_getElem hl, te8, List.getD, List.getElem?_eq_getElem hl]
  rfl
def n1_8 (r : BitVec 8) (c : UInt8) : Nat := (r >>> 4).toNat ^^^ (c.toNat / 16)
def n2_8 (r : BitVec 8) (c : UInt8) : Nat := (r >>> 4).toNat ^^^ (c.toNat % 16)
def m8 (r : BitVec 8) (c : UInt8) : BitVec 8 := r <<< 4 ^^^ te8 (n1_8 r c)
/-- the register after one byte more -/
def st8 (r : BitVec 8) (c : UInt8) : BitVec 8 := m8 r c <<< 4 ^^^ te8 (n2_8 (m8 r c) c)
def H8 : Hp := ⟨1, [⟨0, 0, 87, tD8⟩]⟩
def S8 (xs : List (List DV)) (k : Nat) (r : BitVec 8) : Slots := mkT 45 [(0, w8 r), (7, .ptr 0 0), (8, .int .i64 4), (15, .list 1 xs), (16, iN xs.length), (17, iN k)]
abbrev live8 : List Nat := [0, 7, 8, 15, 16, 17]
abbrev lp8 : Code := loopAt (bodyOf ftab 59) 0
set_option maxRecDepth 1000000 in
theorem round8 (xs : List (List DV)) (k : Nat) (r m s t1 t2 : BitVec 8) (c : UInt8) (j1 j2 : Nat) : zsee Try.prog tab ftab noC (ksF ftab 59) live8 lp8 (S8 xs k r) H8
      [(18, .b true), (19, .n (.fptr [i8 c])), (29, .n (.ptr 0 j1)), (30, .n (w8 t1)), (0, .w (w8 m)), (40, .n (.ptr 0 j2)), (41, .n (w8 t2)), (0, .w (w8 s)), (17, .w (iN (k + 1)))] =
    some (.normal, S8 xs (k + 1) s, H8, [decide ((k : Int) < (xs.length : Int)) = true, idxOk (k : Int) xs.length = true, nth xs (k : Int).toNat = some [i8 c],
      idxOk (bitD .xor .u8 (shrD .u8 (r.toNat : Int) 4) (shrD .u8 (c.toNat : Int) 4)) 16 = true, DV.ptr 0 (0 + (bitD .xor .u8 (shrD .u8 (r.toNat : Int) 4) (shrD .u8 (c.toNat : Int) 4)).toNat * 1) = .ptr 0 j1, nth tD8 j1 = some (w8 t1), DV.int .u8 (bitD .xor .u8 (shlD .u8 (r.toNat : Int) 4) (t1.toNat : Int)) = w8 m,
      idxOk (bitD .xor .u8 (shrD .u8 (m.toNat : Int) 4) (bitD .and .u8 (c.toNat : Int) 15)) 16 = true, DV.ptr 0 (0 + (bitD .xor .u8 (shrD .u8 (m.toNat : Int) 4) (bitD .and .u8 (c.toNat : Int) 15)).toNat * 1) = .ptr 0 j2, nth tD8 j2 = some (w8 t2), DV.int .u8 (bitD .xor .u8 (shlD .u8 (m.toNat : Int) 4) (t2.toNat : Int)) = w8 s, DV.int .i64 (IntKind.i64.wrap ((k : Int) + 1)) = iN (k + 1)]) := by
  kernel_rfl
set_option maxRecDepth 1000000 in
theorem out8 (xs : List (List DV)) (k : Nat) (r : BitVec 8) : zsee Try.prog tab ftab noC (ksF ftab 59) [0] lp8 (S8 xs k r) H8 [(18, .b false)] =
    some (.exit 0, mkT 45 [(0, w8 r)], H8, [decide ((k : Int) < (xs.length : Int)) = false]) := by
  kernel_rfl
end
end Go.Proofs.Ytmdomipnjlhmeab
