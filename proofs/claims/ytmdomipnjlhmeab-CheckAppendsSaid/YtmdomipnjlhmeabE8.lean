/- The register of 8 bits, over any bytes. -/
import Derived.Test.YtmdomipnjlhmeabTab
import Derived.Test.YtmdomipnjlhmeabBw
import Derived.Test.YtmdomipnjlhmeabE32
import Derived.Test.YtmdomipnjlhmeabBy
namespace Go.Proofs.Ytmdomipnjlhmeab
open Go.RowKit

noncomputable section
def T8 : List (BitVec 8) := [0, 97, 194, 163, 229, 132, 39, 70, 171, 202, 105, 8, 78, 47, 140, 237]
def tD8 : List DV := [.int .u8 0, .int .u8 97, .int .u8 194, .int .u8 163, .int .u8 229, .int .u8 132, .int .u8 39, .int .u8 70, .int .u8 171, .int .u8 202, .int .u8 105, .int .u8 8, .int .u8 78, .int .u8 47, .int .u8 140, .int .u8 237]
theorem tD8_eq : tD8 = T8.map w8 := by kernel_rfl
def te8 (i : Nat) : BitVec 8 := T8.getD i 0
theorem tD8_nth {i : Nat} (h : i < 16) : nth tD8 i = some (w8 (te8 i)) := by
  have hl : i < T8.length := h
  rw [nth_eq, tD8_eq, List.getElem?_map, List.getElem?_eq_getElem hl, te8, List.getD, List.getElem?_eq_getElem hl]
  rfl
def n1_8 (r : BitVec 8) (c : UInt8) : Nat := (r >>> 4).toNat ^^^ (c.toNat / 16)
def n2_8 (r : BitVec 8) (c : UInt8) : Nat := (r >>> 4).toNat ^^^ (c.toNat % 16)
def m8 (r : BitVec 8) (c : UInt8) : BitVec 8 := r <<< 4 ^^^ te8 (n1_8 r c)
/-- the register after one byte more -/
def st8 (r : BitVec 8) (c : UInt8) : BitVec 8 := m8 r c <<< 4 ^^^ te8 (n2_8 (m8 r c) c)
def H8 : Hp := ⟨1, [⟨0, 0, 87, tD8⟩]⟩
def S8 (xs : List (List DV)) (k : Nat) (r : BitVec 8) : Slots := mkT 45 [(0, w8 r), (7, .ptr 0 0), (8, .int .i64 4), (15, .list 1 xs), (16, iN xs.length), (17, iN k)]
abbrev live8 : List Nat := [0, 7, 8, 15, 16, 17]
abbrev lp8 : Code := loopAt (bodyOf ftab 59) 0
set_option maxRecDepth 1000000 in
theorem round8 (xs : List (List DV)) (k : Nat) (r m s t1 t2 : BitVec 8) (c : UInt8) (j1 j2 : Nat) : zsee Try.prog tab ftab noC (ksF ftab 59) live8 lp8 (S8 xs k r) H8
      [(18, .b true), (19, .n (.fptr [i8 c])), (29, .n (.ptr 0 j1)), (30, .n (w8 t1)), (0, .w (w8 m)), (40, .n (.ptr 0 j2)), (41, .n (w8 t2)), (0, .w (w8 s)), (17, .w (iN (k + 1)))] =
    some (.normal, S8 xs (k + 1) s, H8, [decide ((k : Int) < (xs.length : Int)) = true, idxOk (k : Int) xs.length = true, nth xs (k : Int).toNat = some [i8 c],
      idxOk (bitD .xor .u8 (shrD .u8 (r.toNat : Int) 4) (shrD .u8 (c.toNat : Int) 4)) 16 = true, DV.ptr 0 (0 + (bitD .xor .u8 (shrD .u8 (r.toNat : Int) 4) (shrD .u8 (c.toNat : Int) 4)).toNat * 1) = .ptr 0 j1, nth tD8 j1 = some (w8 t1), DV.int .u8 (bitD .xor .u8 (shlD .u8 (r.toNat : Int) 4) (t1.toNat : Int)) = w8 m,
      idxOk (bitD .xor .u8 (shrD .u8 (m.toNat : Int) 4) (bitD .and .u8 (c.toNat : Int) 15)) 16 = true, DV.ptr 0 (0 + (bitD .xor .u8 (shrD .u8 (m.toNat : Int) 4) (bitD .and .u8 (c.toNat : Int) 15)).toNat * 1) = .ptr 0 j2, nth tD8 j2 = some (w8 t2), DV.int .u8 (bitD .xor .u8 (shlD .u8 (m.toNat : Int) 4) (t2.toNat : Int)) = w8 s, DV.int .i64 (IntKind.i64.wrap ((k : Int) + 1)) = iN (k + 1)]) := by
  kernel_rfl
set_option maxRecDepth 1000000 in
theorem out8 (xs : List (List DV)) (k : Nat) (r : BitVec 8) : zsee Try.prog tab ftab noC (ksF ftab 59) [0] lp8 (S8 xs k r) H8 [(18, .b false)] =
    some (.exit 0, mkT 45 [(0, w8 r)], H8, [decide ((k : Int) < (xs.length : Int)) = false]) := by
  kernel_rfl
end
end Go.Proofs.Ytmdomipnjlhmeab
/- The register of 8 bits over any bytes: what it is. -/
namespace Go.Proofs.Ytmdomipnjlhmeab
open Go.RowKit

noncomputable section
theorem top8 (r : BitVec 8) : shrD .u8 (r.toNat : Int) 4 = (((r >>> 4).toNat : Nat) : Int) := by
  rw [show (4 : Int) = ((4 : Nat) : Int) from rfl, shrU _ (by decide), BitVec.toNat_ushiftRight, Nat.shiftRight_eq_div_pow]
theorem top8_lt (r : BitVec 8) : (r >>> 4).toNat < 16 := by
  have h := r.isLt
  rw [BitVec.toNat_ushiftRight, Nat.shiftRight_eq_div_pow]
  omega
theorem n1_8_lt (r : BitVec 8) (c : UInt8) : n1_8 r c < 16 := by
  have h := UInt8.toNat_lt c
  exact Nat.xor_lt_two_pow (n := 4) (top8_lt r) (by omega)
theorem n2_8_lt (r : BitVec 8) (c : UInt8) : n2_8 r c < 16 := Nat.xor_lt_two_pow (n := 4) (top8_lt r) (Nat.mod_lt _ (by omega))
theorem ix1_8 (r : BitVec 8) (c : UInt8) : bitD .xor .u8 (shrD .u8 (r.toNat : Int) 4) (shrD .u8 (c.toNat : Int) 4) = (n1_8 r c : Int) := by
  have h := UInt8.toNat_lt c
  have h1 := top8_lt r
  rw [top8, show (4 : Int) = ((4 : Nat) : Int) from rfl, shrU _ (by decide), xorU rfl (by show _ < 256; omega) (by show _ < 256; omega)]
  rfl
theorem ix2_8 (r : BitVec 8) (c : UInt8) : bitD .xor .u8 (shrD .u8 (r.toNat : Int) 4) (bitD .and .u8 (c.toNat : Int) 15) = (n2_8 r c : Int) := by
  have h := UInt8.toNat_lt c
  have h1 := top8_lt r
  have h2 : c.toNat &&& 15 = c.toNat % 16 := Nat.and_two_pow_sub_one_eq_mod c.toNat 4
  rw [top8, show (15 : Int) = ((15 : Nat) : Int) from rfl, andU rfl (by show _ < 256; omega) (by decide), h2, xorU rfl (by show _ < 256; omega) (by show _ < 256; omega)]
  rfl
theorem up8 (r t : BitVec 8) : DV.int .u8 (bitD .xor .u8 (shlD .u8 (r.toNat : Int) 4) (t.toNat : Int)) = w8 (r <<< 4 ^^^ t) := by
  have h := r.isLt
  rw [show (4 : Int) = ((4 : Nat) : Int) from rfl, shlU rfl _ (by decide), xorU rfl (Nat.mod_lt _ (by decide)) t.isLt]
  simp only [w8, BitVec.toNat_xor, BitVec.toNat_shiftLeft, Nat.shiftLeft_eq]
  rfl
open Go.RowKit
theorem loop8 (bs : List UInt8) (hl : bs.length < 2 ^ 30) (r0 : BitVec 8) : Goes Try.prog tab (ksF ftab 59) (.loop lp8) (S8 (by1 bs) 0 r0) H8 (.exit 0) (mkT 45 [(0, w8 (bs.foldl st8 r0))]) H8 := by
  have key := Goes.loop (P := Try.prog) (T := tab) (ks := ksF ftab 59) (x := lp8) bs.length (fun k => S8 (by1 bs) k ((bs.take k).foldl st8 r0)) (fun _ => H8) (e := .exit 0) (s1 := mkT 45 [(0, w8 (bs.foldl st8 r0))]) (h1 := H8) ?_ ?_ (by intro h; cases h)
  · exact key
  · intro k hk
    have hc : bs[k]? = some bs[k] := List.getElem?_eq_getElem hk
    have hf : (bs.take (k + 1)).foldl st8 r0 = st8 ((bs.take k).foldl st8 r0) bs[k] := by
      rw [List.take_add_one, hc, List.foldl_append]
      rfl
    have hlen := by1_length bs
    simp only [hf]
    generalize (bs.take k).foldl st8 r0 = r
    refine zsee_ok tab_ok mixed fun_ok noC_ok (round8 (by1 bs) k r (m8 r bs[k]) _ (te8 (n1_8 r bs[k])) (te8 (n2_8 (m8 r bs[k]) bs[k])) bs[k] (n1_8 r bs[k]) (n2_8 (m8 r bs[k]) bs[k])) ?_
    have a1 := ix1_8 r bs[k]
    have a2 := ix2_8 (m8 r bs[k]) bs[k]
    have b1 := n1_8_lt r bs[k]
    have b2 := n2_8_lt (m8 r bs[k]) bs[k]
    refine .cons (decide_eq_true (by omega)) (.cons (idxOk_lt (by omega)) (.cons (by1_nth hc) (.cons (idx_16 a1 b1) (.cons (ptr_ix a1) (.cons (tD8_nth b1) (.cons (up8 _ _) (.cons (idx_16 a2 b2) (.cons (ptr_ix a2) (.cons (tD8_nth b2) (.cons (up8 _ _) (.cons ?_ .nil)))))))))))
    have := wrapI (n := k + 1) (by omega)
    exact congrArg (DV.int .i64) this
  · have hf : (bs.take bs.length) = bs := List.take_length
    simp only [hf]
    refine zsee_ok tab_ok mixed fun_ok noC_ok (out8 (by1 bs) bs.length _) (.cons (decide_eq_false ?_) .nil)
    have hlen := by1_length bs
    omega
set_option maxRecDepth 1000000 in
theorem run8 (xs : List (List DV)) (r R : BitVec 8) : zans Try.prog tab ftab noC 59 [w8 r, .int .u8 97, .list 1 xs] [(0, .l live8 (.exit 0) (mkT 45 [(0, w8 R)]) H8)] =
    some (w8 R, H8, [Goes Try.prog tab (ksF ftab 59) (.loop lp8) (S8 xs 0 r) H8 (.exit 0) (mkT 45 [(0, w8 R)]) H8]) := by
  kernel_rfl
set_option maxRecDepth 1000000 in
theorem runN8 (r : BitVec 8) : zans Try.prog tab ftab noC 59 [w8 r, .int .u8 97, .nil] [] = some (w8 r, H8, []) := by
  kernel_rfl
def A8 (x : BitVec 8 × Option {bs : List UInt8 // bs.length < 2 ^ 30}) : List DV := [w8 x.1, .int .u8 97, oDB x.2]
def B8 (x : BitVec 8 × Option {bs : List UInt8 // bs.length < 2 ^ 30}) : DV × Hp := (w8 ((oBB x.2).foldl st8 x.1), ⟨0, []⟩)
theorem ans8 (x : BitVec 8 × Option {bs : List UInt8 // bs.length < 2 ^ 30}) : Ans Try.prog 59 (A8 x) (B8 x).1 (B8 x).2 := by
  obtain ⟨r, o⟩ := x
  cases o with
  | none => exact (zans_ok tab_ok mixed fun_ok noC_ok (runN8 r) .nil).flat rfl
  | some bs => exact (zans_ok tab_ok mixed fun_ok noC_ok (run8 (by1 bs.1) r (bs.1.foldl st8 r)) (.cons (loop8 bs.1 bs.2 r) .nil)).flat rfl
def cExt8 : CallF := conC 59 A8 B8
theorem cExt8_ok : CallOk Try.prog cExt8 := conC_ok ans8 fun _ => ⟨rfl, fun id o h => by simp [B8, Hp.get_eq] at h, rfl⟩
end
end Go.Proofs.Ytmdomipnjlhmeab
