/- The register of 8 bits over any bytes: what it is. -/
import Derived.Test.YtmdomipnjlhmeabE32b
import Derived.Test.YtmdomipnjlhmeabE8
import Derived.Test.YtmdomipnjlhmeabBy
namespace Go.Proofs.Ytmdomipnjlhmeab
open Go.RowKit

noncomputable section
theorem top8 (r : BitVec 8) : shrD .u8 (r.toNat : Int) 4 = (((r >>> 4).toNat : Nat) : Int) := by
  rw [show (4 : Int) = ((4 : Nat) : Int) from rfl, shrU _ (by decide), BitVec.toNat_ushiftRight, Nat.shiftRight_eq_div_pow]
theorem top8_lt (r : BitVec 8) : (r >>> 4).toNat < 16 := by
  have h := r.isLt
  rw [BitVec.toNat_ushiftRight, Nat.shiftRight_eq_div_pow]
  omega
theorem n1_8_lt (r : BitVec 8) (c : UInt8) : n1_8 r c < 16 := by
  have h := UInt8.toNat_lt c
  exact Nat.xor_lt_two_pow (n := 4) (top8_lt r) (by omega)
theorem n2_8_lt (r : BitVec 8) (c : UInt8) : n2_8 r c < 16 := Nat.xor_lt_two_pow (n := 4) (top8_lt r) (Nat.mod_lt _ (by omega))
theorem ix1_8 (r : BitVec 8) (c : UInt8) : bitD .xor .u8 (shrD .u8 (r.toNat : Int) 4) (shrD .u8 (c.toNat : Int) 4) = (n1_8 r c : Int) := by
  have h := UInt8.toNat_lt c
  have h1 := top8_lt r
  rw [top8, show (4 : Int) = ((4 : Nat) : Int) from rfl, shrU _ (by decide), xorU rfl (by show _ < 256; omega) (by show _ < 256; omega)]
  rfl
theorem ix2_8 (r : BitVec 8) (c : UInt8) : bitD .xor .u8 (shrD .u8 (r.toNat : Int) 4) (bitD .and .u8 (c.toNat : Int) 15) = (n2_8 r c : Int) := by
  have h := UInt8.toNat_lt c
  have h1 := top8_lt r
  have h2 : c.toNat &&& 15 = c.toNat % 16 := Nat.and_two_pow_sub_one_eq_mod c.toNat 4
  rw [top8, show (15 : Int) = ((15 : Nat) : Int) from rfl, andU rfl (by show _ < 256; omega) (by decide), h2, xorU rfl (by show _ < 256; omega) (by show _ < 256; omega)]
  rfl
theorem up8 (r t : BitVec 8) : DV.int .u8 (bitD .xor .u8 (shlD .u8 (r.toNat : Int) 4) (t.toNat : Int)) = w8 (r <<< 4 ^^^ t) := by
  have h := r.isLt
  rw [show (4 : Int) = ((4 : Nat) : Int) from rfl, shlU rfl _ (by decide), xorU rfl (Nat.mod_lt _ (by decide)) t.isLt]
  simp only [w8, BitVec.toNat_xor, BitVec.toNat_shiftLeft, Nat.shiftLeft_eq]
  rfl
open Go.RowKit
theorem loop8 (bs : List UInt8) (hl : bs.length < 2 ^ 30) (r0 : BitVec 8) : Goes Try.prog tab (ksF ftab 59) (.loop lp8) (S8 (by1 bs) 0 r0) H8 (.exit 0) (mkT 45 [(0, w8 (bs.foldl st8 r0))]) H8 := by
  have key := Goes.loop (P := Try.prog) (T := tab) (ks := ksF ftab 59) (x := lp8) bs.length (fun k => S8 (by1 bs) k ((bs.take k).foldl st8 r0)) (fun _ => H8) (e := .exit 0) (s1 := mkT 45 [(0, w8 (bs.foldl st8 r0))]) (h1 := H8) ?_ ?_ (by intro h; cases h)
  · exact key
  · intro k hk
    have hc : bs[k]? = some bs[k] := List.getElem?_eq_getElem hk
    have hf : (bs.take (k + 1)).foldl st8 r0 = st8 ((bs.take k).foldl st8 r0) bs[k] := by
      rw [List.take_add_one, hc, List.foldl_append]
      rfl
    have hlen := by1_length bs
    simp only [hf]
    generalize (bs.take k).foldl st8 r0 = r
    refine zsee_ok tab_ok mixed fun_ok noC_ok (round8 (by1 bs) k r (m8 r bs[k]) _ (te8 (n1_8 r bs[k])) (te8 (n2_8 (m8 r bs[k]) bs[k])) bs[k] (n1_8 r bs[k]) (n2_8 (m8 r bs[k]) bs[k])) ?_
    have a1 := ix1_8 r bs[k]
    have a2 := ix2_8 (m8 r bs[k]) bs[k]
    have b1 := n1_8_lt r bs[k]
    have b2 := n2_8_lt (m8 r bs[k]) bs[k]
    refine .cons (decide_eq_true (by omega)) (.cons (idxOk_lt (by omega)) (.cons (by1_nth hc) (.cons (idx_16 a1 b1) (.cons (ptr_ix a1) (.cons (tD8_nth b1) (.cons (up8 _ _) (.cons (idx_16 a2 b2) (.cons (ptr_ix a2) (.cons (tD8_nth b2) (.cons (up8 _ _) (.cons ?_ .nil)))))))))))
    have := wrapI (n := k + 1) (by omega)
    exact congrArg (DV.int .i64) this
  · have hf : (bs.take bs.length) = bs := List.take_length
    simp only [hf]
    refine zsee_ok tab_ok mixed fun_ok noC_ok (out8 (by1 bs) bs.length _) (.cons (decide_eq_false ?_) .nil)
    have hlen := by1_length bs
    omega
set_option maxRecDepth 1000000 in
theorem run8 (xs : List (List DV)) (r R : BitVec 8) : zans Try.prog tab ftab noC 59 [w8 r, .int .u8 97, .list 1 xs] [(0, .l live8 (.exit 0) (mkT 45 [(0, w8 R)]) H8)] =
    some (w8 R, H8, [Goes Try.prog tab (ksF ftab 59) (.loop lp8) (S8 xs 0 r) H8 (.exit 0) (mkT 45 [(0, w8 R)]) H8]) := by
  kernel_rfl
set_option maxRecDepth 1000000 in
theorem runN8 (r : BitVec 8) : zans Try.prog tab ftab noC 59 [w8 r, .int .u8 97, .nil] [] = some (w8 r, H8, []) := by
  kernel_rfl
def A8 (x : BitVec 8 × Option {bs : List UInt8 // bs.length < 2 ^ 30}) : List DV := [w8 x.1, .int .u8 97, oDB x.2]
def B8 (x : BitVec 8 × Option {bs : List UInt8 // bs.length < 2 ^ 30}) : DV × Hp := (w8 ((oBB x.2).foldl st8 x.1), ⟨0, []⟩)
theorem ans8 (x : BitVec 8 × Option {bs : List UInt8 // bs.length < 2 ^ 30}) : Ans Try.prog 59 (A8 x) (B8 x).1 (B8 x).2 := by
  obtain ⟨r, o⟩ := x
  cases o with
  | none => exact (zans_ok tab_ok mixed fun_ok noC_ok (runN8 r) .nil).flat rfl
  | some bs => exact (zans_ok tab_ok mixed fun_ok noC_ok (run8 (by1 bs.1) r (bs.1.foldl st8 r)) (.cons (loop8 bs.1 bs.2 r) .nil)).flat rfl
def cExt8 : CallF := conC 59 A8 B8
theorem cExt8_ok : CallOk Try.prog cExt8 := conC_ok ans8 fun _ => ⟨rfl, fun id o h => by simp [B8, Hp.get_eq] at h, rfl⟩
end
end Go.Proofs.Ytmdomipnjlhmeab
