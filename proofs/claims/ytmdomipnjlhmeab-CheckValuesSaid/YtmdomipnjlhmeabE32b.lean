/- The register of 32 bits over any bytes: what it is. -/
import Derived.Test.YtmdomipnjlhmeabE32
import Derived.Test.YtmdomipnjlhmeabBy
namespace Go.Proofs.Ytmdomipnjlhmeab
open Go.RowKit

noncomputable section
theorem top32 (r : BitVec 32) : IntKind.u8.wrap (shrD .u32 (r.toNat : Int) 28) = (((r >>> 28).toNat : Nat) : Int) := by
  have h := r.isLt
  rw [show (28 : Int) = ((28 : Nat) : Int) from rfl, shrU _ (by decide), wrapU rfl, BitVec.toNat_ushiftRight, Nat.shiftRight_eq_div_pow]
  have : r.toNat / 2 ^ 28 < 2 ^ 8 := by omega
  rw [show IntKind.u8.bits = 8 from rfl, Nat.mod_eq_of_lt this]
theorem top32_lt (r : BitVec 32) : (r >>> 28).toNat < 16 := by
  have h := r.isLt
  rw [BitVec.toNat_ushiftRight, Nat.shiftRight_eq_div_pow]
  omega
theorem n1_32_lt (r : BitVec 32) (c : UInt8) : n1_32 r c < 16 := by
  have h := UInt8.toNat_lt c
  exact Nat.xor_lt_two_pow (n := 4) (top32_lt r) (by omega)
theorem n2_32_lt (r : BitVec 32) (c : UInt8) : n2_32 r c < 16 := Nat.xor_lt_two_pow (n := 4) (top32_lt r) (Nat.mod_lt _ (by omega))
theorem ix1_32 (r : BitVec 32) (c : UInt8) : bitD .xor .u8 (IntKind.u8.wrap (shrD .u32 (r.toNat : Int) 28)) (shrD .u8 (c.toNat : Int) 4) = (n1_32 r c : Int) := by
  have h := UInt8.toNat_lt c
  have h1 := top32_lt r
  rw [top32, show (4 : Int) = ((4 : Nat) : Int) from rfl, shrU _ (by decide), xorU rfl (by show _ < 256; omega) (by show _ < 256; omega)]
  rfl
theorem ix2_32 (r : BitVec 32) (c : UInt8) : bitD .xor .u8 (IntKind.u8.wrap (shrD .u32 (r.toNat : Int) 28)) (bitD .and .u8 (c.toNat : Int) 15) = (n2_32 r c : Int) := by
  have h := UInt8.toNat_lt c
  have h1 := top32_lt r
  have h2 : c.toNat &&& 15 = c.toNat % 16 := Nat.and_two_pow_sub_one_eq_mod c.toNat 4
  rw [top32, show (15 : Int) = ((15 : Nat) : Int) from rfl, andU rfl (by show _ < 256; omega) (by decide), h2, xorU rfl (by show _ < 256; omega) (by show _ < 256; omega)]
  rfl
theorem up32 (r t : BitVec 32) : DV.int .u32 (bitD .xor .u32 (shlD .u32 (r.toNat : Int) 4) (t.toNat : Int)) = w32 (r <<< 4 ^^^ t) := by
  have h := r.isLt
  rw [show (4 : Int) = ((4 : Nat) : Int) from rfl, shlU rfl _ (by decide), xorU rfl (Nat.mod_lt _ (by decide)) t.isLt]
  simp only [w32, BitVec.toNat_xor, BitVec.toNat_shiftLeft, Nat.shiftLeft_eq]
  rfl
theorem ptr_ix {e : Int} {j : Nat} (h : e = (j : Int)) : DV.ptr 0 (0 + e.toNat * 1) = .ptr 0 j := by
  rw [h, Int.toNat_natCast]
  simp
theorem idx_16 {e : Int} {j : Nat} (h : e = (j : Int)) (hj : j < 16) : idxOk e 16 = true := by
  rw [h]
  exact idxOk_lt hj
theorem loop32 (bs : List UInt8) (hl : bs.length < 2 ^ 30) (r0 : BitVec 32) : Goes Try.prog tab (ksF ftab 62) (.loop lp32) (S32 (by1 bs) 0 r0) H32 (.exit 0) (mkT 47 [(0, w32 (bs.foldl st32 r0))]) H32 := by
  have key := Goes.loop (P := Try.prog) (T := tab) (ks := ksF ftab 62) (x := lp32) bs.length (fun k => S32 (by1 bs) k ((bs.take k).foldl st32 r0)) (fun _ => H32) (e := .exit 0) (s1 := mkT 47 [(0, w32 (bs.foldl st32 r0))]) (h1 := H32) ?_ ?_ (by intro h; cases h)
  · exact key
  · intro k hk
    have hc : bs[k]? = some bs[k] := List.getElem?_eq_getElem hk
    have hf : (bs.take (k + 1)).foldl st32 r0 = st32 ((bs.take k).foldl st32 r0) bs[k] := by
      rw [List.take_add_one, hc, List.foldl_append]
      rfl
    have hlen := by1_length bs
    simp only [hf]
    generalize (bs.take k).foldl st32 r0 = r
    refine zsee_ok tab_ok mixed fun_ok noC_ok (round32 (by1 bs) k r (m32 r bs[k]) _ (te32 (n1_32 r bs[k])) (te32 (n2_32 (m32 r bs[k]) bs[k])) bs[k] (n1_32 r bs[k]) (n2_32 (m32 r bs[k]) bs[k])) ?_
    have a1 := ix1_32 r bs[k]
    have a2 := ix2_32 (m32 r bs[k]) bs[k]
    have b1 := n1_32_lt r bs[k]
    have b2 := n2_32_lt (m32 r bs[k]) bs[k]
    refine .cons (decide_eq_true (by omega)) (.cons (idxOk_lt (by omega)) (.cons (by1_nth hc) (.cons (idx_16 a1 b1) (.cons (ptr_ix a1) (.cons (tD32_nth b1) (.cons (up32 _ _) (.cons (idx_16 a2 b2) (.cons (ptr_ix a2) (.cons (tD32_nth b2) (.cons (up32 _ _) (.cons ?_ .nil)))))))))))
    have := wrapI (n := k + 1) (by omega)
    exact congrArg (DV.int .i64) this
  · have hf : (bs.take bs.length) = bs := List.take_length
    simp only [hf]
    refine zsee_ok tab_ok mixed fun_ok noC_ok (out32 (by1 bs) bs.length _) (.cons (decide_eq_false ?_) .nil)
    have hlen := by1_length bs
    omega
set_option maxRecDepth 1000000 in
theorem run32 (xs : List (List DV)) (r R : BitVec 32) : zans Try.prog tab ftab noC 62 [w32 r, .int .u32 136331795, .list 1 xs] [(0, .l live32 (.exit 0) (mkT 47 [(0, w32 R)]) H32)] =
    some (w32 R, H32, [Goes Try.prog tab (ksF ftab 62) (.loop lp32) (S32 xs 0 r) H32 (.exit 0) (mkT 47 [(0, w32 R)]) H32]) := by
  kernel_rfl
set_option maxRecDepth 1000000 in
theorem runN32 (r : BitVec 32) : zans Try.prog tab ftab noC 62 [w32 r, .int .u32 136331795, .nil] [] = some (w32 r, H32, []) := by
  kernel_rfl
def A32 (x : BitVec 32 × Option {bs : List UInt8 // bs.length < 2 ^ 30}) : List DV := [w32 x.1, .int .u32 136331795, oDB x.2]
def B32 (x : BitVec 32 × Option {bs : List UInt8 // bs.length < 2 ^ 30}) : DV × Hp := (w32 ((oBB x.2).foldl st32 x.1), ⟨0, []⟩)
theorem ans32 (x : BitVec 32 × Option {bs : List UInt8 // bs.length < 2 ^ 30}) : Ans Try.prog 62 (A32 x) (B32 x).1 (B32 x).2 := by
  obtain ⟨r, o⟩ := x
  cases o with
  | none => exact (zans_ok tab_ok mixed fun_ok noC_ok (runN32 r) .nil).flat rfl
  | some bs => exact (zans_ok tab_ok mixed fun_ok noC_ok (run32 (by1 bs.1) r (bs.1.foldl st32 r)) (.cons (loop32 bs.1 bs.2 r) .nil)).flat rfl
def cExt32 : CallF := conC 62 A32 B32
theorem cExt32_ok : CallOk Try.prog cExt32 := conC_ok ans32 fun _ => ⟨rfl, fun id o h => by simp [B32, Hp.get_eq] at h, rfl⟩
end
end Go.Proofs.Ytmdomipnjlhmeab
