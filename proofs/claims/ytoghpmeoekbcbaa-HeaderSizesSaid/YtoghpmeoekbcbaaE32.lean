/- The register of 32 bits, over any bytes. -/
import Derived.Test.YtoghpmeoekbcbaaCt
import Derived.Test.YtoghpmeoekbcbaaBw
import Derived.Test.YtoghpmeoekbcbaaBy
namespace Go.Proofs.Ytoghpmeoekbcbaa
open Go.RowKit

noncomputable section
def T32 : List (BitVec 32) := [0, 136331795, 272663590, 408995381, 545327180, 681658975, 817990762, 954322553, 1090654360, 1226986123, 1363317950, 1499649709, 1635981524, 1772313287, 1908645106, 2044976865]
theorem tD32_eq : tD32 = T32.map w32 := by kernel_rfl
def te32 (i : Nat) : BitVec 32 := T32.getD i 0
theorem tD32_nth {i : Nat} (h : i < 16) : nth tD32 i = some (w32 (te32 i)) := by
  have hl : i < T32.length := h
  rw [nth_eq, tD32_eq, List.getElem?_map, List.getElem?_eq_getElem hl, te32, List.getD, List.getElem?_eq_getElem hl]
  rfl
def n1_32 (r : BitVec 32) (c : UInt8) : Nat := (r >>> 28).toNat ^^^ (c.toNat / 16)
def n2_32 (r : BitVec 32) (c : UInt8) : Nat := (r >>> 28).toNat ^^^ (c.toNat % 16)
def m32 (r : BitVec 32) (c : UInt8) : BitVec 32 := r <<< 4 ^^^ te32 (n1_32 r c)
/-- the register after one byte more -/
def st32 (r : BitVec 32) (c : UInt8) : BitVec 32 := m32 r c <<< 4 ^^^ te32 (n2_32 (m32 r c) c)
def H32 : Hp := ⟨1, [⟨0, 0, 114, tD32⟩], []⟩
def S32 (xs : List (List DV)) (k : Nat) (r : BitVec 32) : Slots := mkT 47 [(0, w32 r), (7, .ptr 0 0), (8, .int .i64 28), (15, .list 1 xs), (16, iN xs.length), (17, iN k)]
abbrev live32 : List Nat := [0, 7, 8, 15, 16, 17]
abbrev lp32 : Code := loopAt (bodyOf ftab 75) 0
set_option maxRecDepth 1000000 in
theorem round32 (xs : List (List DV)) (k : Nat) (r m s t1 t2 : BitVec 32) (c : UInt8) (j1 j2 : Nat) : zsee Try.prog tab ftab noC (ksF ftab 75) live32 lp32 (S32 xs k r) H32
      [(18, .b true), (19, .n (.fptr [i8 c])), (30, .n (.ptr 0 j1)), (31, .n (w32 t1)), (0, .w (w32 m)), (42, .n (.ptr 0 j2)), (43, .n (w32 t2)), (0, .w (w32 s)), (17, .w (iN (k + 1)))] =
    some (.normal, S32 xs (k + 1) s, H32, [decide ((k : Int) < (xs.length : Int)) = true, idxOk (k : Int) xs.length = true, nth xs (k : Int).toNat = some [i8 c],
      idxOk (bitD .xor .u8 (IntKind.u8.wrap (shrD .u32 (r.toNat : Int) 28)) (shrD .u8 (c.toNat : Int) 4)) 16 = true, DV.ptr 0 (0 + (bitD .xor .u8 (IntKind.u8.wrap (shrD .u32 (r.toNat : Int) 28)) (shrD .u8 (c.toNat : Int) 4)).toNat * 1) = .ptr 0 j1, nth tD32 j1 = some (w32 t1), DV.int .u32 (bitD .xor .u32 (shlD .u32 (r.toNat : Int) 4) (t1.toNat : Int)) = w32 m,
      idxOk (bitD .xor .u8 (IntKind.u8.wrap (shrD .u32 (m.toNat : Int) 28)) (bitD .and .u8 (c.toNat : Int) 15)) 16 = true, DV.ptr 0 (0 + (bitD .xor .u8 (IntKind.u8.wrap (shrD .u32 (m.toNat : Int) 28)) (bitD .and .u8 (c.toNat : Int) 15)).toNat * 1) = .ptr 0 j2, nth tD32 j2 = some (w32 t2), DV.int .u32 (bitD .xor .u32 (shlD .u32 (m.toNat : Int) 4) (t2.toNat : Int)) = w32 s, DV.int .i64 (IntKind.i64.wrap ((k : Int) + 1)) = iN (k + 1)]) := by
  kernel_rfl
set_option maxRecDepth 1000000 in
theorem out32 (xs : List (List DV)) (k : Nat) (r : BitVec 32) : zsee Try.prog tab ftab noC (ksF ftab 75) [0] lp32 (S32 xs k r) H32 [(18, .b false)] =
    some (.exit 0, mkT 47 [(0, w32 r)], H32, [decide ((k : Int) < (xs.length : Int)) = false]) := by
  kernel_rfl
end
end Go.Proofs.Ytoghpmeoekbcbaa
/- The register of 32 bits over any bytes: what it is. -/
namespace Go.Proofs.Ytoghpmeoekbcbaa
open Go.RowKit

noncomputable section
theorem top32 (r : BitVec 32) : IntKind.u8.wrap (shrD .u32 (r.toNat : Int) 28) = (((r >>> 28).toNat : Nat) : Int) := by
  have h := r.isLt
  rw [show (28 : Int) = ((28 : Nat) : Int) from rfl, shrU _ (by decide), wrapU rfl, BitVec.toNat_ushiftRight, Nat.shiftRight_eq_div_pow]
  have : r.toNat / 2 ^ 28 < 2 ^ 8 := by omega
  rw [show IntKind.u8.bits = 8 from rfl, Nat.mod_eq_of_lt this]
theorem top32_lt (r : BitVec 32) : (r >>> 28).toNat < 16 := by
  have h := r.isLt
  rw [BitVec.toNat_ushiftRight, Nat.shiftRight_eq_div_pow]
  omega
theorem n1_32_lt (r : BitVec 32) (c : UInt8) : n1_32 r c < 16 := by
  have h := UInt8.toNat_lt c
  exact Nat.xor_lt_two_pow (n := 4) (top32_lt r) (by omega)
theorem n2_32_lt (r : BitVec 32) (c : UInt8) : n2_32 r c < 16 := Nat.xor_lt_two_pow (n := 4) (top32_lt r) (Nat.mod_lt _ (by omega))
theorem ix1_32 (r : BitVec 32) (c : UInt8) : bitD .xor .u8 (IntKind.u8.wrap (shrD .u32 (r.toNat : Int) 28)) (shrD .u8 (c.toNat : Int) 4) = (n1_32 r c : Int) := by
  have h := UInt8.toNat_lt c
  have h1 := top32_lt r
  rw [top32, show (4 : Int) = ((4 : Nat) : Int) from rfl, shrU _ (by decide), xorU rfl (by show _ < 256; omega) (by show _ < 256; omega)]
  rfl
theorem ix2_32 (r : BitVec 32) (c : UInt8) : bitD .xor .u8 (IntKind.u8.wrap (shrD .u32 (r.toNat : Int) 28)) (bitD .and .u8 (c.toNat : Int) 15) = (n2_32 r c : Int) := by
  have h := UInt8.toNat_lt c
  have h1 := top32_lt r
  have h2 : c.toNat &&& 15 = c.toNat % 16 := Nat.and_two_pow_sub_one_eq_mod c.toNat 4
  rw [top32, show (15 : Int) = ((15 : Nat) : Int) from rfl, andU rfl (by show _ < 256; omega) (by decide), h2, xorU rfl (by show _ < 256; omega) (by show _ < 256; omega)]
  rfl
theorem up32 (r t : BitVec 32) : DV.int .u32 (bitD .xor .u32 (shlD .u32 (r.toNat : Int) 4) (t.toNat : Int)) = w32 (r <<< 4 ^^^ t) := by
  have h := r.isLt
  rw [show (4 : Int) = ((4 : Nat) : Int) from rfl, shlU rfl _ (by decide), xorU rfl (Nat.mod_lt _ (by decide)) t.isLt]
  simp only [w32, BitVec.toNat_xor, BitVec.toNat_shiftLeft, Nat.shiftLeft_eq]
  rfl
theorem ptr_ix {e : Int} {j : Nat} (h : e = (j : Int)) : DV.ptr 0 (0 + e.toNat * 1) = .ptr 0 j := by
  rw [h, Int.toNat_natCast]
  simp
theorem idx_16 {e : Int} {j : Nat} (h : e = (j : Int)) (hj : j < 16) : idxOk e 16 = true := by
  rw [h]
  exact idxOk_lt hj
theorem loop32 (bs : List UInt8) (hl : bs.length < 2 ^ 30) (r0 : BitVec 32) : Goes Try.prog tab (ksF ftab 75) (.loop lp32) (S32 (by1 bs) 0 r0) H32 (.exit 0) (mkT 47 [(0, w32 (bs.foldl st32 r0))]) H32 := by
  have key := Goes.loop (P := Try.prog) (T := tab) (ks := ksF ftab 75) (x := lp32) bs.length (fun k => S32 (by1 bs) k ((bs.take k).foldl st32 r0)) (fun _ => H32) (e := .exit 0) (s1 := mkT 47 [(0, w32 (bs.foldl st32 r0))]) (h1 := H32) ?_ ?_ (by intro h; cases h)
  · exact key
  · intro k hk
    have hc : bs[k]? = some bs[k] := List.getElem?_eq_getElem hk
    have hf : (bs.take (k + 1)).foldl st32 r0 = st32 ((bs.take k).foldl st32 r0) bs[k] := by
      rw [List.take_add_one, hc, List.foldl_append]
      rfl
    have hlen := by1_length bs
    simp only [hf]
    generalize (bs.take k).foldl st32 r0 = r
    refine zsee_ok tab_ok mixed fun_ok noC_ok (round32 (by1 bs) k r (m32 r bs[k]) _ (te32 (n1_32 r bs[k])) (te32 (n2_32 (m32 r bs[k]) bs[k])) bs[k] (n1_32 r bs[k]) (n2_32 (m32 r bs[k]) bs[k])) ?_
    have a1 := ix1_32 r bs[k]
    have a2 := ix2_32 (m32 r bs[k]) bs[k]
    have b1 := n1_32_lt r bs[k]
    have b2 := n2_32_lt (m32 r bs[k]) bs[k]
    refine .cons (decide_eq_true (by omega)) (.cons (idxOk_lt (by omega)) (.cons (by1_nth hc) (.cons (idx_16 a1 b1) (.cons (ptr_ix a1) (.cons (tD32_nth b1) (.cons (up32 _ _) (.cons (idx_16 a2 b2) (.cons (ptr_ix a2) (.cons (tD32_nth b2) (.cons (up32 _ _) (.cons ?_ .nil)))))))))))
    have := wrapI (n := k + 1) (by omega)
    exact congrArg (DV.int .i64) this
  · have hf : (bs.take bs.length) = bs := List.take_length
    simp only [hf]
    refine zsee_ok tab_ok mixed fun_ok noC_ok (out32 (by1 bs) bs.length _) (.cons (decide_eq_false ?_) .nil)
    have hlen := by1_length bs
    omega
set_option maxRecDepth 1000000 in
theorem run32 (xs : List (List DV)) (r R : BitVec 32) : zans Try.prog tab ftab noC 75 [w32 r, .int .u32 136331795, .list 1 xs] [(0, .l live32 (.exit 0) (mkT 47 [(0, w32 R)]) H32)] =
    some (w32 R, H32, [Goes Try.prog tab (ksF ftab 75) (.loop lp32) (S32 xs 0 r) H32 (.exit 0) (mkT 47 [(0, w32 R)]) H32]) := by
  kernel_rfl
set_option maxRecDepth 1000000 in
theorem runN32 (r : BitVec 32) : zans Try.prog tab ftab noC 75 [w32 r, .int .u32 136331795, .nil] [] = some (w32 r, H32, []) := by
  kernel_rfl
def A32 (x : BitVec 32 × Option {bs : List UInt8 // bs.length < 2 ^ 30}) : List DV := [w32 x.1, .int .u32 136331795, oDB x.2]
def B32 (x : BitVec 32 × Option {bs : List UInt8 // bs.length < 2 ^ 30}) : DV × Hp := (w32 ((oBB x.2).foldl st32 x.1), ⟨0, [], []⟩)
theorem ans32 (x : BitVec 32 × Option {bs : List UInt8 // bs.length < 2 ^ 30}) : Ans Try.prog 75 (A32 x) (B32 x).1 (B32 x).2 := by
  obtain ⟨r, o⟩ := x
  cases o with
  | none => exact (zans_ok tab_ok mixed fun_ok noC_ok (runN32 r) .nil).flat rfl rfl
  | some bs => exact (zans_ok tab_ok mixed fun_ok noC_ok (run32 (by1 bs.1) r (bs.1.foldl st32 r)) (.cons (loop32 bs.1 bs.2 r) .nil)).flat rfl rfl
def cExt32 : ConF := conC 75 A32 B32
theorem cExt32_ok : ConOk Try.prog cExt32 := conC_ok ans32 fun _ => ⟨rfl, fun id o h => by simp [B32, Hp.get_eq] at h, rfl⟩
end
end Go.Proofs.Ytoghpmeoekbcbaa
