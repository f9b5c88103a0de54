/- The registers are linear. -/
import Derived.Test.YtmdomipnjlhmeabCr
namespace Go.Proofs.Ytmdomipnjlhmeab

theorem xw32 (a b : BitVec 32) : bitD .xor .u32 (a.toNat : Int) (b.toNat : Int) = ((a ^^^ b).toNat : Int) := by
  rw [xorU (k := .u32) rfl a.isLt b.isLt, BitVec.toNat_xor]
theorem xw8 (a b : BitVec 8) : bitD .xor .u8 (a.toNat : Int) (b.toNat : Int) = ((a ^^^ b).toNat : Int) := by
  rw [xorU (k := .u8) rfl a.isLt b.isLt, BitVec.toNat_xor]
theorem lin32 : ((List.range 16).all fun i => (List.range 16).all fun j => te32 (i ^^^ j) == te32 i ^^^ te32 j) = true := by kernel_rfl
theorem lin8 : ((List.range 16).all fun i => (List.range 16).all fun j => te8 (i ^^^ j) == te8 i ^^^ te8 j) = true := by kernel_rfl
theorem te32_xor {i j : Nat} (hi : i < 16) (hj : j < 16) : te32 (i ^^^ j) = te32 i ^^^ te32 j := by
  have := List.all_eq_true.1 (List.all_eq_true.1 lin32 i (List.mem_range.2 hi)) j (List.mem_range.2 hj)
  simpa using this
theorem te8_xor {i j : Nat} (hi : i < 16) (hj : j < 16) : te8 (i ^^^ j) = te8 i ^^^ te8 j := by
  have := List.all_eq_true.1 (List.all_eq_true.1 lin8 i (List.mem_range.2 hi)) j (List.mem_range.2 hj)
  simpa using this
theorem hi_xor (c d : UInt8) : (c ^^^ d).toNat / 16 = (c.toNat / 16) ^^^ (d.toNat / 16) := by
  rw [UInt8.toNat_xor, ← Nat.shiftRight_eq_div_pow _ 4, ← Nat.shiftRight_eq_div_pow _ 4, ← Nat.shiftRight_eq_div_pow _ 4, Nat.shiftRight_xor_distrib]
theorem lo_xor (c d : UInt8) : (c ^^^ d).toNat % 16 = (c.toNat % 16) ^^^ (d.toNat % 16) := by
  rw [UInt8.toNat_xor]
  exact Nat.xor_mod_two_pow (n := 4)
theorem xor4 (a b c d : Nat) : a ^^^ b ^^^ (c ^^^ d) = (a ^^^ c) ^^^ (b ^^^ d) := by
  rw [Nat.xor_assoc, Nat.xor_assoc, ← Nat.xor_assoc b c d, ← Nat.xor_assoc c b d, Nat.xor_comm b c]
theorem xor4b {w : Nat} (a b c d : BitVec w) : a ^^^ b ^^^ (c ^^^ d) = (a ^^^ c) ^^^ (b ^^^ d) := by
  rw [BitVec.xor_assoc, BitVec.xor_assoc, ← BitVec.xor_assoc b c d, ← BitVec.xor_assoc c b d, BitVec.xor_comm b c]
theorem n1_32_xor (r s : BitVec 32) (c d : UInt8) : n1_32 (r ^^^ s) (c ^^^ d) = n1_32 r c ^^^ n1_32 s d := by
  rw [n1_32, hi_xor, BitVec.ushiftRight_xor_distrib, BitVec.toNat_xor]
  exact xor4 _ _ _ _
theorem n2_32_xor (r s : BitVec 32) (c d : UInt8) : n2_32 (r ^^^ s) (c ^^^ d) = n2_32 r c ^^^ n2_32 s d := by
  rw [n2_32, lo_xor, BitVec.ushiftRight_xor_distrib, BitVec.toNat_xor]
  exact xor4 _ _ _ _
theorem m32_xor (r s : BitVec 32) (c d : UInt8) : m32 (r ^^^ s) (c ^^^ d) = m32 r c ^^^ m32 s d := by
  rw [m32, n1_32_xor, te32_xor (n1_32_lt _ _) (n1_32_lt _ _), BitVec.shiftLeft_xor_distrib]
  exact xor4b _ _ _ _
theorem st32_xor (r s : BitVec 32) (c d : UInt8) : st32 (r ^^^ s) (c ^^^ d) = st32 r c ^^^ st32 s d := by
  rw [st32, m32_xor, n2_32_xor, te32_xor (n2_32_lt _ _) (n2_32_lt _ _), BitVec.shiftLeft_xor_distrib]
  exact xor4b _ _ _ _
theorem n1_8_xor (r s : BitVec 8) (c d : UInt8) : n1_8 (r ^^^ s) (c ^^^ d) = n1_8 r c ^^^ n1_8 s d := by
  rw [n1_8, hi_xor, BitVec.ushiftRight_xor_distrib, BitVec.toNat_xor]
  exact xor4 _ _ _ _
theorem n2_8_xor (r s : BitVec 8) (c d : UInt8) : n2_8 (r ^^^ s) (c ^^^ d) = n2_8 r c ^^^ n2_8 s d := by
  rw [n2_8, lo_xor, BitVec.ushiftRight_xor_distrib, BitVec.toNat_xor]
  exact xor4 _ _ _ _
theorem m8_xor (r s : BitVec 8) (c d : UInt8) : m8 (r ^^^ s) (c ^^^ d) = m8 r c ^^^ m8 s d := by
  rw [m8, n1_8_xor, te8_xor (n1_8_lt _ _) (n1_8_lt _ _), BitVec.shiftLeft_xor_distrib]
  exact xor4b _ _ _ _
theorem st8_xor (r s : BitVec 8) (c d : UInt8) : st8 (r ^^^ s) (c ^^^ d) = st8 r c ^^^ st8 s d := by
  rw [st8, m8_xor, n2_8_xor, te8_xor (n2_8_lt _ _) (n2_8_lt _ _), BitVec.shiftLeft_xor_distrib]
  exact xor4b _ _ _ _
end Go.Proofs.Ytmdomipnjlhmeab
