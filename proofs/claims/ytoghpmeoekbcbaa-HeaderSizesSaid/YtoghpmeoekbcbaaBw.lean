/- Bytes and words as data; what operations on words are. No function of the program is named here. -/
import Derived.Test.YtoghpmeoekbcbaaV36
namespace Go.Proofs.Ytoghpmeoekbcbaa
open Go.RowKit

noncomputable section
def i8 (c : UInt8) : DV := .int .u8 (c.toNat : Int)
def w8 (r : BitVec 8) : DV := .int .u8 (r.toNat : Int)
def w32 (r : BitVec 32) : DV := .int .u32 (r.toNat : Int)
def w64 (r : BitVec 64) : DV := .int .u64 (r.toNat : Int)
def iN (n : Nat) : DV := .int .i64 (n : Int)
/-- the elements of a list of bytes -/
def by1 (bs : List UInt8) : List (List DV) := bs.map fun c => [i8 c]
def byL (bs : List UInt8) : DV := .list 1 (by1 bs)
theorem by1_length (bs : List UInt8) : (by1 bs).length = bs.length := by simp [by1]
theorem by1_nth {bs : List UInt8} {k : Nat} {c : UInt8} (h : bs[k]? = some c) : nth (by1 bs) ((k : Int).toNat) = some [i8 c] := by
  rw [nth_eq, Int.toNat_natCast]
  simp [by1, h]
theorem idxOk_lt {k n : Nat} (h : k < n) : idxOk (k : Int) n = true := by
  simp only [idxOk, Int.toNat_natCast, bltT h, Bool.and_true, decide_eq_true_eq]
  omega
theorem wrapU {k : IntKind} (hk : k.signed = false) (n : Nat) : k.wrap (n : Int) = ((n % 2 ^ k.bits : Nat) : Int) := by
  cases k <;> simp_all [IntKind.wrap, IntKind.signed, IntKind.bits] <;> omega
theorem wrapI {n : Nat} (h : n < 2 ^ 63) : IntKind.i64.wrap (n : Int) = n := by
  simp only [IntKind.wrap, IntKind.bits, IntKind.signed, Bool.true_and, decide_eq_true_eq, ge_iff_le]
  split <;> omega
theorem ofIntU {k : IntKind} (n : Nat) (h : n < 2 ^ k.bits) : (BitVec.ofInt k.bits (n : Int)).toNat = n := by
  rw [BitVec.ofInt_natCast, BitVec.toNat_ofNat]
  exact Nat.mod_eq_of_lt h
theorem xorU {k : IntKind} (hk : k.signed = false) {a b : Nat} (ha : a < 2 ^ k.bits) (hb : b < 2 ^ k.bits) : bitD .xor k (a : Int) (b : Int) = ((a ^^^ b : Nat) : Int) := by
  simp only [bitD, BitVec.toNat_xor, ofIntU a ha, ofIntU b hb]
  rw [wrapU hk, Nat.mod_eq_of_lt (Nat.xor_lt_two_pow ha hb)]
theorem andU {k : IntKind} (hk : k.signed = false) {a b : Nat} (ha : a < 2 ^ k.bits) (hb : b < 2 ^ k.bits) : bitD .and k (a : Int) (b : Int) = ((a &&& b : Nat) : Int) := by
  simp only [bitD, BitVec.toNat_and, ofIntU a ha, ofIntU b hb]
  rw [wrapU hk, Nat.mod_eq_of_lt (Nat.lt_of_le_of_lt Nat.and_le_left ha)]
theorem shlU {k : IntKind} (hk : k.signed = false) (a : Nat) {n : Nat} (hn : n ≤ k.bits) : shlD k (a : Int) (n : Int) = ((a * 2 ^ n % 2 ^ k.bits : Nat) : Int) := by
  have : ((a : Int) * 2 ^ (min (n : Int).toNat k.bits)) = ((a * 2 ^ n : Nat) : Int) := by
    rw [Int.toNat_natCast, Nat.min_eq_left hn]
    simp
  unfold shlD
  rw [this, wrapU hk]
theorem shrU {k : IntKind} (a : Nat) {n : Nat} (hn : n ≤ k.bits) : shrD k (a : Int) (n : Int) = ((a / 2 ^ n : Nat) : Int) := by
  unfold shrD
  rw [Int.toNat_natCast, Nat.min_eq_left hn]
  have : ((2 : Int) ^ n) = ((2 ^ n : Nat) : Int) := by simp
  rw [this, Int.fdiv_eq_ediv_of_nonneg _ (Int.natCast_nonneg _)]
  exact (Int.natCast_ediv a (2 ^ n)).symm
theorem i8_eq (c : UInt8) : i8 c = w8 c.toBitVec := rfl
theorem plain_i8 (c : UInt8) : plain (i8 c) = true := rfl
/-- a slice of a heap that shows bytes -/
theorem frz_bytes {hp : Hp} {id off c : Nat} {o : Ob} {bs : List UInt8} (ho : hp.get id = some o) (hc : ∀ (i : Nat) (b : UInt8), bs[i]? = some b → o.cs[off + i]? = some (i8 b)) : frz1 hp (.sl id off 1 bs.length c) (byL bs) := by
  refine ⟨o, by1 bs, ho, rfl, by1_length bs, fun i cs hi => ?_⟩
  simp only [by1, List.getElem?_map, Option.map_eq_some_iff] at hi
  obtain ⟨b, hb, rfl⟩ := hi
  refine ⟨rfl, rfl, fun j d hj => ?_⟩
  cases j with
  | zero =>
    simp at hj
    subst hj
    simpa using hc i b hb
  | succ j => simp at hj
end
end Go.Proofs.Ytoghpmeoekbcbaa
