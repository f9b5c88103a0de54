/- Bit by bit and four bits at once are alike. -/
import Derived.Test.YtmdomipnjlhmeabRs
namespace Go.Proofs.Ytmdomipnjlhmeab

noncomputable section
/-- a register after one bit more, by its highest bit -/
def lst32 (r : BitVec 32) (b : Bool) : BitVec 32 := (r <<< 1) ^^^ (if (r.msb ^^ b) = true then 136331795#32 else 0#32)
theorem bst_lst32 (r : BitVec 32) {b : Nat} (hb : b < 2) : bst32 r b = lst32 r (decide (b = 1)) := by
  have hm : r.msb = decide (r.toNat / 2147483648 = 1) := by
    rw [BitVec.msb_eq_decide]
    have h := r.isLt
    by_cases e : r.toNat / 2147483648 = 1
    · rw [decide_eq_true e, decide_eq_true_eq]; omega
    · rw [decide_eq_false e, decide_eq_false_iff_not]; omega
  have hq : r.toNat / 2147483648 < 2 := by have h := r.isLt; omega
  unfold bst32 lst32
  rw [hm]
  generalize r.toNat / 2147483648 = t at hq
  have h0 : r <<< 1 ^^^ 0#32 = r <<< 1 := BitVec.xor_zero
  match t, b, hq, hb with
  | 0, 0, _, _ => simp
  | 0, 1, _, _ => simp
  | 1, 0, _, _ => simp
  | 1, 1, _, _ => simp
theorem lst_xor32 (r s : BitVec 32) (a b : Bool) : lst32 (r ^^^ s) (a ^^ b) = lst32 r a ^^^ lst32 s b := by
  unfold lst32
  rw [BitVec.shiftLeft_xor_distrib, BitVec.msb_xor]
  have h : (if ((r.msb ^^ s.msb) ^^ (a ^^ b)) = true then 136331795#32 else 0#32) = (if (r.msb ^^ a) = true then 136331795#32 else 0#32) ^^^ (if (s.msb ^^ b) = true then 136331795#32 else 0#32) := by
    cases r.msb <;> cases s.msb <;> cases a <;> cases b <;> rfl
  rw [h]
  exact xor4b _ _ _ _
def f4_32 (r : BitVec 32) (x : Nat) : BitVec 32 := lst32 (lst32 (lst32 (lst32 r (x.testBit 3)) (x.testBit 2)) (x.testBit 1)) (x.testBit 0)
theorem f4_xor32 (r s : BitVec 32) (x y : Nat) : f4_32 (r ^^^ s) (x ^^^ y) = f4_32 r x ^^^ f4_32 s y := by
  unfold f4_32
  simp only [Nat.testBit_xor, lst_xor32]
theorem f4_top32 : ((List.range 16).all fun t => (List.range 16).all fun x => f4_32 (BitVec.ofNat 32 t <<< 28) x == te32 (t ^^^ x)) = true := by kernel_rfl
theorem f4_low32 (r : BitVec 32) (h : r.toNat < 2 ^ 28) : f4_32 r 0 = r <<< 4 := by
  have one : ∀ (q : BitVec 32), q.toNat < 2 ^ 31 → lst32 q false = q <<< 1 := fun q hq => by
    have : q.msb = false := by rw [BitVec.msb_eq_decide, decide_eq_false_iff_not]; omega
    unfold lst32
    rw [this]
    simp
  have sh : ∀ (q : BitVec 32) (k : Nat), q.toNat < 2 ^ k → k < 32 → (q <<< 1).toNat < 2 ^ (k + 1) := fun q k hq hk => by
    rw [BitVec.toNat_shiftLeft, Nat.shiftLeft_eq]
    exact Nat.lt_of_le_of_lt (Nat.mod_le _ _) (by rw [Nat.pow_succ]; omega)
  have s1 := sh r 28 h (by decide)
  have s2 := sh _ _ s1 (by decide)
  have s3 := sh _ _ s2 (by decide)
  unfold f4_32
  rw [Nat.zero_testBit, Nat.zero_testBit, Nat.zero_testBit, Nat.zero_testBit, one r (Nat.lt_of_lt_of_le h (by decide)), one _ (Nat.lt_of_lt_of_le s1 (by decide)), one _ (Nat.lt_of_lt_of_le s2 (by decide)), one _ (Nat.lt_of_lt_of_le s3 (by decide)), ← BitVec.shiftLeft_add, ← BitVec.shiftLeft_add, ← BitVec.shiftLeft_add]
theorem f4_eq32 (r : BitVec 32) {x : Nat} (hx : x < 16) : f4_32 r x = r <<< 4 ^^^ te32 ((r >>> 28).toNat ^^^ x) := by
  have ht := top32_lt r
  have hl : (BitVec.ofNat 32 (r.toNat % 2 ^ 28)).toNat < 2 ^ 28 := by
    rw [BitVec.toNat_ofNat]
    exact Nat.lt_of_le_of_lt (Nat.mod_le _ _) (Nat.mod_lt _ (by decide))
  have hr : r = BitVec.ofNat 32 (r.toNat % 2 ^ 28) ^^^ BitVec.ofNat 32 (r >>> 28).toNat <<< 28 := by
    apply BitVec.eq_of_getLsbD_eq
    intro i hi
    simp only [BitVec.getLsbD_xor, BitVec.getLsbD_shiftLeft, BitVec.getLsbD_ofNat, hi, decide_true, Bool.true_and, Nat.testBit_mod_two_pow, BitVec.testBit_toNat, BitVec.getLsbD_ushiftRight]
    by_cases h : i < 28
    · simp [h]
    · have e : 28 + (i - 28) = i := by omega
      simp [h, e]
      omega
  have hs : (BitVec.ofNat 32 (r.toNat % 2 ^ 28)) <<< 4 = r <<< 4 := by
    apply BitVec.eq_of_toNat_eq
    rw [BitVec.toNat_shiftLeft, BitVec.toNat_shiftLeft, BitVec.toNat_ofNat, Nat.shiftLeft_eq, Nat.shiftLeft_eq]
    have h := r.isLt
    omega
  have := List.all_eq_true.1 (List.all_eq_true.1 f4_top32 _ (List.mem_range.2 ht)) x (List.mem_range.2 hx)
  have tb := eq_of_beq this
  have key : f4_32 (BitVec.ofNat 32 (r.toNat % 2 ^ 28) ^^^ BitVec.ofNat 32 (r >>> 28).toNat <<< 28) (0 ^^^ x) = r <<< 4 ^^^ te32 ((r >>> 28).toNat ^^^ x) := by
    rw [f4_xor32, f4_low32 _ hl, tb, hs]
  rw [← hr, Nat.zero_xor] at key
  exact key
theorem byte_ok32 (r : BitVec 32) (c : UInt8) : (bit8 c).foldl bst32 r = st32 r c := by
  have hc := UInt8.toNat_lt c
  have hst : st32 r c = f4_32 (f4_32 r (c.toNat / 16)) (c.toNat % 16) := by
    rw [f4_eq32 r (by omega), f4_eq32 _ (Nat.mod_lt _ (by decide))]
    rfl
  have tb : ∀ x i, x.testBit i = decide (x / 2 ^ i % 2 = 1) := fun x i => Nat.testBit_eq_decide_div_mod_eq
  rw [hst]
  simp only [bit8, List.foldl_cons, List.foldl_nil, f4_32, tb]
  rw [bst_lst32 _ (Nat.mod_lt _ (by decide)), bst_lst32 _ (Nat.mod_lt _ (by decide)), bst_lst32 _ (Nat.mod_lt _ (by decide)), bst_lst32 _ (Nat.mod_lt _ (by decide)), bst_lst32 _ (Nat.mod_lt _ (by decide)), bst_lst32 _ (Nat.mod_lt _ (by decide)), bst_lst32 _ (Nat.mod_lt _ (by decide)), bst_lst32 _ (Nat.mod_lt _ (by decide))]
  have e1 : c.toNat / 16 / 2 ^ 3 = c.toNat / 128 := by omega
  have e2 : c.toNat / 16 / 2 ^ 2 = c.toNat / 64 := by omega
  have e3 : c.toNat / 16 / 2 ^ 1 = c.toNat / 32 := by omega
  have e4 : c.toNat / 16 / 2 ^ 0 = c.toNat / 16 := by omega
  have e5 : c.toNat % 16 / 2 ^ 3 % 2 = c.toNat / 8 % 2 := by omega
  have e6 : c.toNat % 16 / 2 ^ 2 % 2 = c.toNat / 4 % 2 := by omega
  have e7 : c.toNat % 16 / 2 ^ 1 % 2 = c.toNat / 2 % 2 := by omega
  have e8 : c.toNat % 16 / 2 ^ 0 % 2 = c.toNat / 1 % 2 := by omega
  rw [e1, e2, e3, e4, e5, e6, e7, e8]
theorem bytes_ok32 (bs : List UInt8) (r : BitVec 32) : (bitsL bs).foldl bst32 r = bs.foldl st32 r := by
  induction bs generalizing r with
  | nil => rfl
  | cons c bs ih =>
    show (bit8 c ++ bitsL bs).foldl bst32 r = _
    rw [List.foldl_append, byte_ok32, ih]
    rfl
/-- a register after one bit more, by its highest bit -/
def lst8 (r : BitVec 8) (b : Bool) : BitVec 8 := (r <<< 1) ^^^ (if (r.msb ^^ b) = true then 97#8 else 0#8)
theorem bst_lst8 (r : BitVec 8) {b : Nat} (hb : b < 2) : bst8 r b = lst8 r (decide (b = 1)) := by
  have hm : r.msb = decide (r.toNat / 128 = 1) := by
    rw [BitVec.msb_eq_decide]
    have h := r.isLt
    by_cases e : r.toNat / 128 = 1
    · rw [decide_eq_true e, decide_eq_true_eq]; omega
    · rw [decide_eq_false e, decide_eq_false_iff_not]; omega
  have hq : r.toNat / 128 < 2 := by have h := r.isLt; omega
  unfold bst8 lst8
  rw [hm]
  generalize r.toNat / 128 = t at hq
  have h0 : r <<< 1 ^^^ 0#8 = r <<< 1 := BitVec.xor_zero
  match t, b, hq, hb with
  | 0, 0, _, _ => simp
  | 0, 1, _, _ => simp
  | 1, 0, _, _ => simp
  | 1, 1, _, _ => simp
theorem lst_xor8 (r s : BitVec 8) (a b : Bool) : lst8 (r ^^^ s) (a ^^ b) = lst8 r a ^^^ lst8 s b := by
  unfold lst8
  rw [BitVec.shiftLeft_xor_distrib, BitVec.msb_xor]
  have h : (if ((r.msb ^^ s.msb) ^^ (a ^^ b)) = true then 97#8 else 0#8) = (if (r.msb ^^ a) = true then 97#8 else 0#8) ^^^ (if (s.msb ^^ b) = true then 97#8 else 0#8) := by
    cases r.msb <;> cases s.msb <;> cases a <;> cases b <;> rfl
  rw [h]
  exact xor4b _ _ _ _
def f4_8 (r : BitVec 8) (x : Nat) : BitVec 8 := lst8 (lst8 (lst8 (lst8 r (x.testBit 3)) (x.testBit 2)) (x.testBit 1)) (x.testBit 0)
theorem f4_xor8 (r s : BitVec 8) (x y : Nat) : f4_8 (r ^^^ s) (x ^^^ y) = f4_8 r x ^^^ f4_8 s y := by
  unfold f4_8
  simp only [Nat.testBit_xor, lst_xor8]
theorem f4_top8 : ((List.range 16).all fun t => (List.range 16).all fun x => f4_8 (BitVec.ofNat 8 t <<< 4) x == te8 (t ^^^ x)) = true := by kernel_rfl
theorem f4_low8 (r : BitVec 8) (h : r.toNat < 2 ^ 4) : f4_8 r 0 = r <<< 4 := by
  have one : ∀ (q : BitVec 8), q.toNat < 2 ^ 7 → lst8 q false = q <<< 1 := fun q hq => by
    have : q.msb = false := by rw [BitVec.msb_eq_decide, decide_eq_false_iff_not]; omega
    unfold lst8
    rw [this]
    simp
  have sh : ∀ (q : BitVec 8) (k : Nat), q.toNat < 2 ^ k → k < 8 → (q <<< 1).toNat < 2 ^ (k + 1) := fun q k hq hk => by
    rw [BitVec.toNat_shiftLeft, Nat.shiftLeft_eq]
    exact Nat.lt_of_le_of_lt (Nat.mod_le _ _) (by rw [Nat.pow_succ]; omega)
  have s1 := sh r 4 h (by decide)
  have s2 := sh _ _ s1 (by decide)
  have s3 := sh _ _ s2 (by decide)
  unfold f4_8
  rw [Nat.zero_testBit, Nat.zero_testBit, Nat.zero_testBit, Nat.zero_testBit, one r (Nat.lt_of_lt_of_le h (by decide)), one _ (Nat.lt_of_lt_of_le s1 (by decide)), one _ (Nat.lt_of_lt_of_le s2 (by decide)), one _ (Nat.lt_of_lt_of_le s3 (by decide)), ← BitVec.shiftLeft_add, ← BitVec.shiftLeft_add, ← BitVec.shiftLeft_add]
theorem f4_eq8 (r : BitVec 8) {x : Nat} (hx : x < 16) : f4_8 r x = r <<< 4 ^^^ te8 ((r >>> 4).toNat ^^^ x) := by
  have ht := top8_lt r
  have hl : (BitVec.ofNat 8 (r.toNat % 2 ^ 4)).toNat < 2 ^ 4 := by
    rw [BitVec.toNat_ofNat]
    exact Nat.lt_of_le_of_lt (Nat.mod_le _ _) (Nat.mod_lt _ (by decide))
  have hr : r = BitVec.ofNat 8 (r.toNat % 2 ^ 4) ^^^ BitVec.ofNat 8 (r >>> 4).toNat <<< 4 := by
    apply BitVec.eq_of_getLsbD_eq
    intro i hi
    simp only [BitVec.getLsbD_xor, BitVec.getLsbD_shiftLeft, BitVec.getLsbD_ofNat, hi, decide_true, Bool.true_and, Nat.testBit_mod_two_pow, BitVec.testBit_toNat, BitVec.getLsbD_ushiftRight]
    by_cases h : i < 4
    · simp [h]
    · have e : 4 + (i - 4) = i := by omega
      simp [h, e]
      omega
  have hs : (BitVec.ofNat 8 (r.toNat % 2 ^ 4)) <<< 4 = r <<< 4 := by
    apply BitVec.eq_of_toNat_eq
    rw [BitVec.toNat_shiftLeft, BitVec.toNat_shiftLeft, BitVec.toNat_ofNat, Nat.shiftLeft_eq, Nat.shiftLeft_eq]
    have h := r.isLt
    omega
  have := List.all_eq_true.1 (List.all_eq_true.1 f4_top8 _ (List.mem_range.2 ht)) x (List.mem_range.2 hx)
  have tb := eq_of_beq this
  have key : f4_8 (BitVec.ofNat 8 (r.toNat % 2 ^ 4) ^^^ BitVec.ofNat 8 (r >>> 4).toNat <<< 4) (0 ^^^ x) = r <<< 4 ^^^ te8 ((r >>> 4).toNat ^^^ x) := by
    rw [f4_xor8, f4_low8 _ hl, tb, hs]
  rw [← hr, Nat.zero_xor] at key
  exact key
theorem byte_ok8 (r : BitVec 8) (c : UInt8) : (bit8 c).foldl bst8 r = st8 r c := by
  have hc := UInt8.toNat_lt c
  have hst : st8 r c = f4_8 (f4_8 r (c.toNat / 16)) (c.toNat % 16) := by
    rw [f4_eq8 r (by omega), f4_eq8 _ (Nat.mod_lt _ (by decide))]
    rfl
  have tb : ∀ x i, x.testBit i = decide (x / 2 ^ i % 2 = 1) := fun x i => Nat.testBit_eq_decide_div_mod_eq
  rw [hst]
  simp only [bit8, List.foldl_cons, List.foldl_nil, f4_8, tb]
  rw [bst_lst8 _ (Nat.mod_lt _ (by decide)), bst_lst8 _ (Nat.mod_lt _ (by decide)), bst_lst8 _ (Nat.mod_lt _ (by decide)), bst_lst8 _ (Nat.mod_lt _ (by decide)), bst_lst8 _ (Nat.mod_lt _ (by decide)), bst_lst8 _ (Nat.mod_lt _ (by decide)), bst_lst8 _ (Nat.mod_lt _ (by decide)), bst_lst8 _ (Nat.mod_lt _ (by decide))]
  have e1 : c.toNat / 16 / 2 ^ 3 = c.toNat / 128 := by omega
  have e2 : c.toNat / 16 / 2 ^ 2 = c.toNat / 64 := by omega
  have e3 : c.toNat / 16 / 2 ^ 1 = c.toNat / 32 := by omega
  have e4 : c.toNat / 16 / 2 ^ 0 = c.toNat / 16 := by omega
  have e5 : c.toNat % 16 / 2 ^ 3 % 2 = c.toNat / 8 % 2 := by omega
  have e6 : c.toNat % 16 / 2 ^ 2 % 2 = c.toNat / 4 % 2 := by omega
  have e7 : c.toNat % 16 / 2 ^ 1 % 2 = c.toNat / 2 % 2 := by omega
  have e8 : c.toNat % 16 / 2 ^ 0 % 2 = c.toNat / 1 % 2 := by omega
  rw [e1, e2, e3, e4, e5, e6, e7, e8]
theorem bytes_ok8 (bs : List UInt8) (r : BitVec 8) : (bitsL bs).foldl bst8 r = bs.foldl st8 r := by
  induction bs generalizing r with
  | nil => rfl
  | cons c bs ih =>
    show (bit8 c ++ bitsL bs).foldl bst8 r = _
    rw [List.foldl_append, byte_ok8, ih]
    rfl
end
end Go.Proofs.Ytmdomipnjlhmeab
