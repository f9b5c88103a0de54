/- Bits of bytes; registers over bits: bursts, parities. -/
import Derived.Test.YtcllanmickbkpaaNB
namespace Go.Proofs.Ytcllanmickbkpaa
open Go.RowKit

noncomputable section
theorem xor4b {w : Nat} (a b c d : BitVec w) : a ^^^ b ^^^ (c ^^^ d) = (a ^^^ c) ^^^ (b ^^^ d) := by
  rw [BitVec.xor_assoc, BitVec.xor_assoc, ← BitVec.xor_assoc b c d, ← BitVec.xor_assoc c b d, BitVec.xor_comm b c]
/-- the bits of a byte, of bytes, the highest one first -/
def bit8 (c : UInt8) : List Nat := [c.toNat / 128 % 2, c.toNat / 64 % 2, c.toNat / 32 % 2, c.toNat / 16 % 2, c.toNat / 8 % 2, c.toNat / 4 % 2, c.toNat / 2 % 2, c.toNat / 1 % 2]
def bitsL (bs : List UInt8) : List Nat := bs.flatMap bit8
theorem bitsL_length (bs : List UInt8) : (bitsL bs).length = 8 * bs.length := by
  induction bs with
  | nil => rfl
  | cons c bs ih =>
    show (bit8 c ++ bitsL bs).length = _
    rw [List.length_append, ih]
    simp [bit8]
    omega
/-- a register after one bit more -/
def bst32 (r : BitVec 32) (b : Nat) : BitVec 32 := if r.toNat / 2147483648 + b = 1 then (r <<< 1) ^^^ 136331795#32 else r <<< 1
/-- a register after one bit more, by its highest bit -/
def lst32 (r : BitVec 32) (b : Bool) : BitVec 32 := (r <<< 1) ^^^ (if (r.msb ^^ b) = true then 136331795#32 else 0#32)
theorem bst_lst32 (r : BitVec 32) {b : Nat} (hb : b < 2) : bst32 r b = lst32 r (decide (b = 1)) := by
  have hm : r.msb = decide (r.toNat / 2147483648 = 1) := by
    rw [BitVec.msb_eq_decide]
    have h := r.isLt
    by_cases e : r.toNat / 2147483648 = 1
    · rw [decide_eq_true e, decide_eq_true_eq]; omega
    · rw [decide_eq_false e, decide_eq_false_iff_not]; omega
  have hq : r.toNat / 2147483648 < 2 := by have h := r.isLt; omega
  unfold bst32 lst32
  rw [hm]
  generalize r.toNat / 2147483648 = t at hq
  have h0 : r <<< 1 ^^^ 0#32 = r <<< 1 := BitVec.xor_zero
  match t, b, hq, hb with
  | 0, 0, _, _ => simp
  | 0, 1, _, _ => simp
  | 1, 0, _, _ => simp
  | 1, 1, _, _ => simp
theorem lst_xor32 (r s : BitVec 32) (a b : Bool) : lst32 (r ^^^ s) (a ^^ b) = lst32 r a ^^^ lst32 s b := by
  unfold lst32
  rw [BitVec.shiftLeft_xor_distrib, BitVec.msb_xor]
  have h : (if ((r.msb ^^ s.msb) ^^ (a ^^ b)) = true then 136331795#32 else 0#32) = (if (r.msb ^^ a) = true then 136331795#32 else 0#32) ^^^ (if (s.msb ^^ b) = true then 136331795#32 else 0#32) := by
    cases r.msb <;> cases s.msb <;> cases a <;> cases b <;> rfl
  rw [h]
  exact xor4b _ _ _ _
def f4_32 (r : BitVec 32) (x : Nat) : BitVec 32 := lst32 (lst32 (lst32 (lst32 r (x.testBit 3)) (x.testBit 2)) (x.testBit 1)) (x.testBit 0)
theorem f4_xor32 (r s : BitVec 32) (x y : Nat) : f4_32 (r ^^^ s) (x ^^^ y) = f4_32 r x ^^^ f4_32 s y := by
  unfold f4_32
  simp only [Nat.testBit_xor, lst_xor32]
theorem f4_top32 : ((List.range 16).all fun t => (List.range 16).all fun x => f4_32 (BitVec.ofNat 32 t <<< 28) x == te32 (t ^^^ x)) = true := by kernel_rfl
theorem f4_low32 (r : BitVec 32) (h : r.toNat < 2 ^ 28) : f4_32 r 0 = r <<< 4 := by
  have one : ∀ (q : BitVec 32), q.toNat < 2 ^ 31 → lst32 q false = q <<< 1 := fun q hq => by
    have : q.msb = false := by rw [BitVec.msb_eq_decide, decide_eq_false_iff_not]; omega
    unfold lst32
    rw [this]
    simp
  have sh : ∀ (q : BitVec 32) (k : Nat), q.toNat < 2 ^ k → k < 32 → (q <<< 1).toNat < 2 ^ (k + 1) := fun q k hq hk => by
    rw [BitVec.toNat_shiftLeft, Nat.shiftLeft_eq]
    exact Nat.lt_of_le_of_lt (Nat.mod_le _ _) (by rw [Nat.pow_succ]; omega)
  have s1 := sh r 28 h (by decide)
  have s2 := sh _ _ s1 (by decide)
  have s3 := sh _ _ s2 (by decide)
  unfold f4_32
  rw [Nat.zero_testBit, Nat.zero_testBit, Nat.zero_testBit, Nat.zero_testBit, one r (Nat.lt_of_lt_of_le h (by decide)), one _ (Nat.lt_of_lt_of_le s1 (by decide)), one _ (Nat.lt_of_lt_of_le s2 (by decide)), one _ (Nat.lt_of_lt_of_le s3 (by decide)), ← BitVec.shiftLeft_add, ← BitVec.shiftLeft_add, ← BitVec.shiftLeft_add]
theorem f4_eq32 (r : BitVec 32) {x : Nat} (hx : x < 16) : f4_32 r x = r <<< 4 ^^^ te32 ((r >>> 28).toNat ^^^ x) := by
  have ht := top32_lt r
  have hl : (BitVec.ofNat 32 (r.toNat % 2 ^ 28)).toNat < 2 ^ 28 := by
    rw [BitVec.toNat_ofNat]
    exact Nat.lt_of_le_of_lt (Nat.mod_le _ _) (Nat.mod_lt _ (by decide))
  have hr : r = BitVec.ofNat 32 (r.toNat % 2 ^ 28) ^^^ BitVec.ofNat 32 (r >>> 28).toNat <<< 28 := by
    apply BitVec.eq_of_getLsbD_eq
    intro i hi
    simp only [BitVec.getLsbD_xor, BitVec.getLsbD_shiftLeft, BitVec.getLsbD_ofNat, hi, decide_true, Bool.true_and, Nat.testBit_mod_two_pow, BitVec.testBit_toNat, BitVec.getLsbD_ushiftRight]
    by_cases h : i < 28
    · simp [h]
    · have e : 28 + (i - 28) = i := by omega
      simp [h, e]
      omega
  have hs : (BitVec.ofNat 32 (r.toNat % 2 ^ 28)) <<< 4 = r <<< 4 := by
    apply BitVec.eq_of_toNat_eq
    rw [BitVec.toNat_shiftLeft, BitVec.toNat_shiftLeft, BitVec.toNat_ofNat, Nat.shiftLeft_eq, Nat.shiftLeft_eq]
    have h := r.isLt
    omega
  have := List.all_eq_true.1 (List.all_eq_true.1 f4_top32 _ (List.mem_range.2 ht)) x (List.mem_range.2 hx)
  have tb := eq_of_beq this
  have key : f4_32 (BitVec.ofNat 32 (r.toNat % 2 ^ 28) ^^^ BitVec.ofNat 32 (r >>> 28).toNat <<< 28) (0 ^^^ x) = r <<< 4 ^^^ te32 ((r >>> 28).toNat ^^^ x) := by
    rw [f4_xor32, f4_low32 _ hl, tb, hs]
  rw [← hr, Nat.zero_xor] at key
  exact key
theorem byte_ok32 (r : BitVec 32) (c : UInt8) : (bit8 c).foldl bst32 r = st32 r c := by
  have hc := UInt8.toNat_lt c
  have hst : st32 r c = f4_32 (f4_32 r (c.toNat / 16)) (c.toNat % 16) := by
    rw [f4_eq32 r (by omega), f4_eq32 _ (Nat.mod_lt _ (by decide))]
    rfl
  have tb : ∀ x i, x.testBit i = decide (x / 2 ^ i % 2 = 1) := fun x i => Nat.testBit_eq_decide_div_mod_eq
  rw [hst]
  simp only [bit8, List.foldl_cons, List.foldl_nil, f4_32, tb]
  rw [bst_lst32 _ (Nat.mod_lt _ (by decide)), bst_lst32 _ (Nat.mod_lt _ (by decide)), bst_lst32 _ (Nat.mod_lt _ (by decide)), bst_lst32 _ (Nat.mod_lt _ (by decide)), bst_lst32 _ (Nat.mod_lt _ (by decide)), bst_lst32 _ (Nat.mod_lt _ (by decide)), bst_lst32 _ (Nat.mod_lt _ (by decide)), bst_lst32 _ (Nat.mod_lt _ (by decide))]
  have e1 : c.toNat / 16 / 2 ^ 3 = c.toNat / 128 := by omega
  have e2 : c.toNat / 16 / 2 ^ 2 = c.toNat / 64 := by omega
  have e3 : c.toNat / 16 / 2 ^ 1 = c.toNat / 32 := by omega
  have e4 : c.toNat / 16 / 2 ^ 0 = c.toNat / 16 := by omega
  have e5 : c.toNat % 16 / 2 ^ 3 % 2 = c.toNat / 8 % 2 := by omega
  have e6 : c.toNat % 16 / 2 ^ 2 % 2 = c.toNat / 4 % 2 := by omega
  have e7 : c.toNat % 16 / 2 ^ 1 % 2 = c.toNat / 2 % 2 := by omega
  have e8 : c.toNat % 16 / 2 ^ 0 % 2 = c.toNat / 1 % 2 := by omega
  rw [e1, e2, e3, e4, e5, e6, e7, e8]
theorem bytes_ok32 (bs : List UInt8) (r : BitVec 32) : (bitsL bs).foldl bst32 r = bs.foldl st32 r := by
  induction bs generalizing r with
  | nil => rfl
  | cons c bs ih =>
    show (bit8 c ++ bitsL bs).foldl bst32 r = _
    rw [List.foldl_append, byte_ok32, ih]
    rfl
theorem bitsL_lt (bs : List UInt8) : ∀ v ∈ bitsL bs, v < 2 := fun v hv => by
  simp only [bitsL, List.mem_flatMap] at hv
  obtain ⟨c, _, h⟩ := hv
  simp only [bit8, List.mem_cons, List.not_mem_nil, or_false] at h
  omega
/-- the bit k of a byte, from the highest one on; a string with a bit changed -/
def bm (k : Nat) : UInt8 := ⟨128#8 >>> k⟩
def flip (b : List UInt8) (i : Nat) : List UInt8 := b.set (i / 8) (b.getD (i / 8) 0 ^^^ bm (i % 8))
theorem flip_length (b : List UInt8) (i : Nat) : (flip b i).length = b.length := by simp [flip]
/-- the bits of bytes -/
def bitsB (bs : List UInt8) : List Bool := (bitsL bs).map fun v => decide (v = 1)
theorem bitsB_length (bs : List UInt8) : (bitsB bs).length = 8 * bs.length := by rw [bitsB, List.length_map, bitsL_length]
theorem bitsB_cons (c : UInt8) (bs : List UInt8) : bitsB (c :: bs) = bitsB [c] ++ bitsB bs := by simp [bitsB, bitsL]
theorem bitsB_append (a b : List UInt8) : bitsB (a ++ b) = bitsB a ++ bitsB b := by simp [bitsB, bitsL]
/-- one bit changed -/
def tog (l : List Bool) (i : Nat) : List Bool := l.set i (!(l.getD i false))
theorem tog_left {a b : List Bool} {i : Nat} (h : i < a.length) : tog (a ++ b) i = tog a i ++ b := by
  simp only [tog, List.getD_eq_getElem?_getD, List.getElem?_append_left h]
  rw [List.set_append_left _ _ h]
theorem tog_right {a b : List Bool} {i : Nat} (h : a.length ≤ i) : tog (a ++ b) i = a ++ tog b (i - a.length) := by
  simp only [tog, List.getD_eq_getElem?_getD, List.getElem?_append_right h]
  rw [List.set_append_right _ _ h]
theorem flip_byte0 : ((List.range 256).all fun n => (List.range 8).all fun k => bitsB [UInt8.ofNat n ^^^ bm k] == tog (bitsB [UInt8.ofNat n]) k) = true := by kernel_rfl
theorem flip_byte (c : UInt8) {k : Nat} (hk : k < 8) : bitsB [c ^^^ bm k] = tog (bitsB [c]) k := by
  have := List.all_eq_true.1 (List.all_eq_true.1 flip_byte0 c.toNat (List.mem_range.2 (UInt8.toNat_lt c))) k (List.mem_range.2 hk)
  rw [UInt8.ofNat_toNat] at this
  exact eq_of_beq this
theorem flip_bits : ∀ (bs : List UInt8) (i : Nat), i < 8 * bs.length → bitsB (flip bs i) = tog (bitsB bs) i
  | [], i, h => by simp at h
  | c :: bs, i, h => by
    have h8 : (bitsB [c]).length = 8 := by rw [bitsB_length]; rfl
    rw [bitsB_cons c bs]
    by_cases hi : i < 8
    · have e : flip (c :: bs) i = (c ^^^ bm i) :: bs := by
        have h1 : i / 8 = 0 := by omega
        have h2 : i % 8 = i := by omega
        rw [flip, h1, h2]
        rfl
      rw [e, bitsB_cons, flip_byte c hi, tog_left (by omega)]
    · have e : flip (c :: bs) i = c :: flip bs (i - 8) := by
        have h1 : i / 8 = (i - 8) / 8 + 1 := by omega
        have h2 : i % 8 = (i - 8) % 8 := by omega
        rw [flip, flip, h1, h2]
        rfl
      rw [e, bitsB_cons, flip_bits bs (i - 8) (by simp at h; omega), tog_right (by omega), h8]
/-- bit by bit -/
def xr (u v : List Bool) : List Bool := List.zipWith (· ^^ ·) u v
theorem xr_tog {u v : List Bool} (h : u.length = v.length) {i : Nat} (hi : i < u.length) : tog (xr u v) i = xr u (tog v i) := by
  have hu : u[i]? = some u[i] := List.getElem?_eq_getElem hi
  have hv : v[i]? = some v[i] := List.getElem?_eq_getElem (by omega)
  refine List.ext_getElem? fun j => ?_
  simp only [tog, xr, List.getElem?_set, List.getElem?_zipWith, List.getD_eq_getElem?_getD, List.length_zipWith]
  by_cases e : i = j
  · subst e
    have h1 : i < min u.length v.length := by omega
    have h2 : i < v.length := by omega
    simp [hu, h1, h2]
  · simp [e]
theorem xr_rep (u : List Bool) : xr u (List.replicate u.length false) = u := by
  induction u with
  | nil => rfl
  | cons a u ih =>
    show (a ^^ false) :: xr u (List.replicate u.length false) = _
    rw [ih, Bool.xor_false]
/-- the parity of bits -/
def par (l : List Bool) : Bool := l.foldr (· ^^ ·) false
theorem par_cons (b : Bool) (l : List Bool) : par (b :: l) = (b ^^ par l) := rfl
theorem par_tog : ∀ (l : List Bool) (i : Nat), i < l.length → par (tog l i) = !par l
  | [], i, h => by simp at h
  | b :: l, 0, _ => by
    show (!b ^^ par l) = !(b ^^ par l)
    cases b <;> cases par l <;> rfl
  | b :: l, i + 1, h => by
    have : tog (b :: l) (i + 1) = b :: tog l i := by simp [tog]
    rw [this, par_cons, par_cons, par_tog l i (by simpa using h)]
    cases b <;> cases par l <;> rfl
/-- the register of 32 bits over bits -/
def rg32 (r : BitVec 32) (l : List Bool) : BitVec 32 := l.foldl lst32 r
theorem rg_bits32 (bs : List UInt8) (r : BitVec 32) : bs.foldl st32 r = rg32 r (bitsB bs) := by
  rw [← bytes_ok32, rg32, bitsB, List.foldl_map]
  have hb := bitsL_lt bs
  generalize bitsL bs = l at hb
  induction l generalizing r with
  | nil => rfl
  | cons v l ih =>
    simp only [List.foldl_cons]
    rw [bst_lst32 r (hb v (by simp)), ih _ fun u hu => hb u (by simp [hu])]
theorem rg_append32 (r : BitVec 32) (u v : List Bool) : rg32 r (u ++ v) = rg32 (rg32 r u) v := List.foldl_append
theorem rg_xr32 : ∀ (u v : List Bool), u.length = v.length → ∀ r s : BitVec 32, rg32 (r ^^^ s) (xr u v) = rg32 r u ^^^ rg32 s v
  | [], [], _, _, _ => rfl
  | a :: u, b :: v, h, r, s => by
    show rg32 (lst32 (r ^^^ s) (a ^^ b)) (xr u v) = rg32 (lst32 r a) u ^^^ rg32 (lst32 s b) v
    rw [lst_xor32]
    exact rg_xr32 u v (by simpa using h) _ _
  | [], _ :: _, h, _, _ => by simp at h
  | _ :: _, [], h, _, _ => by simp at h
theorem lst_zero32 (b : Bool) : lst32 0#32 b = if b = true then 136331795#32 else 0#32 := by cases b <;> rfl
theorem lst_split32 (r : BitVec 32) (b : Bool) : lst32 r b = lst32 r false ^^^ (if b = true then 136331795#32 else 0#32) := by
  have := lst_xor32 r 0#32 false b
  rw [BitVec.xor_zero, Bool.false_xor, lst_zero32] at this
  exact this
theorem lst_inj32 {r : BitVec 32} (h : lst32 r false = 0#32) : r = 0#32 := by
  unfold lst32 at h
  rw [Bool.xor_false] at h
  have hm := BitVec.msb_eq_decide r
  cases hb : r.msb with
  | true =>
    rw [hb] at h
    have := congrArg (fun q => q.getLsbD 0) h
    simp at this
  | false =>
    rw [hb] at h hm
    have hm := of_decide_eq_false hm.symm
    have h2 := congrArg BitVec.toNat h
    simp only [Bool.false_eq_true, if_false, BitVec.xor_zero, BitVec.toNat_shiftLeft, Nat.shiftLeft_eq] at h2
    apply BitVec.eq_of_toNat_eq
    have hr := r.isLt
    have h3 : r.toNat * 2 ^ 1 % 2 ^ 32 = 0 := h2
    show r.toNat = 0
    omega
theorem rg_rep32 {r : BitVec 32} (n : Nat) (h : rg32 r (List.replicate n false) = 0#32) : r = 0#32 := by
  induction n generalizing r with
  | zero => exact h
  | succ n ih => exact lst_inj32 (ih h)
theorem rg_rep032 (n : Nat) : rg32 0#32 (List.replicate n false) = 0#32 := by
  induction n with
  | zero => rfl
  | succ n ih => exact ih
/-- bits as a register, the first one highest -/
def pk32 : List Bool → BitVec 32
  | [] => 0#32
  | b :: l => (if b = true then 2147483648#32 else 0#32) ^^^ (pk32 l >>> 1)
theorem pk_low32 : ∀ (l : List Bool) (i : Nat), i + l.length < 32 → (pk32 l).getLsbD i = false
  | [], i, _ => by simp [pk32]
  | b :: l, i, h => by
    have ih := pk_low32 l (1 + i) (by simp at h; omega)
    have hi : i < 31 := by simp at h; omega
    have ht : (if b = true then 2147483648#32 else 0#32).getLsbD i = false := by
      cases b with
      | false => simp
      | true =>
        show (2147483648#32).getLsbD i = false
        have : (2147483648#32) = BitVec.twoPow 32 31 := by decide
        rw [this, BitVec.getLsbD_twoPow]
        simp
        omega
    simp only [pk32, BitVec.getLsbD_xor, BitVec.getLsbD_ushiftRight, ih, ht, Bool.xor_false]
theorem shr_shl32 {q : BitVec 32} (h : q.getLsbD 0 = false) : lst32 (q >>> 1) false = q := by
  have hq := q.isLt
  have h0 : q.toNat % 2 = 0 := by
    have : q.toNat.testBit 0 = false := h
    rw [Nat.testBit_zero] at this
    simpa using this
  have hm : (q >>> 1).msb = false := by
    rw [BitVec.msb_eq_decide, decide_eq_false_iff_not, BitVec.toNat_ushiftRight, Nat.shiftRight_eq_div_pow]
    omega
  unfold lst32
  rw [hm]
  simp only [Bool.false_xor, Bool.false_eq_true, if_false, BitVec.xor_zero]
  apply BitVec.eq_of_toNat_eq
  rw [BitVec.toNat_shiftLeft, BitVec.toNat_ushiftRight, Nat.shiftLeft_eq, Nat.shiftRight_eq_div_pow]
  omega
theorem rg_pk32 : ∀ (l : List Bool), l.length ≤ 32 → ∀ r : BitVec 32, rg32 r l = rg32 (r ^^^ pk32 l) (List.replicate l.length false)
  | [], _, r => by simp [rg32, pk32]
  | b :: l, h, r => by
    have hl : l.length < 32 := by
      simp at h
      omega
    show rg32 (lst32 r b) l = rg32 (lst32 (r ^^^ pk32 (b :: l)) false) (List.replicate l.length false)
    rw [rg_pk32 l (Nat.le_of_lt hl)]
    congr 1
    have e1 : lst32 (r ^^^ pk32 (b :: l)) false = lst32 r false ^^^ lst32 (pk32 (b :: l)) false := lst_xor32 r _ false false
    have e2 : lst32 (pk32 (b :: l)) false = lst32 (if b = true then 2147483648#32 else 0#32) false ^^^ lst32 (pk32 l >>> 1) false := lst_xor32 _ _ false false
    have e3 : lst32 (if b = true then 2147483648#32 else 0#32) false = (if b = true then 136331795#32 else 0#32) := by cases b <;> rfl
    rw [e1, e2, e3, shr_shl32 (pk_low32 l 0 (by omega)), ← BitVec.xor_assoc, ← lst_split32]
theorem pk_zero32 : ∀ (l : List Bool), l.length ≤ 32 → pk32 l = 0#32 → ∀ b ∈ l, b = false
  | [], _, _ => fun b hb => by cases hb
  | b :: l, h, hz => by
    have hl : l.length < 32 := by
      simp at h
      omega
    have hb : b = false := by
      have := congrArg (fun q => q.getLsbD 31) hz
      simp only [pk32, BitVec.getLsbD_xor, BitVec.getLsbD_ushiftRight] at this
      rw [BitVec.getLsbD_of_ge (pk32 l) _ (by omega)] at this
      cases b with
      | false => rfl
      | true => simp at this
    subst hb
    have h2 : pk32 l >>> 1 = 0#32 := by
      have : pk32 (false :: l) = pk32 l >>> 1 := by simp [pk32]
      rw [← this]
      exact hz
    have h3 : pk32 l = 0#32 := by
      rw [← shr_shl32 (pk_low32 l 0 (by omega)), h2]
      rfl
    intro c hc
    rcases List.mem_cons.1 hc with rfl | hc
    · rfl
    · exact pk_zero32 l (Nat.le_of_lt hl) h3 c hc
/-- a burst leaves a register that is not zero -/
theorem rg_burst32 (a z : Nat) (l : List Bool) (hl : l.length ≤ 32) (ht : true ∈ l) : rg32 0#32 (List.replicate a false ++ (l ++ List.replicate z false)) ≠ 0#32 := by
  intro h
  rw [rg_append32, rg_rep032, rg_append32] at h
  have h1 := rg_rep32 z h
  rw [rg_pk32 l hl, BitVec.zero_xor] at h1
  exact absurd (pk_zero32 l hl (rg_rep32 _ h1) true ht) (by simp)
/-! the parity of a register -/
def rp32 (r : BitVec 32) : Bool := (List.range 32).foldl (fun a i => a ^^ r.getLsbD i) false
theorem rp_aux32 (r s : BitVec 32) (l : List Nat) (a b : Bool) : l.foldl (fun a i => a ^^ (r ^^^ s).getLsbD i) (a ^^ b) = (l.foldl (fun a i => a ^^ r.getLsbD i) a ^^ l.foldl (fun a i => a ^^ s.getLsbD i) b) := by
  induction l generalizing a b with
  | nil => rfl
  | cons x l ih =>
    simp only [List.foldl_cons]
    rw [← ih, BitVec.getLsbD_xor]
    congr 1
    cases a <;> cases b <;> cases r.getLsbD x <;> cases s.getLsbD x <;> rfl
theorem rp_xor32 (r s : BitVec 32) : rp32 (r ^^^ s) = (rp32 r ^^ rp32 s) := rp_aux32 r s _ false false
theorem rp_shl32 (r : BitVec 32) : rp32 (r <<< 1) = (rp32 r ^^ r.msb) := by
  have e : rp32 r = (rp32 (r <<< 1) ^^ r.getLsbD 31) := by
    have hr : List.range 32 = [0, 1, 2, 3, 4, 5, 6, 7, 8, 9, 10, 11, 12, 13, 14, 15, 16, 17, 18, 19, 20, 21, 22, 23, 24, 25, 26, 27, 28, 29, 30, 31] := by rfl
    simp [rp32, hr]
  have hm : r.msb = r.getLsbD 31 := by rw [BitVec.msb_eq_getLsbD_last]
  rw [hm, e, Bool.xor_assoc, Bool.xor_self, Bool.xor_false]
theorem rp_lst32 (r : BitVec 32) (b : Bool) : rp32 (lst32 r b) = (rp32 r ^^ b) := by
  have h1 : rp32 (136331795#32) = true := by kernel_rfl
  have h0 : rp32 (0#32) = false := by kernel_rfl
  unfold lst32
  rw [rp_xor32, rp_shl32]
  cases r.msb <;> cases b <;> simp [h1, h0]
theorem rp_rg32 (l : List Bool) (r : BitVec 32) : rp32 (rg32 r l) = (rp32 r ^^ par l) := by
  induction l generalizing r with
  | nil => simp [rg32, par]
  | cons b l ih =>
    show rp32 (rg32 (lst32 r b) l) = _
    rw [ih, rp_lst32, par_cons, Bool.xor_assoc]
theorem bits_byte (c : UInt8) : bitsB [c] = [c.toBitVec.getLsbD 7, c.toBitVec.getLsbD 6, c.toBitVec.getLsbD 5, c.toBitVec.getLsbD 4, c.toBitVec.getLsbD 3, c.toBitVec.getLsbD 2, c.toBitVec.getLsbD 1, c.toBitVec.getLsbD 0] := by
  have tb : ∀ i, c.toBitVec.getLsbD i = decide (c.toNat / 2 ^ i % 2 = 1) := fun i => Nat.testBit_eq_decide_div_mod_eq
  simp only [tb]
  rfl
theorem bitsB_cons4 (a b c d : UInt8) : bitsB [a, b, c, d] = bitsB [a] ++ (bitsB [b] ++ (bitsB [c] ++ bitsB [d])) := by
  rw [bitsB_cons a, bitsB_cons b, bitsB_cons c]
theorem byte_inj {c d : UInt8} (h : bitsB [c] = bitsB [d]) : c = d := by
  rw [bits_byte, bits_byte] at h
  simp only [List.cons.injEq, and_true] at h
  obtain ⟨h7, h6, h5, h4, h3, h2, h1, h0⟩ := h
  have : c.toBitVec = d.toBitVec := by
    apply BitVec.eq_of_getLsbD_eq
    intro i hi
    match i, hi with
    | 0, _ => exact h0
    | 1, _ => exact h1
    | 2, _ => exact h2
    | 3, _ => exact h3
    | 4, _ => exact h4
    | 5, _ => exact h5
    | 6, _ => exact h6
    | 7, _ => exact h7
  exact UInt8.toBitVec_inj.1 this
theorem bitsB_inj : ∀ {a b : List UInt8}, a.length = b.length → bitsB a = bitsB b → a = b
  | [], [], _, _ => rfl
  | x :: a, y :: b, hl, h => by
    rw [bitsB_cons x, bitsB_cons y] at h
    have h8 : (bitsB [x]).length = (bitsB [y]).length := by rw [bitsB_length, bitsB_length]; rfl
    obtain ⟨h1, h2⟩ := List.append_inj h h8
    rw [byte_inj h1, bitsB_inj (by simpa using hl) h2]
  | [], _ :: _, h, _ => by simp at h
  | _ :: _, [], h, _ => by simp at h
theorem pk_get32 : ∀ (l : List Bool), l.length ≤ 32 → ∀ i, i < 32 → (pk32 l).getLsbD i = l.getD (31 - i) false
  | [], _, i, _ => by simp [pk32]
  | b :: l, h, i, hi => by
    have hl : l.length ≤ 32 := by simp at h; omega
    have ht : (if b = true then 2147483648#32 else 0#32).getLsbD i = (b && decide (i = 31)) := by
      cases b with
      | false => simp
      | true =>
        show (2147483648#32).getLsbD i = _
        have : (2147483648#32) = BitVec.twoPow 32 31 := by decide
        rw [this, BitVec.getLsbD_twoPow]
        by_cases e : i = 31
        · subst e
          simp
        · simp [e]
          omega
    simp only [pk32, BitVec.getLsbD_xor, BitVec.getLsbD_ushiftRight, ht]
    by_cases e : i = 31
    · subst e
      rw [BitVec.getLsbD_of_ge (pk32 l) _ (by omega)]
      simp
    · rw [pk_get32 l hl (1 + i) (by omega), show 31 - i = (31 - (1 + i)) + 1 by omega, List.getD_cons_succ]
      simp [e]
theorem tail_bits32 (r : BitVec 32) : bitsB (be4 r) = [r.getLsbD 31, r.getLsbD 30, r.getLsbD 29, r.getLsbD 28, r.getLsbD 27, r.getLsbD 26, r.getLsbD 25, r.getLsbD 24, r.getLsbD 23, r.getLsbD 22, r.getLsbD 21, r.getLsbD 20, r.getLsbD 19, r.getLsbD 18, r.getLsbD 17, r.getLsbD 16, r.getLsbD 15, r.getLsbD 14, r.getLsbD 13, r.getLsbD 12, r.getLsbD 11, r.getLsbD 10, r.getLsbD 9, r.getLsbD 8, r.getLsbD 7, r.getLsbD 6, r.getLsbD 5, r.getLsbD 4, r.getLsbD 3, r.getLsbD 2, r.getLsbD 1, r.getLsbD 0] := by
  simp only [be4, bitsB_cons4, bits_byte, BitVec.getLsbD_setWidth, BitVec.getLsbD_ushiftRight]
  rfl
theorem tail_get32 (r : BitVec 32) (i : Nat) (hi : i < 32) : ([r.getLsbD 31, r.getLsbD 30, r.getLsbD 29, r.getLsbD 28, r.getLsbD 27, r.getLsbD 26, r.getLsbD 25, r.getLsbD 24, r.getLsbD 23, r.getLsbD 22, r.getLsbD 21, r.getLsbD 20, r.getLsbD 19, r.getLsbD 18, r.getLsbD 17, r.getLsbD 16, r.getLsbD 15, r.getLsbD 14, r.getLsbD 13, r.getLsbD 12, r.getLsbD 11, r.getLsbD 10, r.getLsbD 9, r.getLsbD 8, r.getLsbD 7, r.getLsbD 6, r.getLsbD 5, r.getLsbD 4, r.getLsbD 3, r.getLsbD 2, r.getLsbD 1, r.getLsbD 0] : List Bool).getD (31 - i) false = r.getLsbD i := match i, hi with
  | 0, _ => rfl
  | 1, _ => rfl
  | 2, _ => rfl
  | 3, _ => rfl
  | 4, _ => rfl
  | 5, _ => rfl
  | 6, _ => rfl
  | 7, _ => rfl
  | 8, _ => rfl
  | 9, _ => rfl
  | 10, _ => rfl
  | 11, _ => rfl
  | 12, _ => rfl
  | 13, _ => rfl
  | 14, _ => rfl
  | 15, _ => rfl
  | 16, _ => rfl
  | 17, _ => rfl
  | 18, _ => rfl
  | 19, _ => rfl
  | 20, _ => rfl
  | 21, _ => rfl
  | 22, _ => rfl
  | 23, _ => rfl
  | 24, _ => rfl
  | 25, _ => rfl
  | 26, _ => rfl
  | 27, _ => rfl
  | 28, _ => rfl
  | 29, _ => rfl
  | 30, _ => rfl
  | 31, _ => rfl
  | n + 32, h => absurd h (by omega)
theorem pk_tail32 (r : BitVec 32) : pk32 (bitsB (be4 r)) = r := by
  apply BitVec.eq_of_getLsbD_eq
  intro i hi
  rw [pk_get32 _ (by rw [tail_bits32]; exact Nat.le_refl _) i hi, tail_bits32, tail_get32 r i hi]
theorem pk_inj32 {u v : List Bool} (hu : u.length = 32) (hv : v.length = 32) (h : pk32 u = pk32 v) : u = v := by
  refine List.ext_getElem (by omega) fun i h1 h2 => ?_
  have : (pk32 u).getLsbD (31 - i) = (pk32 v).getLsbD (31 - i) := by rw [h]
  rw [pk_get32 u (by omega) _ (by omega), pk_get32 v (by omega) _ (by omega), show 31 - (31 - i) = i by omega] at this
  simpa [List.getD_eq_getElem?_getD, h1, h2] using this
theorem rep_inj32 {a b : BitVec 32} (n : Nat) (h : rg32 a (List.replicate n false) = rg32 b (List.replicate n false)) : a = b := by
  have h1 := rg_xr32 (List.replicate n false) (List.replicate n false) rfl a b
  rw [h, BitVec.xor_self] at h1
  have h2 : xr (List.replicate n false) (List.replicate n false) = List.replicate n false := by
    have := xr_rep (List.replicate n false)
    rwa [List.length_replicate] at this
  rw [h2] at h1
  have h3 := rg_rep32 n h1
  have h4 := congrArg (· ^^^ b) h3
  simp only [BitVec.zero_xor] at h4
  rw [BitVec.xor_assoc, BitVec.xor_self, BitVec.xor_zero] at h4
  exact h4
def K32 : BitVec 32 := rg32 (4294967295#32) (List.replicate 32 false)
theorem valid32 {x : List UInt8} (hx : 4 ≤ x.length) : withL (x.take (x.length - 4)) = x ↔ rg32 (4294967295#32) (bitsB x) = K32 := by
  obtain ⟨u, hu⟩ : ∃ u, u = x.take (x.length - 4) := ⟨_, rfl⟩
  obtain ⟨v, hv⟩ : ∃ v, v = x.drop (x.length - 4) := ⟨_, rfl⟩
  have huv : x = u ++ v := by rw [hu, hv, List.take_append_drop]
  have hvl : (bitsB v).length = 32 := by rw [bitsB_length, hv, List.length_drop]; omega
  have hc : crc32 u = ~~~ (rg32 (4294967295#32) (bitsB u)) := by rw [← rg_bits32]; rfl
  rw [← hu]
  have hR : rg32 (4294967295#32) (bitsB x) = rg32 (rg32 (4294967295#32) (bitsB u) ^^^ pk32 (bitsB v)) (List.replicate 32 false) := by
    rw [huv, bitsB_append, rg_append32, rg_pk32 (bitsB v) (by omega), hvl]
  rw [hR, K32]
  constructor
  · intro h
    have hv2 : v = be4 (crc32 u) := by
      rw [huv] at h
      exact (List.append_cancel_left h).symm
    rw [hv2, pk_tail32, hc]
    congr 1
    generalize rg32 (4294967295#32) (bitsB u) = q
    apply BitVec.eq_of_getLsbD_eq
    intro i hi
    have ho : (4294967295#32).getLsbD i = true := by
      have : (4294967295#32) = BitVec.allOnes 32 := by decide
      rw [this, BitVec.getLsbD_allOnes]
      exact decide_eq_true hi
    simp only [BitVec.getLsbD_xor, BitVec.getLsbD_not, hi, ho, decide_true, Bool.true_and]
    cases q.getLsbD i <;> rfl
  · intro h
    have h1 := rep_inj32 32 h
    have h2 : pk32 (bitsB v) = crc32 u := by
      rw [hc]
      generalize rg32 (4294967295#32) (bitsB u) = q at h1 ⊢
      rw [BitVec.not_def, ← show (4294967295#32) = BitVec.allOnes 32 by decide, ← h1, BitVec.xor_comm q, BitVec.xor_assoc, BitVec.xor_self, BitVec.xor_zero]
    have h3 : bitsB v = bitsB (be4 (crc32 u)) := pk_inj32 hvl (by rw [tail_bits32]; rfl) (by rw [h2, pk_tail32])
    rw [withL, ← bitsB_inj (by rw [hv, List.length_drop]; show _ = 4; omega) h3, ← huv]
theorem with_len32 (b : List UInt8) : (withL b).length = b.length + 4 := by rw [withL, List.length_append]; rfl
theorem with_valid32 (b : List UInt8) : rg32 (4294967295#32) (bitsB (withL b)) = K32 := by
  have hl := with_len32 b
  refine (valid32 (by omega)).1 ?_
  have : (withL b).take ((withL b).length - 4) = b := by
    rw [hl, Nat.add_sub_cancel]
    exact List.take_left' rfl
  rw [this]
theorem found32 {x : List UInt8} (hx : 4 ≤ x.length) (h : rg32 (4294967295#32) (bitsB x) ≠ K32) : verL x = (.tuple [.nil, .int .i64 31], ⟨0, [], []⟩) := by
  rw [verL, if_neg (by omega), if_neg fun e => h ((valid32 hx).1 e)]
/-- an odd number of changed bits is found -/
theorem found_odd32 {b x : List UInt8} (hl : x.length = (withL b).length) (h : par (bitsB x) = !par (bitsB (withL b))) : verL x = (.tuple [.nil, .int .i64 31], ⟨0, [], []⟩) := by
  have hw := with_len32 b
  refine found32 (by omega) fun e => ?_
  have h1 := rp_rg32 (bitsB x) (4294967295#32)
  have h2 := rp_rg32 (bitsB (withL b)) (4294967295#32)
  rw [e] at h1
  rw [with_valid32] at h2
  rw [h1, h] at h2
  revert h2
  cases rp32 (4294967295#32) <;> cases par (bitsB (withL b)) <;> simp
/-- a burst is found -/
theorem found_burst32 {b x : List UInt8} (hl : x.length = (withL b).length) {a z : Nat} {l : List Bool} (hx : bitsB x = xr (bitsB (withL b)) (List.replicate a false ++ (l ++ List.replicate z false))) (hlen : a + (l.length + z) = 8 * (withL b).length) (hw : l.length ≤ 32) (ht : true ∈ l) : verL x = (.tuple [.nil, .int .i64 31], ⟨0, [], []⟩) := by
  have hwl := with_len32 b
  refine found32 (by omega) fun e => ?_
  have h1 := rg_xr32 (bitsB (withL b)) (List.replicate a false ++ (l ++ List.replicate z false)) (by simp [bitsB_length]; omega) (4294967295#32) 0#32
  rw [BitVec.xor_zero, ← hx, e, with_valid32] at h1
  have h2 := congrArg (K32 ^^^ ·) h1
  simp only [← BitVec.xor_assoc, BitVec.xor_self, BitVec.zero_xor] at h2
  exact rg_burst32 a z l hw ht h2.symm
/-- the changed bits of L, k of the pattern's having been looked at -/
def eK (a : Nat) (p : BitVec 32) (L k : Nat) : List Bool := (List.range L).map fun j => decide (a ≤ j) && (decide (j < a + k) && p.getLsbD (j - a))
theorem eK_length (a : Nat) (p : BitVec 32) (L k : Nat) : (eK a p L k).length = L := by simp [eK]
theorem eK_zero (a : Nat) (p : BitVec 32) (L : Nat) : eK a p L 0 = List.replicate L false := by
  refine List.ext_getElem (by simp [eK]) fun j h1 h2 => ?_
  simp [eK]
  omega
theorem eK_no {a : Nat} {p : BitVec 32} {L k : Nat} (h : p.getLsbD k = true → ¬ a + k < L) : eK a p L (k + 1) = eK a p L k := by
  refine List.ext_getElem (by simp [eK]) fun j h1 h2 => ?_
  simp only [eK, List.getElem_map, List.getElem_range]
  have hj : j < L := by simpa [eK] using h1
  by_cases e : j = a + k
  · subst e
    have hp : p.getLsbD (a + k - a) = false := by
      rw [Nat.add_sub_cancel_left]
      cases hb : p.getLsbD k with
      | false => rfl
      | true => exact absurd hj (h hb)
    simp only [hp, Bool.and_false]
  · have : decide (j < a + (k + 1)) = decide (j < a + k) := by
      rw [decide_eq_decide]
      omega
    rw [this]
theorem eK_yes {a : Nat} {p : BitVec 32} {L k : Nat} (hp : p.getLsbD k = true) (hl : a + k < L) : eK a p L (k + 1) = tog (eK a p L k) (a + k) := by
  refine List.ext_getElem (by simp [eK, tog]) fun j h1 h2 => ?_
  have hj : j < L := by simpa [eK] using h1
  have hd : (eK a p L k).getD (a + k) false = false := by
    rw [List.getD_eq_getElem?_getD, List.getElem?_eq_getElem (by rw [eK_length]; exact hl)]
    simp [eK]
  rw [tog] at h2
  simp only [tog, List.getElem_set, hd]
  by_cases e : j = a + k
  · subst e
    simp [eK, hp]
  · rw [if_neg fun h => e h.symm]
    simp only [eK, List.getElem_map, List.getElem_range]
    have : decide (j < a + (k + 1)) = decide (j < a + k) := by
      rw [decide_eq_decide]
      omega
    rw [this]
theorem eK_split {a : Nat} {p : BitVec 32} {L n : Nat} (ha : a ≤ L) : eK a p L n = List.replicate a false ++ ((List.range (min n (L - a))).map (fun i => p.getLsbD i) ++ List.replicate (L - a - min n (L - a)) false) := by
  refine List.ext_getElem (by simp [eK]; omega) fun j h1 h2 => ?_
  have hj : j < L := by simpa [eK] using h1
  simp only [eK, List.getElem_map, List.getElem_range, List.getElem_append, List.length_replicate, List.length_map, List.length_range, List.getElem_replicate]
  by_cases c1 : j < a
  · rw [dif_pos c1]
    have : decide (a ≤ j) = false := decide_eq_false (by omega)
    rw [this, Bool.false_and]
  · rw [dif_neg c1]
    have d1 : decide (a ≤ j) = true := decide_eq_true (by omega)
    by_cases c2 : j - a < min n (L - a)
    · rw [dif_pos c2]
      have d2 : decide (j < a + n) = true := decide_eq_true (by omega)
      rw [d1, d2, Bool.true_and, Bool.true_and]
    · rw [dif_neg c2]
      have d2 : decide (j < a + n) = false := decide_eq_false (by omega)
      rw [d1, d2, Bool.true_and, Bool.false_and]
theorem tog_any {l : List Bool} {i : Nat} (h : i < l.length) (hd : l.getD i false = false) : (tog l i).any id = true := by
  rw [List.any_eq_true]
  refine ⟨true, ?_, rfl⟩
  rw [tog, hd]
  exact List.mem_iff_getElem.2 ⟨i, by simpa using h, by simp⟩
theorem mem_bits {a : Nat} {p : BitVec 32} {L n : Nat} (ha : a ≤ L) (h : (eK a p L n).any id = true) : true ∈ (List.range (min n (L - a))).map (fun i => p.getLsbD i) := by
  rw [eK_split ha, List.any_append, List.any_append] at h
  simp only [List.any_replicate, id] at h
  have h2 : ((List.range (min n (L - a))).map (fun i => p.getLsbD i)).any id = true := by
    revert h
    cases ((List.range (min n (L - a))).map (fun i => p.getLsbD i)).any id <;> simp
  obtain ⟨b, hb, hx⟩ := List.any_eq_true.1 h2
  have : b = true := hx
  subst this
  exact hb
end
end Go.Proofs.Ytcllanmickbkpaa
