/- Matching, in numbers. -/
import Derived.Test.YtnhbhdfeenpedaaMt
namespace Go.Proofs.Ytnhbhdfeenpedaa
open Go.RowKit

noncomputable section
def eqL : List Int → List Int → Bool
  | a :: x, b :: y => (a == b) && eqL x y
  | _, _ => true
theorem wrap64 {n : Nat} (h : n < 2 ^ 64) : IntKind.u64.wrap (n : Int) = n := by
  simp only [IntKind.wrap, IntKind.bits, IntKind.signed, Bool.false_and, Bool.false_eq_true, if_false]
  omega
theorem toNat64 {n : Nat} (h : n < 2 ^ 64) : (BitVec.ofInt IntKind.u64.bits (n : Int)).toNat = n := by
  show (BitVec.ofInt 64 (n : Int)).toNat = n
  rw [BitVec.ofInt_natCast, BitVec.toNat_ofNat]
  exact Nat.mod_eq_of_lt h
theorem or64 {x y : Nat} (hx : x < 2 ^ 64) (hy : y < 2 ^ 64) : bitD .or .u64 (x : Int) (y : Int) = ((x ||| y : Nat) : Int) := by
  simp only [bitD, BitVec.toNat_or, toNat64 hx, toNat64 hy]
  exact wrap64 (Nat.or_lt_two_pow hx hy)
theorem and64 {x y : Nat} (hx : x < 2 ^ 64) (hy : y < 2 ^ 64) : bitD .and .u64 (x : Int) (y : Int) = ((x &&& y : Nat) : Int) := by
  simp only [bitD, BitVec.toNat_and, toNat64 hx, toNat64 hy]
  exact wrap64 (Nat.lt_of_le_of_lt Nat.and_le_left hx)
theorem xor64 {x y : Nat} (hx : x < 2 ^ 64) (hy : y < 2 ^ 64) : bitD .xor .u64 (x : Int) (y : Int) = ((x ^^^ y : Nat) : Int) := by
  simp only [bitD, BitVec.toNat_xor, toNat64 hx, toNat64 hy]
  exact wrap64 (Nat.xor_lt_two_pow hx hy)
theorem step64 {n b : Nat} (hn : n < 2 ^ 56) (hb : b < 256) : bitD .or .u64 (shlD .u64 (n : Int) 8) (IntKind.u64.wrap (b : Int)) = ((n * 256 + b : Nat) : Int) := by
  have h1 : shlD .u64 (n : Int) 8 = ((n * 256 : Nat) : Int) := by
    have : ((n : Int) * 2 ^ (min (8 : Int).toNat IntKind.u64.bits)) = ((n * 256 : Nat) : Int) := by
      show (n : Int) * 2 ^ 8 = _
      omega
    unfold shlD
    rw [this]
    exact wrap64 (by omega)
  rw [h1, wrap64 (by omega), or64 (by omega) (by omega)]
  have h2 := Nat.shiftLeft_add_eq_or_of_lt (b := b) (i := 8) (by omega) n
  rw [Nat.shiftLeft_eq] at h2
  rw [← h2]
def isB (a : Int) : Prop := 0 ≤ a ∧ a < 256
theorem isB_of {a : Int} (h : (Lit.int .u8 a).wf = true) : isB a := by
  simp [Lit.wf, IntKind.min, IntKind.max, IntKind.signed, IntKind.bits] at h
  exact ⟨by omega, by omega⟩
def num6 (a b c d e g : Nat) : Nat := ((((a * 256 + b) * 256 + c) * 256 + d) * 256 + e) * 256 + g
theorem numL_eq {a b c d e g : Nat} (ha : a < 256) (hb : b < 256) (hc : c < 256) (hd : d < 256) (he : e < 256) (hg : g < 256) :
    numL [(a : Int), (b : Int), (c : Int), (d : Int), (e : Int), (g : Int)] = (num6 a b c d e g : Nat) := by
  have h0 := step64 (n := 0) (b := a) (by omega) ha
  have h1 := step64 (n := 0 * 256 + a) (b := b) (by omega) hb
  have h2 := step64 (n := (0 * 256 + a) * 256 + b) (b := c) (by omega) hc
  have h3 := step64 (n := ((0 * 256 + a) * 256 + b) * 256 + c) (b := d) (by omega) hd
  have h4 := step64 (n := (((0 * 256 + a) * 256 + b) * 256 + c) * 256 + d) (b := e) (by omega) he
  have h5 := step64 (n := ((((0 * 256 + a) * 256 + b) * 256 + c) * 256 + d) * 256 + e) (b := g) (by omega) hg
  simp only [numL, List.foldl_cons, List.foldl_nil]
  rw [show (0 : Int) = ((0 : Nat) : Int) from rfl, h0, h1, h2, h3, h4, h5]
  simp [num6]
theorem num6_lt {a b c d e g : Nat} (ha : a < 256) (hb : b < 256) (hc : c < 256) (hd : d < 256) (he : e < 256) (hg : g < 256) : num6 a b c d e g < 2 ^ 48 := by
  unfold num6
  omega
/-- bytes as a number -/
theorem numL_nat {xs : List Int} (h : xs.length = 6) (hb : ∀ a ∈ xs, (Lit.int .u8 a).wf = true) : ∃ n : Nat, n < 2 ^ 48 ∧ numL xs = n := by
  obtain ⟨a, b, c, d, e, g, rfl⟩ := list6 h
  have ha := isB_of (hb a (by simp))
  have hb' := isB_of (hb b (by simp))
  have hc := isB_of (hb c (by simp))
  have hd := isB_of (hb d (by simp))
  have he := isB_of (hb e (by simp))
  have hg := isB_of (hb g (by simp))
  obtain ⟨a, rfl⟩ := Int.eq_ofNat_of_zero_le ha.1
  obtain ⟨b, rfl⟩ := Int.eq_ofNat_of_zero_le hb'.1
  obtain ⟨c, rfl⟩ := Int.eq_ofNat_of_zero_le hc.1
  obtain ⟨d, rfl⟩ := Int.eq_ofNat_of_zero_le hd.1
  obtain ⟨e, rfl⟩ := Int.eq_ofNat_of_zero_le he.1
  obtain ⟨g, rfl⟩ := Int.eq_ofNat_of_zero_le hg.1
  have h1 := ha.2; have h2 := hb'.2; have h3 := hc.2; have h4 := hd.2; have h5 := he.2; have h6 := hg.2
  exact ⟨_, num6_lt (by omega) (by omega) (by omega) (by omega) (by omega) (by omega), numL_eq (by omega) (by omega) (by omega) (by omega) (by omega) (by omega)⟩
theorem numL_inj {xs ys : List Int} (h : xs.length = 6) (hb : ∀ a ∈ xs, (Lit.int .u8 a).wf = true) (h' : ys.length = 6) (hb' : ∀ a ∈ ys, (Lit.int .u8 a).wf = true) : eqL xs ys = decide (numL xs = numL ys) := by
  obtain ⟨a, b, c, d, e, g, rfl⟩ := list6 h
  obtain ⟨a', b', c', d', e', g', rfl⟩ := list6 h'
  have p1 := isB_of (hb a (by simp))
  have p2 := isB_of (hb b (by simp))
  have p3 := isB_of (hb c (by simp))
  have p4 := isB_of (hb d (by simp))
  have p5 := isB_of (hb e (by simp))
  have p6 := isB_of (hb g (by simp))
  have q1 := isB_of (hb' a' (by simp))
  have q2 := isB_of (hb' b' (by simp))
  have q3 := isB_of (hb' c' (by simp))
  have q4 := isB_of (hb' d' (by simp))
  have q5 := isB_of (hb' e' (by simp))
  have q6 := isB_of (hb' g' (by simp))
  obtain ⟨a, rfl⟩ := Int.eq_ofNat_of_zero_le p1.1
  obtain ⟨b, rfl⟩ := Int.eq_ofNat_of_zero_le p2.1
  obtain ⟨c, rfl⟩ := Int.eq_ofNat_of_zero_le p3.1
  obtain ⟨d, rfl⟩ := Int.eq_ofNat_of_zero_le p4.1
  obtain ⟨e, rfl⟩ := Int.eq_ofNat_of_zero_le p5.1
  obtain ⟨g, rfl⟩ := Int.eq_ofNat_of_zero_le p6.1
  obtain ⟨a', rfl⟩ := Int.eq_ofNat_of_zero_le q1.1
  obtain ⟨b', rfl⟩ := Int.eq_ofNat_of_zero_le q2.1
  obtain ⟨c', rfl⟩ := Int.eq_ofNat_of_zero_le q3.1
  obtain ⟨d', rfl⟩ := Int.eq_ofNat_of_zero_le q4.1
  obtain ⟨e', rfl⟩ := Int.eq_ofNat_of_zero_le q5.1
  obtain ⟨g', rfl⟩ := Int.eq_ofNat_of_zero_le q6.1
  have p1 := p1.2; have p2 := p2.2; have p3 := p3.2; have p4 := p4.2; have p5 := p5.2; have p6 := p6.2
  have q1 := q1.2; have q2 := q2.2; have q3 := q3.2; have q4 := q4.2; have q5 := q5.2; have q6 := q6.2
  rw [numL_eq (by omega) (by omega) (by omega) (by omega) (by omega) (by omega), numL_eq (by omega) (by omega) (by omega) (by omega) (by omega) (by omega)]
  rw [Bool.eq_iff_iff]
  simp only [eqL, Bool.and_true, Bool.and_eq_true, beq_iff_eq, decide_eq_true_eq, num6, Int.natCast_inj]
  constructor
  · rintro ⟨rfl, rfl, rfl, rfl, rfl, rfl⟩; rfl
  · intro h
    have e1 : a = a' := by omega
    have e2 : b = b' := by omega
    have e3 : c = c' := by omega
    have e4 : d = d' := by omega
    have e5 : e = e' := by omega
    have e6 : g = g' := by omega
    exact ⟨e1, e2, e3, e4, e5, e6⟩
theorem matchB_eq {x y m : List Int} {X Y M : Nat} (hx : numL x = X) (hX : X < 2 ^ 48) (hy : numL y = Y) (hY : Y < 2 ^ 48) (hm : numL m = M) (hM : M < 2 ^ 48) : matchB x y m = decide ((X ^^^ Y) &&& M = 0) := by
  unfold matchB
  rw [hx, hy, hm, xor64 (by omega) (by omega), and64 (Nat.xor_lt_two_pow (n := 64) (by omega) (by omega)) (by omega)]
  rw [Bool.eq_iff_iff]
  simp only [beq_iff_eq, decide_eq_true_eq]
  omega
theorem and_trans {X Y Z M : Nat} (h1 : (X ^^^ Y) &&& M = 0) (h2 : (Y ^^^ Z) &&& M = 0) : (X ^^^ Z) &&& M = 0 := by
  have h : X ^^^ Z = (X ^^^ Y) ^^^ (Y ^^^ Z) := by
    rw [Nat.xor_assoc, ← Nat.xor_assoc Y Y Z, Nat.xor_self, Nat.zero_xor]
  rw [h, Nat.and_xor_distrib_right, h1, h2]
  rfl
theorem and_full {X Y : Nat} (hX : X < 2 ^ 48) (hY : Y < 2 ^ 48) : (X ^^^ Y) &&& (2 ^ 48 - 1) = 0 ↔ X = Y := by
  rw [Nat.and_two_pow_sub_one_eq_mod, Nat.mod_eq_of_lt (Nat.xor_lt_two_pow hX hY)]
  constructor
  · intro h
    have : X ^^^ (X ^^^ Y) = X := by rw [h, Nat.xor_zero]
    rw [← Nat.xor_assoc, Nat.xor_self, Nat.zero_xor] at this
    exact this.symm
  · rintro rfl
    exact Nat.xor_self _
end
end Go.Proofs.Ytnhbhdfeenpedaa
