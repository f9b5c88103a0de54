/- Plain facts on numbers: bit fields. No program in sight. -/
namespace Go.Proofs.Ytioglkmdapghhaa

/-- bits at to at + n - 1 -/
def getB (v a n : Nat) : Nat := v / 2 ^ a % 2 ^ n
/-- v with these bits set to x -/
def setB (v a n x : Nat) : Nat := v - getB v a n * 2 ^ a + x * 2 ^ a

theorem getB_lt (v a n : Nat) : getB v a n < 2 ^ n := Nat.mod_lt _ (Nat.two_pow_pos n)
theorem getB_testBit (v a n i : Nat) : (getB v a n).testBit i = (decide (i < n) && v.testBit (i + a)) := by
  unfold getB
  rw [Nat.testBit_mod_two_pow, Nat.testBit_div_two_pow]

theorem setB_split (v a n x : Nat) : setB v a n x = 2 ^ a * (2 ^ n * (v / 2 ^ a / 2 ^ n) + x) + v % 2 ^ a := by
  unfold setB getB
  have h1 := Nat.div_add_mod v (2 ^ a)
  have h2 := Nat.div_add_mod (v / 2 ^ a) (2 ^ n)
  generalize v / 2 ^ a = q at *
  generalize v % 2 ^ a = r at *
  generalize q / 2 ^ n = s at *
  generalize q % 2 ^ n = t at *
  subst h2
  have e1 : 2 ^ a * (2 ^ n * s + t) = 2 ^ a * (2 ^ n * s) + t * 2 ^ a := by rw [Nat.mul_add, Nat.mul_comm _ t]
  have e2 : 2 ^ a * (2 ^ n * s + x) = 2 ^ a * (2 ^ n * s) + x * 2 ^ a := by rw [Nat.mul_add, Nat.mul_comm _ x]
  omega

theorem setB_testBit (v a n x i : Nat) (hx : x < 2 ^ n) : (setB v a n x).testBit i = if a ≤ i ∧ i < a + n then x.testBit (i - a) else v.testBit i := by
  rw [setB_split, Nat.testBit_two_pow_mul_add _ (Nat.mod_lt _ (Nat.two_pow_pos a))]
  by_cases h : i < a
  · rw [if_pos h, if_neg (by omega), Nat.testBit_mod_two_pow]
    simp [h]
  · rw [if_neg h, Nat.testBit_two_pow_mul_add _ hx]
    by_cases h2 : i < a + n
    · rw [if_pos (by omega), if_pos (by omega)]
    · rw [if_neg (by omega), if_neg (by omega), Nat.testBit_div_two_pow, Nat.testBit_div_two_pow]
      congr 1
      omega

theorem setB_lt (v a n x : Nat) (hx : x < 2 ^ n) (hv : v < 2 ^ 64) (h : a + n ≤ 64) : setB v a n x < 2 ^ 64 := by
  apply Nat.lt_pow_two_of_testBit
  intro i hi
  rw [setB_testBit _ _ _ _ _ hx, if_neg (by omega)]
  exact Nat.testBit_lt_two_pow (Nat.lt_of_lt_of_le hv (Nat.pow_le_pow_right (by omega) hi))

theorem mask_testBit (a n i : Nat) (h : a + n ≤ 64) : (2 ^ 64 - 1 - (2 ^ n - 1) * 2 ^ a).testBit i = (decide (i < 64) && !(decide (a ≤ i) && decide (i < a + n))) := by
  have hlt : (2 ^ n - 1) * 2 ^ a < 2 ^ 64 := by
    have h1 : (2 ^ n - 1) * 2 ^ a < 2 ^ n * 2 ^ a := Nat.mul_lt_mul_of_pos_right (by have := Nat.two_pow_pos n; omega) (Nat.two_pow_pos a)
    rw [← Nat.pow_add] at h1
    exact Nat.lt_of_lt_of_le h1 (Nat.pow_le_pow_right (by omega) (by omega))
  rw [show 2 ^ 64 - 1 - (2 ^ n - 1) * 2 ^ a = 2 ^ 64 - ((2 ^ n - 1) * 2 ^ a + 1) from by omega, Nat.testBit_two_pow_sub_succ hlt]
  congr 2
  rw [Nat.testBit_mul_two_pow, Nat.testBit_two_pow_sub_one]
  by_cases h1 : a ≤ i <;> simp [h1]
  omega

theorem set_or (v a n x : Nat) (hx : x < 2 ^ n) (hv : v < 2 ^ 64) (h : a + n ≤ 64) :
    (v &&& (2 ^ 64 - 1 - (2 ^ n - 1) * 2 ^ a)) ||| x * 2 ^ a = setB v a n x := by
  apply Nat.eq_of_testBit_eq
  intro i
  rw [Nat.testBit_or, Nat.testBit_and, mask_testBit _ _ _ h, setB_testBit _ _ _ _ _ hx, Nat.testBit_mul_two_pow]
  by_cases h1 : a ≤ i
  · by_cases h2 : i < a + n
    · simp [h1, h2]
    · have h3 : x.testBit (i - a) = false := Nat.testBit_lt_two_pow (Nat.lt_of_lt_of_le hx (Nat.pow_le_pow_right (by omega) (by omega)))
      by_cases h4 : i < 64
      · simp [h2, h3, h4]
      · have h5 : v.testBit i = false := Nat.testBit_lt_two_pow (Nat.lt_of_lt_of_le hv (Nat.pow_le_pow_right (by omega) (by omega)))
        simp [h2, h3, h5]
  · have h4 : i < 64 := by omega
    simp [h1, h4]

theorem getB_setB (v a n x : Nat) (hx : x < 2 ^ n) : getB (setB v a n x) a n = x := by
  apply Nat.eq_of_testBit_eq
  intro i
  rw [getB_testBit, setB_testBit _ _ _ _ _ hx]
  by_cases h : i < n
  · rw [if_pos (by omega)]; simp [h]
  · have h3 : x.testBit i = false := Nat.testBit_lt_two_pow (Nat.lt_of_lt_of_le hx (Nat.pow_le_pow_right (by omega) (by omega)))
    simp [h, h3]
theorem getB_setB_apart (v a n x t m : Nat) (hx : x < 2 ^ n) (h : t + m ≤ a ∨ a + n ≤ t) : getB (setB v a n x) t m = getB v t m := by
  apply Nat.eq_of_testBit_eq
  intro i
  rw [getB_testBit, getB_testBit, setB_testBit _ _ _ _ _ hx]
  by_cases h1 : i < m
  · rw [if_neg (by omega)]
  · simp [h1]
end Go.Proofs.Ytioglkmdapghhaa
