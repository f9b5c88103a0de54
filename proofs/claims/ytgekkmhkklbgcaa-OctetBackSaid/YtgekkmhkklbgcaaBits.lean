/- Walks of octet's bit functions, and of the reference's. -/
import Derived.Test.YtgekkmhkklbgcaaRows
import Derived.Test.YtgekkmhkklbgcaaNatBits
import Derived.WalkKit
import Derived.WalkSpells
import Derived.WalkLawsBesides
import Derived.Deep.QuietTactic
import Derived.BigQuiet
import Derived.Lib.Hide
namespace Go.Proofs.Ytgekkmhkklbgcaa
open Go.RowKit

theorem ret_bool {a b : Bool} (h : a = b) : Ending.returned (.bool a) = .returned (.bool b) := by rw [h]
theorem ret_int {k : IntKind} {a b : Int} (h : a = b) : Ending.returned (.int k a) = .returned (.int k b) := by rw [h]
theorem ret_int2 {k l : IntKind} {a b c : Int} (h : a = b) : Ending.returned (.tuple #[.int k a, .int l c]) = .returned (.tuple #[.int k b, .int l c]) := by rw [h]

/-- whether bits exist: kept closed to the walk -/
def inB (a n : Int) : Bool := decide (0 ≤ a ∧ 1 ≤ n ∧ n ≤ 64 - a)
theorem inB_true {a n : Int} (h : inB a n = true) : 0 ≤ a ∧ 1 ≤ n ∧ n ≤ 64 - a := of_decide_eq_true h
theorem inB_mk {a n : Int} (h : 0 ≤ a ∧ 1 ≤ n ∧ n ≤ 64 - a) : inB a n = true := decide_eq_true h
theorem inB_false {a n : Int} (h : inB a n = false) : ¬ (0 ≤ a ∧ 1 ≤ n ∧ n ≤ 64 - a) := of_decide_eq_false h

theorem within_any (a n : Int) (w : World) (ha : -9223372036854775808 ≤ a) (ha' : a ≤ 9223372036854775807) :
    Calls Try.prog 56 #[.int .i64 a, .int .i64 n] w fun e w' => e = .returned (.bool (inB a n)) ∧ w = w' := by
  by_cases h1 : 0 ≤ a
  · by_cases h2 : 1 ≤ n
    · go_enter Try.func56, Try.ntmps56
      go_wp2
      go_ret
      exact ⟨ret_bool (by unfold inB; simp [h1, h2]), rfl⟩
    · go_enter Try.func56, Try.ntmps56
      go_wp2
      go_ret
      exact ⟨ret_bool (by unfold inB; simp; omega), rfl⟩
  · go_enter Try.func56, Try.ntmps56
    go_wp2
    go_ret
    exact ⟨ret_bool (by unfold inB; simp; omega), rfl⟩

/-- the greatest number of n bits -/
def onesV (n : Int) : Int := ((2 ^ n.toNat - 1 : Nat) : Int)
theorem two_pow_le (n : Nat) (h : n ≤ 64) : 2 ^ n ≤ 18446744073709551616 := Nat.le_trans (Nat.pow_le_pow_right (by omega) h) (by decide)
theorem wrap_ones (n : Nat) (h : n ≤ 64) : IntKind.u64.wrap (IntKind.u64.wrap (2 ^ n) - 1) = ((2 ^ n - 1 : Nat) : Int) := by
  have hp := Nat.two_pow_pos n
  have hle := two_pow_le n h
  have e : ((2 : Int) ^ n) = ((2 ^ n : Nat) : Int) := by simp
  rw [e, IntKind.wrap_u64, IntKind.wrap_u64]
  generalize 2 ^ n = p at *
  omega

theorem ones_any (n : Int) (w : World) (h1 : 0 ≤ n) (h2 : n ≤ 64) :
    Calls Try.prog 57 #[.int .i64 n] w fun e w' => e = .returned (.int .u64 (onesV n)) ∧ w = w' := by
  have hw := Lib.hid (wrap_ones n.toNat (by omega))
  go_enter Try.func57, Try.ntmps57
  go_wp2
  go_ret
  exact ⟨ret_int hw.out, rfl⟩
theorem ones_quiet (n : Int) (w : World) (h1 : 0 ≤ n) (h2 : n ≤ 64) :
    Calls Try.prog 57 #[.int .i64 n] w fun e w' => e = .returned (.int .u64 (onesV n)) ∧ w' = w :=
  (ones_any n w h1 h2).mono fun _ _ h => ⟨h.1, h.2.symm⟩

theorem bits_no (v a n : Int) (w : World) (ha : -9223372036854775808 ≤ a) (ha' : a ≤ 9223372036854775807) (h : inB a n = false) :
    Calls Try.prog 18 #[.int .u64 v, .int .i64 a, .int .i64 n] w fun e w' => e = .returned (.tuple #[.int .u64 0, .int .i64 2]) ∧ w = w' := by
  go_enter Try.func18, Try.ntmps18
  go_wp2_with (go_at_call 56; refine (within_any _ _ _ ha ha').mono ?_; rintro e w' ⟨rfl, rfl⟩)
  go_ret2
  exact ⟨rfl, rfl⟩

theorem and_ones (v a n : Nat) (hv : v < 18446744073709551616) (hn : n ≤ 64) :
    bits .and .u64 ((v : Int) / 2 ^ a) (onesV (n : Int)) = ((getB v a n : Nat) : Int) := by
  have hle := two_pow_le n hn
  have e : ((v : Int) / 2 ^ a) = ((v / 2 ^ a : Nat) : Int) := by simp
  unfold onesV getB
  rw [e, Int.toNat_natCast, u64_and_nat _ _ (Nat.lt_of_le_of_lt (Nat.div_le_self _ _) hv) (by omega), Nat.and_two_pow_sub_one_eq_mod]

theorem bits_yes (v a n : Nat) (w : World) (hv : v < 18446744073709551616) (hn : 1 ≤ n) (hn' : a + n ≤ 64) :
    Calls Try.prog 18 #[.int .u64 (v : Int), .int .i64 (a : Int), .int .i64 (n : Int)] w fun e w' => e = .returned (.tuple #[.int .u64 (getB v a n : Int), .int .i64 0]) ∧ ∃ k, w' = w.drewN k := by
  have h : inB a n = true := inB_mk (by omega)
  have he := Lib.hid (and_ones v a n hv (by omega))
  go_enter Try.func18, Try.ntmps18
  go_wp2_with (go_at_call 56; refine (within_any _ _ _ (by omega) (by omega)).mono ?_; rintro e w' ⟨rfl, rfl⟩)
  go_quiet ((go_at_call 57; exact Calls.quiet_of_same (ones_quiet _ _ (by omega) (by omega))))
  go_wp2
  go_ret2
  exact ⟨ret_int2 he.out, _, rfl⟩

theorem setbits_no (v a n x : Int) (w : World) (ha : -9223372036854775808 ≤ a) (ha' : a ≤ 9223372036854775807) (h : inB a n = false) :
    Calls Try.prog 19 #[.int .u64 v, .int .i64 a, .int .i64 n, .int .u64 x] w fun e w' => e = .returned (.tuple #[.int .u64 0, .int .i64 2]) ∧ w = w' := by
  go_enter Try.func19, Try.ntmps19
  go_wp2_with (go_at_call 56; refine (within_any _ _ _ ha ha').mono ?_; rintro e w' ⟨rfl, rfl⟩)
  go_ret2
  exact ⟨rfl, rfl⟩

theorem setbits_long (v : Int) (a n x : Nat) (w : World) (hn : 1 ≤ n) (hn' : a + n ≤ 64) (hx : 2 ^ n ≤ x) :
    Calls Try.prog 19 #[.int .u64 v, .int .i64 (a : Int), .int .i64 (n : Int), .int .u64 (x : Int)] w fun e w' => e = .returned (.tuple #[.int .u64 0, .int .i64 11]) ∧ w = w' := by
  have h : inB a n = true := inB_mk (by omega)
  have hp := Nat.two_pow_pos n
  have hgt : onesV (n : Int) < (x : Int) := by unfold onesV; rw [Int.toNat_natCast]; omega
  clear hx hp
  go_enter Try.func19, Try.ntmps19
  go_wp2_with (first | (go_at_call 56; refine (within_any _ _ _ (by omega) (by omega)).mono ?_; rintro e w' ⟨rfl, rfl⟩) | (go_at_call 57; refine (ones_any _ _ (by omega) (by omega)).mono ?_; rintro e w' ⟨rfl, rfl⟩))
  go_ret2
  exact ⟨rfl, rfl⟩

theorem set_bits (v a n x : Nat) (hv : v < 18446744073709551616) (hn : a + n ≤ 64) (hx : x < 2 ^ n) :
    bits .or .u64 (bits .andNot .u64 (v : Int) (IntKind.u64.wrap (onesV (n : Int) * 2 ^ a))) (IntKind.u64.wrap ((x : Int) * 2 ^ a)) = ((setB v a n x : Nat) : Int) := by
  have hle := two_pow_le (n + a) (by omega)
  have hm : (2 ^ n - 1) * 2 ^ a < 2 ^ (n + a) := by
    rw [Nat.pow_add]
    exact Nat.mul_lt_mul_of_pos_right (by have := Nat.two_pow_pos n; omega) (Nat.two_pow_pos a)
  have hxa : x * 2 ^ a < 2 ^ (n + a) := by
    rw [Nat.pow_add]
    exact Nat.mul_lt_mul_of_pos_right hx (Nat.two_pow_pos a)
  have e1 : IntKind.u64.wrap (onesV (n : Int) * 2 ^ a) = (((2 ^ n - 1) * 2 ^ a : Nat) : Int) := by
    unfold onesV
    rw [Int.toNat_natCast, IntKind.wrap_u64, show ((2 : Int) ^ a) = ((2 ^ a : Nat) : Int) by simp, ← Int.natCast_mul]
    omega
  have e2 : IntKind.u64.wrap ((x : Int) * 2 ^ a) = ((x * 2 ^ a : Nat) : Int) := by
    rw [IntKind.wrap_u64, show ((2 : Int) ^ a) = ((2 ^ a : Nat) : Int) by simp, ← Int.natCast_mul]
    omega
  have hs := set_or v a n x hx hv hn
  rw [show (2 ^ 64 : Nat) - 1 = 18446744073709551615 from by decide] at hs
  rw [e1, e2, u64_andNot_nat _ _ hv (by omega), u64_or_nat _ _ (Nat.lt_of_le_of_lt Nat.and_le_left hv) (by omega), hs]

theorem setbits_yes (v a n x : Nat) (w : World) (hv : v < 18446744073709551616) (hn : 1 ≤ n) (hn' : a + n ≤ 64) (hx : x < 2 ^ n) :
    Calls Try.prog 19 #[.int .u64 (v : Int), .int .i64 (a : Int), .int .i64 (n : Int), .int .u64 (x : Int)] w fun e w' => e = .returned (.tuple #[.int .u64 (setB v a n x : Int), .int .i64 0]) ∧ ∃ k, w' = w.drewN k := by
  have h : inB a n = true := inB_mk (by omega)
  have he := Lib.hid (set_bits v a n x hv hn' hx)
  have hp := Nat.two_pow_pos n
  have hgt : ¬ onesV (n : Int) < (x : Int) := by unfold onesV; rw [Int.toNat_natCast]; omega
  clear hx hp
  go_enter Try.func19, Try.ntmps19
  go_wp2_with (first | (go_at_call 56; refine (within_any _ _ _ (by omega) (by omega)).mono ?_; rintro e w' ⟨rfl, rfl⟩) | (go_at_call 57; refine (ones_any _ _ (by omega) (by omega)).mono ?_; rintro e w' ⟨rfl, rfl⟩))
  go_quiet ((go_at_call 57; exact Calls.quiet_of_same (ones_quiet _ _ (by omega) (by omega))))
  go_wp2
  go_ret2
  exact ⟨ret_int2 he.out, _, rfl⟩

/-! The reference -/
/-- 2 to the k: kept closed to the walk -/
def p2 (k : Nat) : Nat := 2 ^ k
theorem p2_pos (k : Nat) : 1 ≤ p2 k := Nat.two_pow_pos k
theorem p2_le {k : Nat} (h : k ≤ 63) : p2 k ≤ 9223372036854775808 := Nat.le_trans (Nat.pow_le_pow_right (by omega) h) (by decide)
theorem power_any (n : Int) (w : World) (h0 : 0 ≤ n) (h1 : n ≤ 63) :
    Calls Try.prog 64 #[.int .i64 n] w fun e w' => e = .returned (.int .u64 (p2 n.toNat : Int)) ∧ w = w' := by
  obtain ⟨n, rfl⟩ := Int.eq_ofNat_of_zero_le h0
  rw [Int.toNat_natCast]
  go_enter Try.func64, Try.ntmps64
  go_wp2
  go_loop [3, 4] (fun v i => ∃ k : Nat, k ≤ n ∧ i = .int .i64 k ∧ v = .int .u64 (p2 k : Int)) (fun _ i => n - (intOf i).toNat)
  case atStart => exact ⟨0, Nat.zero_le _, rfl, rfl⟩
  case round =>
    obtain ⟨k, hk, rfl, rfl⟩ := hrel
    by_cases hlt : k < n
    · have hs := Lib.hid (show IntKind.u64.wrap ((p2 k : Int) * 2) = (p2 (k + 1) : Int) from by
        have := p2_le (k := k + 1) (by omega)
        have e : p2 (k + 1) = p2 k * 2 := Nat.pow_succ ..
        rw [IntKind.wrap_u64]
        omega)
      go_wp2
      go_round
      case rel => exact ⟨k + 1, by omega, by go_num, by rw [hs.out]⟩
      case measure => simp [intOf]; omega
    · obtain rfl : k = n := by omega
      go_wp2
      go_ret
      exact ⟨rfl, rfl⟩

theorem rbits_no (v a n : Int) (w : World) (ha : -9223372036854775808 ≤ a) (ha' : a ≤ 9223372036854775807) (h : inB a n = false) :
    Calls Try.prog 43 #[.int .u64 v, .int .i64 a, .int .i64 n] w fun e w' => e = .returned (.tuple #[.int .u64 0, .int .i64 2]) ∧ w = w' := by
  have h' := inB_false h
  clear h
  by_cases c1 : a < 0
  · go_enter Try.func43, Try.ntmps43
    go_wp2
    go_ret2
    exact ⟨rfl, rfl⟩
  · by_cases c2 : n < 1
    · go_enter Try.func43, Try.ntmps43
      go_wp2
      go_ret2
      exact ⟨rfl, rfl⟩
    · by_cases c3 : 64 < a
      · go_enter Try.func43, Try.ntmps43
        go_wp2
        go_ret2
        exact ⟨rfl, rfl⟩
      · have c4 : 64 - a < n := by omega
        go_enter Try.func43, Try.ntmps43
        go_wp2
        go_ret2
        exact ⟨rfl, rfl⟩

theorem quo_pow (v a : Nat) (hv : v < 18446744073709551616) : IntKind.u64.wrap ((v : Int) / (p2 a : Int)) = ((v / 2 ^ a : Nat) : Int) := by
  have h : v / 2 ^ a ≤ v := Nat.div_le_self _ _
  have e : (v : Int) / (p2 a : Int) = ((v / 2 ^ a : Nat) : Int) := by unfold p2; simp
  rw [e, IntKind.wrap_u64]
  clear e
  generalize v / 2 ^ a = q at *
  omega
theorem quo_all (v a n : Nat) (hv : v < 18446744073709551616) (hn : 64 ≤ n) : IntKind.u64.wrap ((v : Int) / (p2 a : Int)) = (getB v a n : Int) := by
  rw [quo_pow v a hv]
  have h : v / 2 ^ a ≤ v := Nat.div_le_self _ _
  have h2 : 2 ^ 64 ≤ 2 ^ n := Nat.pow_le_pow_right (by omega) hn
  unfold getB
  rw [Nat.mod_eq_of_lt (by omega)]
theorem quo_rem (v a n : Nat) (hv : v < 18446744073709551616) : (IntKind.u64.wrap ((v : Int) / (p2 a : Int))).tmod (p2 n : Int) = (getB v a n : Int) := by
  rw [quo_pow v a hv, Int.tmod_eq_emod_of_nonneg (Int.natCast_nonneg _)]
  unfold p2 getB
  simp

theorem rbits_yes (v a n : Nat) (w : World) (hv : v < 18446744073709551616) (hn : 1 ≤ n) (hn' : a + n ≤ 64) :
    Calls Try.prog 43 #[.int .u64 (v : Int), .int .i64 (a : Int), .int .i64 (n : Int)] w fun e w' => e = .returned (.tuple #[.int .u64 (getB v a n : Int), .int .i64 0]) ∧ w = w' := by
  have hpa := p2_pos a
  have hpn := p2_pos n
  by_cases hlt : n < 64
  · have he := Lib.hid (quo_rem v a n hv)
    go_enter Try.func43, Try.ntmps43
    go_wp2_with (go_at_call 64; refine (power_any _ _ (by omega) (by omega)).mono ?_; rintro e w' ⟨rfl, rfl⟩)
    go_ret2
    exact ⟨ret_int2 he.out, rfl⟩
  · have he := Lib.hid (quo_all v a n hv (by omega))
    go_enter Try.func43, Try.ntmps43
    go_wp2_with (go_at_call 64; refine (power_any _ _ (by omega) (by omega)).mono ?_; rintro e w' ⟨rfl, rfl⟩)
    go_ret2
    exact ⟨ret_int2 he.out, rfl⟩

theorem rsetbits_no (v a n x : Int) (w : World) (ha : -9223372036854775808 ≤ a) (ha' : a ≤ 9223372036854775807) (h : inB a n = false) :
    Calls Try.prog 44 #[.int .u64 v, .int .i64 a, .int .i64 n, .int .u64 x] w fun e w' => e = .returned (.tuple #[.int .u64 0, .int .i64 2]) ∧ w = w' := by
  go_enter Try.func44, Try.ntmps44
  go_wp2_with (go_at_call 43; refine (rbits_no _ _ _ _ ha ha' h).mono ?_; rintro e w' ⟨rfl, rfl⟩)
  go_ret2
  exact ⟨rfl, rfl⟩

theorem rsetbits_long (v a n x : Nat) (w : World) (hv : v < 18446744073709551616) (hn : 1 ≤ n) (hn' : a + n ≤ 64) (hx' : x < 18446744073709551616) (hx : 2 ^ n ≤ x) :
    Calls Try.prog 44 #[.int .u64 (v : Int), .int .i64 (a : Int), .int .i64 (n : Int), .int .u64 (x : Int)] w fun e w' => e = .returned (.tuple #[.int .u64 0, .int .i64 11]) ∧ w = w' := by
  have hlt : n < 64 := by
    rcases Nat.lt_or_ge n 64 with h | h
    · exact h
    · have h2 : 2 ^ 64 ≤ 2 ^ n := Nat.pow_le_pow_right (by omega) h
      omega
  have hge : (p2 n : Int) ≤ (x : Int) := by unfold p2; omega
  clear hx
  go_enter Try.func44, Try.ntmps44
  go_wp2_with (first | (go_at_call 43; refine (rbits_yes _ _ _ _ hv hn hn').mono ?_; rintro e w' ⟨rfl, rfl⟩) | (go_at_call 64; refine (power_any _ _ (by omega) (by omega)).mono ?_; rintro e w' ⟨rfl, rfl⟩))
  go_ret2
  exact ⟨rfl, rfl⟩

theorem rset_bits (v a n x : Nat) (hv : v < 18446744073709551616) (hn : a + n ≤ 64) (hx : x < 2 ^ n) :
    IntKind.u64.wrap (IntKind.u64.wrap ((v : Int) - IntKind.u64.wrap ((getB v a n : Int) * (p2 a : Int))) + IntKind.u64.wrap ((x : Int) * (p2 a : Int))) = (setB v a n x : Int) := by
  have h1 := setB_lt v a n x hx hv hn
  have hle := two_pow_le (n + a) (by omega)
  have hxa : x * 2 ^ a < 2 ^ (n + a) := by
    rw [Nat.pow_add]
    exact Nat.mul_lt_mul_of_pos_right hx (Nat.two_pow_pos a)
  have hg : getB v a n * 2 ^ a ≤ v := by
    unfold getB
    calc v / 2 ^ a % 2 ^ n * 2 ^ a ≤ v / 2 ^ a * 2 ^ a := Nat.mul_le_mul_right _ (Nat.mod_le _ _)
      _ ≤ v := Nat.div_mul_le_self _ _
  unfold setB at *
  unfold p2
  simp only [IntKind.wrap_u64, ← Int.natCast_mul]
  omega

theorem rsetbits_yes (v a n x : Nat) (w : World) (hv : v < 18446744073709551616) (hn : 1 ≤ n) (hn' : a + n ≤ 64) (hx : x < 2 ^ n) :
    Calls Try.prog 44 #[.int .u64 (v : Int), .int .i64 (a : Int), .int .i64 (n : Int), .int .u64 (x : Int)] w fun e w' => e = .returned (.tuple #[.int .u64 (setB v a n x : Int), .int .i64 0]) ∧ w = w' := by
  have he := Lib.hid (rset_bits v a n x hv hn' hx)
  have hge : (x : Int) < (p2 n : Int) := by unfold p2; omega
  clear hx
  by_cases hlt : n < 64
  · go_enter Try.func44, Try.ntmps44
    go_wp2_with (first | (go_at_call 43; refine (rbits_yes _ _ _ _ hv hn hn').mono ?_; rintro e w' ⟨rfl, rfl⟩) | (go_at_call 64; refine (power_any _ _ (by omega) (by omega)).mono ?_; rintro e w' ⟨rfl, rfl⟩))
    go_ret2
    exact ⟨ret_int2 he.out, rfl⟩
  · go_enter Try.func44, Try.ntmps44
    go_wp2_with (first | (go_at_call 43; refine (rbits_yes _ _ _ _ hv hn hn').mono ?_; rintro e w' ⟨rfl, rfl⟩) | (go_at_call 64; refine (power_any _ _ (by omega) (by omega)).mono ?_; rintro e w' ⟨rfl, rfl⟩))
    go_ret2
    exact ⟨ret_int2 he.out, rfl⟩
end Go.Proofs.Ytgekkmhkklbgcaa
