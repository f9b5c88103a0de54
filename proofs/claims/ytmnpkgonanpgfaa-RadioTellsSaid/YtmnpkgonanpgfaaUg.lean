/- The examples; the laws RadioLosses, RadioRoot, RadioLoss over data. -/
import Derived.Test.YtmnpkgonanpgfaaUf
namespace Go.Proofs.Ytmnpkgonanpgfaa
open Go.RowKit

noncomputable section
theorem ieq (x : Int) : (x == x) = true := beq_iff_eq.2 rfl
theorem beq' (x : Bool) : (x == x) = true := beq_iff_eq.2 rfl
abbrev fAl : FuncId := 21
set_option maxRecDepth 1000000 in
theorem alive_run : zflat (zans Try.prog tab ftab noC fAl [] []) = some (.bool true, []) := by kernel_rfl
def cAl : ConF := fixC fAl (.bool true)
theorem cAl_ok : ConOk Try.prog cAl := fixC_ok (zflat_ok tab_ok mixed fun_ok noC_ok alive_run .nil) rfl
/-! ### RadioLosses -/
def cT1 : ConF := orK cDs (orK cLs (orK cRd cRl))
theorem cT1_ok : ConOk Try.prog cT1 := orK_ok cDs_ok (orK_ok cLs_ok (orK_ok cRd_ok cRl_ok))
set_option maxRecDepth 1000000 in
theorem losses_run (a b c d e : Int) : zflat (zans Try.prog tab ftab cT1 5 [iI a, iI b, iI c, iI d, iI e] [(47, .b true), (51, .b true), (56, .b true), (61, .b true)]) = some (.bool true, ((dsV a b c d == dsV a b c d) = true) :: ((dsE a b c d == dsE a b c d) = true) :: ((lsV e == lsV e) = true) :: ((lsE e == lsE e) = true) :: []) := by kernel_rfl
theorem losses_all (a b c d e : Int) : Ans Try.prog 5 [iI a, iI b, iI c, iI d, iI e] (.bool true) ⟨0, [], []⟩ :=
  zflat_ok tab_ok mixed fun_ok cT1_ok (losses_run a b c d e) (.cons (ieq _) (.cons (ieq _) (.cons (ieq _) (.cons (ieq _) .nil))))
/-! ### RadioRoot -/
def cT2 : ConF := orK cAl cDs
theorem cT2_ok : ConOk Try.prog cT2 := orK_ok cAl_ok cDs_ok
theorem dsE_t {a b c d : Int} (h : dsB a b c d = true) : dsE a b c d = 0 := by unfold dsE; rw [h]
theorem dsE_f {a b c d : Int} (h : dsB a b c d = false) : dsE a b c d = 2 := by unfold dsE; rw [h]
theorem dsV_t {a b c d : Int} (h : dsB a b c d = true) : dsV a b c d = rt (sqs a b c d) := by unfold dsV; rw [h]
theorem dsV_f {a b c d : Int} (h : dsB a b c d = false) : dsV a b c d = 0 := by unfold dsV; rw [h]
theorem dsB_sym (a b c d : Int) : dsB c d a b = dsB a b c d := by
  cases h : dsB a b c d with
  | true =>
    have := (dsB_iff _ _ _ _).1 h
    exact (dsB_iff _ _ _ _).2 ⟨this.2.2.1, this.2.2.2, this.1, this.2.1⟩
  | false =>
    cases h2 : dsB c d a b with
    | false => rfl
    | true =>
      have := (dsB_iff _ _ _ _).1 h2
      rw [(dsB_iff _ _ _ _).2 ⟨this.2.2.1, this.2.2.2, this.1, this.2.1⟩] at h
      cases h
theorem sq_neg (a c : Int) : (c - a) * (c - a) = (a - c) * (a - c) := by rw [← Int.neg_mul_neg (a - c), Int.neg_sub]
theorem sqs_sym (a b c d : Int) : sqs c d a b = sqs a b c d := by
  unfold sqs
  rw [sq_neg a c, sq_neg b d]
theorem dsV_sym (a b c d : Int) : dsV c d a b = dsV a b c d := by
  unfold dsV
  rw [dsB_sym, sqs_sym]
theorem dsE_sym (a b c d : Int) : dsE c d a b = dsE a b c d := by
  unfold dsE
  rw [dsB_sym]
set_option maxRecDepth 1000000 in
theorem root1 (a b c d _x _y _s _m : Int) : zflat (zans Try.prog tab ftab cT2 7 [iI a, iI b, iI c, iI d] [(35, .b true), (43, .b true), (48, .b true)]) = some (.bool true, ((dsE a b c d != 0) = true) :: ((dsV a b c d == 0) = true) :: ((dsE c d a b == dsE a b c d) = true) :: []) := by kernel_rfl
set_option maxRecDepth 1000000 in
theorem root2 (a b c d x y s m : Int) : zflat (zans Try.prog tab ftab cT2 7 [iI a, iI b, iI c, iI d] [(35, .b false), (56, .w (iI x)), (63, .w (iI y)), (70, .w (iI s)), (72, .b true), (76, .b true), (83, .b true), (92, .b true), (98, .w (iI m)), (99, .b true), (105, .w (iI (x + y))), (106, .b true)]) = some (.bool true, ((dsE a b c d != 0) = false) :: (DV.int .i64 (if IntKind.i64.wrap (a - c) < IntKind.i64.wrap (c - a) then IntKind.i64.wrap (c - a) else IntKind.i64.wrap (a - c)) = iI x) :: (DV.int .i64 (if IntKind.i64.wrap (b - d) < IntKind.i64.wrap (d - b) then IntKind.i64.wrap (d - b) else IntKind.i64.wrap (b - d)) = iI y) :: (DV.int .i64 (IntKind.i64.wrap (IntKind.i64.wrap (x * x) + IntKind.i64.wrap (y * y))) = iI s) :: ((dsE c d a b == 0) = true) :: ((dsV c d a b == dsV a b c d) = true) :: (decide (IntKind.i64.wrap (dsV a b c d * dsV a b c d) ≤ s) = true) :: (decide (IntKind.i64.wrap (IntKind.i64.wrap (dsV a b c d + 1) * IntKind.i64.wrap (dsV a b c d + 1)) > s) = true) :: (DV.int .i64 (if x < y then y else x) = iI m) :: (decide (dsV a b c d ≥ m) = true) :: (DV.int .i64 (IntKind.i64.wrap (x + y)) = iI (x + y)) :: (decide (dsV a b c d ≤ x + y) = true) :: []) := by kernel_rfl
theorem abs_at {a c : Int} (h1 : -10000 ≤ a ∧ a ≤ 10000) (h2 : -10000 ≤ c ∧ c ≤ 10000) : DV.int .i64 (if IntKind.i64.wrap (a - c) < IntKind.i64.wrap (c - a) then IntKind.i64.wrap (c - a) else IntKind.i64.wrap (a - c)) = iI (max (a - c) (c - a)) := by
  rw [wrapZ (x := a - c) (by omega) (by omega), wrapZ (x := c - a) (by omega) (by omega)]
  congr 1
  split <;> omega
theorem abs_sq (a c : Int) : max (a - c) (c - a) * max (a - c) (c - a) = (a - c) * (a - c) := by
  rcases Int.le_total (a - c) (c - a) with h | h
  · rw [Int.max_eq_right h, sq_neg]
  · rw [Int.max_eq_left h]
set_option maxHeartbeats 1000000 in
theorem root_all (a b c d : Int) : Ans Try.prog 7 [iI a, iI b, iI c, iI d] (.bool true) ⟨0, [], []⟩ := by
  cases hb : dsB a b c d with
  | false => exact zflat_ok tab_ok mixed fun_ok cT2_ok (root1 a b c d 0 0 0 0) (.cons (by rw [dsE_f hb]; rfl) (.cons (by rw [dsV_f hb]; rfl) (.cons (by rw [dsE_sym]; exact ieq _) .nil)))
  | true =>
    obtain ⟨h1, h2, h3, h4⟩ := (dsB_iff a b c d).1 hb
    have hs := sqs_in hb
    obtain ⟨r0, r1, r2⟩ := rt_ok hs.1
    have rl := rt_le hs.1 hs.2
    have ex := abs_sq a c
    have ey := abs_sq b d
    have qx := sqd h1 h3
    have qy := sqd h2 h4
    have es : sqs a b c d = (a - c) * (a - c) + (b - d) * (b - d) := rfl
    have ax := abs_at h1 h3
    have ay := abs_at h2 h4
    have x0 : 0 ≤ max (a - c) (c - a) ∧ max (a - c) (c - a) ≤ 20000 := by omega
    have y0 : 0 ≤ max (b - d) (d - b) ∧ max (b - d) (d - b) ≤ 20000 := by omega
    generalize max (a - c) (c - a) = x at ex ax x0
    generalize max (b - d) (d - b) = y at ey ay y0
    have k1 := sq_lt (a := x) (b := rt (sqs a b c d) + 1) (by omega) (by omega) x0.1
    have k2 := sq_lt (a := y) (b := rt (sqs a b c d) + 1) (by omega) (by omega) y0.1
    have k3 : rt (sqs a b c d) < x + y + 1 := by
      refine sq_lt (by omega) ?_ r0
      have e1 : (x + y + 1) * (x + y + 1) = x * x + y * y + 2 * (x * y) + 2 * x + 2 * y + 1 := by
        simp only [Int.add_mul, Int.mul_add, Int.mul_comm y x]
        omega
      have := Int.mul_nonneg x0.1 y0.1
      omega
    have k4 : 0 ≤ rt (sqs a b c d) * rt (sqs a b c d) := Int.mul_nonneg r0 r0
    have k5 : (rt (sqs a b c d) + 1) * (rt (sqs a b c d) + 1) ≤ 28285 * 28285 := sq_le (by omega) (by omega)
    have k6 : 0 ≤ (rt (sqs a b c d) + 1) * (rt (sqs a b c d) + 1) := Int.mul_nonneg (by omega) (by omega)
    refine zflat_ok tab_ok mixed fun_ok cT2_ok (root2 a b c d x y (sqs a b c d) (if x < y then y else x)) (.cons (by rw [dsE_t hb]; rfl) (.cons ax (.cons ay (.cons ?_ (.cons (by rw [dsE_sym, dsE_t hb]; rfl) (.cons (by rw [dsV_sym]; exact ieq _) (.cons ?_ (.cons ?_ (.cons rfl (.cons ?_ (.cons ?_ (.cons ?_ .nil))))))))))))
    · rw [ex, ey, wrapZ (x := (a - c) * (a - c)) (by omega) (by omega), wrapZ (x := (b - d) * (b - d)) (by omega) (by omega), wrapZ (by omega) (by omega)]
      rfl
    · rw [dsV_t hb, wrapZ (by omega) (by omega)]
      exact decide_eq_true r1
    · rw [dsV_t hb, wrapZ (x := rt (sqs a b c d) + 1) (by omega) (by omega), wrapZ (by omega) (by omega)]
      exact decide_eq_true r2
    · rw [dsV_t hb]
      exact decide_eq_true (by split <;> omega)
    · rw [wrapZ (by omega) (by omega)]
    · rw [dsV_t hb]
      exact decide_eq_true (by omega)
/-! ### RadioLoss -/
def cT3 : ConF := orK cAl cLs
theorem cT3_ok : ConOk Try.prog cT3 := orK_ok cAl_ok cLs_ok
theorem lsE_t {d : Int} (h : inB d 0 30000 = true) : lsE d = 0 := by unfold lsE; rw [h]
theorem lsE_f {d : Int} (h : inB d 0 30000 = false) : lsE d = 2 := by unfold lsE; rw [h]
theorem lsV_t {d : Int} (h : inB d 0 30000 = true) : lsV d = ls0 d := by unfold lsV; rw [h]
theorem lsV_f {d : Int} (h : inB d 0 30000 = false) : lsV d = 0 := by unfold lsV; rw [h]
theorem log2_mono {a b : Nat} (h0 : a ≠ 0) (h : a ≤ b) : Nat.log2 a ≤ Nat.log2 b := (Nat.le_log2 (by omega)).2 (Nat.le_trans (Nat.log2_self_le h0) h)
theorem ls0_mono {a b : Int} (h : a ≤ b) (hb : b ≤ 30000) : ls0 a ≤ ls0 b := by
  have e := e4_in (d := a) (by omega)
  have h1 : (max a 1).toNat ≤ (max b 1).toNat := by omega
  have h2 : e4 a ≤ e4 b := by
    unfold e4
    exact Nat.mul_le_mul (Nat.mul_le_mul h1 h1) (Nat.mul_le_mul h1 h1)
  have := log2_mono (by omega) h2
  unfold ls0
  omega
theorem ls0_two {a : Int} (h : 1 ≤ a) (h1 : a ≤ 30000) : ls0 (2 * a) = ls0 a + 60 := by
  have e := e4_in (d := a) h1
  have e1 : (max (2 * a) 1).toNat = 2 * (max a 1).toNat := by omega
  have e2 : e4 (2 * a) = 2 * (2 * (2 * (2 * e4 a))) := by
    unfold e4
    rw [e1]
    generalize (max a 1).toNat = n
    simp only [Nat.mul_assoc, Nat.mul_left_comm n 2]
  have e3 : Nat.log2 (e4 (2 * a)) = Nat.log2 (e4 a) + 4 := by
    rw [e2, Nat.log2_two_mul (by omega), Nat.log2_two_mul (by omega), Nat.log2_two_mul (by omega), Nat.log2_two_mul (by omega)]
  unfold ls0
  rw [e3]
  omega
set_option maxRecDepth 1000000 in
theorem loss1 (a b : Int) : zflat (zans Try.prog tab ftab cT3 8 [iI a, iI b] [(24, .b true), (36, .b false), (39, .b true), (44, .b true)]) = some (.bool true, ((lsE a != 0) = true) :: ((lsE a == 0) = false) :: ((lsV a == 0) = true) :: ((lsE b == 0) = true) :: []) := by kernel_rfl
set_option maxRecDepth 1000000 in
theorem loss2 (a b : Int) : zflat (zans Try.prog tab ftab cT3 8 [iI a, iI b] [(24, .b true), (36, .b false), (39, .b true), (44, .b false), (47, .b true)]) = some (.bool true, ((lsE a != 0) = true) :: ((lsE a == 0) = false) :: ((lsV a == 0) = true) :: ((lsE b == 0) = false) :: ((lsV b == 0) = true) :: []) := by kernel_rfl
set_option maxRecDepth 1000000 in
theorem loss3 (a b : Int) : zflat (zans Try.prog tab ftab cT3 8 [iI a, iI b] [(24, .b false), (27, .b true), (36, .b true), (44, .b false), (47, .b true)]) = some (.bool true, ((lsE a != 0) = false) :: ((lsE b != 0) = true) :: ((lsE a == 0) = true) :: ((lsE b == 0) = false) :: ((lsV b == 0) = true) :: []) := by kernel_rfl
set_option maxRecDepth 1000000 in
theorem lossx1 (a b : Int) : zflat (zans Try.prog tab ftab cT3 8 [iI a, iI b] [(24, .b false), (27, .b false), (52, .b true), (56, .b false), (61, .b true), (65, .b false), (70, .b false), (74, .w (iI (2 * a))), (79, .b true)]) = some (.bool true, ((lsE a != 0) = false) :: ((lsE b != 0) = false) :: ((decide (a ≤ b)) = true) :: ((decide (lsV a > lsV b)) = false) :: ((decide (b ≤ a)) = true) :: ((decide (lsV b > lsV a)) = false) :: ((decide (lsV a < 400)) = false) :: (DV.int .i64 (IntKind.i64.wrap (2 * a)) = iI (2 * a)) :: ((a == 0) = true) :: []) := by kernel_rfl
set_option maxRecDepth 1000000 in
theorem lossx2 (a b : Int) : zflat (zans Try.prog tab ftab cT3 8 [iI a, iI b] [(24, .b false), (27, .b false), (52, .b true), (56, .b false), (61, .b true), (65, .b false), (70, .b false), (74, .w (iI (2 * a))), (79, .b false), (82, .b true), (85, .w (iI (2 * a))), (86, .b true)]) = some (.bool true, ((lsE a != 0) = false) :: ((lsE b != 0) = false) :: ((decide (a ≤ b)) = true) :: ((decide (lsV a > lsV b)) = false) :: ((decide (b ≤ a)) = true) :: ((decide (lsV b > lsV a)) = false) :: ((decide (lsV a < 400)) = false) :: (DV.int .i64 (IntKind.i64.wrap (2 * a)) = iI (2 * a)) :: ((a == 0) = false) :: ((lsE (2 * a) != 0) = true) :: (DV.int .i64 (IntKind.i64.wrap (2 * a)) = iI (2 * a)) :: ((decide (2 * a > 30000)) = true) :: []) := by kernel_rfl
set_option maxRecDepth 1000000 in
theorem lossx3 (a b : Int) : zflat (zans Try.prog tab ftab cT3 8 [iI a, iI b] [(24, .b false), (27, .b false), (52, .b true), (56, .b false), (61, .b true), (65, .b false), (70, .b false), (74, .w (iI (2 * a))), (79, .b false), (82, .b false), (91, .b true), (95, .w (iI (lsV a + 60))), (96, .b true)]) = some (.bool true, ((lsE a != 0) = false) :: ((lsE b != 0) = false) :: ((decide (a ≤ b)) = true) :: ((decide (lsV a > lsV b)) = false) :: ((decide (b ≤ a)) = true) :: ((decide (lsV b > lsV a)) = false) :: ((decide (lsV a < 400)) = false) :: (DV.int .i64 (IntKind.i64.wrap (2 * a)) = iI (2 * a)) :: ((a == 0) = false) :: ((lsE (2 * a) != 0) = false) :: ((lsE (2 * a) == 0) = true) :: (DV.int .i64 (IntKind.i64.wrap (lsV a + 60)) = iI (lsV a + 60)) :: ((lsV (2 * a) == lsV a + 60) = true) :: []) := by kernel_rfl
set_option maxRecDepth 1000000 in
theorem lossy1 (a b : Int) : zflat (zans Try.prog tab ftab cT3 8 [iI a, iI b] [(24, .b false), (27, .b false), (52, .b true), (56, .b false), (61, .b false), (70, .b false), (74, .w (iI (2 * a))), (79, .b true)]) = some (.bool true, ((lsE a != 0) = false) :: ((lsE b != 0) = false) :: ((decide (a ≤ b)) = true) :: ((decide (lsV a > lsV b)) = false) :: ((decide (b ≤ a)) = false) :: ((decide (lsV a < 400)) = false) :: (DV.int .i64 (IntKind.i64.wrap (2 * a)) = iI (2 * a)) :: ((a == 0) = true) :: []) := by kernel_rfl
set_option maxRecDepth 1000000 in
theorem lossy2 (a b : Int) : zflat (zans Try.prog tab ftab cT3 8 [iI a, iI b] [(24, .b false), (27, .b false), (52, .b true), (56, .b false), (61, .b false), (70, .b false), (74, .w (iI (2 * a))), (79, .b false), (82, .b true), (85, .w (iI (2 * a))), (86, .b true)]) = some (.bool true, ((lsE a != 0) = false) :: ((lsE b != 0) = false) :: ((decide (a ≤ b)) = true) :: ((decide (lsV a > lsV b)) = false) :: ((decide (b ≤ a)) = false) :: ((decide (lsV a < 400)) = false) :: (DV.int .i64 (IntKind.i64.wrap (2 * a)) = iI (2 * a)) :: ((a == 0) = false) :: ((lsE (2 * a) != 0) = true) :: (DV.int .i64 (IntKind.i64.wrap (2 * a)) = iI (2 * a)) :: ((decide (2 * a > 30000)) = true) :: []) := by kernel_rfl
set_option maxRecDepth 1000000 in
theorem lossy3 (a b : Int) : zflat (zans Try.prog tab ftab cT3 8 [iI a, iI b] [(24, .b false), (27, .b false), (52, .b true), (56, .b false), (61, .b false), (70, .b false), (74, .w (iI (2 * a))), (79, .b false), (82, .b false), (91, .b true), (95, .w (iI (lsV a + 60))), (96, .b true)]) = some (.bool true, ((lsE a != 0) = false) :: ((lsE b != 0) = false) :: ((decide (a ≤ b)) = true) :: ((decide (lsV a > lsV b)) = false) :: ((decide (b ≤ a)) = false) :: ((decide (lsV a < 400)) = false) :: (DV.int .i64 (IntKind.i64.wrap (2 * a)) = iI (2 * a)) :: ((a == 0) = false) :: ((lsE (2 * a) != 0) = false) :: ((lsE (2 * a) == 0) = true) :: (DV.int .i64 (IntKind.i64.wrap (lsV a + 60)) = iI (lsV a + 60)) :: ((lsV (2 * a) == lsV a + 60) = true) :: []) := by kernel_rfl
set_option maxRecDepth 1000000 in
theorem lossz1 (a b : Int) : zflat (zans Try.prog tab ftab cT3 8 [iI a, iI b] [(24, .b false), (27, .b false), (52, .b false), (61, .b true), (65, .b false), (70, .b false), (74, .w (iI (2 * a))), (79, .b true)]) = some (.bool true, ((lsE a != 0) = false) :: ((lsE b != 0) = false) :: ((decide (a ≤ b)) = false) :: ((decide (b ≤ a)) = true) :: ((decide (lsV b > lsV a)) = false) :: ((decide (lsV a < 400)) = false) :: (DV.int .i64 (IntKind.i64.wrap (2 * a)) = iI (2 * a)) :: ((a == 0) = true) :: []) := by kernel_rfl
set_option maxRecDepth 1000000 in
theorem lossz2 (a b : Int) : zflat (zans Try.prog tab ftab cT3 8 [iI a, iI b] [(24, .b false), (27, .b false), (52, .b false), (61, .b true), (65, .b false), (70, .b false), (74, .w (iI (2 * a))), (79, .b false), (82, .b true), (85, .w (iI (2 * a))), (86, .b true)]) = some (.bool true, ((lsE a != 0) = false) :: ((lsE b != 0) = false) :: ((decide (a ≤ b)) = false) :: ((decide (b ≤ a)) = true) :: ((decide (lsV b > lsV a)) = false) :: ((decide (lsV a < 400)) = false) :: (DV.int .i64 (IntKind.i64.wrap (2 * a)) = iI (2 * a)) :: ((a == 0) = false) :: ((lsE (2 * a) != 0) = true) :: (DV.int .i64 (IntKind.i64.wrap (2 * a)) = iI (2 * a)) :: ((decide (2 * a > 30000)) = true) :: []) := by kernel_rfl
set_option maxRecDepth 1000000 in
theorem lossz3 (a b : Int) : zflat (zans Try.prog tab ftab cT3 8 [iI a, iI b] [(24, .b false), (27, .b false), (52, .b false), (61, .b true), (65, .b false), (70, .b false), (74, .w (iI (2 * a))), (79, .b false), (82, .b false), (91, .b true), (95, .w (iI (lsV a + 60))), (96, .b true)]) = some (.bool true, ((lsE a != 0) = false) :: ((lsE b != 0) = false) :: ((decide (a ≤ b)) = false) :: ((decide (b ≤ a)) = true) :: ((decide (lsV b > lsV a)) = false) :: ((decide (lsV a < 400)) = false) :: (DV.int .i64 (IntKind.i64.wrap (2 * a)) = iI (2 * a)) :: ((a == 0) = false) :: ((lsE (2 * a) != 0) = false) :: ((lsE (2 * a) == 0) = true) :: (DV.int .i64 (IntKind.i64.wrap (lsV a + 60)) = iI (lsV a + 60)) :: ((lsV (2 * a) == lsV a + 60) = true) :: []) := by kernel_rfl
theorem loss_all (a b : Int) : Ans Try.prog 8 [iI a, iI b] (.bool true) ⟨0, [], []⟩ := by
  cases ha : inB a 0 30000 with
  | false =>
    cases hb : inB b 0 30000 with
    | true => exact zflat_ok tab_ok mixed fun_ok cT3_ok (loss1 a b) (.cons (by rw [lsE_f ha]; rfl) (.cons (by rw [lsE_f ha]; rfl) (.cons (by rw [lsV_f ha]; rfl) (.cons (by rw [lsE_t hb]; rfl) .nil))))
    | false => exact zflat_ok tab_ok mixed fun_ok cT3_ok (loss2 a b) (.cons (by rw [lsE_f ha]; rfl) (.cons (by rw [lsE_f ha]; rfl) (.cons (by rw [lsV_f ha]; rfl) (.cons (by rw [lsE_f hb]; rfl) (.cons (by rw [lsV_f hb]; rfl) .nil)))))
  | true =>
    cases hb : inB b 0 30000 with
    | false => exact zflat_ok tab_ok mixed fun_ok cT3_ok (loss3 a b) (.cons (by rw [lsE_t ha]; rfl) (.cons (by rw [lsE_f hb]; rfl) (.cons (by rw [lsE_t ha]; rfl) (.cons (by rw [lsE_f hb]; rfl) (.cons (by rw [lsV_f hb]; rfl) .nil)))))
    | true =>
      have ia := (inB_iff _ _ _).1 ha
      have ib := (inB_iff _ _ _).1 hb
      have na : (lsE a != 0) = false := by rw [lsE_t ha]; rfl
      have nb : (lsE b != 0) = false := by rw [lsE_t hb]; rfl
      have l4 : decide (lsV a < 400) = false := by
        rw [lsV_t ha]
        have := ls0_in ia.2
        exact decide_eq_false (by omega)
      have tw : DV.int .i64 (IntKind.i64.wrap (2 * a)) = iI (2 * a) := congrArg (DV.int .i64) (wrapZ (by omega) (by omega))
      have m1 : a ≤ b → decide (lsV a > lsV b) = false := fun h => by
        rw [lsV_t ha, lsV_t hb]
        have := ls0_mono h ib.2
        exact decide_eq_false (by omega)
      have m2 : b ≤ a → decide (lsV b > lsV a) = false := fun h => by
        rw [lsV_t ha, lsV_t hb]
        have := ls0_mono h ia.2
        exact decide_eq_false (by omega)
      have z1 : a ≠ 0 → (a == 0) = false := fun h => beq_eq_false_iff_ne.2 h
      have d1 : inB (2 * a) 0 30000 = false → decide (2 * a > 30000) = true := fun h => decide_eq_true (by
        by_cases q : 2 * a > 30000
        · exact q
        · rw [(inB_iff _ _ _).2 ⟨by omega, by omega⟩] at h; cases h)
      have d2 : DV.int .i64 (IntKind.i64.wrap (lsV a + 60)) = iI (lsV a + 60) := by
        rw [lsV_t ha]
        have := ls0_in ia.2
        exact congrArg (DV.int .i64) (wrapZ (by omega) (by omega))
      have d3 : a ≠ 0 → inB (2 * a) 0 30000 = true → (lsV (2 * a) == lsV a + 60) = true := fun h q => by
        rw [lsV_t ha, lsV_t q, ls0_two (by omega) ia.2]
        exact ieq _
      by_cases h1 : a ≤ b
      · by_cases h2 : b ≤ a
        · by_cases h3 : a = 0
          · exact zflat_ok tab_ok mixed fun_ok cT3_ok (lossx1 a b) (.cons na (.cons nb (.cons (decide_eq_true h1) (.cons (m1 h1) (.cons (decide_eq_true h2) (.cons (m2 h2) (.cons l4 (.cons tw (.cons (by rw [h3]; rfl) .nil)))))))))
          · cases h4 : inB (2 * a) 0 30000 with
            | false => exact zflat_ok tab_ok mixed fun_ok cT3_ok (lossx2 a b) (.cons na (.cons nb (.cons (decide_eq_true h1) (.cons (m1 h1) (.cons (decide_eq_true h2) (.cons (m2 h2) (.cons l4 (.cons tw (.cons (z1 h3) (.cons (by rw [lsE_f h4]; rfl) (.cons tw (.cons (d1 h4) .nil))))))))))))
            | true => exact zflat_ok tab_ok mixed fun_ok cT3_ok (lossx3 a b) (.cons na (.cons nb (.cons (decide_eq_true h1) (.cons (m1 h1) (.cons (decide_eq_true h2) (.cons (m2 h2) (.cons l4 (.cons tw (.cons (z1 h3) (.cons (by rw [lsE_t h4]; rfl) (.cons (by rw [lsE_t h4]; rfl) (.cons d2 (.cons (d3 h3 h4) .nil)))))))))))))
        · by_cases h3 : a = 0
          · exact zflat_ok tab_ok mixed fun_ok cT3_ok (lossy1 a b) (.cons na (.cons nb (.cons (decide_eq_true h1) (.cons (m1 h1) (.cons (decide_eq_false h2) (.cons l4 (.cons tw (.cons (by rw [h3]; rfl) .nil))))))))
          · cases h4 : inB (2 * a) 0 30000 with
            | false => exact zflat_ok tab_ok mixed fun_ok cT3_ok (lossy2 a b) (.cons na (.cons nb (.cons (decide_eq_true h1) (.cons (m1 h1) (.cons (decide_eq_false h2) (.cons l4 (.cons tw (.cons (z1 h3) (.cons (by rw [lsE_f h4]; rfl) (.cons tw (.cons (d1 h4) .nil)))))))))))
            | true => exact zflat_ok tab_ok mixed fun_ok cT3_ok (lossy3 a b) (.cons na (.cons nb (.cons (decide_eq_true h1) (.cons (m1 h1) (.cons (decide_eq_false h2) (.cons l4 (.cons tw (.cons (z1 h3) (.cons (by rw [lsE_t h4]; rfl) (.cons (by rw [lsE_t h4]; rfl) (.cons d2 (.cons (d3 h3 h4) .nil))))))))))))
      · by_cases h3 : a = 0
        · exact zflat_ok tab_ok mixed fun_ok cT3_ok (lossz1 a b) (.cons na (.cons nb (.cons (decide_eq_false h1) (.cons (decide_eq_true (by omega)) (.cons (m2 (by omega)) (.cons l4 (.cons tw (.cons (by rw [h3]; rfl) .nil))))))))
        · cases h4 : inB (2 * a) 0 30000 with
          | false => exact zflat_ok tab_ok mixed fun_ok cT3_ok (lossz2 a b) (.cons na (.cons nb (.cons (decide_eq_false h1) (.cons (decide_eq_true (by omega)) (.cons (m2 (by omega)) (.cons l4 (.cons tw (.cons (z1 h3) (.cons (by rw [lsE_f h4]; rfl) (.cons tw (.cons (d1 h4) .nil)))))))))))
          | true => exact zflat_ok tab_ok mixed fun_ok cT3_ok (lossz3 a b) (.cons na (.cons nb (.cons (decide_eq_false h1) (.cons (decide_eq_true (by omega)) (.cons (m2 (by omega)) (.cons l4 (.cons tw (.cons (z1 h3) (.cons (by rw [lsE_t h4]; rfl) (.cons (by rw [lsE_t h4]; rfl) (.cons d2 (.cons (d3 h3 h4) .nil))))))))))))
end
end Go.Proofs.Ytmnpkgonanpgfaa
