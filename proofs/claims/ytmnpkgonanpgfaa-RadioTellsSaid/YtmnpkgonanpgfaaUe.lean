/- Losses: contracts, of the program and of the reference. -/
import Derived.Test.YtmnpkgonanpgfaaUd
namespace Go.Proofs.Ytmnpkgonanpgfaa
open Go.RowKit

noncomputable section
/-! ### bits.Len64 -/
abbrev fLn : FuncId := 44
def idxStr : List Oper → Option ByteArray
  | [] => none
  | o :: l => match o.op with
    | .index _ (.const (.string s)) _ => some s
    | _ => idxStr l
def cstr : Code → Option ByteArray
  | .seq a b => match cstr a with
    | some s => some s
    | none => cstr b
  | .region _ ops _ => idxStr ops.toList
  | .scope a => cstr a
  | _ => none
def tabS : ByteArray := (cstr (bodyOf ftab fLn)).getD .empty
def bl (b : Nat) : Nat := match b with
  | 0 => 0
  | b + 1 => Nat.log2 (b + 1) + 1
set_option maxRecDepth 1000000 in
theorem tabS_all : ((List.range 256).all fun b => match nth tabS.data.toList b with
    | some c => Nat.beq c.toNat (bl b)
    | none => false) = true := by kernel_rfl
theorem tabS_at {b : Nat} (h : b < 256) : ∃ c : UInt8, decide ((0 : Int) ≤ (b : Int)) = true ∧ nth tabS.data.toList ((b : Int).toNat) = some c ∧ (c.toNat : Int) = (bl b : Int) := by
  have := List.all_eq_true.1 tabS_all b (List.mem_range.2 h)
  split at this
  · rename_i c hc
    exact ⟨c, decide_eq_true (by omega), by rw [Int.toNat_natCast]; exact hc, by rw [Nat.eq_of_beq_eq_true this]⟩
  · cases this
set_option maxRecDepth 1000000 in
theorem ln000 (n _n1 _n2 _n3 z : Nat) : zflat (zans Try.prog tab ftab noC fLn [.int .u64 (n : Int)] [(4, .b false), (8, .b false), (14, .b false), (21, .w (.int .u8 (n : Int))), (22, .n (.int .u8 (z : Int))), (23, .w (iN z)), (24, .w (iN (0 + z)))]) = some (iN (0 + z), ((decide ((n : Int) ≥ 4294967296)) = false) :: ((decide ((n : Int) ≥ 65536)) = false) :: ((decide ((n : Int) ≥ 256)) = false) :: (DV.int .u8 (IntKind.u8.wrap (n : Int)) = .int .u8 (n : Int)) :: (∃ c : UInt8, decide (0 ≤ (n : Int)) = true ∧ nth tabS.data.toList ((n : Int).toNat) = some c ∧ (c.toNat : Int) = (z : Int)) :: (DV.int .i64 (IntKind.i64.wrap (z : Int)) = iN z) :: (DV.int .i64 (IntKind.i64.wrap (0 + (z : Int))) = iN (0 + z)) :: []) := by kernel_rfl
set_option maxRecDepth 1000000 in
theorem ln001 (n _n1 _n2 n3 z : Nat) : zflat (zans Try.prog tab ftab noC fLn [.int .u64 (n : Int)] [(4, .b false), (8, .b false), (14, .b true), (16, .w (.int .u64 (n3 : Int))), (21, .w (.int .u8 (n3 : Int))), (22, .n (.int .u8 (z : Int))), (23, .w (iN z)), (24, .w (iN (8 + z)))]) = some (iN (8 + z), ((decide ((n : Int) ≥ 4294967296)) = false) :: ((decide ((n : Int) ≥ 65536)) = false) :: ((decide ((n : Int) ≥ 256)) = true) :: (DV.int .u64 (shrD .u64 (n : Int) 8) = .int .u64 (n3 : Int)) :: (DV.int .u8 (IntKind.u8.wrap (n3 : Int)) = .int .u8 (n3 : Int)) :: (∃ c : UInt8, decide (0 ≤ (n3 : Int)) = true ∧ nth tabS.data.toList ((n3 : Int).toNat) = some c ∧ (c.toNat : Int) = (z : Int)) :: (DV.int .i64 (IntKind.i64.wrap (z : Int)) = iN z) :: (DV.int .i64 (IntKind.i64.wrap (8 + (z : Int))) = iN (8 + z)) :: []) := by kernel_rfl
set_option maxRecDepth 1000000 in
theorem ln010 (n _n1 n2 _n3 z : Nat) : zflat (zans Try.prog tab ftab noC fLn [.int .u64 (n : Int)] [(4, .b false), (8, .b true), (10, .w (.int .u64 (n2 : Int))), (14, .b false), (21, .w (.int .u8 (n2 : Int))), (22, .n (.int .u8 (z : Int))), (23, .w (iN z)), (24, .w (iN (16 + z)))]) = some (iN (16 + z), ((decide ((n : Int) ≥ 4294967296)) = false) :: ((decide ((n : Int) ≥ 65536)) = true) :: (DV.int .u64 (shrD .u64 (n : Int) 16) = .int .u64 (n2 : Int)) :: ((decide ((n2 : Int) ≥ 256)) = false) :: (DV.int .u8 (IntKind.u8.wrap (n2 : Int)) = .int .u8 (n2 : Int)) :: (∃ c : UInt8, decide (0 ≤ (n2 : Int)) = true ∧ nth tabS.data.toList ((n2 : Int).toNat) = some c ∧ (c.toNat : Int) = (z : Int)) :: (DV.int .i64 (IntKind.i64.wrap (z : Int)) = iN z) :: (DV.int .i64 (IntKind.i64.wrap (16 + (z : Int))) = iN (16 + z)) :: []) := by kernel_rfl
set_option maxRecDepth 1000000 in
theorem ln011 (n _n1 n2 n3 z : Nat) : zflat (zans Try.prog tab ftab noC fLn [.int .u64 (n : Int)] [(4, .b false), (8, .b true), (10, .w (.int .u64 (n2 : Int))), (14, .b true), (16, .w (.int .u64 (n3 : Int))), (21, .w (.int .u8 (n3 : Int))), (22, .n (.int .u8 (z : Int))), (23, .w (iN z)), (24, .w (iN (24 + z)))]) = some (iN (24 + z), ((decide ((n : Int) ≥ 4294967296)) = false) :: ((decide ((n : Int) ≥ 65536)) = true) :: (DV.int .u64 (shrD .u64 (n : Int) 16) = .int .u64 (n2 : Int)) :: ((decide ((n2 : Int) ≥ 256)) = true) :: (DV.int .u64 (shrD .u64 (n2 : Int) 8) = .int .u64 (n3 : Int)) :: (DV.int .u8 (IntKind.u8.wrap (n3 : Int)) = .int .u8 (n3 : Int)) :: (∃ c : UInt8, decide (0 ≤ (n3 : Int)) = true ∧ nth tabS.data.toList ((n3 : Int).toNat) = some c ∧ (c.toNat : Int) = (z : Int)) :: (DV.int .i64 (IntKind.i64.wrap (z : Int)) = iN z) :: (DV.int .i64 (IntKind.i64.wrap (24 + (z : Int))) = iN (24 + z)) :: []) := by kernel_rfl
set_option maxRecDepth 1000000 in
theorem ln100 (n n1 _n2 _n3 z : Nat) : zflat (zans Try.prog tab ftab noC fLn [.int .u64 (n : Int)] [(4, .b true), (6, .w (.int .u64 (n1 : Int))), (8, .b false), (14, .b false), (21, .w (.int .u8 (n1 : Int))), (22, .n (.int .u8 (z : Int))), (23, .w (iN z)), (24, .w (iN (32 + z)))]) = some (iN (32 + z), ((decide ((n : Int) ≥ 4294967296)) = true) :: (DV.int .u64 (shrD .u64 (n : Int) 32) = .int .u64 (n1 : Int)) :: ((decide ((n1 : Int) ≥ 65536)) = false) :: ((decide ((n1 : Int) ≥ 256)) = false) :: (DV.int .u8 (IntKind.u8.wrap (n1 : Int)) = .int .u8 (n1 : Int)) :: (∃ c : UInt8, decide (0 ≤ (n1 : Int)) = true ∧ nth tabS.data.toList ((n1 : Int).toNat) = some c ∧ (c.toNat : Int) = (z : Int)) :: (DV.int .i64 (IntKind.i64.wrap (z : Int)) = iN z) :: (DV.int .i64 (IntKind.i64.wrap (32 + (z : Int))) = iN (32 + z)) :: []) := by kernel_rfl
set_option maxRecDepth 1000000 in
theorem ln101 (n n1 _n2 n3 z : Nat) : zflat (zans Try.prog tab ftab noC fLn [.int .u64 (n : Int)] [(4, .b true), (6, .w (.int .u64 (n1 : Int))), (8, .b false), (14, .b true), (16, .w (.int .u64 (n3 : Int))), (21, .w (.int .u8 (n3 : Int))), (22, .n (.int .u8 (z : Int))), (23, .w (iN z)), (24, .w (iN (40 + z)))]) = some (iN (40 + z), ((decide ((n : Int) ≥ 4294967296)) = true) :: (DV.int .u64 (shrD .u64 (n : Int) 32) = .int .u64 (n1 : Int)) :: ((decide ((n1 : Int) ≥ 65536)) = false) :: ((decide ((n1 : Int) ≥ 256)) = true) :: (DV.int .u64 (shrD .u64 (n1 : Int) 8) = .int .u64 (n3 : Int)) :: (DV.int .u8 (IntKind.u8.wrap (n3 : Int)) = .int .u8 (n3 : Int)) :: (∃ c : UInt8, decide (0 ≤ (n3 : Int)) = true ∧ nth tabS.data.toList ((n3 : Int).toNat) = some c ∧ (c.toNat : Int) = (z : Int)) :: (DV.int .i64 (IntKind.i64.wrap (z : Int)) = iN z) :: (DV.int .i64 (IntKind.i64.wrap (40 + (z : Int))) = iN (40 + z)) :: []) := by kernel_rfl
set_option maxRecDepth 1000000 in
theorem ln110 (n n1 n2 _n3 z : Nat) : zflat (zans Try.prog tab ftab noC fLn [.int .u64 (n : Int)] [(4, .b true), (6, .w (.int .u64 (n1 : Int))), (8, .b true), (10, .w (.int .u64 (n2 : Int))), (14, .b false), (21, .w (.int .u8 (n2 : Int))), (22, .n (.int .u8 (z : Int))), (23, .w (iN z)), (24, .w (iN (48 + z)))]) = some (iN (48 + z), ((decide ((n : Int) ≥ 4294967296)) = true) :: (DV.int .u64 (shrD .u64 (n : Int) 32) = .int .u64 (n1 : Int)) :: ((decide ((n1 : Int) ≥ 65536)) = true) :: (DV.int .u64 (shrD .u64 (n1 : Int) 16) = .int .u64 (n2 : Int)) :: ((decide ((n2 : Int) ≥ 256)) = false) :: (DV.int .u8 (IntKind.u8.wrap (n2 : Int)) = .int .u8 (n2 : Int)) :: (∃ c : UInt8, decide (0 ≤ (n2 : Int)) = true ∧ nth tabS.data.toList ((n2 : Int).toNat) = some c ∧ (c.toNat : Int) = (z : Int)) :: (DV.int .i64 (IntKind.i64.wrap (z : Int)) = iN z) :: (DV.int .i64 (IntKind.i64.wrap (48 + (z : Int))) = iN (48 + z)) :: []) := by kernel_rfl
set_option maxRecDepth 1000000 in
theorem ln111 (n n1 n2 n3 z : Nat) : zflat (zans Try.prog tab ftab noC fLn [.int .u64 (n : Int)] [(4, .b true), (6, .w (.int .u64 (n1 : Int))), (8, .b true), (10, .w (.int .u64 (n2 : Int))), (14, .b true), (16, .w (.int .u64 (n3 : Int))), (21, .w (.int .u8 (n3 : Int))), (22, .n (.int .u8 (z : Int))), (23, .w (iN z)), (24, .w (iN (56 + z)))]) = some (iN (56 + z), ((decide ((n : Int) ≥ 4294967296)) = true) :: (DV.int .u64 (shrD .u64 (n : Int) 32) = .int .u64 (n1 : Int)) :: ((decide ((n1 : Int) ≥ 65536)) = true) :: (DV.int .u64 (shrD .u64 (n1 : Int) 16) = .int .u64 (n2 : Int)) :: ((decide ((n2 : Int) ≥ 256)) = true) :: (DV.int .u64 (shrD .u64 (n2 : Int) 8) = .int .u64 (n3 : Int)) :: (DV.int .u8 (IntKind.u8.wrap (n3 : Int)) = .int .u8 (n3 : Int)) :: (∃ c : UInt8, decide (0 ≤ (n3 : Int)) = true ∧ nth tabS.data.toList ((n3 : Int).toNat) = some c ∧ (c.toNat : Int) = (z : Int)) :: (DV.int .i64 (IntKind.i64.wrap (z : Int)) = iN z) :: (DV.int .i64 (IntKind.i64.wrap (56 + (z : Int))) = iN (56 + z)) :: []) := by kernel_rfl
theorem shr_at (n k : Nat) (hk : k ≤ 64) : DV.int .u64 (shrD .u64 (n : Int) (k : Int)) = .int .u64 ((n / 2 ^ k : Nat) : Int) := by
  unfold shrD
  have e : ((2 : Int) ^ k) = ((2 ^ k : Nat) : Int) := by simp
  rw [Int.toNat_natCast, Nat.min_eq_left (show k ≤ IntKind.u64.bits from hk), e, Int.fdiv_eq_ediv_of_nonneg _ (Int.natCast_nonneg _), ← Int.natCast_ediv]
theorem u8_at {n : Nat} (h : n < 256) : DV.int .u8 (IntKind.u8.wrap (n : Int)) = .int .u8 (n : Int) := by
  have : IntKind.u8.wrap (n : Int) = (n : Int) := by
    simp only [IntKind.wrap, IntKind.bits, IntKind.signed, Bool.false_and]
    simp
    omega
  rw [this]
theorem log2_div {n k : Nat} (h : 2 ^ k ≤ n) : Nat.log2 n = k + Nat.log2 (n / 2 ^ k) := by
  have hp : 0 < 2 ^ k := Nat.pow_pos (by decide)
  have h1 : n / 2 ^ k ≠ 0 := by
    have := Nat.div_le_div_right (c := 2 ^ k) h
    rw [Nat.div_self hp] at this
    omega
  have h0 : n ≠ 0 := by omega
  refine (Nat.log2_eq_iff h0).2 ⟨?_, ?_⟩
  · rw [Nat.pow_add, Nat.mul_comm]
    exact (Nat.le_div_iff_mul_le hp).1 (Nat.log2_self_le h1)
  · have := (Nat.div_lt_iff_lt_mul hp).1 (Nat.lt_log2_self (n := n / 2 ^ k))
    rw [show k + Nat.log2 (n / 2 ^ k) + 1 = (Nat.log2 (n / 2 ^ k) + 1) + k by omega, Nat.pow_add]
    exact this
theorem bl_pos {n : Nat} (h : n ≠ 0) : bl n = Nat.log2 n + 1 := by
  cases n with
  | zero => exact absurd rfl h
  | succ n => rfl
theorem bl_div {n k : Nat} (h : 2 ^ k ≤ n) : bl n = k + bl (n / 2 ^ k) := by
  have hp : 0 < 2 ^ k := Nat.pow_pos (by decide)
  have h1 : n / 2 ^ k ≠ 0 := by
    have := Nat.div_le_div_right (c := 2 ^ k) h
    rw [Nat.div_self hp] at this
    omega
  rw [bl_pos (by omega), bl_pos h1, log2_div h]
  omega
theorem bl_le {b : Nat} (h : b < 256) : bl b ≤ 8 := by
  unfold bl
  split
  · omega
  · rename_i c
    have := (Nat.log2_lt (n := c + 1) (k := 8) (by omega)).2 (by omega)
    omega
theorem ln_ans (n : Nat) (h : n < 2 ^ 64) : Ans Try.prog fLn [.int .u64 (n : Int)] (iN (bl n)) ⟨0, [], []⟩ := by
  by_cases h0 : 4294967296 ≤ n
  · have e0 := shr_at n 32 (by omega)
    by_cases h1 : 65536 ≤ (n / 2 ^ 32)
    · have e1 := shr_at (n / 2 ^ 32) 16 (by omega)
      by_cases h2 : 256 ≤ ((n / 2 ^ 32) / 2 ^ 16)
      · have e2 := shr_at ((n / 2 ^ 32) / 2 ^ 16) 8 (by omega)
        have hb := bl_le (b := (((n / 2 ^ 32) / 2 ^ 16) / 2 ^ 8)) (by omega)
        have q : bl n = 56 + bl ((((n / 2 ^ 32) / 2 ^ 16) / 2 ^ 8)) := by
          rw [bl_div (n := n) (k := 32) (by omega), bl_div (n := (n / 2 ^ 32)) (k := 16) (by omega), bl_div (n := ((n / 2 ^ 32) / 2 ^ 16)) (k := 8) (by omega)]
          omega
        rw [q]
        exact zflat_ok tab_ok mixed fun_ok noC_ok (ln111 n (n / 2 ^ 32) ((n / 2 ^ 32) / 2 ^ 16) (((n / 2 ^ 32) / 2 ^ 16) / 2 ^ 8) (bl ((((n / 2 ^ 32) / 2 ^ 16) / 2 ^ 8)))) (.cons (decide_eq_true (by omega)) (.cons e0 (.cons (decide_eq_true (by omega)) (.cons e1 (.cons (decide_eq_true (by omega)) (.cons e2 (.cons (u8_at (n := (((n / 2 ^ 32) / 2 ^ 16) / 2 ^ 8)) (by omega)) (.cons (tabS_at (b := (((n / 2 ^ 32) / 2 ^ 16) / 2 ^ 8)) (by omega)) (.cons (congrArg (DV.int .i64) (wrapI (n := bl ((((n / 2 ^ 32) / 2 ^ 16) / 2 ^ 8))) (by omega))) (.cons (congrArg (DV.int .i64) (wrapI (n := 56 + bl ((((n / 2 ^ 32) / 2 ^ 16) / 2 ^ 8))) (by omega))) .nil))))))))))
      · have hb := bl_le (b := ((n / 2 ^ 32) / 2 ^ 16)) (by omega)
        have q : bl n = 48 + bl (((n / 2 ^ 32) / 2 ^ 16)) := by
          rw [bl_div (n := n) (k := 32) (by omega), bl_div (n := (n / 2 ^ 32)) (k := 16) (by omega)]
          omega
        rw [q]
        exact zflat_ok tab_ok mixed fun_ok noC_ok (ln110 n (n / 2 ^ 32) ((n / 2 ^ 32) / 2 ^ 16) 0 (bl (((n / 2 ^ 32) / 2 ^ 16)))) (.cons (decide_eq_true (by omega)) (.cons e0 (.cons (decide_eq_true (by omega)) (.cons e1 (.cons (decide_eq_false (by omega)) (.cons (u8_at (n := ((n / 2 ^ 32) / 2 ^ 16)) (by omega)) (.cons (tabS_at (b := ((n / 2 ^ 32) / 2 ^ 16)) (by omega)) (.cons (congrArg (DV.int .i64) (wrapI (n := bl (((n / 2 ^ 32) / 2 ^ 16))) (by omega))) (.cons (congrArg (DV.int .i64) (wrapI (n := 48 + bl (((n / 2 ^ 32) / 2 ^ 16))) (by omega))) .nil)))))))))
    · by_cases h2 : 256 ≤ (n / 2 ^ 32)
      · have e2 := shr_at (n / 2 ^ 32) 8 (by omega)
        have hb := bl_le (b := ((n / 2 ^ 32) / 2 ^ 8)) (by omega)
        have q : bl n = 40 + bl (((n / 2 ^ 32) / 2 ^ 8)) := by
          rw [bl_div (n := n) (k := 32) (by omega), bl_div (n := (n / 2 ^ 32)) (k := 8) (by omega)]
          omega
        rw [q]
        exact zflat_ok tab_ok mixed fun_ok noC_ok (ln101 n (n / 2 ^ 32) 0 ((n / 2 ^ 32) / 2 ^ 8) (bl (((n / 2 ^ 32) / 2 ^ 8)))) (.cons (decide_eq_true (by omega)) (.cons e0 (.cons (decide_eq_false (by omega)) (.cons (decide_eq_true (by omega)) (.cons e2 (.cons (u8_at (n := ((n / 2 ^ 32) / 2 ^ 8)) (by omega)) (.cons (tabS_at (b := ((n / 2 ^ 32) / 2 ^ 8)) (by omega)) (.cons (congrArg (DV.int .i64) (wrapI (n := bl (((n / 2 ^ 32) / 2 ^ 8))) (by omega))) (.cons (congrArg (DV.int .i64) (wrapI (n := 40 + bl (((n / 2 ^ 32) / 2 ^ 8))) (by omega))) .nil)))))))))
      · have hb := bl_le (b := (n / 2 ^ 32)) (by omega)
        have q : bl n = 32 + bl ((n / 2 ^ 32)) := by
          rw [bl_div (n := n) (k := 32) (by omega)]
        rw [q]
        exact zflat_ok tab_ok mixed fun_ok noC_ok (ln100 n (n / 2 ^ 32) 0 0 (bl ((n / 2 ^ 32)))) (.cons (decide_eq_true (by omega)) (.cons e0 (.cons (decide_eq_false (by omega)) (.cons (decide_eq_false (by omega)) (.cons (u8_at (n := (n / 2 ^ 32)) (by omega)) (.cons (tabS_at (b := (n / 2 ^ 32)) (by omega)) (.cons (congrArg (DV.int .i64) (wrapI (n := bl ((n / 2 ^ 32))) (by omega))) (.cons (congrArg (DV.int .i64) (wrapI (n := 32 + bl ((n / 2 ^ 32))) (by omega))) .nil))))))))
  · by_cases h1 : 65536 ≤ n
    · have e1 := shr_at n 16 (by omega)
      by_cases h2 : 256 ≤ (n / 2 ^ 16)
      · have e2 := shr_at (n / 2 ^ 16) 8 (by omega)
        have hb := bl_le (b := ((n / 2 ^ 16) / 2 ^ 8)) (by omega)
        have q : bl n = 24 + bl (((n / 2 ^ 16) / 2 ^ 8)) := by
          rw [bl_div (n := n) (k := 16) (by omega), bl_div (n := (n / 2 ^ 16)) (k := 8) (by omega)]
          omega
        rw [q]
        exact zflat_ok tab_ok mixed fun_ok noC_ok (ln011 n 0 (n / 2 ^ 16) ((n / 2 ^ 16) / 2 ^ 8) (bl (((n / 2 ^ 16) / 2 ^ 8)))) (.cons (decide_eq_false (by omega)) (.cons (decide_eq_true (by omega)) (.cons e1 (.cons (decide_eq_true (by omega)) (.cons e2 (.cons (u8_at (n := ((n / 2 ^ 16) / 2 ^ 8)) (by omega)) (.cons (tabS_at (b := ((n / 2 ^ 16) / 2 ^ 8)) (by omega)) (.cons (congrArg (DV.int .i64) (wrapI (n := bl (((n / 2 ^ 16) / 2 ^ 8))) (by omega))) (.cons (congrArg (DV.int .i64) (wrapI (n := 24 + bl (((n / 2 ^ 16) / 2 ^ 8))) (by omega))) .nil)))))))))
      · have hb := bl_le (b := (n / 2 ^ 16)) (by omega)
        have q : bl n = 16 + bl ((n / 2 ^ 16)) := by
          rw [bl_div (n := n) (k := 16) (by omega)]
        rw [q]
        exact zflat_ok tab_ok mixed fun_ok noC_ok (ln010 n 0 (n / 2 ^ 16) 0 (bl ((n / 2 ^ 16)))) (.cons (decide_eq_false (by omega)) (.cons (decide_eq_true (by omega)) (.cons e1 (.cons (decide_eq_false (by omega)) (.cons (u8_at (n := (n / 2 ^ 16)) (by omega)) (.cons (tabS_at (b := (n / 2 ^ 16)) (by omega)) (.cons (congrArg (DV.int .i64) (wrapI (n := bl ((n / 2 ^ 16))) (by omega))) (.cons (congrArg (DV.int .i64) (wrapI (n := 16 + bl ((n / 2 ^ 16))) (by omega))) .nil))))))))
    · by_cases h2 : 256 ≤ n
      · have e2 := shr_at n 8 (by omega)
        have hb := bl_le (b := (n / 2 ^ 8)) (by omega)
        have q : bl n = 8 + bl ((n / 2 ^ 8)) := by
          rw [bl_div (n := n) (k := 8) (by omega)]
        rw [q]
        exact zflat_ok tab_ok mixed fun_ok noC_ok (ln001 n 0 0 (n / 2 ^ 8) (bl ((n / 2 ^ 8)))) (.cons (decide_eq_false (by omega)) (.cons (decide_eq_false (by omega)) (.cons (decide_eq_true (by omega)) (.cons e2 (.cons (u8_at (n := (n / 2 ^ 8)) (by omega)) (.cons (tabS_at (b := (n / 2 ^ 8)) (by omega)) (.cons (congrArg (DV.int .i64) (wrapI (n := bl ((n / 2 ^ 8))) (by omega))) (.cons (congrArg (DV.int .i64) (wrapI (n := 8 + bl ((n / 2 ^ 8))) (by omega))) .nil))))))))
      · have hb := bl_le (b := n) (by omega)
        have q : bl n = 0 + bl (n) := by
          omega
        rw [q]
        exact zflat_ok tab_ok mixed fun_ok noC_ok (ln000 n 0 0 0 (bl (n))) (.cons (decide_eq_false (by omega)) (.cons (decide_eq_false (by omega)) (.cons (decide_eq_false (by omega)) (.cons (u8_at (n := n) (by omega)) (.cons (tabS_at (b := n) (by omega)) (.cons (congrArg (DV.int .i64) (wrapI (n := bl (n)) (by omega))) (.cons (congrArg (DV.int .i64) (wrapI (n := 0 + bl (n)) (by omega))) .nil)))))))
/-! ### Loss -/
def e4 (d : Int) : Nat := (max d 1).toNat * (max d 1).toNat * ((max d 1).toNat * (max d 1).toNat)
def ls0 (d : Int) : Int := 400 + 15 * ((Nat.log2 (e4 d) : Nat) : Int)
def lsV (d : Int) : Int := match inB d 0 30000 with
  | true => ls0 d
  | false => 0
def lsE (d : Int) : Int := match inB d 0 30000 with
  | true => 0
  | false => 2
def lsD (d : Int) : DV := .tuple [iI (lsV d), iI (lsE d)]
abbrev fLs : FuncId := 17
abbrev fLo : FuncId := 54
abbrev fRl : FuncId := 33
theorem e4_in {d : Int} (h1 : d ≤ 30000) : 1 ≤ e4 d ∧ e4 d ≤ 810000000000000000 ∧ 1 ≤ (max d 1).toNat ∧ (max d 1).toNat ≤ 30000 ∧ 1 ≤ (max d 1).toNat * (max d 1).toNat ∧ (max d 1).toNat * (max d 1).toNat ≤ 900000000 := by
  have a : 1 ≤ (max d 1).toNat := by omega
  have c : (max d 1).toNat ≤ 30000 := by omega
  unfold e4
  generalize (max d 1).toNat = e at a c
  have b1 : 1 * 1 ≤ e * e := Nat.mul_le_mul a a
  have b2 : e * e ≤ 30000 * 30000 := Nat.mul_le_mul c c
  have b3 : 1 * 1 ≤ e * e * (e * e) := Nat.mul_le_mul b1 b1
  have b4 : e * e * (e * e) ≤ 30000 * 30000 * (30000 * 30000) := Nat.mul_le_mul b2 b2
  omega
theorem log_in {d : Int} (h1 : d ≤ 30000) : Nat.log2 (e4 d) < 60 := by
  have := e4_in h1
  exact (Nat.log2_lt (by omega)).2 (by omega)
theorem max_at (d : Int) : DV.int .i64 (if d < 1 then 1 else d) = iN (max d 1).toNat := by
  have : (if d < 1 then 1 else d) = (((max d 1).toNat : Nat) : Int) := by split <;> omega
  rw [this]
set_option maxRecDepth 1000000 in
theorem ls1 (d : Int) : zflat (zans Try.prog tab ftab noC fLs [iI d] [(6, .b true)]) = some (.tuple [iI 0, iI 2], ((decide (d < 0)) = true) :: []) := by kernel_rfl
set_option maxRecDepth 1000000 in
theorem ls2 (d : Int) : zflat (zans Try.prog tab ftab noC fLs [iI d] [(6, .b false), (9, .b true)]) = some (.tuple [iI 0, iI 2], ((decide (d < 0)) = false) :: ((decide (d > 30000)) = true) :: []) := by kernel_rfl
set_option maxRecDepth 1000000 in
theorem ls3 (d : Int) (e f g l : Nat) : zflat (zans Try.prog tab ftab (calC fLn [.int .u64 (g : Int)] (iN (l + 1))) fLs [iI d] [(6, .b false), (9, .b false), (12, .w (iN e)), (13, .w (iN f)), (14, .w (iN g)), (16, .w (.int .u64 (g : Int))), (17, .q (iN (l + 1))), (18, .w (iN l)), (19, .w (iN (15 * l))), (20, .w (iI (400 + 15 * (l : Int))))]) = some (.tuple [iI (400 + 15 * (l : Int)), iI 0], ((decide (d < 0)) = false) :: ((decide (d > 30000)) = false) :: (DV.int .i64 (if d < 1 then 1 else d) = iN e) :: (DV.int .i64 (IntKind.i64.wrap ((e : Int) * (e : Int))) = iN f) :: (DV.int .i64 (IntKind.i64.wrap ((f : Int) * (f : Int))) = iN g) :: (DV.int .u64 (IntKind.u64.wrap (g : Int)) = .int .u64 (g : Int)) :: (calC fLn [.int .u64 (g : Int)] (iN (l + 1)) fLn [.int .u64 (g : Int)] h00 = some (iN (l + 1), h00, none)) :: (DV.int .i64 (IntKind.i64.wrap (((l + 1 : Nat) : Int) - 1)) = iN l) :: (DV.int .i64 (IntKind.i64.wrap (15 * (l : Int))) = iN (15 * l)) :: (DV.int .i64 (IntKind.i64.wrap (400 + ((15 * l : Nat) : Int))) = iI (400 + 15 * (l : Int))) :: []) := by kernel_rfl
theorem u64_at {n : Nat} (h : n < 2 ^ 64) : DV.int .u64 (IntKind.u64.wrap (n : Int)) = .int .u64 (n : Int) := by
  have : IntKind.u64.wrap (n : Int) = (n : Int) := by
    simp only [IntKind.wrap, IntKind.bits, IntKind.signed, Bool.false_and]
    simp
    omega
  rw [this]
theorem mulN {a b : Nat} (h : a * b < 2 ^ 63) : DV.int .i64 (IntKind.i64.wrap ((a : Int) * (b : Int))) = iN (a * b) := by
  rw [← Int.natCast_mul, wrapI h]
theorem ls_ans (d : Int) : Ans Try.prog fLs [iI d] (lsD d) ⟨0, [], []⟩ := by
  unfold lsD lsV lsE inB
  by_cases h0 : 0 ≤ d
  · rw [decide_eq_true h0]
    have l0 : decide (d < 0) = false := decide_eq_false (by omega)
    by_cases h1 : d ≤ 30000
    · rw [decide_eq_true h1]
      have he := e4_in h1
      have hg := log_in h1
      have ha := ln_ans (e4 d) (by omega)
      rw [bl_pos (by omega)] at ha
      exact zflat_ok tab_ok mixed fun_ok (calC_ok ha) (ls3 d (max d 1).toNat ((max d 1).toNat * (max d 1).toNat) (e4 d) (Nat.log2 (e4 d))) (.cons l0 (.cons (decide_eq_false (by omega)) (.cons (max_at d) (.cons (mulN (by omega)) (.cons (mulN (show e4 d < 2 ^ 63 by omega)) (.cons (u64_at (by omega)) (.cons (calC_at _ rfl rfl) (.cons (congrArg (DV.int .i64) (wrapZ (by omega) (by omega) |>.trans (by omega))) (.cons (congrArg (DV.int .i64) (wrapZ (by omega) (by omega) |>.trans (by omega))) (.cons (congrArg (DV.int .i64) (wrapZ (by omega) (by omega) |>.trans (by omega))) .nil))))))))))
    · rw [decide_eq_false h1]
      exact zflat_ok tab_ok mixed fun_ok noC_ok (ls2 d) (.cons l0 (.cons (decide_eq_true (by omega)) .nil))
  · rw [decide_eq_false h0]
    exact zflat_ok tab_ok mixed fun_ok noC_ok (ls1 d) (.cons (decide_eq_true (by omega)) .nil)
def cLs : ConF := liftC (comC fLs (g1 lsD))
theorem cLs_ok : ConOk Try.prog cLs := g1_ok ls_ans
/-! ### the reference's Lost -/
abbrev kLo : List (Nat × Nat) := ksF ftab fLo
abbrev loL : Code := loopAt (bodyOf ftab fLo) 0
abbrev loS (n q : Nat) : Slots := mkT 24 [(4, iN n), (5, iN q)]
set_option maxRecDepth 1000000 in
theorem lo1 (n n2 q : Nat) : zsee Try.prog tab ftab noC kLo [4, 5] loL (loS n q) h00 [(16, .b true), (18, .w (iN n2)), (20, .w (iN (q + 1)))] = some (.normal, loS n2 (q + 1), h00, ((decide ((n : Int) ≥ 2)) = true) :: (DV.int .i64 (quoD .i64 (n : Int) 2) = iN n2) :: wrK q :: []) := by kernel_rfl
set_option maxRecDepth 1000000 in
theorem loO (n q : Nat) : zsee Try.prog tab ftab noC kLo [5] loL (loS n q) h00 [(16, .b false)] = some (.exit 0, mkT 24 [(5, iN q)], h00, ((decide ((n : Int) ≥ 2)) = false) :: []) := by kernel_rfl
set_option maxRecDepth 1000000 in
theorem loA (d : Int) (e f g h l : Nat) : zflat (zans Try.prog tab ftab noC fLo [iI d] [(7, .w (iN e)), (10, .w (iN f)), (12, .w (iN g)), (14, .w (iN h)), (0, .l [4, 5] (.exit 0) (mkT 24 [(5, iN l)]) h00), (22, .w (iN (15 * l))), (23, .w (iI (400 + 15 * (l : Int))))]) = some (iI (400 + 15 * (l : Int)), (DV.int .i64 (if d < 1 then 1 else d) = iN e) :: (DV.int .i64 (IntKind.i64.wrap ((e : Int) * (e : Int))) = iN f) :: (DV.int .i64 (IntKind.i64.wrap ((f : Int) * (e : Int))) = iN g) :: (DV.int .i64 (IntKind.i64.wrap ((g : Int) * (e : Int))) = iN h) :: (Goes Try.prog tab kLo (.loop loL) (loS h 0) h00 (.exit 0) (mkT 24 [(5, iN l)]) h00) :: (DV.int .i64 (IntKind.i64.wrap (15 * (l : Int))) = iN (15 * l)) :: (DV.int .i64 (IntKind.i64.wrap (400 + ((15 * l : Nat) : Int))) = iI (400 + 15 * (l : Int))) :: []) := by kernel_rfl
theorem lo_loop : ∀ (m n q : Nat), n ≤ m → n < 2 ^ 63 → q + m < 2 ^ 63 → ∃ r, GoesR Try.prog tab kLo loL (r + 1) (loS n q) h00 (.exit 0) (mkT 24 [(5, iN (q + Nat.log2 n))]) h00 := by
  intro m
  induction m with
  | zero =>
    intro n q h1 h2 h3
    obtain rfl : n = 0 := by omega
    exact ⟨0, GoesR.last (zsee_ok tab_ok mixed fun_ok noC_ok (loO 0 q) (.cons rfl .nil)) (by intro h; cases h)⟩
  | succ m ih =>
    intro n q h1 h2 h3
    rw [Nat.log2_def]
    by_cases h : 2 ≤ n
    · rw [if_pos h]
      obtain ⟨r, g⟩ := ih (n / 2) (q + 1) (by omega) (by omega) (by omega)
      rw [show q + 1 + Nat.log2 (n / 2) = q + (Nat.log2 (n / 2) + 1) by omega] at g
      have e : quoD .i64 (n : Int) 2 = ((n / 2 : Nat) : Int) := by
        rw [quo2 (by omega) (by omega)]
        omega
      exact ⟨r + 1, GoesR.step (zsee_ok tab_ok mixed fun_ok noC_ok (lo1 n (n / 2) q) (.cons (decide_eq_true (by omega)) (.cons (congrArg (DV.int .i64) e) (.cons (wrK_at (by omega)) .nil)))) g⟩
    · rw [if_neg h]
      exact ⟨0, GoesR.last (zsee_ok tab_ok mixed fun_ok noC_ok (loO n q) (.cons (decide_eq_false (by omega)) .nil)) (by intro h; cases h)⟩
theorem lo_ans (d : Int) (h1 : d ≤ 30000) : Ans Try.prog fLo [iI d] (iI (ls0 d)) ⟨0, [], []⟩ := by
  have he := e4_in h1
  have hg := log_in h1
  have e2 : (max d 1).toNat * (max d 1).toNat * (max d 1).toNat ≤ 900000000 * 30000 := Nat.mul_le_mul he.2.2.2.2.2 he.2.2.2.1
  have e3 : (max d 1).toNat * (max d 1).toNat * (max d 1).toNat * (max d 1).toNat = e4 d := by
    unfold e4
    rw [Nat.mul_assoc ((max d 1).toNat * (max d 1).toNat)]
  obtain ⟨r, g⟩ := lo_loop (e4 d) (e4 d) 0 (Nat.le_refl _) (by omega) (by omega)
  rw [Nat.zero_add] at g
  have m3 := mulN (a := (max d 1).toNat * (max d 1).toNat * (max d 1).toNat) (b := (max d 1).toNat) (by rw [e3]; omega)
  rw [e3] at m3
  exact zflat_ok tab_ok mixed fun_ok noC_ok (loA d (max d 1).toNat ((max d 1).toNat * (max d 1).toNat) ((max d 1).toNat * (max d 1).toNat * (max d 1).toNat) (e4 d) (Nat.log2 (e4 d))) (.cons (max_at d) (.cons (mulN (by omega)) (.cons (mulN (by omega)) (.cons m3 (.cons g.goes (.cons (congrArg (DV.int .i64) (wrapZ (by omega) (by omega) |>.trans (by omega))) (.cons (congrArg (DV.int .i64) (wrapZ (by omega) (by omega) |>.trans (by omega))) .nil)))))))
abbrev Le : Type := {d : Int // d ≤ 30000}
def cLo : ConF := liftC (eqC fLo (fun x : Le => [iI x.1]) fun x => (iI (ls0 x.1), ⟨0, [], []⟩))
theorem cLo_ok : ConOk Try.prog cLo := liftC_ok (eqC_ok (fun x => lo_ans x.1 x.2) fun _ => rfl)
theorem cLo_at (hp : Hp) (d : Int) (h : d ≤ 30000) : cLo fLo [iI d] hp = some (iI (ls0 d), hp, none) :=
  lift_at (A := fun x : Le => [iI x.1]) (D := fun x => iI (ls0 x.1)) (fun x y h => by
    simp only [List.cons.injEq, DV.int.injEq, true_and, and_true] at h
    rw [h]) hp ⟨d, h⟩ rfl rfl
set_option maxRecDepth 1000000 in
theorem rl1 (d : Int) : zflat (zans Try.prog tab ftab cIn fRl [iI d] [(6, .b true)]) = some (.tuple [iI 0, iI 2], (((!inB d 0 30000)) = true) :: []) := by kernel_rfl
set_option maxRecDepth 1000000 in
theorem rl2 (d r : Int) : zflat (zans Try.prog tab ftab (orK cIn cLo) fRl [iI d] [(6, .b false), (8, .q (iI r))]) = some (.tuple [iI r, iI 0], (((!inB d 0 30000)) = false) :: (orK cIn cLo fLo [iI d] h00 = some (iI r, h00, none)) :: []) := by kernel_rfl
theorem rl_ans (d : Int) : Ans Try.prog fRl [iI d] (lsD d) ⟨0, [], []⟩ := by
  unfold lsD lsV lsE
  cases h : inB d 0 30000 with
  | true => exact zflat_ok tab_ok mixed fun_ok (orK_ok cIn_ok cLo_ok) (rl2 d (ls0 d)) (.cons (by rw [h]; rfl) (.cons (orK_right (lift_oth rfl) (cLo_at _ d ((inB_iff _ _ _).1 h).2)) .nil))
  | false => exact zflat_ok tab_ok mixed fun_ok cIn_ok (rl1 d) (.cons (by rw [h]; rfl) .nil)
def cRl : ConF := liftC (comC fRl (g1 lsD))
theorem cRl_ok : ConOk Try.prog cRl := g1_ok rl_ans
end
end Go.Proofs.Ytmnpkgonanpgfaa
