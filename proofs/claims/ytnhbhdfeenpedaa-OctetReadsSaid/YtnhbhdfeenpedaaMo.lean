/- Addresses as numbers: what Of and Compare answer. -/
import Derived.Test.YtnhbhdfeenpedaaMa
namespace Go.Proofs.Ytnhbhdfeenpedaa
open Go.RowKit

noncomputable section
def ofE (n : Int) : Int := if 281474976710656 ≤ n then 2 else 0
def ofb (s : Int) (n : Int) : Int := if 281474976710656 ≤ n then 0 else IntKind.u8.wrap (shrD .u64 n s)
def ofL (n : Int) : List Int := [ofb 40 n, ofb 32 n, ofb 24 n, ofb 16 n, ofb 8 n, ofb 0 n]
def ofD (n : Int) : DV := .tuple [intsD .u8 (ofL n), .int .i64 (ofE n)]
set_option maxRecDepth 1000000 in
theorem of_bad (n : Int) : pcall tab ftab noC 100 48 [.int .u64 n] ⟨0, []⟩ [some true] = some ((.tuple [intsD .u8 [0, 0, 0, 0, 0, 0], .int .i64 2], ⟨0, []⟩, none), [(decide (n ≥ 281474976710656), true)]) := by
  kernel_rfl
set_option maxRecDepth 1000000 in
theorem of_good (n : Int) : pcall tab ftab noC 100 48 [.int .u64 n] ⟨0, []⟩ [some false] =
    some ((.tuple [intsD .u8 [IntKind.u8.wrap (shrD .u64 n 40), IntKind.u8.wrap (shrD .u64 n 32), IntKind.u8.wrap (shrD .u64 n 24), IntKind.u8.wrap (shrD .u64 n 16), IntKind.u8.wrap (shrD .u64 n 8), IntKind.u8.wrap (shrD .u64 n 0)], .int .i64 0], ⟨0, []⟩, none), [(decide (n ≥ 281474976710656), false)]) := by
  kernel_rfl
theorem of_run (n : Int) : callE tab ftab noC (exec tab ftab noC 100) 48 [.int .u64 n] ⟨0, []⟩ = some (ofD n, ⟨0, []⟩, none) := by
  by_cases h : 281474976710656 ≤ n
  · rw [pcall_ok (of_bad n) (.cons (decide_eq_true h) .nil)]
    simp only [ofD, ofL, ofb, ofE, if_pos h]
  · rw [pcall_ok (of_good n) (.cons (decide_eq_false h) .nil)]
    simp only [ofD, ofL, ofb, ofE, if_neg h]
def cOf0 : CallF := fun f args hp => match Nat.beq f 48 with
  | true => match args, hp with
    | [.int .u64 n], ⟨0, []⟩ => some (ofD n, ⟨0, []⟩, none)
    | _, _ => none
  | false => none
theorem cOf0_ok : CallOk Try.prog cOf0 := grow_ok tab_ok mixed fun_ok noC_ok fun f args hp r h => by
  unfold cOf0 at h
  split at h
  · rename_i hf
    have hf := Nat.eq_of_beq_eq_true hf
    subst hf
    split at h
    · cases h
      exact .inr ⟨100, of_run _⟩
    · cases h
  · cases h
def cOf : CallF := liftC cOf0
theorem cOf_ok : CallOk Try.prog cOf := liftC_ok cOf0_ok
def cmpZ (x y : Int) : Int := if x < y then -1 else if x > y then 1 else 0
set_option maxRecDepth 1000000 in
theorem cmp_lt (x y : Int) : pcall tab ftab noC 100 121 [.int .u64 x, .int .u64 y] ⟨0, []⟩ [some false, none, some false, none, none, none, some true] =
    some ((.int .i64 (-1), ⟨0, []⟩, none), [(x != x, false), (y != y, false), (decide (x < y), true)]) := by
  kernel_rfl
set_option maxRecDepth 1000000 in
theorem cmp_gt (x y : Int) : pcall tab ftab noC 100 121 [.int .u64 x, .int .u64 y] ⟨0, []⟩ [some false, none, some false, none, none, none, some false, some true] =
    some ((.int .i64 1, ⟨0, []⟩, none), [(x != x, false), (y != y, false), (decide (x < y), false), (decide (x > y), true)]) := by
  kernel_rfl
set_option maxRecDepth 1000000 in
theorem cmp_eq (x y : Int) : pcall tab ftab noC 100 121 [.int .u64 x, .int .u64 y] ⟨0, []⟩ [some false, none, some false, none, none, none, some false, some false] =
    some ((.int .i64 0, ⟨0, []⟩, none), [(x != x, false), (y != y, false), (decide (x < y), false), (decide (x > y), false)]) := by
  kernel_rfl
theorem cmp_run (x y : Int) : callE tab ftab noC (exec tab ftab noC 100) 121 [.int .u64 x, .int .u64 y] ⟨0, []⟩ = some (.int .i64 (cmpZ x y), ⟨0, []⟩, none) := by
  have hx : (x != x) = false := by simp
  have hy : (y != y) = false := by simp
  unfold cmpZ
  by_cases h : x < y
  · rw [if_pos h, pcall_ok (cmp_lt x y) (.cons hx (.cons hy (.cons (decide_eq_true h) .nil)))]
  · rw [if_neg h]
    by_cases h' : x > y
    · rw [if_pos h', pcall_ok (cmp_gt x y) (.cons hx (.cons hy (.cons (decide_eq_false h) (.cons (decide_eq_true h') .nil))))]
    · rw [if_neg h', pcall_ok (cmp_eq x y) (.cons hx (.cons hy (.cons (decide_eq_false h) (.cons (decide_eq_false h') .nil))))]
def cCmp0 : CallF := fun f args hp => match Nat.beq f 121 with
  | true => match args, hp with
    | [.int .u64 x, .int .u64 y], ⟨0, []⟩ => some (.int .i64 (cmpZ x y), ⟨0, []⟩, none)
    | _, _ => none
  | false => none
theorem cCmp0_ok : CallOk Try.prog cCmp0 := grow_ok tab_ok mixed fun_ok noC_ok fun f args hp r h => by
  unfold cCmp0 at h
  split at h
  · rename_i hf
    have hf := Nat.eq_of_beq_eq_true hf
    subst hf
    split at h
    · cases h
      exact .inr ⟨100, cmp_run _ _⟩
    · cases h
  · cases h
def cCmp : CallF := orC cNum (liftC cCmp0)
theorem cCmp_ok : CallOk Try.prog cCmp := orC_ok cNum_ok (liftC_ok cCmp0_ok)
set_option maxRecDepth 1000000 in
theorem compare_run (a b c d e g a1 b1 c1 d1 e1 g1 : Int) : callE tab ftab cCmp (exec tab ftab cCmp 100) 60 [intsD .u8 [a, b, c, d, e, g], intsD .u8 [a1, b1, c1, d1, e1, g1]] ⟨0, []⟩ =
    some (.int .i64 (cmpZ (numL [a, b, c, d, e, g]) (numL [a1, b1, c1, d1, e1, g1])), ⟨0, []⟩, none) := by
  kernel_rfl
def cCompare0 : CallF := fun f args hp => match Nat.beq f 60 with
  | true => match args, hp with
    | [x, y], ⟨0, []⟩ => match ints6 x, ints6 y with
      | some x, some y => some (.int .i64 (cmpZ (numL x) (numL y)), ⟨0, []⟩, none)
      | _, _ => none
    | _, _ => none
  | false => none
theorem cCompare0_ok : CallOk Try.prog cCompare0 := grow_ok tab_ok mixed fun_ok cCmp_ok fun f args hp r h => by
  unfold cCompare0 at h
  split at h
  · rename_i hf
    have hf := Nat.eq_of_beq_eq_true hf
    subst hf
    split at h
    · split at h
      · rename_i hx hy
        obtain ⟨_, _, _, _, _, _, rfl, rfl⟩ := ints6_ok hx
        obtain ⟨_, _, _, _, _, _, rfl, rfl⟩ := ints6_ok hy
        cases h
        exact .inr ⟨100, compare_run _ _ _ _ _ _ _ _ _ _ _ _⟩
      · cases h
    · cases h
  · cases h
def cCompare : CallF := liftC cCompare0
theorem cCompare_ok : CallOk Try.prog cCompare := liftC_ok cCompare0_ok

/-! ### Numbers -/
theorem ofb_nat {n : Nat} (h : n < 2 ^ 48) (s : Nat) (hs : s ≤ 40) : ofb (s : Int) (n : Int) = ((n / 2 ^ s % 256 : Nat) : Int) := by
  have hn : ¬ (281474976710656 : Int) ≤ n := by omega
  have h1 : shrD .u64 (n : Int) (s : Int) = ((n / 2 ^ s : Nat) : Int) := by
    unfold shrD
    have : min ((s : Int).toNat) IntKind.u64.bits = s := by
      show min ((s : Int).toNat) 64 = s
      omega
    rw [this]
    have : ((2 : Int) ^ s) = ((2 ^ s : Nat) : Int) := by simp
    rw [this, Int.ofNat_fdiv]
  unfold ofb
  rw [if_neg hn, h1]
  simp only [IntKind.wrap, IntKind.bits, IntKind.signed, Bool.false_and, Bool.false_eq_true, if_false]
  omega
theorem ofL_nat {n : Nat} (h : n < 2 ^ 48) : ofL (n : Int) = [((n / 2 ^ 40 % 256 : Nat) : Int), ((n / 2 ^ 32 % 256 : Nat) : Int), ((n / 2 ^ 24 % 256 : Nat) : Int), ((n / 2 ^ 16 % 256 : Nat) : Int), ((n / 2 ^ 8 % 256 : Nat) : Int), ((n / 2 ^ 0 % 256 : Nat) : Int)] := by
  unfold ofL
  rw [show (40 : Int) = ((40 : Nat) : Int) from rfl, show (32 : Int) = ((32 : Nat) : Int) from rfl, show (24 : Int) = ((24 : Nat) : Int) from rfl, show (16 : Int) = ((16 : Nat) : Int) from rfl, show (8 : Int) = ((8 : Nat) : Int) from rfl, show ofb 0 (n : Int) = ofb ((0 : Nat) : Int) (n : Int) from rfl,
    ofb_nat h 40 (by omega), ofb_nat h 32 (by omega), ofb_nat h 24 (by omega), ofb_nat h 16 (by omega), ofb_nat h 8 (by omega), ofb_nat h 0 (by omega)]
theorem num_of {n : Nat} (h : n < 2 ^ 48) : numL (ofL (n : Int)) = n := by
  rw [ofL_nat h, numL_eq (by omega) (by omega) (by omega) (by omega) (by omega) (by omega)]
  congr 1
  unfold num6
  omega
theorem of_len (n : Int) : (ofL n).length = 6 := rfl
theorem byte_wf {n : Nat} (h : n < 256) : (Lit.int .u8 (n : Int)).wf = true := by
  simp [Lit.wf, IntKind.min, IntKind.max, IntKind.signed, IntKind.bits]
  omega
theorem of_wf {n : Nat} (h : n < 2 ^ 48) : ∀ a ∈ ofL (n : Int), (Lit.int .u8 a).wf = true := by
  rw [ofL_nat h]
  intro a ha
  simp only [List.mem_cons, List.not_mem_nil, or_false] at ha
  rcases ha with rfl | rfl | rfl | rfl | rfl | rfl <;> exact byte_wf (by omega)
end
end Go.Proofs.Ytnhbhdfeenpedaa
