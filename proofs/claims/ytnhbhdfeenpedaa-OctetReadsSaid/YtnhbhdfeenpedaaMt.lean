/- Addresses as numbers: what Number and Match answer. -/
import Derived.Test.YtnhbhdfeenpedaaTab
import Derived.Test.YtnhbhdfeenpedaaArr
namespace Go.Proofs.Ytnhbhdfeenpedaa
open Go.RowKit

noncomputable section
def ints6 : DV → Option (List Int)
  | .agg [.int .u8 a, .int .u8 b, .int .u8 c, .int .u8 d, .int .u8 e, .int .u8 g] => some [a, b, c, d, e, g]
  | _ => none
theorem ints6_ok {d : DV} {xs : List Int} (h : ints6 d = some xs) : ∃ a b c d' e g, xs = [a, b, c, d', e, g] ∧ d = intsD .u8 xs := by
  unfold ints6 at h
  split at h
  · cases h; exact ⟨_, _, _, _, _, _, rfl, rfl⟩
  · cases h
def numL (xs : List Int) : Int := xs.foldl (fun n b => bitD .or .u64 (shlD .u64 n 8) (IntKind.u64.wrap b)) 0
def matchB (x y m : List Int) : Bool := bitD .and .u64 (bitD .xor .u64 (numL x) (numL y)) (numL m) == 0
def orC (C1 C2 : CallF) : CallF := fun f args hp => match C1 f args hp with
  | some r => some r
  | none => C2 f args hp
theorem orC_ok {P : Program} {C1 C2 : CallF} (h1 : CallOk P C1) (h2 : CallOk P C2) : CallOk P (orC C1 C2) := by
  intro f args hp r hp' mu h
  unfold orC at h
  split at h
  · rename_i heq
    cases h
    exact h1 _ _ _ _ _ _ heq
  · exact h2 _ _ _ _ _ _ h
def cNum0 : CallF := fun f args hp => match Nat.beq f 62 with
  | true => match args, hp with
    | [x], ⟨0, []⟩ => match ints6 x with
      | some xs => some (.int .u64 (numL xs), ⟨0, []⟩, none)
      | none => none
    | _, _ => none
  | false => none
set_option maxRecDepth 1000000 in
theorem num_run (a b c d e g : Int) : callE tab ftab noC (exec tab ftab noC 100) 62 [intsD .u8 [a, b, c, d, e, g]] ⟨0, []⟩ = some (.int .u64 (numL [a, b, c, d, e, g]), ⟨0, []⟩, none) := by
  kernel_rfl
theorem cNum0_ok : CallOk Try.prog cNum0 := grow_ok tab_ok mixed fun_ok noC_ok fun f args hp r h => by
  unfold cNum0 at h
  split at h
  · rename_i hf
    have hf := Nat.eq_of_beq_eq_true hf
    subst hf
    split at h
    · split at h
      · rename_i hx
        obtain ⟨_, _, _, _, _, _, rfl, rfl⟩ := ints6_ok hx
        cases h
        exact .inr ⟨100, num_run _ _ _ _ _ _⟩
      · cases h
    · cases h
  · cases h
def cNum : CallF := liftC cNum0
theorem cNum_ok : CallOk Try.prog cNum := liftC_ok cNum0_ok
def cMatch0 : CallF := fun f args hp => match Nat.beq f 56 with
  | true => match args, hp with
    | [x, y, m], ⟨0, []⟩ => match ints6 x, ints6 y, ints6 m with
      | some x, some y, some m => some (.bool (matchB x y m), ⟨0, []⟩, none)
      | _, _, _ => none
    | _, _ => none
  | false => none
set_option maxRecDepth 1000000 in
theorem match_run (a b c d e g a1 b1 c1 d1 e1 g1 a2 b2 c2 d2 e2 g2 : Int) : callE tab ftab cNum (exec tab ftab cNum 100) 56 [intsD .u8 [a, b, c, d, e, g], intsD .u8 [a1, b1, c1, d1, e1, g1], intsD .u8 [a2, b2, c2, d2, e2, g2]] ⟨0, []⟩ =
    some (.bool (matchB [a, b, c, d, e, g] [a1, b1, c1, d1, e1, g1] [a2, b2, c2, d2, e2, g2]), ⟨0, []⟩, none) := by
  kernel_rfl
theorem cMatch0_ok : CallOk Try.prog cMatch0 := grow_ok tab_ok mixed fun_ok cNum_ok fun f args hp r h => by
  unfold cMatch0 at h
  split at h
  · rename_i hf
    have hf := Nat.eq_of_beq_eq_true hf
    subst hf
    split at h
    · split at h
      · rename_i hx hy hm
        obtain ⟨_, _, _, _, _, _, rfl, rfl⟩ := ints6_ok hx
        obtain ⟨_, _, _, _, _, _, rfl, rfl⟩ := ints6_ok hy
        obtain ⟨_, _, _, _, _, _, rfl, rfl⟩ := ints6_ok hm
        cases h
        exact .inr ⟨100, match_run _ _ _ _ _ _ _ _ _ _ _ _ _ _ _ _ _ _⟩
      · cases h
    · cases h
  · cases h
def cMatch : CallF := liftC cMatch0
theorem cMatch_ok : CallOk Try.prog cMatch := liftC_ok cMatch0_ok
def cAlive0 : CallF := fun f args hp => match Nat.beq f 52 with
  | true => match args, hp with
    | [], ⟨0, []⟩ => some (.bool true, ⟨0, []⟩, none)
    | _, _ => none
  | false => none
set_option maxRecDepth 1000000 in
theorem alive_run : callE tab ftab noC (exec tab ftab noC 1000) 52 [] ⟨0, []⟩ = some (.bool true, ⟨0, []⟩, none) := by
  kernel_rfl
theorem cAlive0_ok : CallOk Try.prog cAlive0 := grow_ok tab_ok mixed fun_ok noC_ok fun f args hp r h => by
  unfold cAlive0 at h
  split at h
  · rename_i hf
    have hf := Nat.eq_of_beq_eq_true hf
    subst hf
    split at h
    · cases h
      exact .inr ⟨1000, alive_run⟩
    · cases h
  · cases h
def cAlive : CallF := liftC cAlive0
theorem cAlive_ok : CallOk Try.prog cAlive := liftC_ok cAlive0_ok
end
end Go.Proofs.Ytnhbhdfeenpedaa
