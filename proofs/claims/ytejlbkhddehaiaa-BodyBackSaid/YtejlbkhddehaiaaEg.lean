/- Whether elements are too great for a law: a contract. -/
import Derived.Test.YtejlbkhddehaiaaEc
namespace Go.Proofs.Ytejlbkhddehaiaa
open Go.RowKit

noncomputable section
abbrev ElA : Type := {l : List El // l.length < 2 ^ 63 ∧ okL l}
def cCnt : ConF := liftC (eqC fCn (fun x : ElA => [elsD x.1]) fun x => (.int .i64 (cntA 0 x.1), ⟨0, [], []⟩))
theorem cCnt_ok : ConOk Try.prog cCnt := liftC_ok (eqC_ok (fun x : ElA => cn_ans (depA x.1) ⟨x.1, Nat.le_refl _, x.2⟩) fun _ => rfl)
theorem cCnt_at (hp : Hp) (l : ElA) : cCnt fCn [elsD l.1] hp = some (.int .i64 (cntA 0 l.1), hp, none) :=
  lift_at (A := fun x : ElA => [elsD x.1]) (D := fun x => .int .i64 (cntA 0 x.1)) (fun x y hxy => by
    simp only [elsD, List.cons.injEq, and_true, DV.list.injEq, true_and] at hxy
    rw [elR_inj hxy]) hp l rfl rfl
def cGq : ConF := orK (cWe 10) cCnt
theorem cGq_ok : ConOk Try.prog cGq := orK_ok (cWe_ok 10 (by decide)) cCnt_ok
abbrev fGr : FuncId := 42
set_option maxRecDepth 1000000 in
theorem grN (xs : List (List DV)) : zflat (zans Try.prog tab ftab cGq fGr [.list 4 xs] [(7, .q (.tuple [.int .i64 (-1), .bool false]))]) = some (.bool true, (cGq fWe [.list 4 xs, .int .i64 20000, iN 10] ⟨0, [], []⟩ = some (.tuple [.int .i64 (-1), .bool false], ⟨0, [], []⟩, none)) :: []) := by kernel_rfl
set_option maxRecDepth 1000000 in
theorem grT (xs : List (List DV)) (b : Int) : zflat (zans Try.prog tab ftab cGq fGr [.list 4 xs] [(7, .q (.tuple [.int .i64 b, .bool true])), (11, .b true)]) = some (.bool true, (cGq fWe [.list 4 xs, .int .i64 20000, iN 10] ⟨0, [], []⟩ = some (.tuple [.int .i64 b, .bool true], ⟨0, [], []⟩, none)) :: (decide (b < 0) = true) :: []) := by kernel_rfl
set_option maxRecDepth 1000000 in
theorem grF (xs : List (List DV)) (b c : Int) (v : Bool) : zflat (zans Try.prog tab ftab cGq fGr [.list 4 xs] [(7, .q (.tuple [.int .i64 b, .bool true])), (11, .b false), (14, .q (.int .i64 c)), (15, .b v)]) = some (.bool v, (cGq fWe [.list 4 xs, .int .i64 20000, iN 10] ⟨0, [], []⟩ = some (.tuple [.int .i64 b, .bool true], ⟨0, [], []⟩, none)) :: (decide (b < 0) = false) :: (cGq fCn [.list 4 xs] ⟨0, [], []⟩ = some (.int .i64 c, ⟨0, [], []⟩, none)) :: (decide (c > 200) = v) :: []) := by kernel_rfl
/-- too great -/
def grB (l : List El) : Bool := match wgt 10 20000 l with
  | none => true
  | some b => decide (b < 0) || decide (cntA 0 l > 200)
theorem gr_ans (x : ElA) : Ans Try.prog fGr [elsD x.1] (.bool (grB x.1)) ⟨0, [], []⟩ := by
  have h1 := cWe_at 10 ⟨0, [], []⟩ x.1 20000
  have h2 : cGq fCn [elsD x.1] ⟨0, [], []⟩ = some (.int .i64 (cntA 0 x.1), ⟨0, [], []⟩, none) := orK_right (lift_oth (eqC_other (by kernel_rfl))) (cCnt_at _ x)
  unfold grB
  cases hw : wgt 10 20000 x.1 with
  | none =>
    rw [hw] at h1
    exact zflat_ok tab_ok mixed fun_ok cGq_ok (grN (elR x.1)) (.cons (orK_left h1) .nil)
  | some b =>
    rw [hw] at h1
    dsimp only
    cases hb : decide (b < 0) with
    | true => exact zflat_ok tab_ok mixed fun_ok cGq_ok (grT (elR x.1) b) (.cons (orK_left h1) (.cons hb .nil))
    | false => exact zflat_ok tab_ok mixed fun_ok cGq_ok (grF (elR x.1) b (cntA 0 x.1) _) (.cons (orK_left h1) (.cons hb (.cons h2 (.cons rfl .nil))))
def cGr : ConF := liftC (eqC fGr (fun x : ElA => [elsD x.1]) fun x => (.bool (grB x.1), ⟨0, [], []⟩))
theorem cGr_ok : ConOk Try.prog cGr := liftC_ok (eqC_ok gr_ans fun _ => rfl)
theorem cGr_at (hp : Hp) (l : ElA) : cGr fGr [elsD l.1] hp = some (.bool (grB l.1), hp, none) :=
  lift_at (A := fun x : ElA => [elsD x.1]) (D := fun x => .bool (grB x.1)) (fun x y hxy => by
    simp only [elsD, List.cons.injEq, and_true, DV.list.injEq, true_and] at hxy
    rw [elR_inj hxy]) hp l rfl rfl
end
end Go.Proofs.Ytejlbkhddehaiaa
