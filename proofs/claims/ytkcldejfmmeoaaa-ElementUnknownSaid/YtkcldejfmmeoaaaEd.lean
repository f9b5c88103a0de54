/- How deep elements are: a contract for every nesting. -/
import Derived.Test.YtkcldejfmmeoaaaEg
namespace Go.Proofs.Ytkcldejfmmeoaaa
open Go.RowKit

noncomputable section
abbrev fDp : FuncId := 36
abbrev kDp : List (Nat × Nat) := ksF ftab fDp
abbrev dpL : Code := loopAt (bodyOf ftab fDp) 0
section
variable (C : ConF)
set_option maxRecDepth 1000000 in
theorem dp1 (xs ys ss : List (List DV)) (a a2 c c1 : Int) (j : Nat) (i e : UInt8) : zsee Try.prog tab ftab C kDp [0, 3, 4] dpL (cnS xs a j) ⟨0, [], []⟩ [(8, .b true), (14, .n (.fptr (elC i e ys ss))), (17, .q (.int .i64 c)), (18, .w (.int .i64 c1)), (19, .h (.int .i64 a2) ⟨0, [], []⟩ none), (10, .w (iN (j + 1)))] =
    some (.normal, cnS xs a2 (j + 1), ⟨0, [], []⟩, (decide ((j : Int) < (xs.length : Int)) = true) :: weA xs j i e ys ss ((C fDp [.list 4 ss] ⟨0, [], []⟩ = some (.int .i64 c, ⟨0, [], []⟩, none)) :: (DV.int .i64 (IntKind.i64.wrap (1 + c)) = .int .i64 c1) :: (builtinD tab ⟨0, [], []⟩ .max [.int .i64 a, .int .i64 c1] [3, 3] = some (.int .i64 a2, ⟨0, [], []⟩, none)) :: (DV.int .i64 (IntKind.i64.wrap ((j : Int) + 1)) = iN (j + 1)) :: [])) := by kernel_rfl
set_option maxRecDepth 1000000 in
theorem dpO (xs : List (List DV)) (a : Int) (j : Nat) : zsee Try.prog tab ftab C kDp [3] dpL (cnS xs a j) ⟨0, [], []⟩ [(8, .b false)] = some (.exit 0, cnE a, ⟨0, [], []⟩, (decide ((j : Int) < (xs.length : Int)) = false) :: []) := by kernel_rfl
set_option maxRecDepth 1000000 in
theorem dpG (xs : List (List DV)) (a : Int) : zflat (zans Try.prog tab ftab C fDp [.list 4 xs] [(0, .l [0, 3, 4] (.exit 0) (cnE a) ⟨0, [], []⟩)]) = some (.int .i64 a, (Goes Try.prog tab kDp (.loop dpL) (cnS xs 0 0) ⟨0, [], []⟩ (.exit 0) (cnE a) ⟨0, [], []⟩) :: []) := by kernel_rfl
end
def mx (a b : Int) : Int := if a < b then b else a
theorem mx_ok (a b : Int) : builtinD tab ⟨0, [], []⟩ .max [.int .i64 a, .int .i64 b] [3, 3] = some (.int .i64 (mx a b), ⟨0, [], []⟩, none) := by
  show keep _ (mmD false (.int .i64 a) [.int .i64 b]) = _
  simp [mmD, keep, mx]
mutual
/-- what Depth answers -/
def dptE : El → Int
  | .mk _ _ _ s => IntKind.i64.wrap (1 + dptA 0 s)
def dptA : Int → List El → Int
  | a, [] => a
  | a, x :: l => dptA (mx a (dptE x)) l
end
def cDp (d : Nat) : ConF := liftC (eqC fDp (fun x : Els d => [elsD x.1]) fun x => (.int .i64 (dptA 0 x.1), ⟨0, [], []⟩))
theorem cDp_at (d : Nat) (hp : Hp) (l : List El) (h : depA l ≤ d ∧ l.length < 2 ^ 63 ∧ okL l) : cDp d fDp [elsD l] hp = some (.int .i64 (dptA 0 l), hp, none) :=
  lift_at (A := fun x : Els d => [elsD x.1]) (D := fun x => .int .i64 (dptA 0 x.1)) (fun x y hxy => by
    simp only [elsD, List.cons.injEq, and_true, DV.list.injEq, true_and] at hxy
    rw [elR_inj hxy]) hp ⟨l, h⟩ rfl rfl
theorem dp_loop (d : Nat) (hC : ConOk Try.prog (cDp d)) (l : List El) (hl : depA l ≤ d + 1 ∧ l.length < 2 ^ 63 ∧ okL l) : ∀ (rest pre : List El) (a : Int), l = pre ++ rest → ∃ m, GoesR Try.prog tab kDp dpL (m + 1) (cnS (elR l) a pre.length) ⟨0, [], []⟩ (.exit 0) (cnE (dptA a rest)) ⟨0, [], []⟩
  | [], pre, a, e => by
    have hn : (elR l).length = pre.length := by rw [elR_length, e, List.append_nil]
    exact ⟨0, GoesR.last (zsee_ok tab_ok mixed fun_ok hC (dpO (cDp d) (elR l) a pre.length) (.cons (decide_eq_false (by omega)) .nil)) (by intro h; cases h)⟩
  | .mk i x dt s :: rest, pre, a, e => by
    obtain ⟨hl1, hl2, hl3⟩ := hl
    have hn := elR_length l
    have hll : l.length = pre.length + (rest.length + 1) := by rw [e]; simp
    have hj : l[pre.length]? = some (.mk i x dt s) := by rw [e]; simp
    have hlt : decide ((pre.length : Int) < ((elR l).length : Int)) = true := decide_eq_true (by omega)
    have hi : idxOk (pre.length : Int) (elR l).length = true := idxOk_lt (by omega)
    have hs := dep_sub hj
    have ho : dt.length < 2 ^ 63 ∧ s.length < 2 ^ 63 ∧ okL s := okL_at hl3 hj
    have hw : DV.int .i64 (IntKind.i64.wrap ((pre.length : Int) + 1)) = iN (pre.length + 1) := congrArg (DV.int .i64) (wrapI (n := pre.length + 1) (by omega))
    have hc := cDp_at d ⟨0, [], []⟩ s ⟨by omega, ho.2⟩
    obtain ⟨m, g⟩ := dp_loop d hC l ⟨hl1, hl2, hl3⟩ rest (pre ++ [.mk i x dt s]) (mx a (IntKind.i64.wrap (1 + dptA 0 s))) (by rw [e, List.append_assoc]; rfl)
    rw [List.length_append] at g
    exact ⟨m + 1, GoesR.step (zsee_ok tab_ok mixed fun_ok hC (dp1 (cDp d) (elR l) (by1 dt) (elR s) a (mx a (IntKind.i64.wrap (1 + dptA 0 s))) (dptA 0 s) (IntKind.i64.wrap (1 + dptA 0 s)) pre.length i x) (.cons hlt (.cons hi (.cons (elR_at hj) (.cons hc (.cons rfl (.cons (mx_ok _ _) (.cons hw .nil)))))))) g⟩
theorem dp_ans : ∀ (d : Nat) (x : Els d), Ans Try.prog fDp [elsD x.1] (.int .i64 (dptA 0 x.1)) ⟨0, [], []⟩
  | 0, ⟨l, h, _⟩ => by
    obtain rfl := dep_zero h
    exact zflat_ok tab_ok mixed fun_ok noC_ok (dpG noC (elR []) 0) (.cons (GoesR.last (zsee_ok tab_ok mixed fun_ok noC_ok (dpO noC (elR []) 0 0) (.cons (decide_eq_false (by simp [elR])) .nil)) (by intro h; cases h)).goes .nil)
  | d + 1, ⟨l, h⟩ => by
    have hC : ConOk Try.prog (cDp d) := liftC_ok (eqC_ok (dp_ans d) fun _ => rfl)
    obtain ⟨m, g⟩ := dp_loop d hC l h l [] 0 rfl
    exact zflat_ok tab_ok mixed fun_ok hC (dpG (cDp d) (elR l) (dptA 0 l)) (.cons g.goes .nil)
theorem cDp_ok (d : Nat) : ConOk Try.prog (cDp d) := liftC_ok (eqC_ok (dp_ans d) fun _ => rfl)
end
end Go.Proofs.Ytkcldejfmmeoaaa
