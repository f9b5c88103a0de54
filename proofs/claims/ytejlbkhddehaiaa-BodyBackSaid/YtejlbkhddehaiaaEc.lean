/- How many elements there are: a contract for every nesting. -/
import Derived.Test.YtejlbkhddehaiaaEw
namespace Go.Proofs.Ytejlbkhddehaiaa
open Go.RowKit

noncomputable section
abbrev fCn : FuncId := 79
abbrev kCn : List (Nat × Nat) := ksF ftab fCn
abbrev cnL : Code := loopAt (bodyOf ftab fCn) 0
abbrev cnS (xs : List (List DV)) (a : Int) (i : Nat) : Slots := mkT 21 [(0, .list 4 xs), (3, .int .i64 a), (4, iN i)]
abbrev cnE (a : Int) : Slots := mkT 21 [(3, .int .i64 a)]
section
variable (C : ConF)
set_option maxRecDepth 1000000 in
theorem cn1 (xs ys ss : List (List DV)) (a a1 a2 c : Int) (j : Nat) (i e : UInt8) : zsee Try.prog tab ftab C kCn [0, 3, 4] cnL (cnS xs a j) ⟨0, [], []⟩ [(8, .b true), (12, .w (.int .i64 a1)), (15, .n (.fptr (elC i e ys ss))), (18, .q (.int .i64 c)), (19, .w (.int .i64 a2)), (10, .w (iN (j + 1)))] =
    some (.normal, cnS xs a2 (j + 1), ⟨0, [], []⟩, (decide ((j : Int) < (xs.length : Int)) = true) :: (DV.int .i64 (IntKind.i64.wrap (a + 1)) = .int .i64 a1) :: weA xs j i e ys ss ((C fCn [.list 4 ss] ⟨0, [], []⟩ = some (.int .i64 c, ⟨0, [], []⟩, none)) :: (DV.int .i64 (IntKind.i64.wrap (a1 + c)) = .int .i64 a2) :: (DV.int .i64 (IntKind.i64.wrap ((j : Int) + 1)) = iN (j + 1)) :: [])) := by kernel_rfl
set_option maxRecDepth 1000000 in
theorem cnO (xs : List (List DV)) (a : Int) (j : Nat) : zsee Try.prog tab ftab C kCn [3] cnL (cnS xs a j) ⟨0, [], []⟩ [(8, .b false)] = some (.exit 0, cnE a, ⟨0, [], []⟩, (decide ((j : Int) < (xs.length : Int)) = false) :: []) := by kernel_rfl
set_option maxRecDepth 1000000 in
theorem cnG (xs : List (List DV)) (a : Int) : zflat (zans Try.prog tab ftab C fCn [.list 4 xs] [(0, .l [0, 3, 4] (.exit 0) (cnE a) ⟨0, [], []⟩)]) = some (.int .i64 a, (Goes Try.prog tab kCn (.loop cnL) (cnS xs 0 0) ⟨0, [], []⟩ (.exit 0) (cnE a) ⟨0, [], []⟩) :: []) := by kernel_rfl
end
mutual
/-- what Count answers -/
def cntE : El → Int
  | .mk _ _ _ s => cntA 0 s
def cntA : Int → List El → Int
  | a, [] => a
  | a, x :: l => cntA (IntKind.i64.wrap (IntKind.i64.wrap (a + 1) + cntE x)) l
end
abbrev Els (d : Nat) : Type := {l : List El // depA l ≤ d ∧ l.length < 2 ^ 63 ∧ okL l}
def cCn (d : Nat) : ConF := liftC (eqC fCn (fun x : Els d => [elsD x.1]) fun x => (.int .i64 (cntA 0 x.1), ⟨0, [], []⟩))
theorem cCn_at (d : Nat) (hp : Hp) (l : List El) (h : depA l ≤ d ∧ l.length < 2 ^ 63 ∧ okL l) : cCn d fCn [elsD l] hp = some (.int .i64 (cntA 0 l), hp, none) :=
  lift_at (A := fun x : Els d => [elsD x.1]) (D := fun x => .int .i64 (cntA 0 x.1)) (fun x y hxy => by
    simp only [elsD, List.cons.injEq, and_true, DV.list.injEq, true_and] at hxy
    rw [elR_inj hxy]) hp ⟨l, h⟩ rfl rfl
theorem cn_loop (d : Nat) (hC : ConOk Try.prog (cCn d)) (l : List El) (hl : depA l ≤ d + 1 ∧ l.length < 2 ^ 63 ∧ okL l) : ∀ (rest pre : List El) (a : Int), l = pre ++ rest → ∃ m, GoesR Try.prog tab kCn cnL (m + 1) (cnS (elR l) a pre.length) ⟨0, [], []⟩ (.exit 0) (cnE (cntA a rest)) ⟨0, [], []⟩
  | [], pre, a, e => by
    have hn : (elR l).length = pre.length := by rw [elR_length, e, List.append_nil]
    exact ⟨0, GoesR.last (zsee_ok tab_ok mixed fun_ok hC (cnO (cCn d) (elR l) a pre.length) (.cons (decide_eq_false (by omega)) .nil)) (by intro h; cases h)⟩
  | .mk i x dt s :: rest, pre, a, e => by
    obtain ⟨hl1, hl2, hl3⟩ := hl
    have hn := elR_length l
    have hll : l.length = pre.length + (rest.length + 1) := by rw [e]; simp
    have hj : l[pre.length]? = some (.mk i x dt s) := by rw [e]; simp
    have hlt : decide ((pre.length : Int) < ((elR l).length : Int)) = true := decide_eq_true (by omega)
    have hi : idxOk (pre.length : Int) (elR l).length = true := idxOk_lt (by omega)
    have hs := dep_sub hj
    have ho : dt.length < 2 ^ 63 ∧ s.length < 2 ^ 63 ∧ okL s := okL_at hl3 hj
    have hw : DV.int .i64 (IntKind.i64.wrap ((pre.length : Int) + 1)) = iN (pre.length + 1) := congrArg (DV.int .i64) (wrapI (n := pre.length + 1) (by omega))
    have hc := cCn_at d ⟨0, [], []⟩ s ⟨by omega, ho.2⟩
    obtain ⟨m, g⟩ := cn_loop d hC l ⟨hl1, hl2, hl3⟩ rest (pre ++ [.mk i x dt s]) (IntKind.i64.wrap (IntKind.i64.wrap (a + 1) + cntA 0 s)) (by rw [e, List.append_assoc]; rfl)
    rw [List.length_append] at g
    exact ⟨m + 1, GoesR.step (zsee_ok tab_ok mixed fun_ok hC (cn1 (cCn d) (elR l) (by1 dt) (elR s) a (IntKind.i64.wrap (a + 1)) (IntKind.i64.wrap (IntKind.i64.wrap (a + 1) + cntA 0 s)) (cntA 0 s) pre.length i x) (.cons hlt (.cons rfl (.cons hi (.cons (elR_at hj) (.cons hc (.cons rfl (.cons hw .nil)))))))) g⟩
theorem cn_ans : ∀ (d : Nat) (x : Els d), Ans Try.prog fCn [elsD x.1] (.int .i64 (cntA 0 x.1)) ⟨0, [], []⟩
  | 0, ⟨l, h, _⟩ => by
    obtain rfl := dep_zero h
    exact zflat_ok tab_ok mixed fun_ok noC_ok (cnG noC (elR []) 0) (.cons (GoesR.last (zsee_ok tab_ok mixed fun_ok noC_ok (cnO noC (elR []) 0 0) (.cons (decide_eq_false (by simp [elR])) .nil)) (by intro h; cases h)).goes .nil)
  | d + 1, ⟨l, h⟩ => by
    have hC : ConOk Try.prog (cCn d) := liftC_ok (eqC_ok (cn_ans d) fun _ => rfl)
    obtain ⟨m, g⟩ := cn_loop d hC l h l [] 0 rfl
    exact zflat_ok tab_ok mixed fun_ok hC (cnG (cCn d) (elR l) (cntA 0 l)) (.cons g.goes .nil)
theorem cCn_ok (d : Nat) : ConOk Try.prog (cCn d) := liftC_ok (eqC_ok (cn_ans d) fun _ => rfl)
end
end Go.Proofs.Ytejlbkhddehaiaa
