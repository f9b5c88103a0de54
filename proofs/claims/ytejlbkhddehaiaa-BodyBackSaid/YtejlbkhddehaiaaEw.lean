/- How heavy elements are: a contract, by the depth. -/
import Derived.Test.YtejlbkhddehaiaaEb
namespace Go.Proofs.Ytejlbkhddehaiaa
open Go.RowKit

noncomputable section
abbrev fWe : FuncId := 78
abbrev kWe : List (Nat × Nat) := ksF ftab fWe
abbrev weL : Code := loopAt (bodyOf ftab fWe) 0
abbrev weS (xs : List (List DV)) (b : Int) (k i : Nat) : Slots := mkT 56 [(0, .list 4 xs), (1, .int .i64 b), (2, iN k), (8, iN i)]
abbrev weF : Slots := mkT 56 [(6, .int .i64 (-1)), (7, .bool false)]
abbrev weE (b : Int) : Slots := mkT 56 [(1, .int .i64 b)]
abbrev weN (xs : List (List DV)) (b b1 b2 : Int) (j : Nat) (i e : UInt8) (ys ss : List (List DV)) (t : List Prop) : List Prop := (decide ((j : Int) < (xs.length : Int)) = true) :: weA xs j i e ys ss ((DV.int .i64 (IntKind.i64.wrap (b - (ys.length : Int))) = .int .i64 b1) :: (DV.int .i64 (IntKind.i64.wrap (b1 - 1)) = .int .i64 b2) :: t)
section
variable (C : ConF)
set_option maxRecDepth 1000000 in
theorem we1 (xs ys ss : List (List DV)) (b b1 b2 b3 : Int) (k j : Nat) (i e : UInt8) : zsee Try.prog tab ftab C kWe [0, 1, 2, 8] weL (weS xs b (k + 1) j) ⟨0, [], []⟩ [(26, .b true), (32, .n (.fptr (elC i e ys ss))), (36, .w (.int .i64 b1)), (37, .w (.int .i64 b2)), (39, .b false), (43, .n (.fptr (elC i e ys ss))), (48, .w (iN k)), (49, .q (.tuple [.int .i64 b3, .bool true])), (28, .w (iN (j + 1)))] =
    some (.normal, weS xs b3 (k + 1) (j + 1), ⟨0, [], []⟩, weN xs b b1 b2 j i e ys ss ((decide (b2 < 0) = false) :: weA xs j i e ys ss ((DV.int .i64 (IntKind.i64.wrap (((k + 1 : Nat) : Int) - 1)) = iN k) :: (C fWe [.list 4 ss, .int .i64 b2, iN k] ⟨0, [], []⟩ = some (.tuple [.int .i64 b3, .bool true], ⟨0, [], []⟩, none)) :: (DV.int .i64 (IntKind.i64.wrap ((j : Int) + 1)) = iN (j + 1)) :: []))) := by kernel_rfl
set_option maxRecDepth 1000000 in
theorem weX (xs ys ss : List (List DV)) (b b1 b2 : Int) (k j : Nat) (i e : UInt8) : zsee Try.prog tab ftab C kWe [6, 7] weL (weS xs b (k + 1) j) ⟨0, [], []⟩ [(26, .b true), (32, .n (.fptr (elC i e ys ss))), (36, .w (.int .i64 b1)), (37, .w (.int .i64 b2)), (39, .b true)] =
    some (.ret, weF, ⟨0, [], []⟩, weN xs b b1 b2 j i e ys ss ((decide (b2 < 0) = true) :: [])) := by kernel_rfl
set_option maxRecDepth 1000000 in
theorem weY (xs ys ss : List (List DV)) (b b1 b2 b3 : Int) (k j : Nat) (i e : UInt8) : zsee Try.prog tab ftab C kWe [6, 7] weL (weS xs b (k + 1) j) ⟨0, [], []⟩ [(26, .b true), (32, .n (.fptr (elC i e ys ss))), (36, .w (.int .i64 b1)), (37, .w (.int .i64 b2)), (39, .b false), (43, .n (.fptr (elC i e ys ss))), (48, .w (iN k)), (49, .q (.tuple [.int .i64 b3, .bool false]))] =
    some (.ret, weF, ⟨0, [], []⟩, weN xs b b1 b2 j i e ys ss ((decide (b2 < 0) = false) :: weA xs j i e ys ss ((DV.int .i64 (IntKind.i64.wrap (((k + 1 : Nat) : Int) - 1)) = iN k) :: (C fWe [.list 4 ss, .int .i64 b2, iN k] ⟨0, [], []⟩ = some (.tuple [.int .i64 b3, .bool false], ⟨0, [], []⟩, none)) :: []))) := by kernel_rfl
set_option maxRecDepth 1000000 in
theorem weO (xs : List (List DV)) (b : Int) (k j : Nat) : zsee Try.prog tab ftab C kWe [1] weL (weS xs b k j) ⟨0, [], []⟩ [(26, .b false)] = some (.exit 0, weE b, ⟨0, [], []⟩, (decide ((j : Int) < (xs.length : Int)) = false) :: []) := by kernel_rfl
set_option maxRecDepth 1000000 in
theorem weG (xs : List (List DV)) (b b' : Int) (k : Nat) : zflat (zans Try.prog tab ftab C fWe [.list 4 xs, .int .i64 b, iN (k + 1)] [(12, .b false), (21, .b false), (0, .l [0, 1, 2, 8] (.exit 0) (weE b') ⟨0, [], []⟩)]) = some (.tuple [.int .i64 b', .bool true], ((((k + 1 : Nat) : Int) == 0) = false) :: (decide ((xs.length : Int) > 200) = false) :: (Goes Try.prog tab kWe (.loop weL) (weS xs b (k + 1) 0) ⟨0, [], []⟩ (.exit 0) (weE b') ⟨0, [], []⟩) :: []) := by kernel_rfl
set_option maxRecDepth 1000000 in
theorem weH (xs : List (List DV)) (b : Int) (k : Nat) : zflat (zans Try.prog tab ftab C fWe [.list 4 xs, .int .i64 b, iN (k + 1)] [(12, .b false), (21, .b false), (0, .l [0, 1, 2, 8] .ret weF ⟨0, [], []⟩)]) = some (.tuple [.int .i64 (-1), .bool false], ((((k + 1 : Nat) : Int) == 0) = false) :: (decide ((xs.length : Int) > 200) = false) :: (Goes Try.prog tab kWe (.loop weL) (weS xs b (k + 1) 0) ⟨0, [], []⟩ .ret weF ⟨0, [], []⟩) :: []) := by kernel_rfl
set_option maxRecDepth 1000000 in
theorem weB (xs : List (List DV)) (b : Int) (k : Nat) : zflat (zans Try.prog tab ftab C fWe [.list 4 xs, .int .i64 b, iN (k + 1)] [(12, .b false), (21, .b true)]) = some (.tuple [.int .i64 (-1), .bool false], ((((k + 1 : Nat) : Int) == 0) = false) :: (decide ((xs.length : Int) > 200) = true) :: []) := by kernel_rfl
set_option maxRecDepth 1000000 in
theorem we0n (x : List DV) (xs : List (List DV)) (b : Int) : zflat (zans Try.prog tab ftab C fWe [.list 4 (x :: xs), .int .i64 b, iN 0] [(16, .b true)]) = some (.tuple [.int .i64 (-1), .bool false], (decide (((x :: xs).length : Int) > 0) = true) :: []) := by kernel_rfl
set_option maxRecDepth 1000000 in
theorem we0 (b : Int) : zflat (zans Try.prog tab ftab C fWe [.list 4 [], .int .i64 b, iN 0] []) = some (.tuple [.int .i64 b, .bool true], []) := by kernel_rfl
end
/-! ### What weight answers -/
def weB2 (b : Int) (d : List UInt8) : Int := IntKind.i64.wrap (IntKind.i64.wrap (b - (d.length : Int)) - 1)
/-- what is left behind these elements -/
def wgtL (r : Int → List El → Option Int) : Int → List El → Option Int
  | b, [] => some b
  | b, .mk _ _ d s :: l => match decide (weB2 b d < 0) with
    | true => none
    | false => match r (weB2 b d) s with
      | none => none
      | some b3 => wgtL r b3 l
def wgt : Nat → Int → List El → Option Int
  | 0, b, [] => some b
  | 0, _, _ :: _ => none
  | k + 1, b, l => match decide (l.length > 200) with
    | true => none
    | false => wgtL (wgt k) b l
def wD : Option Int → DV
  | some b => .tuple [.int .i64 b, .bool true]
  | none => .tuple [.int .i64 (-1), .bool false]
def wE : Option Int → Ex × Slots
  | some b => (.exit 0, weE b)
  | none => (.ret, weF)
def cWe (k : Nat) : ConF := liftC (eqC fWe (fun x : List El × Int => [elsD x.1, .int .i64 x.2, iN k]) fun x => (wD (wgt k x.2 x.1), ⟨0, [], []⟩))
theorem wD_flat (o : Option Int) : flatD (wD o) = true := by cases o <;> rfl
theorem cWe_at (k : Nat) (hp : Hp) (l : List El) (b : Int) : cWe k fWe [elsD l, .int .i64 b, iN k] hp = some (wD (wgt k b l), hp, none) :=
  lift_at (A := fun x : List El × Int => [elsD x.1, .int .i64 x.2, iN k]) (D := fun x => wD (wgt k x.2 x.1)) (fun x y hxy => by
    simp only [elsD, List.cons.injEq, and_true, DV.list.injEq, DV.int.injEq, true_and] at hxy
    rw [elR_inj hxy.1, hxy.2]) hp (l, b) rfl (wD_flat _)
theorem we_loop (k : Nat) (hk0 : k < 2 ^ 62) (hC : ConOk Try.prog (cWe k)) (l : List El) (hl : l.length ≤ 200) : ∀ (rest pre : List El) (b : Int), l = pre ++ rest → ∃ m, GoesR Try.prog tab kWe weL (m + 1) (weS (elR l) b (k + 1) pre.length) ⟨0, [], []⟩ (wE (wgtL (wgt k) b rest)).1 (wE (wgtL (wgt k) b rest)).2 ⟨0, [], []⟩
  | [], pre, b, e => by
    have hn : (elR l).length = pre.length := by rw [elR_length, e, List.append_nil]
    exact ⟨0, GoesR.last (zsee_ok tab_ok mixed fun_ok hC (weO (cWe k) (elR l) b (k + 1) pre.length) (.cons (decide_eq_false (by omega)) .nil)) (by intro h; cases h)⟩
  | .mk i x d s :: rest, pre, b, e => by
    have hn := elR_length l
    have hll : l.length = pre.length + (rest.length + 1) := by rw [e]; simp
    have hj : l[pre.length]? = some (.mk i x d s) := by rw [e]; simp
    have hlt : decide ((pre.length : Int) < ((elR l).length : Int)) = true := decide_eq_true (by omega)
    have hi : idxOk (pre.length : Int) (elR l).length = true := idxOk_lt (by omega)
    have hx := elR_at hj
    have hd : DV.int .i64 (IntKind.i64.wrap (b - ((by1 d).length : Int))) = .int .i64 (IntKind.i64.wrap (b - (d.length : Int))) := by rw [by1_length]
    have hk : DV.int .i64 (IntKind.i64.wrap (((k + 1 : Nat) : Int) - 1)) = iN k := by
      rw [show (((k + 1 : Nat) : Int) - 1) = (k : Int) by omega]
      exact congrArg (DV.int .i64) (wrapI (n := k) (by omega))
    have hw : DV.int .i64 (IntKind.i64.wrap ((pre.length : Int) + 1)) = iN (pre.length + 1) := congrArg (DV.int .i64) (wrapI (n := pre.length + 1) (by omega))
    have hc := cWe_at k ⟨0, [], []⟩ s (weB2 b d)
    unfold wgtL
    cases hb : decide (weB2 b d < 0) with
    | true => exact ⟨0, GoesR.last (zsee_ok tab_ok mixed fun_ok hC (weX (cWe k) (elR l) (by1 d) (elR s) b (IntKind.i64.wrap (b - (d.length : Int))) (weB2 b d) k pre.length i x) (.cons hlt (.cons hi (.cons hx (.cons hd (.cons rfl (.cons hb .nil))))))) (by intro h; cases h)⟩
    | false =>
      cases hr : wgt k (weB2 b d) s with
      | none =>
        rw [hr] at hc
        exact ⟨0, GoesR.last (zsee_ok tab_ok mixed fun_ok hC (weY (cWe k) (elR l) (by1 d) (elR s) b (IntKind.i64.wrap (b - (d.length : Int))) (weB2 b d) (-1) k pre.length i x) (.cons hlt (.cons hi (.cons hx (.cons hd (.cons rfl (.cons hb (.cons hi (.cons hx (.cons hk (.cons hc .nil))))))))))) (by intro h; cases h)⟩
      | some b3 =>
        rw [hr] at hc
        obtain ⟨m, g⟩ := we_loop k hk0 hC l hl rest (pre ++ [.mk i x d s]) b3 (by rw [e, List.append_assoc]; rfl)
        rw [List.length_append] at g
        exact ⟨m + 1, GoesR.step (zsee_ok tab_ok mixed fun_ok hC (we1 (cWe k) (elR l) (by1 d) (elR s) b (IntKind.i64.wrap (b - (d.length : Int))) (weB2 b d) b3 k pre.length i x) (.cons hlt (.cons hi (.cons hx (.cons hd (.cons rfl (.cons hb (.cons hi (.cons hx (.cons hk (.cons hc (.cons hw .nil)))))))))))) g⟩
theorem we_ans : ∀ (k : Nat), k < 2 ^ 62 → ∀ x : List El × Int, Ans Try.prog fWe [elsD x.1, .int .i64 x.2, iN k] (wD (wgt k x.2 x.1)) ⟨0, [], []⟩
  | 0, _, ([], b) => zflat_ok tab_ok mixed fun_ok noC_ok (we0 noC b) .nil
  | 0, _, (y :: l, b) => zflat_ok tab_ok mixed fun_ok noC_ok (we0n noC (elD y) (elR l) b) (.cons (decide_eq_true (by simp)) .nil)
  | k + 1, hk, (l, b) => by
    have hC : ConOk Try.prog (cWe k) := liftC_ok (eqC_ok (we_ans k (by omega)) fun _ => rfl)
    have hn := elR_length l
    have h0 : (((k + 1 : Nat) : Int) == 0) = false := beq_false_of_ne (by omega)
    show Ans _ _ [.list 4 (elR l), .int .i64 b, iN (k + 1)] (wD (wgt (k + 1) b l)) _
    unfold wgt
    by_cases hl : l.length > 200
    · rw [decide_eq_true hl]
      exact zflat_ok tab_ok mixed fun_ok hC (weB (cWe k) (elR l) b k) (.cons h0 (.cons (decide_eq_true (by omega)) .nil))
    · rw [decide_eq_false hl]
      have n1 : decide (((elR l).length : Int) > 200) = false := decide_eq_false (by omega)
      obtain ⟨m, g⟩ := we_loop k (by omega) hC l (by omega) l [] b rfl
      have g := g.goes
      dsimp only
      cases hr : wgtL (wgt k) b l with
      | none =>
        rw [hr] at g
        exact zflat_ok tab_ok mixed fun_ok hC (weH (cWe k) (elR l) b k) (.cons h0 (.cons n1 (.cons g .nil)))
      | some b2 =>
        rw [hr] at g
        exact zflat_ok tab_ok mixed fun_ok hC (weG (cWe k) (elR l) b b2 k) (.cons h0 (.cons n1 (.cons g .nil)))
theorem cWe_ok (k : Nat) (hk : k < 2 ^ 62) : ConOk Try.prog (cWe k) := liftC_ok (eqC_ok (we_ans k hk) fun _ => rfl)
end
end Go.Proofs.Ytejlbkhddehaiaa
