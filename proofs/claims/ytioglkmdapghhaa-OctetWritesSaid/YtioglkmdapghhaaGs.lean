/- A field is read: a contract. -/
import Derived.Test.YtioglkmdapghhaaOq
import Derived.Test.YtioglkmdapghhaaMJ
namespace Go.Proofs.Ytioglkmdapghhaa
open Go.RowKit

noncomputable section
def cGt : ConF := orK cG2 cTk
theorem cGt_ok : ConOk Try.prog cGt := orK_ok cG2_ok cTk_ok
abbrev zRd : Ob := ⟨0, 0, 80, [.nil, .int .i64 0]⟩
abbrev oRd (xs : List (List DV)) (x : Int) : Ob := ⟨0, 0, 80, [.list 1 xs, .int .i64 x]⟩
abbrev fGs : FuncId := 82
set_option maxRecDepth 1000000 in
theorem gsE (xs ys : List (List DV)) (x y e : Int) (v : Nat) : zflat (zans Try.prog tab ftab cGt fGs [.agg [.list 1 xs, .int .i64 x]] [(10, .q (.tuple [.int .u16 (v : Int), .agg [.list 1 ys, .int .i64 y], .int .i64 e])), (15, .b true)]) =
    some (.tuple [.nil, .agg [.nil, .int .i64 0], .int .i64 e], (cGt 102 [.agg [.list 1 xs, .int .i64 x]] ⟨2, [zRd, oRd xs x], []⟩ = some (.tuple [.int .u16 (v : Int), .agg [.list 1 ys, .int .i64 y], .int .i64 e], ⟨2, [zRd, oRd xs x], []⟩, none)) :: ((e != 0) = true) :: []) := by kernel_rfl
set_option maxRecDepth 1000000 in
theorem gsO (xs ys ps zs : List (List DV)) (x y z e : Int) (v : Nat) : zflat (zans Try.prog tab ftab cGt fGs [.agg [.list 1 xs, .int .i64 x]] [(10, .q (.tuple [.int .u16 (v : Int), .agg [.list 1 ys, .int .i64 y], .int .i64 0])), (20, .w (iN v)), (21, .q (.tuple [.list 1 ps, .agg [.list 1 zs, .int .i64 z], .int .i64 e]))]) =
    some (.tuple [.list 1 ps, .agg [.list 1 zs, .int .i64 z], .int .i64 e], (cGt 102 [.agg [.list 1 xs, .int .i64 x]] ⟨2, [zRd, oRd xs x], []⟩ = some (.tuple [.int .u16 (v : Int), .agg [.list 1 ys, .int .i64 y], .int .i64 0], ⟨2, [zRd, oRd xs x], []⟩, none)) :: (DV.int .i64 (IntKind.i64.wrap (v : Int)) = iN v) ::
      (cGt 103 [.agg [.list 1 ys, .int .i64 y], iN v] ⟨3, [oRd ys y, zRd, oRd xs x], []⟩ = some (.tuple [.list 1 ps, .agg [.list 1 zs, .int .i64 z], .int .i64 e], ⟨3, [oRd ys y, zRd, oRd xs x], []⟩, none)) :: []) := by kernel_rfl
/-- what getSized answers -/
def gsD (b : List UInt8) (x : Int) : DV := if cutE b.length x 2 = 0 then d3 b (x + 2) (vA b x 2) else .tuple [.list 1 [], .agg [.list 1 [], .int .i64 0], .int .i64 (cutE b.length x 2)]
theorem cGt_g2 (hp : Hp) (x : BI) : cGt 102 [rd x.1.1 x.2] hp = some (dn .u16 x.1.1 x.2 2, hp, none) := orK_left (cG2_at hp x)
theorem cGt_tk (hp : Hp) (x : BII) : cGt 103 [rd x.1.1 x.2.1, .int .i64 x.2.2] hp = some (d3 x.1.1 x.2.1 x.2.2, hp, none) := orK_right (lift_oth (eqC_other (by kernel_rfl))) (cTk_at hp x)
theorem vA2_lt (b : List UInt8) (x : Int) : vA b x 2 < 65536 := by
  have h := leN_lt (pcB b x 2)
  have hl : (pcB b x 2).length ≤ 2 := by
    unfold pcB
    split
    · rw [List.length_take]
      have : (2 : Int).toNat = 2 := rfl
      omega
    · simp
  unfold vA
  refine Nat.lt_of_lt_of_le h ?_
  have : (256 : Nat) ^ (pcB b x 2).length ≤ 256 ^ 2 := Nat.pow_le_pow_right (by decide) hl
  omega
theorem ans_cGs (x : BI) : Ans Try.prog fGs [rd x.1.1 x.2] (gsD x.1.1 x.2) ⟨0, [], []⟩ := by
  obtain ⟨b, x⟩ := x
  have k1 := cGt_g2 ⟨2, [zRd, oRd (by1 b.1) x], []⟩ (b, x)
  show Ans _ _ [.agg [.list 1 (by1 b.1), .int .i64 x]] _ _
  unfold gsD
  by_cases he : cutE b.1.length x 2 = 0
  · rw [if_pos he]
    have ha : afB b.1 x 2 = b.1 := by unfold afB; rw [if_pos he]
    have hx : afX b.1 x 2 = x + 2 := by unfold afX; rw [if_pos he]
    have hv := vA2_lt b.1 x
    simp only [dn, ha, hx, he] at k1
    have k2 := cGt_tk ⟨3, [oRd (by1 b.1) (x + 2), zRd, oRd (by1 b.1) x], []⟩ (b, x + 2, (vA b.1 x 2 : Int))
    exact zflat_ok tab_ok mixed fun_ok cGt_ok (gsO (by1 b.1) (by1 b.1) (by1 (pcB b.1 (x + 2) (vA b.1 x 2))) (by1 (afB b.1 (x + 2) (vA b.1 x 2))) x (x + 2) (afX b.1 (x + 2) (vA b.1 x 2)) (cutE b.1.length (x + 2) (vA b.1 x 2)) (vA b.1 x 2)) (.cons k1 (.cons (congrArg (DV.int .i64) (wrapI (by omega))) (.cons k2 .nil)))
  · rw [if_neg he]
    exact Ans.nil3 (zflat_ok tab_ok mixed fun_ok cGt_ok (gsE (by1 b.1) (by1 (afB b.1 x 2)) x (afX b.1 x 2) (cutE b.1.length x 2) (vA b.1 x 2)) (.cons k1 (.cons (bne_iff_ne.2 he) .nil)))
def cGs : ConF := liftC (eqC fGs (fun x : BI => [rd x.1.1 x.2]) fun x => (gsD x.1.1 x.2, ⟨0, [], []⟩))
theorem cGs_ok : ConOk Try.prog cGs := liftC_ok (eqC_ok ans_cGs (fun _ => rfl))
theorem gsD_flat (b : List UInt8) (x : Int) : flatD (gsD b x) = true := by
  unfold gsD
  split <;> rfl
theorem cGs_at (hp : Hp) (x : BI) : cGs fGs [rd x.1.1 x.2] hp = some (gsD x.1.1 x.2, hp, none) :=
  lift_at (A := fun x : BI => [rd x.1.1 x.2]) (D := fun x => gsD x.1.1 x.2) (fun x y hxy => by
    obtain ⟨x1, x2⟩ := x
    obtain ⟨y1, y2⟩ := y
    simp only [List.cons.injEq, and_true] at hxy
    obtain ⟨rfl, rfl⟩ := rd_inj hxy
    rfl) hp x rfl (gsD_flat _ _)
end
end Go.Proofs.Ytioglkmdapghhaa
