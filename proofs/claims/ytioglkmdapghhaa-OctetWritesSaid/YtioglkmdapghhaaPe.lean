/- The reference's Number and Split: contracts. -/
import Derived.Test.YtioglkmdapghhaaPd
namespace Go.Proofs.Ytioglkmdapghhaa
open Go.RowKit

noncomputable section
abbrev fNm : FuncId := 52
abbrev fTa : FuncId := 53
set_option maxRecDepth 1000000 in
theorem nmE (xs ps ys : List (List DV)) (x y e : Int) : zflat (zans Try.prog tab ftab cRt fNm [.agg [.list 1 xs, .int .i64 x], .int .i64 2] [(15, .q (.tuple [.list 1 ps, .agg [.list 1 ys, .int .i64 y], .int .i64 e])), (20, .b true)]) =
    some (.tuple [i64u 0, .agg [.nil, .int .i64 0], .int .i64 e], (cRt fTa [.agg [.list 1 xs, .int .i64 x], .int .i64 2] ⟨2, [zRd, oRd xs x], []⟩ = some (.tuple [.list 1 ps, .agg [.list 1 ys, .int .i64 y], .int .i64 e], ⟨2, [zRd, oRd xs x], []⟩, none)) :: ((e != 0) = true) :: []) := by kernel_rfl
set_option maxRecDepth 1000000 in
theorem nmO (xs ys : List (List DV)) (x y : Int) (c0 c1 : UInt8) (u0 u1 v1 w0 v : Nat) : zflat (zans Try.prog tab ftab cRt fNm [.agg [.list 1 xs, .int .i64 x], .int .i64 2] [(15, .q (.tuple [.list 1 [[i8 c0], [i8 c1]], .agg [.list 1 ys, .int .i64 y], .int .i64 0])), (35, .w (i64u u1)), (36, .w (i64u v1)), (30, .w (i64u w0)), (35, .w (i64u u0)), (36, .w (i64u v))]) =
    some (.tuple [i64u v, .agg [.list 1 ys, .int .i64 y], .int .i64 0], (cRt fTa [.agg [.list 1 xs, .int .i64 x], .int .i64 2] ⟨2, [zRd, oRd xs x], []⟩ = some (.tuple [.list 1 [[i8 c0], [i8 c1]], .agg [.list 1 ys, .int .i64 y], .int .i64 0], ⟨2, [zRd, oRd xs x], []⟩, none)) ::
      (DV.int .u64 (IntKind.u64.wrap (c1.toNat : Int)) = i64u u1) :: (DV.int .u64 (IntKind.u64.wrap (0 + (u1 : Int))) = i64u v1) :: (DV.int .u64 (IntKind.u64.wrap ((v1 : Int) * 256)) = i64u w0) :: (DV.int .u64 (IntKind.u64.wrap (c0.toNat : Int)) = i64u u0) :: (DV.int .u64 (IntKind.u64.wrap ((w0 : Int) + (u0 : Int))) = i64u v) :: []) := by kernel_rfl
/-- what Number answers of two bytes -/
def nmD (b : List UInt8) (x : Int) : DV := if cutE b.length x 2 = 0 then .tuple [i64u (vA b x 2), .agg [byL b, .int .i64 (x + 2)], .int .i64 0] else .tuple [i64u 0, .agg [.list 1 [], .int .i64 0], .int .i64 (cutE b.length x 2)]
theorem u64n {n : Nat} (h : n < 2 ^ 64) {i : Int} (e : i = (n : Int)) : DV.int .u64 (IntKind.u64.wrap i) = i64u n := by
  rw [e, wrapU rfl, Nat.mod_eq_of_lt (show n < 2 ^ IntKind.u64.bits from h)]
theorem pc_two {b : List UInt8} {x : Int} (h : cutE b.length x 2 = 0) : ∃ c0 c1, pcB b x 2 = [c0, c1] := by
  obtain ⟨q1, q2, q3, q4⟩ := cutE_zero h
  have hl : (pcB b x 2).length = 2 := by
    unfold pcB
    rw [if_pos h, List.length_take, List.length_drop]
    have : (2 : Int).toNat = 2 := rfl
    omega
  match pcB b x 2, hl with
  | [c0, c1], _ => exact ⟨c0, c1, rfl⟩
theorem nm_ans (x : BI) : Ans Try.prog fNm [rd x.1.1 x.2, .int .i64 2] (nmD x.1.1 x.2) ⟨0, [], []⟩ := by
  obtain ⟨b, x⟩ := x
  have k1 := cRt_at ⟨2, [zRd, oRd (by1 b.1) x], []⟩ (b, x, 2)
  show Ans _ _ [.agg [.list 1 (by1 b.1), .int .i64 x], .int .i64 2] _ _
  unfold nmD
  by_cases he : cutE b.1.length x 2 = 0
  · rw [if_pos he]
    have ha : afB b.1 x 2 = b.1 := by unfold afB; rw [if_pos he]
    have hx : afX b.1 x 2 = x + 2 := by unfold afX; rw [if_pos he]
    obtain ⟨c0, c1, hp⟩ := pc_two he
    have hv : vA b.1 x 2 = c0.toNat + 256 * c1.toNat := by unfold vA; rw [hp, leN2]
    simp only [d3, ha, hx, he, hp] at k1
    have b0 := UInt8.toNat_lt c0
    have b1 := UInt8.toNat_lt c1
    have z := zflat_ok tab_ok mixed fun_ok cRt_ok (nmO (by1 b.1) (by1 b.1) x (x + 2) c0 c1 c0.toNat c1.toNat c1.toNat (c1.toNat * 256) (vA b.1 x 2)) (.cons k1 (.cons (u64n (by omega) rfl) (.cons (u64n (by omega) (Int.zero_add _)) (.cons (u64n (by omega) (by omega)) (.cons (u64n (by omega) rfl) (.cons (u64n (by omega) (by omega)) .nil))))))
    exact z
  · rw [if_neg he]
    exact Ans.nil2 (zflat_ok tab_ok mixed fun_ok cRt_ok (nmE (by1 b.1) (by1 (pcB b.1 x 2)) (by1 (afB b.1 x 2)) x (afX b.1 x 2) (cutE b.1.length x 2)) (.cons k1 (.cons (bne_iff_ne.2 he) .nil)))
def cNm : ConF := liftC (eqC fNm (fun x : BI => [rd x.1.1 x.2, .int .i64 2]) fun x => (nmD x.1.1 x.2, ⟨0, [], []⟩))
theorem cNm_ok : ConOk Try.prog cNm := liftC_ok (eqC_ok nm_ans fun _ => rfl)
theorem nmD_flat (b : List UInt8) (x : Int) : flatD (nmD b x) = true := by
  unfold nmD
  split <;> rfl
theorem cNm_at (hp : Hp) (x : BI) : cNm fNm [rd x.1.1 x.2, .int .i64 2] hp = some (nmD x.1.1 x.2, hp, none) :=
  lift_at (A := fun x : BI => [rd x.1.1 x.2, .int .i64 2]) (D := fun x => nmD x.1.1 x.2) (fun x y hxy => by
    obtain ⟨x1, x2⟩ := x
    obtain ⟨y1, y2⟩ := y
    simp only [List.cons.injEq, and_true] at hxy
    obtain ⟨rfl, rfl⟩ := rd_inj hxy
    rfl) hp x rfl (nmD_flat _ _)
def cNs : ConF := orK cNm cRt
theorem cNs_ok : ConOk Try.prog cNs := orK_ok cNm_ok cRt_ok
theorem cNs_nm (hp : Hp) (x : BI) : cNs fNm [rd x.1.1 x.2, .int .i64 2] hp = some (nmD x.1.1 x.2, hp, none) := orK_left (cNm_at hp x)
theorem cNs_ta (hp : Hp) (x : BII) : cNs fTa [rd x.1.1 x.2.1, .int .i64 x.2.2] hp = some (d3 x.1.1 x.2.1 x.2.2, hp, none) := orK_right (lift_oth (eqC_other (by kernel_rfl))) (cRt_at hp x)
end
end Go.Proofs.Ytioglkmdapghhaa
