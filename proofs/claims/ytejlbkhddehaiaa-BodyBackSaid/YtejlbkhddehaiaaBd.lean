/- Reasons, decoded: a contract. -/
import Derived.Test.YtejlbkhddehaiaaBa
namespace Go.Proofs.Ytejlbkhddehaiaa
open Go.RowKit

noncomputable section
abbrev fDr : FuncId := 32
abbrev fG2 : FuncId := 110
def cRd : ConF := orK cG2 cDe
theorem cRd_ok : ConOk Try.prog cRd := orK_ok cG2_ok cDe_ok
theorem cRd_g (hp : Hp) (b : Bs) (x : Int) : cRd fG2 [rd b.1 x] hp = some (dn .u16 b.1 x 2, hp, none) := orK_left (cG2_at hp (b, x))
theorem cRd_d (hp : Hp) (b : List UInt8) (h : b.length ≤ 2 ^ 29) : cRd fDe [byL b] hp = some (deD b, hp, none) := orK_right (lift_oth (eqC_other (by kernel_rfl))) (cDe_at hp b h)
abbrev drZ : Ob := ⟨0, 0, 36, [.int .u16 0, .nil]⟩
abbrev drH1 (fs : List (List DV)) : Hp := ⟨4, [⟨0, 0, 126, [.nil, .int .i64 0]⟩, ⟨0, 0, 126, [.list 1 fs, .int .i64 0]⟩, ⟨0, 0, 137, [.list 1 fs, .int .i64 0, .int .i64 0]⟩, drZ], []⟩
abbrev drH2 (fs : List (List DV)) (v : Nat) : Hp := ⟨3, [⟨0, 0, 36, [w16 v, .nil]⟩, ⟨0, 0, 137, [.list 1 fs, iN 2, iN 0]⟩, drZ], []⟩
abbrev drG (fs : List (List DV)) (d : DV) : Prop := cRd fG2 [.agg [.list 1 fs, .int .i64 0]] (drH1 fs) = some (d, drH1 fs, none)
set_option maxRecDepth 1000000 in
theorem dr1 (fs : List (List DV)) : zflat (zans Try.prog tab ftab cRd fDr [.list 1 fs] [(7, .c [(10, .b true)])]) = some (.tuple [.agg [.int .u16 0, .nil], iN 11], (decide ((fs.length : Int) > 2304) = true) :: []) := by kernel_rfl
set_option maxRecDepth 1000000 in
theorem dr2 (fs : List (List DV)) (v : Nat) : zflat (zans Try.prog tab ftab cRd fDr [.list 1 fs] [(7, .c [(10, .b false)]), (9, .c [(4, .c [(20, .c [(6, .q (.tuple [w16 v, .agg [.list 1 [], iN 0], iN 10]))])])])]) = some (.tuple [.agg [.int .u16 0, .nil], iN 10], (decide ((fs.length : Int) > 2304) = false) :: drG fs (.tuple [w16 v, .agg [.list 1 [], iN 0], iN 10]) :: []) := by kernel_rfl
set_option maxRecDepth 1000000 in
theorem dr3 (fs rs es : List (List DV)) (v : Nat) : zflat (zans Try.prog tab ftab cRd fDr [.list 1 fs] [(7, .c [(10, .b false)]), (9, .c [(4, .c [(20, .c [(6, .q (.tuple [w16 v, .agg [.list 1 fs, iN 2], iN 0]))])])]), (12, .c [(21, .n (.list 1 rs)), (22, .q (.tuple [.list 4 es, iN 0]))])]) =
    some (.tuple [.agg [w16 v, .list 4 es], iN 0], (decide ((fs.length : Int) > 2304) = false) :: drG fs (.tuple [w16 v, .agg [.list 1 fs, iN 2], iN 0]) :: (sliceD tab (drH2 fs v) bTI (.list 1 fs) (some (iN 2)) none none = some (.list 1 rs)) :: (cRd fDe [.list 1 rs] (drH2 fs v) = some (.tuple [.list 4 es, iN 0], drH2 fs v, none)) :: []) := by kernel_rfl
set_option maxRecDepth 1000000 in
theorem dr4 (fs rs es : List (List DV)) (v e : Nat) : zflat (zans Try.prog tab ftab cRd fDr [.list 1 fs] [(7, .c [(10, .b false)]), (9, .c [(4, .c [(20, .c [(6, .q (.tuple [w16 v, .agg [.list 1 fs, iN 2], iN 0]))])])]), (12, .c [(21, .n (.list 1 rs)), (22, .q (.tuple [.list 4 es, iN e]))]), (16, .c [(11, .b true)])]) =
    some (.tuple [.agg [.int .u16 0, .nil], iN e], (decide ((fs.length : Int) > 2304) = false) :: drG fs (.tuple [w16 v, .agg [.list 1 fs, iN 2], iN 0]) :: (sliceD tab (drH2 fs v) bTI (.list 1 fs) (some (iN 2)) none none = some (.list 1 rs)) :: (cRd fDe [.list 1 rs] (drH2 fs v) = some (.tuple [.list 4 es, iN e], drH2 fs v, none)) :: (((e : Int) != 0) = true) :: []) := by kernel_rfl
/-- what DecodeReason answers -/
def drD (b : List UInt8) : DV := match Nat.ble b.length 2304, Nat.ble 2 b.length with
  | false, _ => .tuple [.agg [.int .u16 0, .nil], iN 11]
  | true, false => .tuple [.agg [.int .u16 0, .nil], iN 10]
  | true, true => match deE (b.drop 2) with
    | 0 => .tuple [.agg [w16 (leN (b.take 2)), elsD (deL (b.drop 2))], iN 0]
    | e => .tuple [.agg [.int .u16 0, .nil], iN e]
theorem dr_ans (x : Bs) : Ans Try.prog fDr [byL x.1] (drD x.1) ⟨0, [], []⟩ := by
  obtain ⟨b, hb⟩ := x
  have hl := by1_length b
  dsimp only
  unfold drD
  cases h1 : Nat.ble b.length 2304 with
  | false =>
    have hgt : ¬ b.length ≤ 2304 := fun h => by rw [bleT h] at h1; cases h1
    exact zflat_ok tab_ok mixed fun_ok cRd_ok (dr1 (by1 b)) (.cons (decide_eq_true (by omega)) .nil)
  | true =>
    have hle : b.length ≤ 2304 := Nat.le_of_ble_eq_true h1
    have n1 : decide (((by1 b).length : Int) > 2304) = false := decide_eq_false (by omega)
    have g := cRd_g (drH1 (by1 b)) ⟨b, hb⟩ 0
    dsimp only at g
    unfold dn vA at g
    cases h2 : Nat.ble 2 b.length with
    | false =>
      have hlt : ¬ 2 ≤ b.length := fun h => by rw [bleT h] at h2; cases h2
      have hc : cutE b.length 0 2 = 10 := by
        unfold cutE
        rw [if_neg (by omega), if_neg (by omega), if_pos (by omega)]
      unfold afB afX at g
      rw [hc, if_neg (by decide), if_neg (by decide)] at g
      exact zflat_ok tab_ok mixed fun_ok cRd_ok (dr2 (by1 b) _) (.cons n1 (.cons g .nil))
    | true =>
      have h2 : 2 ≤ b.length := Nat.le_of_ble_eq_true h2
      have hc : cutE b.length 0 2 = 0 := by
        unfold cutE
        rw [if_neg (by omega), if_neg (by omega), if_neg (by omega)]
      unfold afB afX pcB at g
      rw [hc, if_pos rfl, if_pos rfl, if_pos rfl] at g
      have d := cRd_d (drH2 (by1 b) (leN (b.take 2))) (b.drop 2) (by rw [List.length_drop]; omega)
      unfold deD at d
      have s : sliceD tab (drH2 (by1 b) (leN (b.take 2))) bTI (.list 1 (by1 b)) (some (iN 2)) none none = some (.list 1 (by1 (b.drop 2))) := by
        rw [slice_from (n := 2) (by omega)]
        simp [by1, List.map_drop]
      dsimp only
      cases he : deE (b.drop 2) with
      | zero =>
        rw [he] at d
        exact zflat_ok tab_ok mixed fun_ok cRd_ok (dr3 (by1 b) (by1 (b.drop 2)) (elR (deL (b.drop 2))) _) (.cons n1 (.cons g (.cons s (.cons d .nil))))
      | succ e =>
        rw [he] at d
        exact zflat_ok tab_ok mixed fun_ok cRd_ok (dr4 (by1 b) (by1 (b.drop 2)) (elR (deL (b.drop 2))) _ (e + 1)) (.cons n1 (.cons g (.cons s (.cons d (.cons (bne_iff_ne.2 (by omega)) .nil)))))
end
end Go.Proofs.Ytejlbkhddehaiaa
