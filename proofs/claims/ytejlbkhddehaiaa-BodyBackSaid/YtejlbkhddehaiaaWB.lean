/- Numbers of 16 bits, read. -/
import Derived.Test.YtejlbkhddehaiaaBd
import Derived.Test.YtejlbkhddehaiaaWA
namespace Go.Proofs.Ytejlbkhddehaiaa
open Go.RowKit

noncomputable section
def g16 (b : List UInt8) (x : Nat) : Nat := leN ((b.drop x).take 2)
theorem g2_ok (hp : Hp) (b : Bs) (x : Nat) (h : x + 2 ≤ b.1.length) : cRd fG2 [.agg [byL b.1, iN x]] hp = some (.tuple [w16 (g16 b.1 x), .agg [byL b.1, iN (x + 2)], iN 0], hp, none) := by
  have g := cRd_g hp b (x : Int)
  have hc : cutE b.1.length (x : Int) 2 = 0 := by
    unfold cutE
    rw [if_neg (by omega), if_neg (by omega), if_neg (by omega)]
  unfold dn vA afB afX pcB at g
  rw [hc, if_pos rfl, if_pos rfl, if_pos rfl] at g
  exact g
theorem g2_no (hp : Hp) (b : Bs) (x : Nat) (h1 : x ≤ b.1.length) (h : ¬ x + 2 ≤ b.1.length) : cRd fG2 [.agg [byL b.1, iN x]] hp = some (.tuple [w16 0, .agg [.list 1 [], iN 0], iN 10], hp, none) := by
  have g := cRd_g hp b (x : Int)
  have hc : cutE b.1.length (x : Int) 2 = 10 := by
    unfold cutE
    rw [if_neg (by omega), if_neg (by omega), if_pos (by omega)]
  unfold dn vA afB afX pcB at g
  rw [hc, if_neg (by decide), if_neg (by decide), if_neg (by decide)] at g
  exact g
theorem sl_from (hp : Hp) (b : List UInt8) (x : Nat) (h : x ≤ b.length) : sliceD tab hp bTI (.list 1 (by1 b)) (some (iN x)) none none = some (.list 1 (by1 (b.drop x))) := by
  rw [slice_from (n := x) (by rw [by1_length]; exact h)]
  simp [by1, List.map_drop]
end
end Go.Proofs.Ytejlbkhddehaiaa
/- DecodeAuth: a contract. -/
namespace Go.Proofs.Ytejlbkhddehaiaa
open Go.RowKit

noncomputable section
abbrev fDDa : FuncId := 26
abbrev DaZ : Ob := ⟨0, 0, 28, [.int .u16 0, .int .u16 0, .int .u16 0, .nil]⟩
abbrev DaH1 (fs : List (List DV)) (x : Nat) : Hp := ⟨4, [⟨0, 0, 126, [.nil, .int .i64 0]⟩, ⟨0, 0, 126, [.list 1 fs, iN x]⟩, ⟨0, 0, 137, [.list 1 fs, iN x, iN 0]⟩, DaZ], []⟩
abbrev DaH2 (fs : List (List DV)) (v0 v1 v2 : Nat) : Hp := ⟨3, [⟨0, 0, 28, [w16 v0, w16 v1, w16 v2, .nil]⟩, ⟨0, 0, 137, [.list 1 fs, iN 6, iN 0]⟩, DaZ], []⟩
set_option maxRecDepth 1000000 in
theorem Dad1 (fs : List (List DV)) : zflat (zans Try.prog tab ftab cRd fDDa [.list 1 fs] [(8, .c [(10, .b true)])]) = some (.tuple [.agg [.int .u16 0, .int .u16 0, .int .u16 0, .nil], iN 11], (decide ((fs.length : Int) > 2304) = true) :: []) := by kernel_rfl
set_option maxRecDepth 1000000 in
theorem Dan0 (fs : List (List DV)) (_v0 _v1 _v2 : Nat) : zflat (zans Try.prog tab ftab cRd fDDa [.list 1 fs] [(8, .c [(10, .b false)]), (12, .c [(4, .c [(20, .c [(6, .q (.tuple [w16 0, .agg [.list 1 [], iN 0], iN 10]))])])])]) = some (.tuple [.agg [.int .u16 0, .int .u16 0, .int .u16 0, .nil], iN 10], (decide ((fs.length : Int) > 2304) = false) :: (cRd fG2 [.agg [.list 1 fs, iN 0]] (DaH1 fs 0) = some (.tuple [w16 0, .agg [.list 1 [], iN 0], iN 10], DaH1 fs 0, none)) :: []) := by kernel_rfl
set_option maxRecDepth 1000000 in
theorem Dan1 (fs : List (List DV)) (v0 _v1 _v2 : Nat) : zflat (zans Try.prog tab ftab cRd fDDa [.list 1 fs] [(8, .c [(10, .b false)]), (12, .c [(4, .c [(20, .c [(6, .q (.tuple [w16 v0, .agg [.list 1 fs, iN 2], iN 0]))])])]), (14, .c [(4, .c [(20, .c [(6, .q (.tuple [w16 0, .agg [.list 1 [], iN 0], iN 10]))])])])]) = some (.tuple [.agg [.int .u16 0, .int .u16 0, .int .u16 0, .nil], iN 10], (decide ((fs.length : Int) > 2304) = false) :: (cRd fG2 [.agg [.list 1 fs, iN 0]] (DaH1 fs 0) = some (.tuple [w16 v0, .agg [.list 1 fs, iN 2], iN 0], DaH1 fs 0, none)) :: (cRd fG2 [.agg [.list 1 fs, iN 2]] (DaH1 fs 2) = some (.tuple [w16 0, .agg [.list 1 [], iN 0], iN 10], DaH1 fs 2, none)) :: []) := by kernel_rfl
set_option maxRecDepth 1000000 in
theorem Dan2 (fs : List (List DV)) (v0 v1 _v2 : Nat) : zflat (zans Try.prog tab ftab cRd fDDa [.list 1 fs] [(8, .c [(10, .b false)]), (12, .c [(4, .c [(20, .c [(6, .q (.tuple [w16 v0, .agg [.list 1 fs, iN 2], iN 0]))])])]), (14, .c [(4, .c [(20, .c [(6, .q (.tuple [w16 v1, .agg [.list 1 fs, iN 4], iN 0]))])])]), (16, .c [(4, .c [(20, .c [(6, .q (.tuple [w16 0, .agg [.list 1 [], iN 0], iN 10]))])])])]) = some (.tuple [.agg [.int .u16 0, .int .u16 0, .int .u16 0, .nil], iN 10], (decide ((fs.length : Int) > 2304) = false) :: (cRd fG2 [.agg [.list 1 fs, iN 0]] (DaH1 fs 0) = some (.tuple [w16 v0, .agg [.list 1 fs, iN 2], iN 0], DaH1 fs 0, none)) :: (cRd fG2 [.agg [.list 1 fs, iN 2]] (DaH1 fs 2) = some (.tuple [w16 v1, .agg [.list 1 fs, iN 4], iN 0], DaH1 fs 2, none)) :: (cRd fG2 [.agg [.list 1 fs, iN 4]] (DaH1 fs 4) = some (.tuple [w16 0, .agg [.list 1 [], iN 0], iN 10], DaH1 fs 4, none)) :: []) := by kernel_rfl
set_option maxRecDepth 1000000 in
theorem DaO (fs rs es : List (List DV)) (v0 v1 v2 : Nat) : zflat (zans Try.prog tab ftab cRd fDDa [.list 1 fs] [(8, .c [(10, .b false)]), (12, .c [(4, .c [(20, .c [(6, .q (.tuple [w16 v0, .agg [.list 1 fs, iN 2], iN 0]))])])]), (14, .c [(4, .c [(20, .c [(6, .q (.tuple [w16 v1, .agg [.list 1 fs, iN 4], iN 0]))])])]), (16, .c [(4, .c [(20, .c [(6, .q (.tuple [w16 v2, .agg [.list 1 fs, iN 6], iN 0]))])])]), (19, .c [(21, .n (.list 1 rs)), (22, .q (.tuple [.list 4 es, iN 0]))])]) = some (.tuple [.agg [w16 v0, w16 v1, w16 v2, .list 4 es], iN 0], (decide ((fs.length : Int) > 2304) = false) :: (cRd fG2 [.agg [.list 1 fs, iN 0]] (DaH1 fs 0) = some (.tuple [w16 v0, .agg [.list 1 fs, iN 2], iN 0], DaH1 fs 0, none)) :: (cRd fG2 [.agg [.list 1 fs, iN 2]] (DaH1 fs 2) = some (.tuple [w16 v1, .agg [.list 1 fs, iN 4], iN 0], DaH1 fs 2, none)) :: (cRd fG2 [.agg [.list 1 fs, iN 4]] (DaH1 fs 4) = some (.tuple [w16 v2, .agg [.list 1 fs, iN 6], iN 0], DaH1 fs 4, none)) :: (sliceD tab (DaH2 fs v0 v1 v2) bTI (.list 1 fs) (some (iN 6)) none none = some (.list 1 rs)) :: (cRd fDe [.list 1 rs] (DaH2 fs v0 v1 v2) = some (.tuple [.list 4 es, iN 0], (DaH2 fs v0 v1 v2), none)) :: []) := by kernel_rfl
set_option maxRecDepth 1000000 in
theorem DaE (fs rs es : List (List DV)) (v0 v1 v2 : Nat) (e : Nat) : zflat (zans Try.prog tab ftab cRd fDDa [.list 1 fs] [(8, .c [(10, .b false)]), (12, .c [(4, .c [(20, .c [(6, .q (.tuple [w16 v0, .agg [.list 1 fs, iN 2], iN 0]))])])]), (14, .c [(4, .c [(20, .c [(6, .q (.tuple [w16 v1, .agg [.list 1 fs, iN 4], iN 0]))])])]), (16, .c [(4, .c [(20, .c [(6, .q (.tuple [w16 v2, .agg [.list 1 fs, iN 6], iN 0]))])])]), (19, .c [(21, .n (.list 1 rs)), (22, .q (.tuple [.list 4 es, iN e]))]), (23, .c [(11, .b true)])]) = some (.tuple [.agg [.int .u16 0, .int .u16 0, .int .u16 0, .nil], iN e], (decide ((fs.length : Int) > 2304) = false) :: (cRd fG2 [.agg [.list 1 fs, iN 0]] (DaH1 fs 0) = some (.tuple [w16 v0, .agg [.list 1 fs, iN 2], iN 0], DaH1 fs 0, none)) :: (cRd fG2 [.agg [.list 1 fs, iN 2]] (DaH1 fs 2) = some (.tuple [w16 v1, .agg [.list 1 fs, iN 4], iN 0], DaH1 fs 2, none)) :: (cRd fG2 [.agg [.list 1 fs, iN 4]] (DaH1 fs 4) = some (.tuple [w16 v2, .agg [.list 1 fs, iN 6], iN 0], DaH1 fs 4, none)) :: (sliceD tab (DaH2 fs v0 v1 v2) bTI (.list 1 fs) (some (iN 6)) none none = some (.list 1 rs)) :: (cRd fDe [.list 1 rs] (DaH2 fs v0 v1 v2) = some (.tuple [.list 4 es, iN e], (DaH2 fs v0 v1 v2), none)) :: (((e : Int) != 0) = true) :: []) := by kernel_rfl
/-- what DecodeAuth answers -/
def DaD (b : List UInt8) : DV := match Nat.ble b.length 2304, Nat.ble 6 b.length with
  | false, _ => .tuple [.agg [.int .u16 0, .int .u16 0, .int .u16 0, .nil], iN 11]
  | true, false => .tuple [.agg [.int .u16 0, .int .u16 0, .int .u16 0, .nil], iN 10]
  | true, true => match deE (b.drop 6) with
    | 0 => .tuple [.agg [w16 (g16 b 0), w16 (g16 b 2), w16 (g16 b 4), elsD (deL (b.drop 6))], iN 0]
    | e => .tuple [.agg [.int .u16 0, .int .u16 0, .int .u16 0, .nil], iN e]
theorem Dad_ans (x : Bs) : Ans Try.prog fDDa [byL x.1] (DaD x.1) ⟨0, [], []⟩ := by
  obtain ⟨b, hb⟩ := x
  have hl := by1_length b
  dsimp only
  unfold DaD
  cases h1 : Nat.ble b.length 2304 with
  | false =>
    have hgt : ¬ b.length ≤ 2304 := fun h => by rw [bleT h] at h1; cases h1
    exact zflat_ok tab_ok mixed fun_ok cRd_ok (Dad1 (by1 b)) (.cons (decide_eq_true (by omega)) .nil)
  | true =>
    have hle : b.length ≤ 2304 := Nat.le_of_ble_eq_true h1
    have m1 : decide (((by1 b).length : Int) > 2304) = false := decide_eq_false (by omega)
    cases h2 : Nat.ble 6 b.length with
    | false =>
      have hlt : ¬ 6 ≤ b.length := fun h => by rw [bleT h] at h2; cases h2
      by_cases c0 : 2 ≤ b.length
      case neg => exact zflat_ok tab_ok mixed fun_ok cRd_ok (Dan0 (by1 b) (g16 b 0) (g16 b 2) (g16 b 4)) (.cons m1 (.cons (g2_no (DaH1 (by1 b) 0) ⟨b, hb⟩ 0 (by show _ ≤ b.length; omega) (by show ¬ _ ≤ b.length; omega)) .nil))
      by_cases c1 : 4 ≤ b.length
      case neg => exact zflat_ok tab_ok mixed fun_ok cRd_ok (Dan1 (by1 b) (g16 b 0) (g16 b 2) (g16 b 4)) (.cons m1 (.cons (g2_ok (DaH1 (by1 b) 0) ⟨b, hb⟩ 0 (by show _ ≤ b.length; omega)) (.cons (g2_no (DaH1 (by1 b) 2) ⟨b, hb⟩ 2 (by show _ ≤ b.length; omega) (by show ¬ _ ≤ b.length; omega)) .nil)))
      exact zflat_ok tab_ok mixed fun_ok cRd_ok (Dan2 (by1 b) (g16 b 0) (g16 b 2) (g16 b 4)) (.cons m1 (.cons (g2_ok (DaH1 (by1 b) 0) ⟨b, hb⟩ 0 (by show _ ≤ b.length; omega)) (.cons (g2_ok (DaH1 (by1 b) 2) ⟨b, hb⟩ 2 (by show _ ≤ b.length; omega)) (.cons (g2_no (DaH1 (by1 b) 4) ⟨b, hb⟩ 4 (by show _ ≤ b.length; omega) (by show ¬ _ ≤ b.length; omega)) .nil))))
    | true =>
      have h2 : 6 ≤ b.length := Nat.le_of_ble_eq_true h2
      have d := cRd_d (DaH2 (by1 b) (g16 b 0) (g16 b 2) (g16 b 4)) (b.drop 6) (by rw [List.length_drop]; omega)
      unfold deD at d
      dsimp only
      cases he : deE (b.drop 6) with
      | zero =>
        rw [he] at d
        exact zflat_ok tab_ok mixed fun_ok cRd_ok (DaO (by1 b) (by1 (b.drop 6)) (elR (deL (b.drop 6))) (g16 b 0) (g16 b 2) (g16 b 4)) (.cons m1 (.cons (g2_ok (DaH1 (by1 b) 0) ⟨b, hb⟩ 0 (by show _ ≤ b.length; omega)) (.cons (g2_ok (DaH1 (by1 b) 2) ⟨b, hb⟩ 2 (by show _ ≤ b.length; omega)) (.cons (g2_ok (DaH1 (by1 b) 4) ⟨b, hb⟩ 4 (by show _ ≤ b.length; omega)) (.cons (sl_from _ b 6 h2) (.cons d .nil))))))
      | succ e =>
        rw [he] at d
        exact zflat_ok tab_ok mixed fun_ok cRd_ok (DaE (by1 b) (by1 (b.drop 6)) (elR (deL (b.drop 6))) (g16 b 0) (g16 b 2) (g16 b 4) (e + 1)) (.cons m1 (.cons (g2_ok (DaH1 (by1 b) 0) ⟨b, hb⟩ 0 (by show _ ≤ b.length; omega)) (.cons (g2_ok (DaH1 (by1 b) 2) ⟨b, hb⟩ 2 (by show _ ≤ b.length; omega)) (.cons (g2_ok (DaH1 (by1 b) 4) ⟨b, hb⟩ 4 (by show _ ≤ b.length; omega)) (.cons (sl_from _ b 6 h2) (.cons d (.cons (bne_iff_ne.2 (by omega)) .nil)))))))
theorem DaD_flat (b : List UInt8) : flatD (DaD b) = true := by
  unfold DaD
  split
  · rfl
  · rfl
  · split <;> rfl
def cDDa : ConF := liftC (eqC fDDa (fun x : Bs => [byL x.1]) fun x => (DaD x.1, ⟨0, [], []⟩))
theorem cDDa_ok : ConOk Try.prog cDDa := liftC_ok (eqC_ok Dad_ans fun _ => rfl)
theorem cDDa_at (hp : Hp) (b : List UInt8) (h : b.length < 2 ^ 30) : cDDa fDDa [byL b] hp = some (DaD b, hp, none) :=
  lift_at (A := fun x : Bs => [byL x.1]) (D := fun x => DaD x.1) (fun x y hxy => by
    simp only [List.cons.injEq, and_true] at hxy
    rw [byL_in hxy]) hp ⟨b, h⟩ rfl (DaD_flat b)
end
end Go.Proofs.Ytejlbkhddehaiaa
/- Numbers of 8 and of 64 bits, read. -/
namespace Go.Proofs.Ytejlbkhddehaiaa
open Go.RowKit

noncomputable section
set_option maxRecDepth 1000000 in
theorem gt1 (xs ys : List (List DV)) (x y e : Int) (v : Nat) (c0 : UInt8) : zflat (zans Try.prog tab ftab cKu 119 [.agg [.list 1 xs, .int .i64 x]] [(14, .q (.tuple [.list 1 [[i8 c0]], .agg [.list 1 ys, .int .i64 y], .int .i64 e])), (34, .w (.int .u8 (v : Int)))]) =
    some (.tuple [.int .u8 (v : Int), .agg [.list 1 ys, .int .i64 y], .int .i64 e], [cKu 117 [.agg [.list 1 xs, .int .i64 x], .int .i64 1] ⟨2, [⟨0, 0, 126, [.nil, .int .i64 0]⟩, ⟨0, 0, 126, [.list 1 xs, .int .i64 x]⟩], []⟩ = some (.tuple [.list 1 [[i8 c0]], .agg [.list 1 ys, .int .i64 y], .int .i64 e], ⟨2, [⟨0, 0, 126, [.nil, .int .i64 0]⟩, ⟨0, 0, 126, [.list 1 xs, .int .i64 x]⟩], []⟩, none), DV.int .u8 (IntKind.u8.wrap (orL 0 0 [(c0.toNat : Int)])) = .int .u8 (v : Int)]) := by
  kernel_rfl
set_option maxRecDepth 1000000 in
theorem gz1 (xs ys : List (List DV)) (x y e : Int) : zflat (zans Try.prog tab ftab cKu 119 [.agg [.list 1 xs, .int .i64 x]] [(14, .q (.tuple [.list 1 [], .agg [.list 1 ys, .int .i64 y], .int .i64 e]))]) =
    some (.tuple [.int .u8 0, .agg [.list 1 ys, .int .i64 y], .int .i64 e], [cKu 117 [.agg [.list 1 xs, .int .i64 x], .int .i64 1] ⟨2, [⟨0, 0, 126, [.nil, .int .i64 0]⟩, ⟨0, 0, 126, [.list 1 xs, .int .i64 x]⟩], []⟩ = some (.tuple [.list 1 [], .agg [.list 1 ys, .int .i64 y], .int .i64 e], ⟨2, [⟨0, 0, 126, [.nil, .int .i64 0]⟩, ⟨0, 0, 126, [.list 1 xs, .int .i64 x]⟩], []⟩, none)]) := by
  kernel_rfl
theorem ans_cG1 (x : BI) : Ans Try.prog 119 [rd x.1.1 x.2] (dn .u8 x.1.1 x.2 1) ⟨0, [], []⟩ := by
  obtain ⟨b, x⟩ := x
  have q := fun hp => cKu_at hp (b, x, (1 : Int))
  simp only [d3] at q
  unfold dn vA
  by_cases he : cutE b.1.length x 1 = 0
  · have hlen : (pcB b.1 x 1).length = 1 := by
      obtain ⟨h1, h2, h3, h4⟩ := cutE_zero he
      unfold pcB
      rw [if_pos he, List.length_take, List.length_drop]
      omega
    revert q hlen
    generalize pcB b.1 x 1 = l
    intro q hlen
    match l, hlen with
    | [c0], _ =>
      have hv := orL_eq [c0] 0 0 (by simp) (by decide)
      rw [Nat.pow_zero, Nat.one_mul, Nat.zero_add] at hv
      have hlt := leN_lt [c0]
      generalize hL : leN [c0] = L at *
      exact zflat_ok tab_ok mixed fun_ok cKu_ok (gt1 (by1 b.1) (by1 (afB b.1 x 1)) x _ _ L c0) (.cons (q _) (.cons (congrArg (DV.int .u8) (by rw [show orL 0 0 [(c0.toNat : Int)] = (L : Int) from hv, wrapU rfl, Nat.mod_eq_of_lt (by show L < 2 ^ 8; have h := hlt; simp only [List.length_cons, List.length_nil, Nat.zero_add, Nat.reducePow] at h; omega)])) .nil))
  · have hz : pcB b.1 x 1 = [] := if_neg he
    rw [hz] at q ⊢
    exact zflat_ok tab_ok mixed fun_ok cKu_ok (gz1 (by1 b.1) (by1 (afB b.1 x 1)) x _ _) (.cons (q _) .nil)
def cG1 : ConF := liftC (eqC 119 (fun x : BI => [rd x.1.1 x.2]) fun x => (dn .u8 x.1.1 x.2 1, ⟨0, [], []⟩))
theorem cG1_ok : ConOk Try.prog cG1 := liftC_ok (eqC_ok ans_cG1 (fun _ => rfl))
theorem cG1_at (hp : Hp) (x : BI) : cG1 119 [rd x.1.1 x.2] hp = some (dn .u8 x.1.1 x.2 1, hp, none) :=
  lift_at (A := fun x : BI => [rd x.1.1 x.2]) (D := fun x => dn .u8 x.1.1 x.2 1) (fun x y hxy => by
    obtain ⟨x1, x2⟩ := x
    obtain ⟨y1, y2⟩ := y
    simp only [List.cons.injEq, and_true] at hxy
    obtain ⟨rfl, rfl⟩ := rd_inj hxy
    rfl) hp x rfl rfl
set_option maxRecDepth 1000000 in
theorem gt8 (xs ys : List (List DV)) (x y e : Int) (v : Nat) (c0 c1 c2 c3 c4 c5 c6 c7 : UInt8) : zflat (zans Try.prog tab ftab cKu 111 [.agg [.list 1 xs, .int .i64 x]] [(14, .q (.tuple [.list 1 [[i8 c0], [i8 c1], [i8 c2], [i8 c3], [i8 c4], [i8 c5], [i8 c6], [i8 c7]], .agg [.list 1 ys, .int .i64 y], .int .i64 e])), (33, .w (.int .u64 (v : Int)))]) =
    some (.tuple [.int .u64 (v : Int), .agg [.list 1 ys, .int .i64 y], .int .i64 e], [cKu 117 [.agg [.list 1 xs, .int .i64 x], .int .i64 8] ⟨2, [⟨0, 0, 126, [.nil, .int .i64 0]⟩, ⟨0, 0, 126, [.list 1 xs, .int .i64 x]⟩], []⟩ = some (.tuple [.list 1 [[i8 c0], [i8 c1], [i8 c2], [i8 c3], [i8 c4], [i8 c5], [i8 c6], [i8 c7]], .agg [.list 1 ys, .int .i64 y], .int .i64 e], ⟨2, [⟨0, 0, 126, [.nil, .int .i64 0]⟩, ⟨0, 0, 126, [.list 1 xs, .int .i64 x]⟩], []⟩, none), DV.int .u64 (orL 0 0 [(c0.toNat : Int), (c1.toNat : Int), (c2.toNat : Int), (c3.toNat : Int), (c4.toNat : Int), (c5.toNat : Int), (c6.toNat : Int), (c7.toNat : Int)]) = .int .u64 (v : Int)]) := by
  kernel_rfl
set_option maxRecDepth 1000000 in
theorem gz8 (xs ys : List (List DV)) (x y e : Int) : zflat (zans Try.prog tab ftab cKu 111 [.agg [.list 1 xs, .int .i64 x]] [(14, .q (.tuple [.list 1 [], .agg [.list 1 ys, .int .i64 y], .int .i64 e]))]) =
    some (.tuple [.int .u64 0, .agg [.list 1 ys, .int .i64 y], .int .i64 e], [cKu 117 [.agg [.list 1 xs, .int .i64 x], .int .i64 8] ⟨2, [⟨0, 0, 126, [.nil, .int .i64 0]⟩, ⟨0, 0, 126, [.list 1 xs, .int .i64 x]⟩], []⟩ = some (.tuple [.list 1 [], .agg [.list 1 ys, .int .i64 y], .int .i64 e], ⟨2, [⟨0, 0, 126, [.nil, .int .i64 0]⟩, ⟨0, 0, 126, [.list 1 xs, .int .i64 x]⟩], []⟩, none)]) := by
  kernel_rfl
theorem ans_cG8 (x : BI) : Ans Try.prog 111 [rd x.1.1 x.2] (dn .u64 x.1.1 x.2 8) ⟨0, [], []⟩ := by
  obtain ⟨b, x⟩ := x
  have q := fun hp => cKu_at hp (b, x, (8 : Int))
  simp only [d3] at q
  unfold dn vA
  by_cases he : cutE b.1.length x 8 = 0
  · have hlen : (pcB b.1 x 8).length = 8 := by
      obtain ⟨h1, h2, h3, h4⟩ := cutE_zero he
      unfold pcB
      rw [if_pos he, List.length_take, List.length_drop]
      omega
    revert q hlen
    generalize pcB b.1 x 8 = l
    intro q hlen
    match l, hlen with
    | [c0, c1, c2, c3, c4, c5, c6, c7], _ =>
      have hv := orL_eq [c0, c1, c2, c3, c4, c5, c6, c7] 0 0 (by simp) (by decide)
      rw [Nat.pow_zero, Nat.one_mul, Nat.zero_add] at hv
      have hlt := leN_lt [c0, c1, c2, c3, c4, c5, c6, c7]
      generalize hL : leN [c0, c1, c2, c3, c4, c5, c6, c7] = L at *
      exact zflat_ok tab_ok mixed fun_ok cKu_ok (gt8 (by1 b.1) (by1 (afB b.1 x 8)) x _ _ L c0 c1 c2 c3 c4 c5 c6 c7) (.cons (q _) (.cons (congrArg (DV.int .u64) hv) .nil))
  · have hz : pcB b.1 x 8 = [] := if_neg he
    rw [hz] at q ⊢
    exact zflat_ok tab_ok mixed fun_ok cKu_ok (gz8 (by1 b.1) (by1 (afB b.1 x 8)) x _ _) (.cons (q _) .nil)
def cG8 : ConF := liftC (eqC 111 (fun x : BI => [rd x.1.1 x.2]) fun x => (dn .u64 x.1.1 x.2 8, ⟨0, [], []⟩))
theorem cG8_ok : ConOk Try.prog cG8 := liftC_ok (eqC_ok ans_cG8 (fun _ => rfl))
theorem cG8_at (hp : Hp) (x : BI) : cG8 111 [rd x.1.1 x.2] hp = some (dn .u64 x.1.1 x.2 8, hp, none) :=
  lift_at (A := fun x : BI => [rd x.1.1 x.2]) (D := fun x => dn .u64 x.1.1 x.2 8) (fun x y hxy => by
    obtain ⟨x1, x2⟩ := x
    obtain ⟨y1, y2⟩ := y
    simp only [List.cons.injEq, and_true] at hxy
    obtain ⟨rfl, rfl⟩ := rd_inj hxy
    rfl) hp x rfl rfl
end
end Go.Proofs.Ytejlbkhddehaiaa
/- Beacons, decoded: a contract. -/
namespace Go.Proofs.Ytejlbkhddehaiaa
open Go.RowKit

noncomputable section
abbrev fG8 : FuncId := 111
def g64 (b : List UInt8) (x : Nat) : Nat := leN ((b.drop x).take 8)
def cR8 : ConF := orK cG8 cRd
theorem cR8_ok : ConOk Try.prog cR8 := orK_ok cG8_ok cRd_ok
theorem r8_ok (hp : Hp) (b : Bs) (x : Nat) (h : x + 8 ≤ b.1.length) : cR8 fG8 [.agg [byL b.1, iN x]] hp = some (.tuple [.int .u64 (g64 b.1 x : Int), .agg [byL b.1, iN (x + 8)], iN 0], hp, none) := by
  have g := orK_left (C2 := cRd) (cG8_at hp (b, (x : Int)))
  have hc : cutE b.1.length (x : Int) 8 = 0 := by
    unfold cutE
    rw [if_neg (by omega), if_neg (by omega), if_neg (by omega)]
  unfold dn vA afB afX pcB at g
  rw [hc, if_pos rfl, if_pos rfl, if_pos rfl] at g
  exact g
theorem r8_no (hp : Hp) (b : Bs) (x : Nat) (h1 : x ≤ b.1.length) (h : ¬ x + 8 ≤ b.1.length) : cR8 fG8 [.agg [byL b.1, iN x]] hp = some (.tuple [.int .u64 0, .agg [.list 1 [], iN 0], iN 10], hp, none) := by
  have g := orK_left (C2 := cRd) (cG8_at hp (b, (x : Int)))
  have hc : cutE b.1.length (x : Int) 8 = 10 := by
    unfold cutE
    rw [if_neg (by omega), if_neg (by omega), if_pos (by omega)]
  unfold dn vA afB afX pcB at g
  rw [hc, if_neg (by decide), if_neg (by decide), if_neg (by decide)] at g
  exact g
theorem r8_2ok (hp : Hp) (b : Bs) (x : Nat) (h : x + 2 ≤ b.1.length) : cR8 fG2 [.agg [byL b.1, iN x]] hp = some (.tuple [w16 (g16 b.1 x), .agg [byL b.1, iN (x + 2)], iN 0], hp, none) := orK_right (lift_oth (eqC_other (by kernel_rfl))) (g2_ok hp b x h)
theorem r8_2no (hp : Hp) (b : Bs) (x : Nat) (h1 : x ≤ b.1.length) (h : ¬ x + 2 ≤ b.1.length) : cR8 fG2 [.agg [byL b.1, iN x]] hp = some (.tuple [w16 0, .agg [.list 1 [], iN 0], iN 10], hp, none) := orK_right (lift_oth (eqC_other (by kernel_rfl))) (g2_no hp b x h1 h)
theorem r8_d (hp : Hp) (b : List UInt8) (h : b.length ≤ 2 ^ 29) : cR8 fDe [byL b] hp = some (deD b, hp, none) := orK_right (lift_oth (eqC_other (by kernel_rfl))) (cRd_d hp b h)
end
end Go.Proofs.Ytejlbkhddehaiaa
/- DecodeBeacon: a contract. -/
namespace Go.Proofs.Ytejlbkhddehaiaa
open Go.RowKit

noncomputable section
abbrev fDDn : FuncId := 24
abbrev DnZ : Ob := ⟨0, 0, 26, [.int .u64 0, .int .u16 0, .int .u16 0, .nil]⟩
abbrev DnH1 (fs : List (List DV)) (x : Nat) : Hp := ⟨4, [⟨0, 0, 126, [.nil, .int .i64 0]⟩, ⟨0, 0, 126, [.list 1 fs, iN x]⟩, ⟨0, 0, 137, [.list 1 fs, iN x, iN 0]⟩, DnZ], []⟩
abbrev DnH2 (fs : List (List DV)) (v0 v1 v2 : Nat) : Hp := ⟨3, [⟨0, 0, 26, [.int .u64 (v0 : Int), w16 v1, w16 v2, .nil]⟩, ⟨0, 0, 137, [.list 1 fs, iN 12, iN 0]⟩, DnZ], []⟩
set_option maxRecDepth 1000000 in
theorem Dnd1 (fs : List (List DV)) : zflat (zans Try.prog tab ftab cR8 fDDn [.list 1 fs] [(8, .c [(10, .b true)])]) = some (.tuple [.agg [.int .u64 0, .int .u16 0, .int .u16 0, .nil], iN 11], (decide ((fs.length : Int) > 2304) = true) :: []) := by kernel_rfl
set_option maxRecDepth 1000000 in
theorem Dnn0 (fs : List (List DV)) (_v0 _v1 _v2 : Nat) : zflat (zans Try.prog tab ftab cR8 fDDn [.list 1 fs] [(8, .c [(10, .b false)]), (12, .c [(4, .c [(20, .c [(6, .q (.tuple [.int .u64 0, .agg [.list 1 [], iN 0], iN 10]))])])])]) = some (.tuple [.agg [.int .u64 0, .int .u16 0, .int .u16 0, .nil], iN 10], (decide ((fs.length : Int) > 2304) = false) :: (cR8 fG8 [.agg [.list 1 fs, iN 0]] (DnH1 fs 0) = some (.tuple [.int .u64 0, .agg [.list 1 [], iN 0], iN 10], DnH1 fs 0, none)) :: []) := by kernel_rfl
set_option maxRecDepth 1000000 in
theorem Dnn1 (fs : List (List DV)) (v0 _v1 _v2 : Nat) : zflat (zans Try.prog tab ftab cR8 fDDn [.list 1 fs] [(8, .c [(10, .b false)]), (12, .c [(4, .c [(20, .c [(6, .q (.tuple [.int .u64 (v0 : Int), .agg [.list 1 fs, iN 8], iN 0]))])])]), (14, .c [(4, .c [(20, .c [(6, .q (.tuple [w16 0, .agg [.list 1 [], iN 0], iN 10]))])])])]) = some (.tuple [.agg [.int .u64 0, .int .u16 0, .int .u16 0, .nil], iN 10], (decide ((fs.length : Int) > 2304) = false) :: (cR8 fG8 [.agg [.list 1 fs, iN 0]] (DnH1 fs 0) = some (.tuple [.int .u64 (v0 : Int), .agg [.list 1 fs, iN 8], iN 0], DnH1 fs 0, none)) :: (cR8 fG2 [.agg [.list 1 fs, iN 8]] (DnH1 fs 8) = some (.tuple [w16 0, .agg [.list 1 [], iN 0], iN 10], DnH1 fs 8, none)) :: []) := by kernel_rfl
set_option maxRecDepth 1000000 in
theorem Dnn2 (fs : List (List DV)) (v0 v1 _v2 : Nat) : zflat (zans Try.prog tab ftab cR8 fDDn [.list 1 fs] [(8, .c [(10, .b false)]), (12, .c [(4, .c [(20, .c [(6, .q (.tuple [.int .u64 (v0 : Int), .agg [.list 1 fs, iN 8], iN 0]))])])]), (14, .c [(4, .c [(20, .c [(6, .q (.tuple [w16 v1, .agg [.list 1 fs, iN 10], iN 0]))])])]), (16, .c [(4, .c [(20, .c [(6, .q (.tuple [w16 0, .agg [.list 1 [], iN 0], iN 10]))])])])]) = some (.tuple [.agg [.int .u64 0, .int .u16 0, .int .u16 0, .nil], iN 10], (decide ((fs.length : Int) > 2304) = false) :: (cR8 fG8 [.agg [.list 1 fs, iN 0]] (DnH1 fs 0) = some (.tuple [.int .u64 (v0 : Int), .agg [.list 1 fs, iN 8], iN 0], DnH1 fs 0, none)) :: (cR8 fG2 [.agg [.list 1 fs, iN 8]] (DnH1 fs 8) = some (.tuple [w16 v1, .agg [.list 1 fs, iN 10], iN 0], DnH1 fs 8, none)) :: (cR8 fG2 [.agg [.list 1 fs, iN 10]] (DnH1 fs 10) = some (.tuple [w16 0, .agg [.list 1 [], iN 0], iN 10], DnH1 fs 10, none)) :: []) := by kernel_rfl
set_option maxRecDepth 1000000 in
theorem DnO (fs rs es : List (List DV)) (v0 v1 v2 : Nat) : zflat (zans Try.prog tab ftab cR8 fDDn [.list 1 fs] [(8, .c [(10, .b false)]), (12, .c [(4, .c [(20, .c [(6, .q (.tuple [.int .u64 (v0 : Int), .agg [.list 1 fs, iN 8], iN 0]))])])]), (14, .c [(4, .c [(20, .c [(6, .q (.tuple [w16 v1, .agg [.list 1 fs, iN 10], iN 0]))])])]), (16, .c [(4, .c [(20, .c [(6, .q (.tuple [w16 v2, .agg [.list 1 fs, iN 12], iN 0]))])])]), (19, .c [(21, .n (.list 1 rs)), (22, .q (.tuple [.list 4 es, iN 0]))])]) = some (.tuple [.agg [.int .u64 (v0 : Int), w16 v1, w16 v2, .list 4 es], iN 0], (decide ((fs.length : Int) > 2304) = false) :: (cR8 fG8 [.agg [.list 1 fs, iN 0]] (DnH1 fs 0) = some (.tuple [.int .u64 (v0 : Int), .agg [.list 1 fs, iN 8], iN 0], DnH1 fs 0, none)) :: (cR8 fG2 [.agg [.list 1 fs, iN 8]] (DnH1 fs 8) = some (.tuple [w16 v1, .agg [.list 1 fs, iN 10], iN 0], DnH1 fs 8, none)) :: (cR8 fG2 [.agg [.list 1 fs, iN 10]] (DnH1 fs 10) = some (.tuple [w16 v2, .agg [.list 1 fs, iN 12], iN 0], DnH1 fs 10, none)) :: (sliceD tab (DnH2 fs v0 v1 v2) bTI (.list 1 fs) (some (iN 12)) none none = some (.list 1 rs)) :: (cR8 fDe [.list 1 rs] (DnH2 fs v0 v1 v2) = some (.tuple [.list 4 es, iN 0], (DnH2 fs v0 v1 v2), none)) :: []) := by kernel_rfl
set_option maxRecDepth 1000000 in
theorem DnE (fs rs es : List (List DV)) (v0 v1 v2 : Nat) (e : Nat) : zflat (zans Try.prog tab ftab cR8 fDDn [.list 1 fs] [(8, .c [(10, .b false)]), (12, .c [(4, .c [(20, .c [(6, .q (.tuple [.int .u64 (v0 : Int), .agg [.list 1 fs, iN 8], iN 0]))])])]), (14, .c [(4, .c [(20, .c [(6, .q (.tuple [w16 v1, .agg [.list 1 fs, iN 10], iN 0]))])])]), (16, .c [(4, .c [(20, .c [(6, .q (.tuple [w16 v2, .agg [.list 1 fs, iN 12], iN 0]))])])]), (19, .c [(21, .n (.list 1 rs)), (22, .q (.tuple [.list 4 es, iN e]))]), (23, .c [(11, .b true)])]) = some (.tuple [.agg [.int .u64 0, .int .u16 0, .int .u16 0, .nil], iN e], (decide ((fs.length : Int) > 2304) = false) :: (cR8 fG8 [.agg [.list 1 fs, iN 0]] (DnH1 fs 0) = some (.tuple [.int .u64 (v0 : Int), .agg [.list 1 fs, iN 8], iN 0], DnH1 fs 0, none)) :: (cR8 fG2 [.agg [.list 1 fs, iN 8]] (DnH1 fs 8) = some (.tuple [w16 v1, .agg [.list 1 fs, iN 10], iN 0], DnH1 fs 8, none)) :: (cR8 fG2 [.agg [.list 1 fs, iN 10]] (DnH1 fs 10) = some (.tuple [w16 v2, .agg [.list 1 fs, iN 12], iN 0], DnH1 fs 10, none)) :: (sliceD tab (DnH2 fs v0 v1 v2) bTI (.list 1 fs) (some (iN 12)) none none = some (.list 1 rs)) :: (cR8 fDe [.list 1 rs] (DnH2 fs v0 v1 v2) = some (.tuple [.list 4 es, iN e], (DnH2 fs v0 v1 v2), none)) :: (((e : Int) != 0) = true) :: []) := by kernel_rfl
/-- what DecodeBeacon answers -/
def DnD (b : List UInt8) : DV := match Nat.ble b.length 2304, Nat.ble 12 b.length with
  | false, _ => .tuple [.agg [.int .u64 0, .int .u16 0, .int .u16 0, .nil], iN 11]
  | true, false => .tuple [.agg [.int .u64 0, .int .u16 0, .int .u16 0, .nil], iN 10]
  | true, true => match deE (b.drop 12) with
    | 0 => .tuple [.agg [.int .u64 ((g64 b 0) : Int), w16 (g16 b 8), w16 (g16 b 10), elsD (deL (b.drop 12))], iN 0]
    | e => .tuple [.agg [.int .u64 0, .int .u16 0, .int .u16 0, .nil], iN e]
theorem Dnd_ans (x : Bs) : Ans Try.prog fDDn [byL x.1] (DnD x.1) ⟨0, [], []⟩ := by
  obtain ⟨b, hb⟩ := x
  have hl := by1_length b
  dsimp only
  unfold DnD
  cases h1 : Nat.ble b.length 2304 with
  | false =>
    have hgt : ¬ b.length ≤ 2304 := fun h => by rw [bleT h] at h1; cases h1
    exact zflat_ok tab_ok mixed fun_ok cR8_ok (Dnd1 (by1 b)) (.cons (decide_eq_true (by omega)) .nil)
  | true =>
    have hle : b.length ≤ 2304 := Nat.le_of_ble_eq_true h1
    have m1 : decide (((by1 b).length : Int) > 2304) = false := decide_eq_false (by omega)
    cases h2 : Nat.ble 12 b.length with
    | false =>
      have hlt : ¬ 12 ≤ b.length := fun h => by rw [bleT h] at h2; cases h2
      by_cases c0 : 8 ≤ b.length
      case neg => exact zflat_ok tab_ok mixed fun_ok cR8_ok (Dnn0 (by1 b) (g64 b 0) (g16 b 8) (g16 b 10)) (.cons m1 (.cons (r8_no (DnH1 (by1 b) 0) ⟨b, hb⟩ 0 (by show _ ≤ b.length; omega) (by show ¬ _ ≤ b.length; omega)) .nil))
      by_cases c1 : 10 ≤ b.length
      case neg => exact zflat_ok tab_ok mixed fun_ok cR8_ok (Dnn1 (by1 b) (g64 b 0) (g16 b 8) (g16 b 10)) (.cons m1 (.cons (r8_ok (DnH1 (by1 b) 0) ⟨b, hb⟩ 0 (by show _ ≤ b.length; omega)) (.cons (r8_2no (DnH1 (by1 b) 8) ⟨b, hb⟩ 8 (by show _ ≤ b.length; omega) (by show ¬ _ ≤ b.length; omega)) .nil)))
      exact zflat_ok tab_ok mixed fun_ok cR8_ok (Dnn2 (by1 b) (g64 b 0) (g16 b 8) (g16 b 10)) (.cons m1 (.cons (r8_ok (DnH1 (by1 b) 0) ⟨b, hb⟩ 0 (by show _ ≤ b.length; omega)) (.cons (r8_2ok (DnH1 (by1 b) 8) ⟨b, hb⟩ 8 (by show _ ≤ b.length; omega)) (.cons (r8_2no (DnH1 (by1 b) 10) ⟨b, hb⟩ 10 (by show _ ≤ b.length; omega) (by show ¬ _ ≤ b.length; omega)) .nil))))
    | true =>
      have h2 : 12 ≤ b.length := Nat.le_of_ble_eq_true h2
      have d := r8_d (DnH2 (by1 b) (g64 b 0) (g16 b 8) (g16 b 10)) (b.drop 12) (by rw [List.length_drop]; omega)
      unfold deD at d
      dsimp only
      cases he : deE (b.drop 12) with
      | zero =>
        rw [he] at d
        exact zflat_ok tab_ok mixed fun_ok cR8_ok (DnO (by1 b) (by1 (b.drop 12)) (elR (deL (b.drop 12))) (g64 b 0) (g16 b 8) (g16 b 10)) (.cons m1 (.cons (r8_ok (DnH1 (by1 b) 0) ⟨b, hb⟩ 0 (by show _ ≤ b.length; omega)) (.cons (r8_2ok (DnH1 (by1 b) 8) ⟨b, hb⟩ 8 (by show _ ≤ b.length; omega)) (.cons (r8_2ok (DnH1 (by1 b) 10) ⟨b, hb⟩ 10 (by show _ ≤ b.length; omega)) (.cons (sl_from _ b 12 h2) (.cons d .nil))))))
      | succ e =>
        rw [he] at d
        exact zflat_ok tab_ok mixed fun_ok cR8_ok (DnE (by1 b) (by1 (b.drop 12)) (elR (deL (b.drop 12))) (g64 b 0) (g16 b 8) (g16 b 10) (e + 1)) (.cons m1 (.cons (r8_ok (DnH1 (by1 b) 0) ⟨b, hb⟩ 0 (by show _ ≤ b.length; omega)) (.cons (r8_2ok (DnH1 (by1 b) 8) ⟨b, hb⟩ 8 (by show _ ≤ b.length; omega)) (.cons (r8_2ok (DnH1 (by1 b) 10) ⟨b, hb⟩ 10 (by show _ ≤ b.length; omega)) (.cons (sl_from _ b 12 h2) (.cons d (.cons (bne_iff_ne.2 (by omega)) .nil)))))))
theorem DnD_flat (b : List UInt8) : flatD (DnD b) = true := by
  unfold DnD
  split
  · rfl
  · rfl
  · split <;> rfl
def cDDn : ConF := liftC (eqC fDDn (fun x : Bs => [byL x.1]) fun x => (DnD x.1, ⟨0, [], []⟩))
theorem cDDn_ok : ConOk Try.prog cDDn := liftC_ok (eqC_ok Dnd_ans fun _ => rfl)
theorem cDDn_at (hp : Hp) (b : List UInt8) (h : b.length < 2 ^ 30) : cDDn fDDn [byL b] hp = some (DnD b, hp, none) :=
  lift_at (A := fun x : Bs => [byL x.1]) (D := fun x => DnD x.1) (fun x y hxy => by
    simp only [List.cons.injEq, and_true] at hxy
    rw [byL_in hxy]) hp ⟨b, h⟩ rfl (DnD_flat b)
end
end Go.Proofs.Ytejlbkhddehaiaa
/- DecodeAssocResp: a contract. -/
namespace Go.Proofs.Ytejlbkhddehaiaa
open Go.RowKit

noncomputable section
abbrev fDDp : FuncId := 30
abbrev DpZ : Ob := ⟨0, 0, 34, [.int .u16 0, .int .u16 0, .int .i64 0, .nil]⟩
abbrev DpH1 (fs : List (List DV)) (x : Nat) : Hp := ⟨4, [⟨0, 0, 126, [.nil, .int .i64 0]⟩, ⟨0, 0, 126, [.list 1 fs, iN x]⟩, ⟨0, 0, 137, [.list 1 fs, iN x, iN 0]⟩, DpZ], []⟩
abbrev DpH2 (fs : List (List DV)) (v0 v1 v2 : Nat) : Hp := ⟨3, [⟨0, 0, 34, [w16 v0, w16 v1, iN v2, .nil]⟩, ⟨0, 0, 137, [.list 1 fs, iN 6, iN 0]⟩, DpZ], []⟩
set_option maxRecDepth 1000000 in
theorem Dpd1 (fs : List (List DV)) : zflat (zans Try.prog tab ftab cRd fDDp [.list 1 fs] [(8, .c [(10, .b true)])]) = some (.tuple [.agg [.int .u16 0, .int .u16 0, .int .i64 0, .nil], iN 11], (decide ((fs.length : Int) > 2304) = true) :: []) := by kernel_rfl
set_option maxRecDepth 1000000 in
theorem Dpn0 (fs : List (List DV)) (_v0 _v1 _v2 : Nat) : zflat (zans Try.prog tab ftab cRd fDDp [.list 1 fs] [(8, .c [(10, .b false)]), (12, .c [(4, .c [(20, .c [(6, .q (.tuple [w16 0, .agg [.list 1 [], iN 0], iN 10]))])])])]) = some (.tuple [.agg [.int .u16 0, .int .u16 0, .int .i64 0, .nil], iN 10], (decide ((fs.length : Int) > 2304) = false) :: (cRd fG2 [.agg [.list 1 fs, iN 0]] (DpH1 fs 0) = some (.tuple [w16 0, .agg [.list 1 [], iN 0], iN 10], DpH1 fs 0, none)) :: []) := by kernel_rfl
set_option maxRecDepth 1000000 in
theorem Dpn1 (fs : List (List DV)) (v0 _v1 _v2 : Nat) : zflat (zans Try.prog tab ftab cRd fDDp [.list 1 fs] [(8, .c [(10, .b false)]), (12, .c [(4, .c [(20, .c [(6, .q (.tuple [w16 v0, .agg [.list 1 fs, iN 2], iN 0]))])])]), (14, .c [(4, .c [(20, .c [(6, .q (.tuple [w16 0, .agg [.list 1 [], iN 0], iN 10]))])])])]) = some (.tuple [.agg [.int .u16 0, .int .u16 0, .int .i64 0, .nil], iN 10], (decide ((fs.length : Int) > 2304) = false) :: (cRd fG2 [.agg [.list 1 fs, iN 0]] (DpH1 fs 0) = some (.tuple [w16 v0, .agg [.list 1 fs, iN 2], iN 0], DpH1 fs 0, none)) :: (cRd fG2 [.agg [.list 1 fs, iN 2]] (DpH1 fs 2) = some (.tuple [w16 0, .agg [.list 1 [], iN 0], iN 10], DpH1 fs 2, none)) :: []) := by kernel_rfl
set_option maxRecDepth 1000000 in
theorem Dpn2 (fs : List (List DV)) (v0 v1 _v2 : Nat) : zflat (zans Try.prog tab ftab cRd fDDp [.list 1 fs] [(8, .c [(10, .b false)]), (12, .c [(4, .c [(20, .c [(6, .q (.tuple [w16 v0, .agg [.list 1 fs, iN 2], iN 0]))])])]), (14, .c [(4, .c [(20, .c [(6, .q (.tuple [w16 v1, .agg [.list 1 fs, iN 4], iN 0]))])])]), (16, .c [(4, .c [(20, .c [(6, .q (.tuple [w16 0, .agg [.list 1 [], iN 0], iN 10]))])])])]) = some (.tuple [.agg [.int .u16 0, .int .u16 0, .int .i64 0, .nil], iN 10], (decide ((fs.length : Int) > 2304) = false) :: (cRd fG2 [.agg [.list 1 fs, iN 0]] (DpH1 fs 0) = some (.tuple [w16 v0, .agg [.list 1 fs, iN 2], iN 0], DpH1 fs 0, none)) :: (cRd fG2 [.agg [.list 1 fs, iN 2]] (DpH1 fs 2) = some (.tuple [w16 v1, .agg [.list 1 fs, iN 4], iN 0], DpH1 fs 2, none)) :: (cRd fG2 [.agg [.list 1 fs, iN 4]] (DpH1 fs 4) = some (.tuple [w16 0, .agg [.list 1 [], iN 0], iN 10], DpH1 fs 4, none)) :: []) := by kernel_rfl
set_option maxRecDepth 1000000 in
theorem DpB (fs : List (List DV)) (v0 v1 v2 : Nat) : zflat (zans Try.prog tab ftab cRd fDDp [.list 1 fs] [(8, .c [(10, .b false)]), (12, .c [(4, .c [(20, .c [(6, .q (.tuple [w16 v0, .agg [.list 1 fs, iN 2], iN 0]))])])]), (14, .c [(4, .c [(20, .c [(6, .q (.tuple [w16 v1, .agg [.list 1 fs, iN 4], iN 0]))])])]), (16, .c [(4, .c [(20, .c [(6, .q (.tuple [w16 v2, .agg [.list 1 fs, iN 6], iN 0]))])])]), (17, .w (iN v2)), (22, .c [(6, .b true), (10, .b false)])]) = some (.tuple [.agg [.int .u16 0, .int .u16 0, .int .i64 0, .nil], iN 12], (decide ((fs.length : Int) > 2304) = false) :: (cRd fG2 [.agg [.list 1 fs, iN 0]] (DpH1 fs 0) = some (.tuple [w16 v0, .agg [.list 1 fs, iN 2], iN 0], DpH1 fs 0, none)) :: (cRd fG2 [.agg [.list 1 fs, iN 2]] (DpH1 fs 2) = some (.tuple [w16 v1, .agg [.list 1 fs, iN 4], iN 0], DpH1 fs 2, none)) :: (cRd fG2 [.agg [.list 1 fs, iN 4]] (DpH1 fs 4) = some (.tuple [w16 v2, .agg [.list 1 fs, iN 6], iN 0], DpH1 fs 4, none)) :: (DV.int .i64 (IntKind.i64.wrap (v2 : Int)) = iN v2) :: (decide ((v2 : Int) ≥ 0) = true) :: (decide ((v2 : Int) ≤ 255) = false) :: []) := by kernel_rfl
set_option maxRecDepth 1000000 in
theorem DpO (fs rs es : List (List DV)) (v0 v1 v2 : Nat) : zflat (zans Try.prog tab ftab cRd fDDp [.list 1 fs] [(8, .c [(10, .b false)]), (12, .c [(4, .c [(20, .c [(6, .q (.tuple [w16 v0, .agg [.list 1 fs, iN 2], iN 0]))])])]), (14, .c [(4, .c [(20, .c [(6, .q (.tuple [w16 v1, .agg [.list 1 fs, iN 4], iN 0]))])])]), (16, .c [(4, .c [(20, .c [(6, .q (.tuple [w16 v2, .agg [.list 1 fs, iN 6], iN 0]))])])]), (17, .w (iN v2)), (22, .c [(6, .b true), (10, .b true)]), (25, .c [(21, .n (.list 1 rs)), (22, .q (.tuple [.list 4 es, iN 0]))])]) = some (.tuple [.agg [w16 v0, w16 v1, iN v2, .list 4 es], iN 0], (decide ((fs.length : Int) > 2304) = false) :: (cRd fG2 [.agg [.list 1 fs, iN 0]] (DpH1 fs 0) = some (.tuple [w16 v0, .agg [.list 1 fs, iN 2], iN 0], DpH1 fs 0, none)) :: (cRd fG2 [.agg [.list 1 fs, iN 2]] (DpH1 fs 2) = some (.tuple [w16 v1, .agg [.list 1 fs, iN 4], iN 0], DpH1 fs 2, none)) :: (cRd fG2 [.agg [.list 1 fs, iN 4]] (DpH1 fs 4) = some (.tuple [w16 v2, .agg [.list 1 fs, iN 6], iN 0], DpH1 fs 4, none)) :: (DV.int .i64 (IntKind.i64.wrap (v2 : Int)) = iN v2) :: (decide ((v2 : Int) ≥ 0) = true) :: (decide ((v2 : Int) ≤ 255) = true) :: (sliceD tab (DpH2 fs v0 v1 v2) bTI (.list 1 fs) (some (iN 6)) none none = some (.list 1 rs)) :: (cRd fDe [.list 1 rs] (DpH2 fs v0 v1 v2) = some (.tuple [.list 4 es, iN 0], (DpH2 fs v0 v1 v2), none)) :: []) := by kernel_rfl
set_option maxRecDepth 1000000 in
theorem DpE (fs rs es : List (List DV)) (v0 v1 v2 : Nat) (e : Nat) : zflat (zans Try.prog tab ftab cRd fDDp [.list 1 fs] [(8, .c [(10, .b false)]), (12, .c [(4, .c [(20, .c [(6, .q (.tuple [w16 v0, .agg [.list 1 fs, iN 2], iN 0]))])])]), (14, .c [(4, .c [(20, .c [(6, .q (.tuple [w16 v1, .agg [.list 1 fs, iN 4], iN 0]))])])]), (16, .c [(4, .c [(20, .c [(6, .q (.tuple [w16 v2, .agg [.list 1 fs, iN 6], iN 0]))])])]), (17, .w (iN v2)), (22, .c [(6, .b true), (10, .b true)]), (25, .c [(21, .n (.list 1 rs)), (22, .q (.tuple [.list 4 es, iN e]))]), (29, .c [(11, .b true)])]) = some (.tuple [.agg [.int .u16 0, .int .u16 0, .int .i64 0, .nil], iN e], (decide ((fs.length : Int) > 2304) = false) :: (cRd fG2 [.agg [.list 1 fs, iN 0]] (DpH1 fs 0) = some (.tuple [w16 v0, .agg [.list 1 fs, iN 2], iN 0], DpH1 fs 0, none)) :: (cRd fG2 [.agg [.list 1 fs, iN 2]] (DpH1 fs 2) = some (.tuple [w16 v1, .agg [.list 1 fs, iN 4], iN 0], DpH1 fs 2, none)) :: (cRd fG2 [.agg [.list 1 fs, iN 4]] (DpH1 fs 4) = some (.tuple [w16 v2, .agg [.list 1 fs, iN 6], iN 0], DpH1 fs 4, none)) :: (DV.int .i64 (IntKind.i64.wrap (v2 : Int)) = iN v2) :: (decide ((v2 : Int) ≥ 0) = true) :: (decide ((v2 : Int) ≤ 255) = true) :: (sliceD tab (DpH2 fs v0 v1 v2) bTI (.list 1 fs) (some (iN 6)) none none = some (.list 1 rs)) :: (cRd fDe [.list 1 rs] (DpH2 fs v0 v1 v2) = some (.tuple [.list 4 es, iN e], (DpH2 fs v0 v1 v2), none)) :: (((e : Int) != 0) = true) :: []) := by kernel_rfl
/-- what DecodeAssocResp answers -/
def DpD (b : List UInt8) : DV := match Nat.ble b.length 2304, Nat.ble 6 b.length with
  | false, _ => .tuple [.agg [.int .u16 0, .int .u16 0, .int .i64 0, .nil], iN 11]
  | true, false => .tuple [.agg [.int .u16 0, .int .u16 0, .int .i64 0, .nil], iN 10]
  | true, true => match Nat.ble (g16 b 4) 255 with
   | false => .tuple [.agg [.int .u16 0, .int .u16 0, .int .i64 0, .nil], iN 12]
   | true => match deE (b.drop 6) with
    | 0 => .tuple [.agg [w16 (g16 b 0), w16 (g16 b 2), iN (g16 b 4), elsD (deL (b.drop 6))], iN 0]
    | e => .tuple [.agg [.int .u16 0, .int .u16 0, .int .i64 0, .nil], iN e]
theorem Dpd_ans (x : Bs) : Ans Try.prog fDDp [byL x.1] (DpD x.1) ⟨0, [], []⟩ := by
  obtain ⟨b, hb⟩ := x
  have hl := by1_length b
  dsimp only
  unfold DpD
  cases h1 : Nat.ble b.length 2304 with
  | false =>
    have hgt : ¬ b.length ≤ 2304 := fun h => by rw [bleT h] at h1; cases h1
    exact zflat_ok tab_ok mixed fun_ok cRd_ok (Dpd1 (by1 b)) (.cons (decide_eq_true (by omega)) .nil)
  | true =>
    have hle : b.length ≤ 2304 := Nat.le_of_ble_eq_true h1
    have m1 : decide (((by1 b).length : Int) > 2304) = false := decide_eq_false (by omega)
    cases h2 : Nat.ble 6 b.length with
    | false =>
      have hlt : ¬ 6 ≤ b.length := fun h => by rw [bleT h] at h2; cases h2
      by_cases c0 : 2 ≤ b.length
      case neg => exact zflat_ok tab_ok mixed fun_ok cRd_ok (Dpn0 (by1 b) (g16 b 0) (g16 b 2) (g16 b 4)) (.cons m1 (.cons (g2_no (DpH1 (by1 b) 0) ⟨b, hb⟩ 0 (by show _ ≤ b.length; omega) (by show ¬ _ ≤ b.length; omega)) .nil))
      by_cases c1 : 4 ≤ b.length
      case neg => exact zflat_ok tab_ok mixed fun_ok cRd_ok (Dpn1 (by1 b) (g16 b 0) (g16 b 2) (g16 b 4)) (.cons m1 (.cons (g2_ok (DpH1 (by1 b) 0) ⟨b, hb⟩ 0 (by show _ ≤ b.length; omega)) (.cons (g2_no (DpH1 (by1 b) 2) ⟨b, hb⟩ 2 (by show _ ≤ b.length; omega) (by show ¬ _ ≤ b.length; omega)) .nil)))
      exact zflat_ok tab_ok mixed fun_ok cRd_ok (Dpn2 (by1 b) (g16 b 0) (g16 b 2) (g16 b 4)) (.cons m1 (.cons (g2_ok (DpH1 (by1 b) 0) ⟨b, hb⟩ 0 (by show _ ≤ b.length; omega)) (.cons (g2_ok (DpH1 (by1 b) 2) ⟨b, hb⟩ 2 (by show _ ≤ b.length; omega)) (.cons (g2_no (DpH1 (by1 b) 4) ⟨b, hb⟩ 4 (by show _ ≤ b.length; omega) (by show ¬ _ ≤ b.length; omega)) .nil))))
    | true =>
      have h2 : 6 ≤ b.length := Nat.le_of_ble_eq_true h2
      have w0 : DV.int .i64 (IntKind.i64.wrap ((g16 b 4 : Nat) : Int)) = iN (g16 b 4) := congrArg (DV.int .i64) (wrapI (Nat.lt_of_lt_of_le (leN_lt ((b.drop 4).take 2)) (Nat.le_trans (Nat.pow_le_pow_right (by decide) (by rw [List.length_take]; omega : _ ≤ 2)) (by decide))))
      have w1 : decide (((g16 b 4 : Nat) : Int) ≥ 0) = true := decide_eq_true (by omega)
      dsimp only
      cases h3 : Nat.ble (g16 b 4) 255 with
      | false =>
        have w2 : decide (((g16 b 4 : Nat) : Int) ≤ 255) = false := decide_eq_false fun h => by rw [bleT (show g16 b 4 ≤ 255 by omega)] at h3; cases h3
        exact zflat_ok tab_ok mixed fun_ok cRd_ok (DpB (by1 b) (g16 b 0) (g16 b 2) (g16 b 4)) (.cons m1 (.cons (g2_ok (DpH1 (by1 b) 0) ⟨b, hb⟩ 0 (by show _ ≤ b.length; omega)) (.cons (g2_ok (DpH1 (by1 b) 2) ⟨b, hb⟩ 2 (by show _ ≤ b.length; omega)) (.cons (g2_ok (DpH1 (by1 b) 4) ⟨b, hb⟩ 4 (by show _ ≤ b.length; omega)) (.cons w0 (.cons w1 (.cons w2 .nil)))))))
      | true =>
        have w2 : decide (((g16 b 4 : Nat) : Int) ≤ 255) = true := decide_eq_true (by have := Nat.le_of_ble_eq_true h3; omega)
        have d := cRd_d (DpH2 (by1 b) (g16 b 0) (g16 b 2) (g16 b 4)) (b.drop 6) (by rw [List.length_drop]; omega)
        unfold deD at d
        cases he : deE (b.drop 6) with
        | zero =>
          rw [he] at d
          exact zflat_ok tab_ok mixed fun_ok cRd_ok (DpO (by1 b) (by1 (b.drop 6)) (elR (deL (b.drop 6))) (g16 b 0) (g16 b 2) (g16 b 4)) (.cons m1 (.cons (g2_ok (DpH1 (by1 b) 0) ⟨b, hb⟩ 0 (by show _ ≤ b.length; omega)) (.cons (g2_ok (DpH1 (by1 b) 2) ⟨b, hb⟩ 2 (by show _ ≤ b.length; omega)) (.cons (g2_ok (DpH1 (by1 b) 4) ⟨b, hb⟩ 4 (by show _ ≤ b.length; omega)) (.cons w0 (.cons w1 (.cons w2 (.cons (sl_from _ b 6 h2) (.cons d .nil)))))))))
        | succ e =>
          rw [he] at d
          exact zflat_ok tab_ok mixed fun_ok cRd_ok (DpE (by1 b) (by1 (b.drop 6)) (elR (deL (b.drop 6))) (g16 b 0) (g16 b 2) (g16 b 4) (e + 1)) (.cons m1 (.cons (g2_ok (DpH1 (by1 b) 0) ⟨b, hb⟩ 0 (by show _ ≤ b.length; omega)) (.cons (g2_ok (DpH1 (by1 b) 2) ⟨b, hb⟩ 2 (by show _ ≤ b.length; omega)) (.cons (g2_ok (DpH1 (by1 b) 4) ⟨b, hb⟩ 4 (by show _ ≤ b.length; omega)) (.cons w0 (.cons w1 (.cons w2 (.cons (sl_from _ b 6 h2) (.cons d (.cons (bne_iff_ne.2 (by omega)) .nil))))))))))
theorem DpD_flat (b : List UInt8) : flatD (DpD b) = true := by
  unfold DpD
  split
  · rfl
  · rfl
  · split
    · rfl
    · split <;> rfl
def cDDp : ConF := liftC (eqC fDDp (fun x : Bs => [byL x.1]) fun x => (DpD x.1, ⟨0, [], []⟩))
theorem cDDp_ok : ConOk Try.prog cDDp := liftC_ok (eqC_ok Dpd_ans fun _ => rfl)
theorem cDDp_at (hp : Hp) (b : List UInt8) (h : b.length < 2 ^ 30) : cDDp fDDp [byL b] hp = some (DpD b, hp, none) :=
  lift_at (A := fun x : Bs => [byL x.1]) (D := fun x => DpD x.1) (fun x y hxy => by
    simp only [List.cons.injEq, and_true] at hxy
    rw [byL_in hxy]) hp ⟨b, h⟩ rfl (DpD_flat b)
end
end Go.Proofs.Ytejlbkhddehaiaa
/- Requests for a block acknowledgement and such, decoded: contracts. -/
namespace Go.Proofs.Ytejlbkhddehaiaa
open Go.RowKit

noncomputable section
abbrev fDBr : FuncId := 36
abbrev fDBk : FuncId := 38
abbrev fCk : FuncId := 120
def cB2 : ConF := orK cKk cRd
theorem cB2_ok : ConOk Try.prog cB2 := orK_ok cKk_ok cRd_ok
def cB8 : ConF := orK cKk cR8
theorem cB8_ok : ConOk Try.prog cB8 := orK_ok cKk_ok cR8_ok
theorem ck_ok {C : ConF} (hp : Hp) (b : Bs) (x : Nat) (h : x ≤ b.1.length) : orK cKk C fCk [.agg [byL b.1, iN x]] hp = some (iN 0, hp, none) := by
  have g := orK_left (C2 := C) (cKk_at hp (b, (x : Int)))
  unfold chkE at g
  rw [if_pos ⟨by show (0 : Int) ≤ (x : Int); omega, by show (x : Int) ≤ (b.1.length : Int); omega⟩] at g
  exact g
theorem upk_ok {v : Nat} (h : v < 65536) : (DV.tuple [.int .i64 (IntKind.i64.wrap (bitD .and .u16 (v : Int) 15)), .int .i64 (IntKind.i64.wrap (shrD .u16 (v : Int) 4))] : DV) = .tuple [iN (v % 16), iN (v / 16)] := by
  have e1 : bitD .and .u16 (v : Int) 15 = ((v % 16 : Nat) : Int) := by
    rw [show (15 : Int) = ((15 : Nat) : Int) from rfl, andU rfl (by show v < 2 ^ 16; omega) (by decide)]
    exact congrArg Nat.cast (Nat.and_two_pow_sub_one_eq_mod v 4)
  have e2 : shrD .u16 (v : Int) 4 = ((v / 2 ^ 4 : Nat) : Int) := shrU (k := .u16) v (n := 4) (by decide)
  rw [e1, e2, wrapI (n := v % 16) (by omega), wrapI (n := v / 2 ^ 4) (by omega)]
  rfl
theorem g16_lt (b : List UInt8) (x : Nat) : g16 b x < 65536 := by
  have h := leN_lt ((b.drop x).take 2)
  have h2 : ((b.drop x).take 2).length ≤ 2 := by rw [List.length_take]; omega
  have h3 : 256 ^ ((b.drop x).take 2).length ≤ 256 ^ 2 := Nat.pow_le_pow_right (by decide) h2
  show leN _ < 65536
  omega
abbrev rdO (fs : List (List DV)) (x : Nat) : Ob := ⟨0, 0, 137, [.list 1 fs, iN x, iN 0]⟩
abbrev rcO : Ob := ⟨0, 0, 126, [.nil, .int .i64 0]⟩
abbrev raO (fs : List (List DV)) (x : Nat) : Ob := ⟨0, 0, 126, [.list 1 fs, iN x]⟩
abbrev BxZ : Ob := ⟨0, 0, 41, [.int .i64 0, .int .i64 0]⟩
abbrev BxH1 (fs : List (List DV)) : Hp := ⟨5, [rcO, raO fs 0, BxZ, rdO fs 0, BxZ], []⟩
abbrev BxH3 (fs : List (List DV)) (a s : Nat) : Hp := ⟨4, [raO fs 2, ⟨0, 0, 41, [iN a, iN s]⟩, rdO fs 2, BxZ], []⟩
set_option maxRecDepth 1000000 in
theorem Bx1 (fs : List (List DV)) : zflat (zans Try.prog tab ftab cB2 fDBr [.list 1 fs] [(7, .c [(10, .b true)])]) = some (.tuple [.agg [.int .i64 0, .int .i64 0], iN 11], (decide ((fs.length : Int) > 2304) = true) :: []) := by kernel_rfl
set_option maxRecDepth 1000000 in
theorem Bx2 (fs : List (List DV)) : zflat (zans Try.prog tab ftab cB2 fDBr [.list 1 fs] [(7, .c [(10, .b false)]), (10, .c [(4, .c [(20, .c [(6, .q (.tuple [w16 0, .agg [.list 1 [], iN 0], iN 10]))])])])]) = some (.tuple [.agg [.int .i64 0, .int .i64 0], iN 10], (decide ((fs.length : Int) > 2304) = false) :: (cB2 fG2 [.agg [.list 1 fs, iN 0]] (BxH1 fs) = some (.tuple [w16 0, .agg [.list 1 [], iN 0], iN 10], BxH1 fs, none)) :: []) := by kernel_rfl
set_option maxRecDepth 1000000 in
theorem Bx4 (fs : List (List DV)) (v a s : Nat) : zflat (zans Try.prog tab ftab cB2 fDBr [.list 1 fs] [(7, .c [(10, .b false)]), (10, .c [(4, .c [(20, .c [(6, .q (.tuple [w16 v, .agg [.list 1 fs, iN 2], iN 0]))])])]), (11, .w (.tuple [iN a, iN s])), (21, .c [(6, .c [(6, .b true), (10, .b false)])])]) = some (.tuple [.agg [.int .i64 0, .int .i64 0], iN 12], (decide ((fs.length : Int) > 2304) = false) :: (cB2 fG2 [.agg [.list 1 fs, iN 0]] (BxH1 fs) = some (.tuple [w16 v, .agg [.list 1 fs, iN 2], iN 0], BxH1 fs, none)) :: ((DV.tuple [.int .i64 (IntKind.i64.wrap (bitD .and .u16 (v : Int) 15)), .int .i64 (IntKind.i64.wrap (shrD .u16 (v : Int) 4))] : DV) = .tuple [iN a, iN s]) :: (decide ((a : Int) ≥ 0) = true) :: (decide ((a : Int) ≤ 7) = false) :: []) := by kernel_rfl
set_option maxRecDepth 1000000 in
theorem Bx5 (fs : List (List DV)) (v a s : Nat) : zflat (zans Try.prog tab ftab cB2 fDBr [.list 1 fs] [(7, .c [(10, .b false)]), (10, .c [(4, .c [(20, .c [(6, .q (.tuple [w16 v, .agg [.list 1 fs, iN 2], iN 0]))])])]), (11, .w (.tuple [iN a, iN s])), (21, .c [(6, .c [(6, .b true), (10, .b true)]), (9, .c [(6, .b true), (10, .b true)])]), (24, .c [(12, .c [(5, .q (.int .i64 0)), (14, .b true)])])]) = some (.tuple [.agg [.int .i64 0, .int .i64 0], iN 11], (decide ((fs.length : Int) > 2304) = false) :: (cB2 fG2 [.agg [.list 1 fs, iN 0]] (BxH1 fs) = some (.tuple [w16 v, .agg [.list 1 fs, iN 2], iN 0], BxH1 fs, none)) :: ((DV.tuple [.int .i64 (IntKind.i64.wrap (bitD .and .u16 (v : Int) 15)), .int .i64 (IntKind.i64.wrap (shrD .u16 (v : Int) 4))] : DV) = .tuple [iN a, iN s]) :: (decide ((a : Int) ≥ 0) = true) :: (decide ((a : Int) ≤ 7) = true) :: (decide ((s : Int) ≥ 0) = true) :: (decide ((s : Int) ≤ 4095) = true) :: (cB2 fCk [.agg [.list 1 fs, iN 2]] (BxH3 fs a s) = some (.int .i64 0, BxH3 fs a s, none)) :: (decide ((2 : Int) < (fs.length : Int)) = true) :: []) := by kernel_rfl
set_option maxRecDepth 1000000 in
theorem Bx0 (fs : List (List DV)) (v a s : Nat) : zflat (zans Try.prog tab ftab cB2 fDBr [.list 1 fs] [(7, .c [(10, .b false)]), (10, .c [(4, .c [(20, .c [(6, .q (.tuple [w16 v, .agg [.list 1 fs, iN 2], iN 0]))])])]), (11, .w (.tuple [iN a, iN s])), (21, .c [(6, .c [(6, .b true), (10, .b true)]), (9, .c [(6, .b true), (10, .b true)])]), (24, .c [(12, .c [(5, .q (.int .i64 0)), (14, .b false)])])]) = some (.tuple [.agg [iN a, iN s], iN 0], (decide ((fs.length : Int) > 2304) = false) :: (cB2 fG2 [.agg [.list 1 fs, iN 0]] (BxH1 fs) = some (.tuple [w16 v, .agg [.list 1 fs, iN 2], iN 0], BxH1 fs, none)) :: ((DV.tuple [.int .i64 (IntKind.i64.wrap (bitD .and .u16 (v : Int) 15)), .int .i64 (IntKind.i64.wrap (shrD .u16 (v : Int) 4))] : DV) = .tuple [iN a, iN s]) :: (decide ((a : Int) ≥ 0) = true) :: (decide ((a : Int) ≤ 7) = true) :: (decide ((s : Int) ≥ 0) = true) :: (decide ((s : Int) ≤ 4095) = true) :: (cB2 fCk [.agg [.list 1 fs, iN 2]] (BxH3 fs a s) = some (.int .i64 0, BxH3 fs a s, none)) :: (decide ((2 : Int) < (fs.length : Int)) = false) :: []) := by kernel_rfl
abbrev ByZ : Ob := ⟨0, 0, 43, [.int .i64 0, .int .i64 0, .int .u64 0]⟩
abbrev ByH1 (fs : List (List DV)) : Hp := ⟨5, [rcO, raO fs 0, ByZ, rdO fs 0, ByZ], []⟩
abbrev ByH3 (fs : List (List DV)) (a s q : Nat) : Hp := ⟨4, [raO fs 10, ⟨0, 0, 43, [iN a, iN s, .int .u64 (q : Int)]⟩, rdO fs 10, ByZ], []⟩
set_option maxRecDepth 1000000 in
theorem By1 (fs : List (List DV)) : zflat (zans Try.prog tab ftab cB8 fDBk [.list 1 fs] [(7, .c [(10, .b true)])]) = some (.tuple [.agg [.int .i64 0, .int .i64 0, .int .u64 0], iN 11], (decide ((fs.length : Int) > 2304) = true) :: []) := by kernel_rfl
set_option maxRecDepth 1000000 in
theorem By2 (fs : List (List DV)) : zflat (zans Try.prog tab ftab cB8 fDBk [.list 1 fs] [(7, .c [(10, .b false)]), (10, .c [(4, .c [(20, .c [(6, .q (.tuple [w16 0, .agg [.list 1 [], iN 0], iN 10]))])])])]) = some (.tuple [.agg [.int .i64 0, .int .i64 0, .int .u64 0], iN 10], (decide ((fs.length : Int) > 2304) = false) :: (cB8 fG2 [.agg [.list 1 fs, iN 0]] (ByH1 fs) = some (.tuple [w16 0, .agg [.list 1 [], iN 0], iN 10], ByH1 fs, none)) :: []) := by kernel_rfl
abbrev ByH2 (fs : List (List DV)) (a s : Nat) : Hp := ⟨5, [rcO, raO fs 2, ⟨0, 0, 43, [iN a, iN s, .int .u64 0]⟩, rdO fs 2, ByZ], []⟩
set_option maxRecDepth 1000000 in
theorem By3 (fs : List (List DV)) (v a s : Nat) : zflat (zans Try.prog tab ftab cB8 fDBk [.list 1 fs] [(7, .c [(10, .b false)]), (10, .c [(4, .c [(20, .c [(6, .q (.tuple [w16 v, .agg [.list 1 fs, iN 2], iN 0]))])])]), (11, .w (.tuple [iN a, iN s])), (17, .c [(4, .c [(20, .c [(6, .q (.tuple [.int .u64 0, .agg [.list 1 [], iN 0], iN 10]))])])]), (24, .c [(6, .c [(6, .b true), (10, .b true)]), (9, .c [(6, .b true), (10, .b true)])])]) = some (.tuple [.agg [.int .i64 0, .int .i64 0, .int .u64 0], iN 10], (decide ((fs.length : Int) > 2304) = false) :: (cB8 fG2 [.agg [.list 1 fs, iN 0]] (ByH1 fs) = some (.tuple [w16 v, .agg [.list 1 fs, iN 2], iN 0], ByH1 fs, none)) :: ((DV.tuple [.int .i64 (IntKind.i64.wrap (bitD .and .u16 (v : Int) 15)), .int .i64 (IntKind.i64.wrap (shrD .u16 (v : Int) 4))] : DV) = .tuple [iN a, iN s]) :: (cB8 fG8 [.agg [.list 1 fs, iN 2]] (ByH2 fs a s) = some (.tuple [.int .u64 0, .agg [.list 1 [], iN 0], iN 10], ByH2 fs a s, none)) :: (decide ((a : Int) ≥ 0) = true) :: (decide ((a : Int) ≤ 7) = true) :: (decide ((s : Int) ≥ 0) = true) :: (decide ((s : Int) ≤ 4095) = true) :: []) := by kernel_rfl
set_option maxRecDepth 1000000 in
theorem By3b (fs : List (List DV)) (v a s : Nat) : zflat (zans Try.prog tab ftab cB8 fDBk [.list 1 fs] [(7, .c [(10, .b false)]), (10, .c [(4, .c [(20, .c [(6, .q (.tuple [w16 v, .agg [.list 1 fs, iN 2], iN 0]))])])]), (11, .w (.tuple [iN a, iN s])), (17, .c [(4, .c [(20, .c [(6, .q (.tuple [.int .u64 0, .agg [.list 1 [], iN 0], iN 10]))])])]), (24, .c [(6, .c [(6, .b true), (10, .b false)])])]) = some (.tuple [.agg [.int .i64 0, .int .i64 0, .int .u64 0], iN 10], (decide ((fs.length : Int) > 2304) = false) :: (cB8 fG2 [.agg [.list 1 fs, iN 0]] (ByH1 fs) = some (.tuple [w16 v, .agg [.list 1 fs, iN 2], iN 0], ByH1 fs, none)) :: ((DV.tuple [.int .i64 (IntKind.i64.wrap (bitD .and .u16 (v : Int) 15)), .int .i64 (IntKind.i64.wrap (shrD .u16 (v : Int) 4))] : DV) = .tuple [iN a, iN s]) :: (cB8 fG8 [.agg [.list 1 fs, iN 2]] (ByH2 fs a s) = some (.tuple [.int .u64 0, .agg [.list 1 [], iN 0], iN 10], ByH2 fs a s, none)) :: (decide ((a : Int) ≥ 0) = true) :: (decide ((a : Int) ≤ 7) = false) :: []) := by kernel_rfl
set_option maxRecDepth 1000000 in
theorem By4 (fs : List (List DV)) (v a s q : Nat) : zflat (zans Try.prog tab ftab cB8 fDBk [.list 1 fs] [(7, .c [(10, .b false)]), (10, .c [(4, .c [(20, .c [(6, .q (.tuple [w16 v, .agg [.list 1 fs, iN 2], iN 0]))])])]), (11, .w (.tuple [iN a, iN s])), (17, .c [(4, .c [(20, .c [(6, .q (.tuple [.int .u64 (q : Int), .agg [.list 1 fs, iN 10], iN 0]))])])]), (24, .c [(6, .c [(6, .b true), (10, .b false)])])]) = some (.tuple [.agg [.int .i64 0, .int .i64 0, .int .u64 0], iN 12], (decide ((fs.length : Int) > 2304) = false) :: (cB8 fG2 [.agg [.list 1 fs, iN 0]] (ByH1 fs) = some (.tuple [w16 v, .agg [.list 1 fs, iN 2], iN 0], ByH1 fs, none)) :: ((DV.tuple [.int .i64 (IntKind.i64.wrap (bitD .and .u16 (v : Int) 15)), .int .i64 (IntKind.i64.wrap (shrD .u16 (v : Int) 4))] : DV) = .tuple [iN a, iN s]) :: (cB8 fG8 [.agg [.list 1 fs, iN 2]] (ByH2 fs a s) = some (.tuple [.int .u64 (q : Int), .agg [.list 1 fs, iN 10], iN 0], ByH2 fs a s, none)) :: (decide ((a : Int) ≥ 0) = true) :: (decide ((a : Int) ≤ 7) = false) :: []) := by kernel_rfl
set_option maxRecDepth 1000000 in
theorem By5 (fs : List (List DV)) (v a s q : Nat) : zflat (zans Try.prog tab ftab cB8 fDBk [.list 1 fs] [(7, .c [(10, .b false)]), (10, .c [(4, .c [(20, .c [(6, .q (.tuple [w16 v, .agg [.list 1 fs, iN 2], iN 0]))])])]), (11, .w (.tuple [iN a, iN s])), (17, .c [(4, .c [(20, .c [(6, .q (.tuple [.int .u64 (q : Int), .agg [.list 1 fs, iN 10], iN 0]))])])]), (24, .c [(6, .c [(6, .b true), (10, .b true)]), (9, .c [(6, .b true), (10, .b true)])]), (27, .c [(12, .c [(5, .q (.int .i64 0)), (14, .b true)])])]) = some (.tuple [.agg [.int .i64 0, .int .i64 0, .int .u64 0], iN 11], (decide ((fs.length : Int) > 2304) = false) :: (cB8 fG2 [.agg [.list 1 fs, iN 0]] (ByH1 fs) = some (.tuple [w16 v, .agg [.list 1 fs, iN 2], iN 0], ByH1 fs, none)) :: ((DV.tuple [.int .i64 (IntKind.i64.wrap (bitD .and .u16 (v : Int) 15)), .int .i64 (IntKind.i64.wrap (shrD .u16 (v : Int) 4))] : DV) = .tuple [iN a, iN s]) :: (cB8 fG8 [.agg [.list 1 fs, iN 2]] (ByH2 fs a s) = some (.tuple [.int .u64 (q : Int), .agg [.list 1 fs, iN 10], iN 0], ByH2 fs a s, none)) :: (decide ((a : Int) ≥ 0) = true) :: (decide ((a : Int) ≤ 7) = true) :: (decide ((s : Int) ≥ 0) = true) :: (decide ((s : Int) ≤ 4095) = true) :: (cB8 fCk [.agg [.list 1 fs, iN 10]] (ByH3 fs a s q) = some (.int .i64 0, ByH3 fs a s q, none)) :: (decide ((10 : Int) < (fs.length : Int)) = true) :: []) := by kernel_rfl
set_option maxRecDepth 1000000 in
theorem By0 (fs : List (List DV)) (v a s q : Nat) : zflat (zans Try.prog tab ftab cB8 fDBk [.list 1 fs] [(7, .c [(10, .b false)]), (10, .c [(4, .c [(20, .c [(6, .q (.tuple [w16 v, .agg [.list 1 fs, iN 2], iN 0]))])])]), (11, .w (.tuple [iN a, iN s])), (17, .c [(4, .c [(20, .c [(6, .q (.tuple [.int .u64 (q : Int), .agg [.list 1 fs, iN 10], iN 0]))])])]), (24, .c [(6, .c [(6, .b true), (10, .b true)]), (9, .c [(6, .b true), (10, .b true)])]), (27, .c [(12, .c [(5, .q (.int .i64 0)), (14, .b false)])])]) = some (.tuple [.agg [iN a, iN s, .int .u64 (q : Int)], iN 0], (decide ((fs.length : Int) > 2304) = false) :: (cB8 fG2 [.agg [.list 1 fs, iN 0]] (ByH1 fs) = some (.tuple [w16 v, .agg [.list 1 fs, iN 2], iN 0], ByH1 fs, none)) :: ((DV.tuple [.int .i64 (IntKind.i64.wrap (bitD .and .u16 (v : Int) 15)), .int .i64 (IntKind.i64.wrap (shrD .u16 (v : Int) 4))] : DV) = .tuple [iN a, iN s]) :: (cB8 fG8 [.agg [.list 1 fs, iN 2]] (ByH2 fs a s) = some (.tuple [.int .u64 (q : Int), .agg [.list 1 fs, iN 10], iN 0], ByH2 fs a s, none)) :: (decide ((a : Int) ≥ 0) = true) :: (decide ((a : Int) ≤ 7) = true) :: (decide ((s : Int) ≥ 0) = true) :: (decide ((s : Int) ≤ 4095) = true) :: (cB8 fCk [.agg [.list 1 fs, iN 10]] (ByH3 fs a s q) = some (.int .i64 0, ByH3 fs a s q, none)) :: (decide ((10 : Int) < (fs.length : Int)) = false) :: []) := by kernel_rfl
/-- what they answer -/
def BxD (b : List UInt8) : DV := match Nat.ble b.length 2304, Nat.ble 2 b.length with
  | false, _ => .tuple [.agg [.int .i64 0, .int .i64 0], iN 11]
  | true, false => .tuple [.agg [.int .i64 0, .int .i64 0], iN 10]
  | true, true => match Nat.ble (g16 b 0 % 16) 7 with
    | false => .tuple [.agg [.int .i64 0, .int .i64 0], iN 12]
    | true => match Nat.ble b.length 2 with
      | false => .tuple [.agg [.int .i64 0, .int .i64 0], iN 11]
      | true => .tuple [.agg [iN (g16 b 0 % 16), iN (g16 b 0 / 16)], iN 0]
def ByD (b : List UInt8) : DV := match Nat.ble b.length 2304, Nat.ble 10 b.length with
  | false, _ => .tuple [.agg [.int .i64 0, .int .i64 0, .int .u64 0], iN 11]
  | true, false => .tuple [.agg [.int .i64 0, .int .i64 0, .int .u64 0], iN 10]
  | true, true => match Nat.ble (g16 b 0 % 16) 7 with
    | false => .tuple [.agg [.int .i64 0, .int .i64 0, .int .u64 0], iN 12]
    | true => match Nat.ble b.length 10 with
      | false => .tuple [.agg [.int .i64 0, .int .i64 0, .int .u64 0], iN 11]
      | true => .tuple [.agg [iN (g16 b 0 % 16), iN (g16 b 0 / 16), .int .u64 (g64 b 2 : Int)], iN 0]
theorem Bx_ans (x : Bs) : Ans Try.prog fDBr [byL x.1] (BxD x.1) ⟨0, [], []⟩ := by
  obtain ⟨b, hb⟩ := x
  have hl := by1_length b
  show Ans _ _ _ (BxD b) _
  unfold BxD
  cases h1 : Nat.ble b.length 2304 with
  | false =>
    have hgt : ¬ b.length ≤ 2304 := fun h => by rw [bleT h] at h1; cases h1
    exact zflat_ok tab_ok mixed fun_ok cB2_ok (Bx1 (by1 b)) (.cons (decide_eq_true (by omega)) .nil)
  | true =>
    have hle : b.length ≤ 2304 := Nat.le_of_ble_eq_true h1
    have m1 : decide (((by1 b).length : Int) > 2304) = false := decide_eq_false (by omega)
    cases h2 : Nat.ble 2 b.length with
    | false =>
      have hlt : ¬ 2 ≤ b.length := fun h => by rw [bleT h] at h2; cases h2
      exact zflat_ok tab_ok mixed fun_ok cB2_ok (Bx2 (by1 b)) (.cons m1 (.cons (orK_right (lift_oth (eqC_other (by kernel_rfl))) (g2_no _ ⟨b, hb⟩ 0 (by show _ ≤ b.length; omega) (by show ¬ _ ≤ b.length; omega))) .nil))
    | true =>
      have h2 : 2 ≤ b.length := Nat.le_of_ble_eq_true h2
      have hv := g16_lt b 0
      have u := upk_ok hv
      have r2 : cB2 fG2 [.agg [byL b, iN 0]] (BxH1 (by1 b)) = some (.tuple [w16 (g16 b 0), .agg [byL b, iN 2], iN 0], BxH1 (by1 b), none) := orK_right (lift_oth (eqC_other (by kernel_rfl))) (g2_ok _ ⟨b, hb⟩ 0 (by show _ ≤ b.length; omega))
      have ck : cB2 fCk [.agg [byL b, iN 2]] (BxH3 (by1 b) (g16 b 0 % 16) (g16 b 0 / 16)) = _ := ck_ok (C := cRd) _ ⟨b, hb⟩ 2 h2
      generalize g16 b 0 = v at *
      have a0 : decide (((v % 16 : Nat) : Int) ≥ 0) = true := decide_eq_true (by omega)
      have s0 : decide (((v / 16 : Nat) : Int) ≥ 0) = true := decide_eq_true (by omega)
      have s1 : decide (((v / 16 : Nat) : Int) ≤ 4095) = true := decide_eq_true (by omega)
      dsimp only
      cases h3 : Nat.ble (v % 16) 7 with
      | false =>
        have a1 : decide (((v % 16 : Nat) : Int) ≤ 7) = false := decide_eq_false fun h => by rw [bleT (show v % 16 ≤ 7 by omega)] at h3; cases h3
        exact zflat_ok tab_ok mixed fun_ok cB2_ok (Bx4 (by1 b) v (v % 16) (v / 16)) (.cons m1 (.cons r2 (.cons u (.cons a0 (.cons a1 .nil)))))
      | true =>
        have h3 := Nat.le_of_ble_eq_true h3
        have a1 : decide (((v % 16 : Nat) : Int) ≤ 7) = true := decide_eq_true (by omega)
        dsimp only
        cases h4 : Nat.ble b.length 2 with
        | false =>
          have h4' : ¬ b.length ≤ 2 := fun h => by rw [bleT h] at h4; cases h4
          exact zflat_ok tab_ok mixed fun_ok cB2_ok (Bx5 (by1 b) v (v % 16) (v / 16)) (.cons m1 (.cons r2 (.cons u (.cons a0 (.cons a1 (.cons s0 (.cons s1 (.cons ck (.cons (decide_eq_true (by omega)) .nil)))))))))
        | true =>
          have h4 := Nat.le_of_ble_eq_true h4
          exact zflat_ok tab_ok mixed fun_ok cB2_ok (Bx0 (by1 b) v (v % 16) (v / 16)) (.cons m1 (.cons r2 (.cons u (.cons a0 (.cons a1 (.cons s0 (.cons s1 (.cons ck (.cons (decide_eq_false (by omega)) .nil)))))))))
theorem By_ans (x : Bs) : Ans Try.prog fDBk [byL x.1] (ByD x.1) ⟨0, [], []⟩ := by
  obtain ⟨b, hb⟩ := x
  have hl := by1_length b
  show Ans _ _ _ (ByD b) _
  unfold ByD
  cases h1 : Nat.ble b.length 2304 with
  | false =>
    have hgt : ¬ b.length ≤ 2304 := fun h => by rw [bleT h] at h1; cases h1
    exact zflat_ok tab_ok mixed fun_ok cB8_ok (By1 (by1 b)) (.cons (decide_eq_true (by omega)) .nil)
  | true =>
    have hle : b.length ≤ 2304 := Nat.le_of_ble_eq_true h1
    have m1 : decide (((by1 b).length : Int) > 2304) = false := decide_eq_false (by omega)
    by_cases h2 : 2 ≤ b.length
    case neg =>
      rw [show Nat.ble 10 b.length = false from bleF (by omega)]
      exact zflat_ok tab_ok mixed fun_ok cB8_ok (By2 (by1 b)) (.cons m1 (.cons (orK_right (lift_oth (eqC_other (by kernel_rfl))) (r8_2no _ ⟨b, hb⟩ 0 (by show _ ≤ b.length; omega) (by show ¬ _ ≤ b.length; omega))) .nil))
    have hv := g16_lt b 0
    have u := upk_ok hv
    have r2 : cB8 fG2 [.agg [byL b, iN 0]] (ByH1 (by1 b)) = some (.tuple [w16 (g16 b 0), .agg [byL b, iN 2], iN 0], ByH1 (by1 b), none) := orK_right (lift_oth (eqC_other (by kernel_rfl))) (r8_2ok _ ⟨b, hb⟩ 0 (by show _ ≤ b.length; omega))
    generalize g16 b 0 = v at *
    have a0 : decide (((v % 16 : Nat) : Int) ≥ 0) = true := decide_eq_true (by omega)
    have s0 : decide (((v / 16 : Nat) : Int) ≥ 0) = true := decide_eq_true (by omega)
    have s1 : decide (((v / 16 : Nat) : Int) ≤ 4095) = true := decide_eq_true (by omega)
    cases h5 : Nat.ble 10 b.length with
    | false =>
      have h5' : ¬ 10 ≤ b.length := fun h => by rw [bleT h] at h5; cases h5
      have r8 : cB8 fG8 [.agg [byL b, iN 2]] (ByH2 (by1 b) (v % 16) (v / 16)) = some (.tuple [.int .u64 0, .agg [.list 1 [], iN 0], iN 10], ByH2 (by1 b) (v % 16) (v / 16), none) := orK_right (lift_oth (eqC_other (by kernel_rfl))) (r8_no _ ⟨b, hb⟩ 2 (by show _ ≤ b.length; omega) (by show ¬ _ ≤ b.length; omega))
      by_cases h3 : v % 16 ≤ 7
      · exact zflat_ok tab_ok mixed fun_ok cB8_ok (By3 (by1 b) v (v % 16) (v / 16)) (.cons m1 (.cons r2 (.cons u (.cons r8 (.cons a0 (.cons (decide_eq_true (by omega)) (.cons s0 (.cons s1 .nil))))))))
      · exact zflat_ok tab_ok mixed fun_ok cB8_ok (By3b (by1 b) v (v % 16) (v / 16)) (.cons m1 (.cons r2 (.cons u (.cons r8 (.cons a0 (.cons (decide_eq_false (by omega)) .nil))))))
    | true =>
      have h5 : 10 ≤ b.length := Nat.le_of_ble_eq_true h5
      have r8 : cB8 fG8 [.agg [byL b, iN 2]] (ByH2 (by1 b) (v % 16) (v / 16)) = some (.tuple [.int .u64 (g64 b 2 : Int), .agg [byL b, iN 10], iN 0], ByH2 (by1 b) (v % 16) (v / 16), none) := orK_right (lift_oth (eqC_other (by kernel_rfl))) (r8_ok _ ⟨b, hb⟩ 2 (by show _ ≤ b.length; omega))
      have ck : cB8 fCk [.agg [byL b, iN 10]] (ByH3 (by1 b) (v % 16) (v / 16) (g64 b 2)) = _ := ck_ok (C := cR8) _ ⟨b, hb⟩ 10 h5
      dsimp only
      cases h3 : Nat.ble (v % 16) 7 with
      | false =>
        have a1 : decide (((v % 16 : Nat) : Int) ≤ 7) = false := decide_eq_false fun h => by rw [bleT (show v % 16 ≤ 7 by omega)] at h3; cases h3
        exact zflat_ok tab_ok mixed fun_ok cB8_ok (By4 (by1 b) v (v % 16) (v / 16) (g64 b 2)) (.cons m1 (.cons r2 (.cons u (.cons r8 (.cons a0 (.cons a1 .nil))))))
      | true =>
        have h3 := Nat.le_of_ble_eq_true h3
        have a1 : decide (((v % 16 : Nat) : Int) ≤ 7) = true := decide_eq_true (by omega)
        dsimp only
        cases h4 : Nat.ble b.length 10 with
        | false =>
          have h4' : ¬ b.length ≤ 10 := fun h => by rw [bleT h] at h4; cases h4
          exact zflat_ok tab_ok mixed fun_ok cB8_ok (By5 (by1 b) v (v % 16) (v / 16) (g64 b 2)) (.cons m1 (.cons r2 (.cons u (.cons r8 (.cons a0 (.cons a1 (.cons s0 (.cons s1 (.cons ck (.cons (decide_eq_true (by omega)) .nil))))))))))
        | true =>
          have h4 := Nat.le_of_ble_eq_true h4
          exact zflat_ok tab_ok mixed fun_ok cB8_ok (By0 (by1 b) v (v % 16) (v / 16) (g64 b 2)) (.cons m1 (.cons r2 (.cons u (.cons r8 (.cons a0 (.cons a1 (.cons s0 (.cons s1 (.cons ck (.cons (decide_eq_false (by omega)) .nil))))))))))
theorem BxD_flat (b : List UInt8) : flatD (BxD b) = true := by
  unfold BxD
  repeat' split
  all_goals rfl
def cDBx : ConF := liftC (eqC fDBr (fun x : Bs => [byL x.1]) fun x => (BxD x.1, ⟨0, [], []⟩))
theorem cDBx_ok : ConOk Try.prog cDBx := liftC_ok (eqC_ok Bx_ans fun _ => rfl)
theorem cDBx_at (hp : Hp) (b : List UInt8) (h : b.length < 2 ^ 30) : cDBx fDBr [byL b] hp = some (BxD b, hp, none) :=
  lift_at (A := fun x : Bs => [byL x.1]) (D := fun x => BxD x.1) (fun x y hxy => by
    simp only [List.cons.injEq, and_true] at hxy
    rw [byL_in hxy]) hp ⟨b, h⟩ rfl (BxD_flat b)
theorem ByD_flat (b : List UInt8) : flatD (ByD b) = true := by
  unfold ByD
  repeat' split
  all_goals rfl
def cDBy : ConF := liftC (eqC fDBk (fun x : Bs => [byL x.1]) fun x => (ByD x.1, ⟨0, [], []⟩))
theorem cDBy_ok : ConOk Try.prog cDBy := liftC_ok (eqC_ok By_ans fun _ => rfl)
theorem cDBy_at (hp : Hp) (b : List UInt8) (h : b.length < 2 ^ 30) : cDBy fDBk [byL b] hp = some (ByD b, hp, none) :=
  lift_at (A := fun x : Bs => [byL x.1]) (D := fun x => ByD x.1) (fun x y hxy => by
    simp only [List.cons.injEq, and_true] at hxy
    rw [byL_in hxy]) hp ⟨b, h⟩ rfl (ByD_flat b)
end
end Go.Proofs.Ytejlbkhddehaiaa
