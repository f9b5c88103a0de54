/- Whether elements keep to the limits of number and depth: a range over a function that calls itself. -/
import Derived.Test.YtejlbkhddehaiaaEb
import Derived.Test.YtejlbkhddehaiaaML
namespace Go.Proofs.Ytejlbkhddehaiaa
open Go.RowKit

noncomputable section
abbrev fFt : FuncId := 121
abbrev fVi : FuncId := 140
abbrev fAi : FuncId := 139
def rngsOf : Code → List (Code × Code)
  | .seq a b => rngsOf a ++ rngsOf b
  | .cond _ a b => rngsOf a ++ rngsOf b
  | .block _ a => rngsOf a
  | .loop a => rngsOf a
  | .scope a => rngsOf a
  | .rangeFunc _ _ a b => [(a, b)]
  | _ => []
def rngA (c : Code) : Code := match rngsOf c with
  | (a, _) :: _ => a
  | [] => .skip
def rngB (c : Code) : Code := match rngsOf c with
  | (_, b) :: _ => b
  | [] => .skip
abbrev oPl : Ob := ⟨0, 0, 0, []⟩
abbrev oBv (v : Bool) : Ob := ⟨0, 0, 4, [.bool v]⟩
abbrev oBi (n : Nat) : Ob := ⟨0, 0, 3, [iN n]⟩
abbrev oBe (xs : List (List DV)) : Ob := ⟨0, 0, 24, [.list 4 xs]⟩
/-! ### fits: the heap while its range is under way -/
abbrev ftS : Slots := mkT 17 [(2, .ptr 0 0), (3, .ptr 1 0), (6, .fn fAi [] [.ptr 2 0])]
def ftR (st : Nat) (pe : Option Code) : LS := ⟨3, 17, ksF ftab fFt, ftS, [7, 8], rngA (bodyOf ftab fFt), rngB (bodyOf ftab fFt), st, pe⟩
abbrev ftH (zs : List (List DV)) (n : Nat) : Hp := ⟨4, [oPl, oBe zs, oBi n, oBv false], [ftR 0 none]⟩
abbrev ftF (zs : List (List DV)) (n : Nat) : Hp := ⟨4, [oPl, oBe zs, oBi n, oBv false], [ftR 2 (some .ret)]⟩
abbrev kVi : List (Nat × Nat) := ksF ftab fVi
abbrev viL : Code := loopAt (bodyOf ftab fVi) 0
abbrev viS (xs : List (List DV)) (d j y : Nat) : Slots := mkT 30 [(1, iN d), (2, .yld y), (9, .list 4 xs), (10, .int .i64 (xs.length : Int)), (11, iN j)]
abbrev viV : List Nat := [1, 2, 9, 10, 11, 20]
abbrev viF : Slots := mkT 30 [(6, .bool false)]
section
variable (C : ConF)
abbrev vi5 (zs : List (List DV)) (n : Nat) (c : List DV) : Hp := ⟨5, [oEl 0 c, oPl, oBe zs, oBi n, oBv false], [ftR 0 none]⟩
abbrev viQ (xs ys ss : List (List DV)) (j n : Nat) (i e : UInt8) (t : List Prop) : List Prop := (decide ((j : Int) < (xs.length : Int)) = true) :: weA xs j i e ys ss ((DV.int .i64 (IntKind.i64.wrap ((n : Int) + 1)) = iN (n + 1)) :: t)
/-- on, all below having been gone through -/
abbrev viA (zs xs ys ss : List (List DV)) (d j n : Nat) (i e : UInt8) (v : Bool) (H : Hp) (t : List Prop) : List Prop := viQ xs ys ss j n i e ((decide (((n + 1 : Nat) : Int) > 64) = false) :: (decide ((d : Int) > 4) = false) :: (DV.int .i64 (IntKind.i64.wrap ((d : Int) + 1)) = iN (d + 1)) :: AnsH Try.prog fVi [.list 4 ss, iN (d + 1), .yld 3] (vi5 zs (n + 1) (elC i e ys ss)) (.bool v) H :: t)
set_option maxRecDepth 1000000 in
theorem vi1 (zs xs ys ss : List (List DV)) (d j n m : Nat) (i e : UInt8) : zsee Try.prog tab ftab C kVi [1, 2, 9, 10, 11] viL (viS xs d j 3) (ftH zs n) [(12, .b true), (13, .n (.fptr (elC i e ys ss))), (60004, .t 11 viV (.bool true) (ftH zs m)), (18, .c [(10, .w (iN (n + 1))), (12, .b false), (15, .b false)]), (24, .w (iN (d + 1))), (29, .w (iN (j + 1)))] =
    some (.normal, viS xs d (j + 1) 3, ftH zs m, viA zs xs ys ss d j n i e true (ftH zs m) ((DV.int .i64 (IntKind.i64.wrap ((j : Int) + 1)) = iN (j + 1)) :: [])) := by kernel_rfl
set_option maxRecDepth 1000000 in
theorem vi2 (zs xs ys ss : List (List DV)) (d j n m : Nat) (i e : UInt8) : zsee Try.prog tab ftab C kVi [6] viL (viS xs d j 3) (ftH zs n) [(12, .b true), (13, .n (.fptr (elC i e ys ss))), (60004, .t 11 viV (.bool false) (ftF zs m)), (18, .c [(10, .w (iN (n + 1))), (12, .b false), (15, .b false)]), (24, .w (iN (d + 1)))] =
    some (.ret, viF, ftF zs m, viA zs xs ys ss d j n i e false (ftF zs m) []) := by kernel_rfl
set_option maxRecDepth 1000000 in
theorem vi3 (zs xs ys ss : List (List DV)) (d j n : Nat) (i e : UInt8) : zgm [0, 1, 2, 3] [] (zsee Try.prog tab ftab C kVi [6] viL (viS xs d j 3) (ftH zs n) [(12, .b true), (13, .n (.fptr (elC i e ys ss))), (18, .c [(10, .w (iN (n + 1))), (12, .b true)])]) =
    some (.ret, viF, ftF zs (n + 1), FlatIn [] ⟨5, [oEl 0 (elC i e ys ss), oPl, oBe zs, oBi (n + 1), oBv false], [ftR 2 (some .ret)]⟩ :: viQ xs ys ss j n i e ((decide (((n + 1 : Nat) : Int) > 64) = true) :: [])) := by kernel_rfl
set_option maxRecDepth 1000000 in
theorem vi4 (zs xs ys ss : List (List DV)) (d j n : Nat) (i e : UInt8) : zgm [0, 1, 2, 3] [] (zsee Try.prog tab ftab C kVi [6] viL (viS xs d j 3) (ftH zs n) [(12, .b true), (13, .n (.fptr (elC i e ys ss))), (18, .c [(10, .w (iN (n + 1))), (12, .b false), (15, .b true)])]) =
    some (.ret, viF, ftF zs (n + 1), FlatIn [] ⟨5, [oEl 0 (elC i e ys ss), oPl, oBe zs, oBi (n + 1), oBv false], [ftR 2 (some .ret)]⟩ :: viQ xs ys ss j n i e ((decide (((n + 1 : Nat) : Int) > 64) = false) :: (decide ((d : Int) > 4) = true) :: [])) := by kernel_rfl
set_option maxRecDepth 1000000 in
theorem viO (zs xs : List (List DV)) (d j n : Nat) : zsee Try.prog tab ftab C kVi [] viL (viS xs d j 3) (ftH zs n) [(12, .b false)] = some (.exit 0, mkT 30 [], ftH zs n, (decide ((j : Int) < (xs.length : Int)) = false) :: []) := by kernel_rfl
set_option maxRecDepth 1000000 in
theorem viG (zs xs : List (List DV)) (d n m : Nat) : zansH Try.prog tab ftab C fVi [.list 4 xs, iN d, .yld 3] (ftH zs n) [(0, .l [1, 2, 9, 10, 11] (.exit 0) (mkT 30 []) (ftH zs m))] = some (.bool true, ftH zs m, (Goes Try.prog tab kVi (.loop viL) (viS xs d 0 3) (ftH zs n) (.exit 0) (mkT 30 []) (ftH zs m)) :: []) := by kernel_rfl
set_option maxRecDepth 1000000 in
theorem viB (zs xs : List (List DV)) (d n m : Nat) : zansH Try.prog tab ftab C fVi [.list 4 xs, iN d, .yld 3] (ftH zs n) [(0, .l [1, 2, 9, 10, 11] .ret viF (ftF zs m))] = some (.bool false, ftF zs m, (Goes Try.prog tab kVi (.loop viL) (viS xs d 0 3) (ftH zs n) .ret viF (ftF zs m)) :: []) := by kernel_rfl
set_option maxRecDepth 1000000 in
theorem viD (zs : List (List DV)) (n : Nat) (c : List DV) (i e : UInt8) (ys ss : List (List DV)) (hc : c = elC i e ys ss) : renHC [0, 1, 2, 3] [] (vi5 zs n c) = some (ftH zs n) := by subst hc; kernel_rfl
end
/-! ### What visit answers -/
mutual
/-- how many have been counted, and whether all keep to the limits -/
def vfE : El → Nat → Nat → Nat × Bool
  | .mk _ _ _ s, d, n => match decide (n + 1 > 64) || decide (d > 4) with
    | true => (n + 1, false)
    | false => vfA s (d + 1) (n + 1)
def vfA : List El → Nat → Nat → Nat × Bool
  | [], _, n => (n, true)
  | x :: l, d, n => match (vfE x d n).2 with
    | true => vfA l d (vfE x d n).1
    | false => vfE x d n
end
def ftX (zs : List (List DV)) (r : Nat × Bool) : Hp := match r.2 with
  | true => ftH zs r.1
  | false => ftF zs r.1
def viX (r : Nat × Bool) : Ex × Slots := match r.2 with
  | true => (.exit 0, mkT 30 [])
  | false => (.ret, viF)
abbrev FtI (k : Nat) (zs : List (List DV)) : Prop := ∀ (l : List El) (d n : Nat), depA l ≤ k → SmL l → n ≤ 64 → d ≤ 5 → AnsH Try.prog fVi [elsD l, iN d, .yld 3] (ftH zs n) (.bool (vfA l d n).2) (ftX zs (vfA l d n))
theorem vf_on {i e : UInt8} {x : List UInt8} {s l : List El} {d n : Nat} (h : (decide (n + 1 > 64) || decide (d > 4)) = false) : vfA (.mk i e x s :: l) d n = match (vfA s (d + 1) (n + 1)).2 with
    | true => vfA l d (vfA s (d + 1) (n + 1)).1
    | false => vfA s (d + 1) (n + 1) := by
  show (match (vfE (.mk i e x s) d n).2 with
    | true => vfA l d (vfE (.mk i e x s) d n).1
    | false => vfE (.mk i e x s) d n) = _
  have : vfE (.mk i e x s) d n = vfA s (d + 1) (n + 1) := by
    show (match decide (n + 1 > 64) || decide (d > 4) with
      | true => (n + 1, false)
      | false => vfA s (d + 1) (n + 1)) = _
    rw [h]
  rw [this]
theorem vf_off {i e : UInt8} {x : List UInt8} {s l : List El} {d n : Nat} (h : (decide (n + 1 > 64) || decide (d > 4)) = true) : vfA (.mk i e x s :: l) d n = (n + 1, false) := by
  show (match (vfE (.mk i e x s) d n).2 with
    | true => vfA l d (vfE (.mk i e x s) d n).1
    | false => vfE (.mk i e x s) d n) = _
  have : vfE (.mk i e x s) d n = (n + 1, false) := by
    show (match decide (n + 1 > 64) || decide (d > 4) with
      | true => (n + 1, false)
      | false => vfA s (d + 1) (n + 1)) = _
    rw [h]
  rw [this]
theorem vf_le : ∀ {l : List El} {d n : Nat}, n ≤ 64 → (vfA l d n).2 = true → (vfA l d n).1 ≤ 64
  | [], d, n, hn, _ => hn
  | .mk i e x s :: l, d, n, hn, h => by
    unfold vfA at h ⊢
    cases hx : (vfE (.mk i e x s) d n).2 with
    | false =>
      rw [hx] at h
      dsimp only at h
      rw [hx] at h
      cases h
    | true =>
      rw [hx] at h
      dsimp only at h ⊢
      refine vf_le ?_ h
      unfold vfE at hx ⊢
      cases hq : (decide (n + 1 > 64) || decide (d > 4)) with
      | true => rw [hq] at hx; cases hx
      | false =>
        rw [hq] at hx
        dsimp only at hx ⊢
        have : n + 1 ≤ 64 := by
          have := of_decide_eq_false (Bool.or_eq_false_iff.1 hq).1
          omega
        exact vf_le this hx
theorem vi_loop (k : Nat) (zs : List (List DV)) (hI : FtI k zs) (l : List El) (hl : depA l ≤ k + 1 ∧ SmL l) (d : Nat) (hd : d ≤ 5) : ∀ (rest pre : List El) (n : Nat), l = pre ++ rest → n ≤ 64 → ∃ m, GoesR Try.prog tab kVi viL (m + 1) (viS (elR l) d pre.length 3) (ftH zs n) (viX (vfA rest d n)).1 (viX (vfA rest d n)).2 (ftX zs (vfA rest d n))
  | [], pre, n, e, hn => by
    have hn' : (elR l).length = pre.length := by rw [elR_length, e, List.append_nil]
    exact ⟨0, GoesR.last (zsee_ok tab_ok mixed fun_ok noC_ok (viO noC zs (elR l) d pre.length n) (.cons (decide_eq_false (by omega)) .nil)) (by intro h; cases h)⟩
  | .mk i x dt s :: rest, pre, n, e, hn => by
    obtain ⟨hl1, hl2, hl3⟩ := hl
    have hnl := elR_length l
    have hll : l.length = pre.length + (rest.length + 1) := by rw [e]; simp
    have hj : l[pre.length]? = some (.mk i x dt s) := by rw [e]; simp
    have hlt : decide ((pre.length : Int) < ((elR l).length : Int)) = true := decide_eq_true (by omega)
    have hi : idxOk (pre.length : Int) (elR l).length = true := idxOk_lt (by omega)
    have hs := dep_sub hj
    have ho : smE (.mk i x dt s) := smL_at hl3 hj
    have hw : DV.int .i64 (IntKind.i64.wrap ((pre.length : Int) + 1)) = iN (pre.length + 1) := congrArg (DV.int .i64) (wrapI (n := pre.length + 1) (by omega))
    have hwn : DV.int .i64 (IntKind.i64.wrap ((n : Int) + 1)) = iN (n + 1) := congrArg (DV.int .i64) (wrapI (n := n + 1) (by omega))
    have hwd : DV.int .i64 (IntKind.i64.wrap ((d : Int) + 1)) = iN (d + 1) := congrArg (DV.int .i64) (wrapI (n := d + 1) (by omega))
    cases h1 : decide (n + 1 > 64) with
    | true =>
      rw [vf_off (by rw [h1]; rfl)]
      have h1' : decide (((n + 1 : Nat) : Int) > 64) = true := decide_eq_true (by have := of_decide_eq_true h1; omega)
      exact ⟨0, GoesR.last (zgm_ok tab_ok mixed fun_ok noC_ok (vi3 noC zs (elR l) (by1 dt) (elR s) d pre.length n i x) (.cons (flatIn_nil _) (.cons hlt (.cons hi (.cons (elR_at hj) (.cons hwn (.cons h1' .nil))))))) (by intro h; cases h)⟩
    | false =>
      have hn1 : n + 1 ≤ 64 := by have := of_decide_eq_false h1; omega
      have h1' : decide (((n + 1 : Nat) : Int) > 64) = false := decide_eq_false (by omega)
      cases h2 : decide (d > 4) with
      | true =>
        rw [vf_off (by rw [h1, h2]; rfl)]
        have h2' : decide ((d : Int) > 4) = true := decide_eq_true (by have := of_decide_eq_true h2; omega)
        exact ⟨0, GoesR.last (zgm_ok tab_ok mixed fun_ok noC_ok (vi4 noC zs (elR l) (by1 dt) (elR s) d pre.length n i x) (.cons (flatIn_nil _) (.cons hlt (.cons hi (.cons (elR_at hj) (.cons hwn (.cons h1' (.cons h2' .nil)))))))) (by intro h; cases h)⟩
      | false =>
        rw [vf_on (by rw [h1, h2]; rfl)]
        have hd4 : d ≤ 4 := by have := of_decide_eq_false h2; omega
        have h2' : decide ((d : Int) > 4) = false := decide_eq_false (by omega)
        have hA := (hI s (d + 1) (n + 1) (by omega) ho.2 hn1 (by omega)).pre (hp1 := vi5 zs (n + 1) (elC i x (by1 dt) (elR s))) (args := [elsD s, iN (d + 1), .yld 3]) (viD zs (n + 1) _ i x (by1 dt) (elR s) rfl) rfl (flatIn_nil _)
        cases hv : (vfA s (d + 1) (n + 1)).2 with
        | true =>
          have hm := vf_le hn1 hv
          obtain ⟨k', g⟩ := vi_loop k zs hI l ⟨hl1, hl2, hl3⟩ d hd rest (pre ++ [.mk i x dt s]) (vfA s (d + 1) (n + 1)).1 (by rw [e, List.append_assoc]; rfl) hm
          rw [List.length_append] at g
          rw [hv] at hA
          have hX : ftX zs (vfA s (d + 1) (n + 1)) = ftH zs (vfA s (d + 1) (n + 1)).1 := by unfold ftX; rw [hv]
          rw [hX] at hA
          exact ⟨k' + 1, GoesR.step (zsee_ok tab_ok mixed fun_ok noC_ok (vi1 noC zs (elR l) (by1 dt) (elR s) d pre.length n (vfA s (d + 1) (n + 1)).1 i x) (.cons hlt (.cons hi (.cons (elR_at hj) (.cons hwn (.cons h1' (.cons h2' (.cons hwd (.cons hA (.cons hw .nil)))))))))) g⟩
        | false =>
          rw [hv] at hA
          have hX : ftX zs (vfA s (d + 1) (n + 1)) = ftF zs (vfA s (d + 1) (n + 1)).1 := by unfold ftX; rw [hv]
          have hY : viX (vfA s (d + 1) (n + 1)) = (.ret, viF) := by unfold viX; rw [hv]
          rw [hX] at hA ⊢
          rw [hY]
          exact ⟨0, GoesR.last (zsee_ok tab_ok mixed fun_ok noC_ok (vi2 noC zs (elR l) (by1 dt) (elR s) d pre.length n (vfA s (d + 1) (n + 1)).1 i x) (.cons hlt (.cons hi (.cons (elR_at hj) (.cons hwn (.cons h1' (.cons h2' (.cons hwd (.cons hA .nil))))))))) (by intro h; cases h)⟩
theorem vi_from (zs : List (List DV)) (l : List El) (d n : Nat) {r : Nat × Bool} (g : Goes Try.prog tab kVi (.loop viL) (viS (elR l) d 0 3) (ftH zs n) (viX r).1 (viX r).2 (ftX zs r)) : AnsH Try.prog fVi [elsD l, iN d, .yld 3] (ftH zs n) (.bool r.2) (ftX zs r) := by
  obtain ⟨m, v⟩ := r
  cases v with
  | true => exact zansH_ok tab_ok mixed fun_ok noC_ok (viG noC zs (elR l) d n m) (.cons g .nil)
  | false => exact zansH_ok tab_ok mixed fun_ok noC_ok (viB noC zs (elR l) d n m) (.cons g .nil)
theorem vi_ans (zs : List (List DV)) : ∀ k, FtI k zs
  | 0, l, d, n, h, hs, hn, hd => by
    obtain rfl := dep_zero h
    exact vi_from zs [] d n (r := (n, true)) (GoesR.last (zsee_ok tab_ok mixed fun_ok noC_ok (viO noC zs (elR []) d 0 n) (.cons (decide_eq_false (by simp [elR])) .nil)) (by intro h; cases h)).goes
  | k + 1, l, d, n, h, hs, hn, hd => by
    obtain ⟨m, g⟩ := vi_loop k zs (vi_ans zs k) l ⟨h, hs⟩ d hd l [] n rfl hn
    exact vi_from zs l d n g.goes
/-! ### fits -/
abbrev ftB (zs : List (List DV)) : Hp := ⟨3, [oBe zs, oBi 0, oBv false], []⟩
theorem ai_tab : ftab fAi = some ⟨6, bodyOf ftab fAi, [], ksF ftab fAi⟩ := by kernel_rfl
theorem ft_beg (zs : List (List DV)) : (ftB zs).beg 17 (ksF ftab fFt) ftS [7, 8] (rngA (bodyOf ftab fFt)) (rngB (bodyOf ftab fFt)) = ftH zs 0 := rfl
set_option maxRecDepth 1000000 in
theorem ai_run (zs : List (List DV)) (v : Bool) (m : Nat) : zansH Try.prog tab ftab noC fAi [.yld 3, .ptr 2 0] (ftH zs 0) [(60000, .t 2 [] (.bool v) (ftX zs (m, v)))] = some (one [], ftX zs (m, v), AnsH Try.prog fVi [.list 4 zs, iN 1, .yld 3] (ftH zs 0) (.bool v) (ftX zs (m, v)) :: []) := by cases v <;> kernel_rfl
abbrev ftG (zs : List (List DV)) (m : Nat) (_v : Bool) : Hp := ⟨4, [oPl, oBe zs, oBi m, oBv false], []⟩
abbrev ftQ (zs : List (List DV)) (m : Nat) (v : Bool) : Prop := Goes Try.prog tab (ksF ftab fFt) (.rangeFunc (.tmp 6) #[7, 8] (rngA (bodyOf ftab fFt)) (rngB (bodyOf ftab fFt))) ftS (ftB zs) (cond v .normal .ret) ftS (ftG zs m v)
set_option maxRecDepth 1000000 in
theorem ftRun (zs : List (List DV)) (m : Nat) (v : Bool) : zflat (zans Try.prog tab ftab noC fFt [.list 4 zs] [(0, .l [2, 3, 6] (cond v .normal .ret) ftS (ftG zs m v))]) = some (.bool v, ftQ zs m v :: []) := by cases v <;> kernel_rfl
theorem ft_rng (l : List El) (hl : SmL l) : ftQ (elR l) (vfA l 1 0).1 (vfA l 1 0).2 := by
  have h0 := vi_ans (elR l) (depA l) l 1 0 (Nat.le_refl _) hl (by decide) (by decide)
  generalize vfA l 1 0 = r at h0
  obtain ⟨m, v⟩ := r
  have hA := zansH_ok tab_ok mixed fun_ok noC_ok (ai_run (elR l) v m) (.cons h0 .nil)
  have := Goes.range (P := Try.prog) (T := tab) (ks := ksF ftab fFt) (g := .tmp 6) (ps := #[7, 8]) (x := rngA (bodyOf ftab fFt)) (y := rngB (bodyOf ftab fFt)) (sl := ftS) (hp := ftB (elR l)) (hp1 := ftX (elR l) (m, v)) (f := fAi) (captured := [.ptr 2 0]) (d := one []) (nc := 17) (R := ftR (cond v 0 2) (cond v none (some .ret))) (e := cond v .normal .ret) rfl (by kernel_rfl) rfl (by rw [ft_beg]; exact hA) (by cases v <;> rfl) (by cases v <;> rfl)
  cases v <;> exact this
theorem ft_ans (x : ElS) : Ans Try.prog fFt [elsD x.1] (.bool (vfA x.1 1 0).2) ⟨0, [], []⟩ := zflat_ok tab_ok mixed fun_ok noC_ok (ftRun (elR x.1) (vfA x.1 1 0).1 (vfA x.1 1 0).2) (.cons (ft_rng x.1 x.2) .nil)
def cFt : ConF := liftC (eqC fFt (fun x : ElS => [elsD x.1]) fun x => (.bool (vfA x.1 1 0).2, ⟨0, [], []⟩))
theorem cFt_ok : ConOk Try.prog cFt := liftC_ok (eqC_ok ft_ans fun _ => rfl)
theorem cFt_at (hp : Hp) (l : List El) (hl : SmL l) : cFt fFt [elsD l] hp = some (.bool (vfA l 1 0).2, hp, none) :=
  lift_at (A := fun x : ElS => [elsD x.1]) (D := fun x => .bool (vfA x.1 1 0).2) (fun x y hxy => by
    simp only [List.cons.injEq, and_true] at hxy
    rw [els_inj hxy]) hp ⟨l, hl⟩ rfl rfl
end
end Go.Proofs.Ytejlbkhddehaiaa
