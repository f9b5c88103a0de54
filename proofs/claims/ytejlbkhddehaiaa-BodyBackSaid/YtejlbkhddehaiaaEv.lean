/- Whether elements are valid, and containers: contracts. -/
import Derived.Test.YtejlbkhddehaiaaEu
namespace Go.Proofs.Ytejlbkhddehaiaa
open Go.RowKit

noncomputable section
/-! ### container, extSize -/
abbrev fCo : FuncId := 136
abbrev fXs : FuncId := 137
set_option maxRecDepth 1000000 in
theorem co1 (i : UInt8) : zflat (zans Try.prog tab ftab noC fCo [i8 i] [(4, .b false)]) = some (.bool false, (decide (nx i ≥ 200) = false) :: []) := by kernel_rfl
set_option maxRecDepth 1000000 in
theorem co2 (i : UInt8) (v : Bool) : zflat (zans Try.prog tab ftab noC fCo [i8 i] [(4, .b true), (7, .b v)]) = some (.bool v, (decide (nx i ≥ 200) = true) :: (decide (nx i ≤ 219) = v) :: []) := by kernel_rfl
def cont (i : UInt8) : Bool := decide (nx i ≥ 200) && decide (nx i ≤ 219)
theorem co_ans (i : UInt8) : Ans Try.prog fCo [i8 i] (.bool (cont i)) ⟨0, [], []⟩ := by
  unfold cont
  cases h : decide (nx i ≥ 200) with
  | false => exact zflat_ok tab_ok mixed fun_ok noC_ok (co1 i) (.cons h .nil)
  | true => exact zflat_ok tab_ok mixed fun_ok noC_ok (co2 i _) (.cons h (.cons rfl .nil))
def cCo : ConF := liftC (eqC fCo (fun i : UInt8 => [i8 i]) fun i => (.bool (cont i), ⟨0, [], []⟩))
theorem cCo_ok : ConOk Try.prog cCo := liftC_ok (eqC_ok co_ans fun _ => rfl)
theorem cCo_at (hp : Hp) (i : UInt8) : cCo fCo [i8 i] hp = some (.bool (cont i), hp, none) :=
  lift_at (A := fun i : UInt8 => [i8 i]) (D := fun i => .bool (cont i)) (fun x y hxy => by
    simp only [List.cons.injEq, and_true] at hxy
    rw [i8_inj hxy]) hp i rfl rfl
set_option maxRecDepth 1000000 in
theorem xs_run (i : UInt8) (v : Bool) : zflat (zans Try.prog tab ftab noC fXs [i8 i] [(4, .b v)]) = some (iN (cond v 1 0), ((nx i == 255) = v) :: []) := by cases v <;> kernel_rfl
def exts (i : UInt8) : Nat := cond (nx i == 255) 1 0
theorem xs_ans (i : UInt8) : Ans Try.prog fXs [i8 i] (iN (exts i)) ⟨0, [], []⟩ := zflat_ok tab_ok mixed fun_ok noC_ok (xs_run i _) (.cons rfl .nil)
def cXs : ConF := liftC (eqC fXs (fun i : UInt8 => [i8 i]) fun i => (iN (exts i), ⟨0, [], []⟩))
theorem cXs_ok : ConOk Try.prog cXs := liftC_ok (eqC_ok xs_ans fun _ => rfl)
theorem cXs_at (hp : Hp) (i : UInt8) : cXs fXs [i8 i] hp = some (iN (exts i), hp, none) :=
  lift_at (A := fun i : UInt8 => [i8 i]) (D := fun i => iN (exts i)) (fun x y hxy => by
    simp only [List.cons.injEq, and_true] at hxy
    rw [i8_inj hxy]) hp i rfl rfl
/-! ### valid: the heap while its range is under way -/
abbrev fVa : FuncId := 122
abbrev vaS : Slots := mkT 51 [(2, .ptr 0 0), (9, .fn fAi [] [.ptr 1 0])]
def vaR (st : Nat) (pe : Option Code) : LS := ⟨2, 51, ksF ftab fVa, vaS, [10, 11], rngA (bodyOf ftab fVa), rngB (bodyOf ftab fVa), st, pe⟩
abbrev vaH (zs : List (List DV)) : Hp := ⟨3, [oPl, oBe zs, oBv false], [vaR 0 none]⟩
abbrev vaF (zs : List (List DV)) : Hp := ⟨3, [oPl, oBe zs, oBv false], [vaR 2 (some .ret)]⟩
abbrev va5 (zs : List (List DV)) (c : List DV) : Hp := ⟨5, [oEl 0 c, oEl 0 c, oPl, oBe zs, oBv false], [vaR 1 none]⟩
abbrev va6 (zs : List (List DV)) (c : List DV) : Hp := ⟨5, [oEl 0 c, oEl 0 c, oPl, oBe zs, oBv false], [vaR 0 none]⟩
abbrev va7 (zs : List (List DV)) (c : List DV) : Hp := ⟨5, [oEl 0 c, oEl 0 c, oPl, oBe zs, oBv false], [vaR 2 (some .ret)]⟩
def optP (b : Bool) (p : Prop) (t : List Prop) : List Prop := match b with
  | true => p :: t
  | false => t
def optY (b : Bool) (p : Nat × YE) (t : Yath) : Yath := match b with
  | true => p :: t
  | false => t
def vaY (a1 a2 b1 cv c1 w : Bool) : Yath := (14, .b a1) :: optY a1 (18, .b a2) ((23, .b b1) :: optY b1 (27, .q (.bool cv)) ((32, .b c1) :: optY c1 (36, .q (.bool cv)) [(41, .b w)]))
def wrong (a1 a2 b1 cv c1 w : Bool) : Bool := w || (a1 && a2) || (b1 && cv) || (c1 && !cv)
section
variable (C : ConF)
def vaP (zs ys ss : List (List DV)) (i e : UInt8) (a1 a2 b1 cv c1 w : Bool) (t : List Prop) : List Prop := ((nx e != 0) = a1) :: optP a1 ((nx i != 255) = a2) ((decide ((ys.length : Int) > 0) = b1) :: optP b1 (C fCo [i8 i] (va5 zs (elC i e ys ss)) = some (.bool cv, va5 zs (elC i e ys ss), none)) ((decide ((ss.length : Int) > 0) = c1) :: optP c1 (C fCo [i8 i] (va5 zs (elC i e ys ss)) = some (.bool cv, va5 zs (elC i e ys ss), none)) (((nx i == 254) = w) :: t)))
abbrev vaQ (zs xs ys ss : List (List DV)) (j : Nat) (i e : UInt8) (a1 a2 b1 cv c1 w : Bool) (t : List Prop) : List Prop := (decide ((j : Int) < (xs.length : Int)) = true) :: weA xs j i e ys ss (vaP C zs ys ss i e a1 a2 b1 cv c1 w t)
abbrev vaA (zs xs ys ss : List (List DV)) (d j : Nat) (i e : UInt8) (a1 a2 b1 cv c1 w : Bool) (v : Bool) (H : Hp) (t : List Prop) : List Prop := vaQ C zs xs ys ss j i e a1 a2 b1 cv c1 w ((DV.int .i64 (IntKind.i64.wrap ((d : Int) + 1)) = iN (d + 1)) :: AnsH Try.prog fVi [.list 4 ss, iN (d + 1), .yld 2] (va6 zs (elC i e ys ss)) (.bool v) H :: t)
set_option maxRecDepth 1000000 in
theorem va1 (zs xs ys ss : List (List DV)) (d j : Nat) (i e : UInt8) (a1 a2 b1 cv c1 w : Bool) (hw : wrong a1 a2 b1 cv c1 w = false) : zsee Try.prog tab ftab C kVi [1, 2, 9, 10, 11] viL (viS xs d j 2) (vaH zs) [(12, .b true), (13, .n (.fptr (elC i e ys ss))), (60004, .t 11 viV (.bool true) (vaH zs)), (18, .c (vaY a1 a2 b1 cv c1 w)), (24, .w (iN (d + 1))), (29, .w (iN (j + 1)))] =
    some (.normal, viS xs d (j + 1) 2, vaH zs, vaA C zs xs ys ss d j i e a1 a2 b1 cv c1 w true (vaH zs) ((DV.int .i64 (IntKind.i64.wrap ((j : Int) + 1)) = iN (j + 1)) :: [])) := by
  cases a1 <;> cases a2 <;> cases b1 <;> cases cv <;> cases c1 <;> cases w <;> first | (cases hw; done) | kernel_rfl
set_option maxRecDepth 1000000 in
theorem va2 (zs xs ys ss : List (List DV)) (d j : Nat) (i e : UInt8) (a1 a2 b1 cv c1 w : Bool) (hw : wrong a1 a2 b1 cv c1 w = false) : zsee Try.prog tab ftab C kVi [6] viL (viS xs d j 2) (vaH zs) [(12, .b true), (13, .n (.fptr (elC i e ys ss))), (60004, .t 11 viV (.bool false) (vaF zs)), (18, .c (vaY a1 a2 b1 cv c1 w)), (24, .w (iN (d + 1)))] =
    some (.ret, viF, vaF zs, vaA C zs xs ys ss d j i e a1 a2 b1 cv c1 w false (vaF zs) []) := by
  cases a1 <;> cases a2 <;> cases b1 <;> cases cv <;> cases c1 <;> cases w <;> first | (cases hw; done) | kernel_rfl
set_option maxRecDepth 1000000 in
theorem va3 (zs xs ys ss : List (List DV)) (d j : Nat) (i e : UInt8) (a1 a2 b1 cv c1 w : Bool) (hw : wrong a1 a2 b1 cv c1 w = true) : zgm [0, 1, 2] [] (zsee Try.prog tab ftab C kVi [6] viL (viS xs d j 2) (vaH zs) [(12, .b true), (13, .n (.fptr (elC i e ys ss))), (18, .c (vaY a1 a2 b1 cv c1 w))]) =
    some (.ret, viF, vaF zs, FlatIn [] (va7 zs (elC i e ys ss)) :: vaQ C zs xs ys ss j i e a1 a2 b1 cv c1 w []) := by
  cases a1 <;> cases a2 <;> cases b1 <;> cases cv <;> cases c1 <;> cases w <;> first | (cases hw; done) | kernel_rfl
set_option maxRecDepth 1000000 in
theorem vaO (zs xs : List (List DV)) (d j : Nat) : zsee Try.prog tab ftab C kVi [] viL (viS xs d j 2) (vaH zs) [(12, .b false)] = some (.exit 0, mkT 30 [], vaH zs, (decide ((j : Int) < (xs.length : Int)) = false) :: []) := by kernel_rfl
set_option maxRecDepth 1000000 in
theorem vaG (zs xs : List (List DV)) (d : Nat) : zansH Try.prog tab ftab C fVi [.list 4 xs, iN d, .yld 2] (vaH zs) [(0, .l [1, 2, 9, 10, 11] (.exit 0) (mkT 30 []) (vaH zs))] = some (.bool true, vaH zs, (Goes Try.prog tab kVi (.loop viL) (viS xs d 0 2) (vaH zs) (.exit 0) (mkT 30 []) (vaH zs)) :: []) := by kernel_rfl
set_option maxRecDepth 1000000 in
theorem vaB (zs xs : List (List DV)) (d : Nat) : zansH Try.prog tab ftab C fVi [.list 4 xs, iN d, .yld 2] (vaH zs) [(0, .l [1, 2, 9, 10, 11] .ret viF (vaF zs))] = some (.bool false, vaF zs, (Goes Try.prog tab kVi (.loop viL) (viS xs d 0 2) (vaH zs) .ret viF (vaF zs)) :: []) := by kernel_rfl
set_option maxRecDepth 1000000 in
theorem vaD (zs : List (List DV)) (i e : UInt8) (ys ss : List (List DV)) : renHC [0, 1, 2] [] (va6 zs (elC i e ys ss)) = some (vaH zs) := by kernel_rfl
end
/-! ### What visit answers -/
mutual
/-- as the document asks -/
def vdE : El → Bool
  | .mk i e d s => !(wrong (nx e != 0) (nx i != 255) (decide ((d.length : Int) > 0)) (cont i) (decide ((s.length : Int) > 0)) (nx i == 254)) && vdA s
def vdA : List El → Bool
  | [] => true
  | x :: l => vdE x && vdA l
end
def vaX (zs : List (List DV)) : Bool → Hp
  | true => vaH zs
  | false => vaF zs
def vaE : Bool → Ex × Slots
  | true => (.exit 0, mkT 30 [])
  | false => (.ret, viF)
abbrev VaI (k : Nat) (zs : List (List DV)) : Prop := ∀ (l : List El) (d : Nat), depA l ≤ k → SmL l → d + k ≤ 2 ^ 40 → AnsH Try.prog fVi [elsD l, iN d, .yld 2] (vaH zs) (.bool (vdA l)) (vaX zs (vdA l))
theorem optP_ok {b : Bool} {p : Prop} {t : List Prop} (h : p) (ht : AskedP t) : AskedP (optP b p t) := by
  cases b with
  | true => exact .cons h ht
  | false => exact ht
theorem va_asks (zs : List (List DV)) (i e : UInt8) (d : List UInt8) (s : List El) {t : List Prop} (ht : AskedP t) : AskedP (vaP cCo zs (by1 d) (elR s) i e (nx e != 0) (nx i != 255) (decide ((d.length : Int) > 0)) (cont i) (decide ((s.length : Int) > 0)) (nx i == 254) t) := by
  have h1 := by1_length d
  have h2 := elR_length s
  exact .cons rfl (optP_ok rfl (.cons (by rw [h1]) (optP_ok (cCo_at _ i) (.cons (by rw [h2]) (optP_ok (cCo_at _ i) (.cons rfl ht))))))
theorem va_loop (k : Nat) (zs : List (List DV)) (hI : VaI k zs) (l : List El) (hl : depA l ≤ k + 1 ∧ SmL l) (d : Nat) (hd : d + (k + 1) ≤ 2 ^ 40) : ∀ (rest pre : List El), l = pre ++ rest → ∃ m, GoesR Try.prog tab kVi viL (m + 1) (viS (elR l) d pre.length 2) (vaH zs) (vaE (vdA rest)).1 (vaE (vdA rest)).2 (vaX zs (vdA rest))
  | [], pre, e => by
    have hn' : (elR l).length = pre.length := by rw [elR_length, e, List.append_nil]
    exact ⟨0, GoesR.last (zsee_ok tab_ok mixed fun_ok cCo_ok (vaO cCo zs (elR l) d pre.length) (.cons (decide_eq_false (by omega)) .nil)) (by intro h; cases h)⟩
  | .mk i x dt s :: rest, pre, e => by
    obtain ⟨hl1, hl2, hl3⟩ := hl
    have hnl := elR_length l
    have hll : l.length = pre.length + (rest.length + 1) := by rw [e]; simp
    have hj : l[pre.length]? = some (.mk i x dt s) := by rw [e]; simp
    have hlt : decide ((pre.length : Int) < ((elR l).length : Int)) = true := decide_eq_true (by omega)
    have hi : idxOk (pre.length : Int) (elR l).length = true := idxOk_lt (by omega)
    have hs := dep_sub hj
    have ho : smE (.mk i x dt s) := smL_at hl3 hj
    have hw : DV.int .i64 (IntKind.i64.wrap ((pre.length : Int) + 1)) = iN (pre.length + 1) := congrArg (DV.int .i64) (wrapI (n := pre.length + 1) (by omega))
    have hwd : DV.int .i64 (IntKind.i64.wrap ((d : Int) + 1)) = iN (d + 1) := congrArg (DV.int .i64) (wrapI (n := d + 1) (by omega))
    have hE : vdA (.mk i x dt s :: rest) = (!(wrong (nx x != 0) (nx i != 255) (decide ((dt.length : Int) > 0)) (cont i) (decide ((s.length : Int) > 0)) (nx i == 254)) && vdA s && vdA rest) := rfl
    cases hq : wrong (nx x != 0) (nx i != 255) (decide ((dt.length : Int) > 0)) (cont i) (decide ((s.length : Int) > 0)) (nx i == 254) with
    | true =>
      rw [hE, hq]
      exact ⟨0, GoesR.last (zgm_ok tab_ok mixed fun_ok cCo_ok (va3 cCo zs (elR l) (by1 dt) (elR s) d pre.length i x _ _ _ _ _ _ hq) (.cons (flatIn_nil _) (.cons hlt (.cons hi (.cons (elR_at hj) (va_asks zs i x dt s .nil)))))) (by intro h; cases h)⟩
    | false =>
      have hA := (hI s (d + 1) (by omega) ho.2 (by omega)).pre (hp1 := va6 zs (elC i x (by1 dt) (elR s))) (args := [elsD s, iN (d + 1), .yld 2]) (vaD zs i x (by1 dt) (elR s)) rfl (flatIn_nil _)
      cases hv : vdA s with
      | true =>
        obtain ⟨k', g⟩ := va_loop k zs hI l ⟨hl1, hl2, hl3⟩ d hd rest (pre ++ [.mk i x dt s]) (by rw [e, List.append_assoc]; rfl)
        rw [List.length_append] at g
        rw [hv] at hA
        have hE2 : vdA (.mk i x dt s :: rest) = vdA rest := by rw [hE, hq, hv]; rfl
        rw [hE2]
        exact ⟨k' + 1, GoesR.step (zsee_ok tab_ok mixed fun_ok cCo_ok (va1 cCo zs (elR l) (by1 dt) (elR s) d pre.length i x _ _ _ _ _ _ hq) (.cons hlt (.cons hi (.cons (elR_at hj) (va_asks zs i x dt s (.cons hwd (.cons hA (.cons hw .nil)))))))) g⟩
      | false =>
        rw [hv] at hA
        have hE2 : vdA (.mk i x dt s :: rest) = false := by rw [hE, hq, hv]; rfl
        rw [hE2]
        exact ⟨0, GoesR.last (zsee_ok tab_ok mixed fun_ok cCo_ok (va2 cCo zs (elR l) (by1 dt) (elR s) d pre.length i x _ _ _ _ _ _ hq) (.cons hlt (.cons hi (.cons (elR_at hj) (va_asks zs i x dt s (.cons hwd (.cons hA .nil))))))) (by intro h; cases h)⟩
theorem va_from (zs : List (List DV)) (l : List El) (d : Nat) {v : Bool} (g : Goes Try.prog tab kVi (.loop viL) (viS (elR l) d 0 2) (vaH zs) (vaE v).1 (vaE v).2 (vaX zs v)) : AnsH Try.prog fVi [elsD l, iN d, .yld 2] (vaH zs) (.bool v) (vaX zs v) := by
  cases v with
  | true => exact zansH_ok tab_ok mixed fun_ok cCo_ok (vaG cCo zs (elR l) d) (.cons g .nil)
  | false => exact zansH_ok tab_ok mixed fun_ok cCo_ok (vaB cCo zs (elR l) d) (.cons g .nil)
theorem va_ansV (zs : List (List DV)) : ∀ k, VaI k zs
  | 0, l, d, h, hs, hd => by
    obtain rfl := dep_zero h
    exact va_from zs [] d (v := true) (GoesR.last (zsee_ok tab_ok mixed fun_ok cCo_ok (vaO cCo zs (elR []) d 0) (.cons (decide_eq_false (by simp [elR])) .nil)) (by intro h; cases h)).goes
  | k + 1, l, d, h, hs, hd => by
    obtain ⟨m, g⟩ := va_loop k zs (va_ansV zs k) l ⟨h, hs⟩ d hd l [] rfl
    exact va_from zs l d g.goes
/-! ### valid -/
abbrev vaBg (zs : List (List DV)) : Hp := ⟨2, [oBe zs, oBv false], []⟩
theorem va_beg (zs : List (List DV)) : (vaBg zs).beg 51 (ksF ftab fVa) vaS [10, 11] (rngA (bodyOf ftab fVa)) (rngB (bodyOf ftab fVa)) = vaH zs := rfl
set_option maxRecDepth 1000000 in
theorem va_run (zs : List (List DV)) (v : Bool) : zansH Try.prog tab ftab noC fAi [.yld 2, .ptr 1 0] (vaH zs) [(60000, .t 2 [] (.bool v) (vaX zs v))] = some (one [], vaX zs v, AnsH Try.prog fVi [.list 4 zs, iN 1, .yld 2] (vaH zs) (.bool v) (vaX zs v) :: []) := by cases v <;> kernel_rfl
abbrev vaGo (zs : List (List DV)) : Hp := ⟨3, [oPl, oBe zs, oBv false], []⟩
abbrev vaW (zs : List (List DV)) (v : Bool) : Prop := Goes Try.prog tab (ksF ftab fVa) (.rangeFunc (.tmp 9) #[10, 11] (rngA (bodyOf ftab fVa)) (rngB (bodyOf ftab fVa))) vaS (vaBg zs) (cond v .normal .ret) vaS (vaGo zs)
set_option maxRecDepth 1000000 in
theorem vaRun (zs : List (List DV)) (v : Bool) : zflat (zans Try.prog tab ftab noC fVa [.list 4 zs] [(0, .l [2, 9] (cond v .normal .ret) vaS (vaGo zs))]) = some (.bool v, vaW zs v :: []) := by cases v <;> kernel_rfl
theorem va_rng (l : List El) (hl : SmL l) (hd : depA l ≤ 2 ^ 39) : vaW (elR l) (vdA l) := by
  have h0 := va_ansV (elR l) (depA l) l 1 (Nat.le_refl _) hl (by omega)
  generalize vdA l = v at h0
  have hA := zansH_ok tab_ok mixed fun_ok noC_ok (va_run (elR l) v) (.cons h0 .nil)
  have := Goes.range (P := Try.prog) (T := tab) (ks := ksF ftab fVa) (g := .tmp 9) (ps := #[10, 11]) (x := rngA (bodyOf ftab fVa)) (y := rngB (bodyOf ftab fVa)) (sl := vaS) (hp := vaBg (elR l)) (hp1 := vaX (elR l) v) (f := fAi) (captured := [.ptr 1 0]) (d := one []) (nc := 51) (R := vaR (cond v 0 2) (cond v none (some .ret))) (e := cond v .normal .ret) rfl (by kernel_rfl) rfl (by rw [va_beg]; exact hA) (by cases v <;> rfl) (by cases v <;> rfl)
  cases v <;> exact this
abbrev ElV : Type := {l : List El // SmL l ∧ depA l ≤ 2 ^ 39}
theorem va_ans (x : ElV) : Ans Try.prog fVa [elsD x.1] (.bool (vdA x.1)) ⟨0, [], []⟩ := zflat_ok tab_ok mixed fun_ok noC_ok (vaRun (elR x.1) (vdA x.1)) (.cons (va_rng x.1 x.2.1 x.2.2) .nil)
def cVa : ConF := liftC (eqC fVa (fun x : ElV => [elsD x.1]) fun x => (.bool (vdA x.1), ⟨0, [], []⟩))
theorem cVa_ok : ConOk Try.prog cVa := liftC_ok (eqC_ok va_ans fun _ => rfl)
theorem cVa_at (hp : Hp) (l : List El) (hl : SmL l ∧ depA l ≤ 2 ^ 39) : cVa fVa [elsD l] hp = some (.bool (vdA l), hp, none) :=
  lift_at (A := fun x : ElV => [elsD x.1]) (D := fun x => .bool (vdA x.1)) (fun x y hxy => by
    simp only [List.cons.injEq, and_true] at hxy
    rw [els_inj hxy]) hp ⟨l, hl⟩ rfl rfl
end
end Go.Proofs.Ytejlbkhddehaiaa
