/- Pairs; lists of transmissions that are valid: contracts. -/
import Derived.Test.YtgjgihlfkpbdgaaVa
namespace Go.Proofs.Ytgjgihlfkpbdgaa
open Go.RowKit

noncomputable section
abbrev oBl (l : List Sn) : Ob := ⟨0, 0, 27, [snL l]⟩
abbrev oBo (b : Bool) : Ob := ⟨0, 0, 4, [.bool b]⟩
abbrev oPl : Ob := ⟨0, 0, 0, []⟩
def rngsOf : Code → List (Code × Code)
  | .seq a b => rngsOf a ++ rngsOf b
  | .cond _ a b => rngsOf a ++ rngsOf b
  | .block _ a => rngsOf a
  | .loop a => rngsOf a
  | .scope a => rngsOf a
  | .rangeFunc _ _ a b => [(a, b)]
  | _ => []
def rngA (c : Code) : Code := match rngsOf c with
  | (a, _) :: _ => a
  | [] => .skip
def rngB (c : Code) : Code := match rngsOf c with
  | (_, b) :: _ => b
  | [] => .skip
abbrev fPr : FuncId := 62
abbrev kPr : List (Nat × Nat) := ksF ftab fPr
abbrev prO : Code := loopAt (bodyOf ftab fPr) 0
abbrev prI : Code := loopAt prO 0
abbrev fVa : FuncId := 35
abbrev kVa : List (Nat × Nat) := ksF ftab fVa
abbrev vaL : Code := loopAt (bodyOf ftab fVa) 0
abbrev hVa (l : List Sn) : Hp := ⟨2, [oBo false, oBl l], []⟩
abbrev vaS (l : List Sn) (n k : Nat) : Slots := mkT 57 [(1, iN n), (2, .ptr 0 0), (4, .ptr 1 0), (12, snL l), (13, .int .i64 ((snR l).length : Int)), (14, iN k)]
abbrev vaE : Slots := mkT 57 [(2, .ptr 0 0), (4, .ptr 1 0)]
abbrev oIn (i : Int) : Ob := ⟨0, 0, 3, [iI i]⟩
abbrev vaF : Slots := mkT 57 [(2, .ptr 0 0), (4, .ptr 1 0), (27, .fn fPr [] [.ptr 2 0, .ptr 3 0])]
def vaR (st : Nat) (pe : Option Code) : LS := ⟨4, 57, kVa, vaF, [28, 29], rngA (bodyOf ftab fVa), rngB (bodyOf ftab fVa), st, pe⟩
abbrev hVr (l : List Sn) (st : Nat) (pe : Option Code) : Hp := ⟨5, [oPl, oIn (((snR l).length : Nat) : Int), oIn (((snR l).length : Nat) : Int), oBo false, oBl l], [vaR st pe]⟩
abbrev piS (n m i j : Nat) : Slots := mkT 21 [(0, .yld 4), (1, .ptr 2 0), (2, .ptr 3 0), (4, iN i), (6, iN n), (7, iN i), (10, iN m), (11, iN j)]
abbrev poS (n i : Nat) : Slots := mkT 21 [(0, .yld 4), (1, .ptr 2 0), (2, .ptr 3 0), (6, iN n), (7, iN i)]
set_option maxRecDepth 1000000 in
theorem va1 (l : List Sn) (n k : Nat) (s : Sn) : zgm [0, 1] [] (zsee Try.prog tab ftab cVn kVa [1, 2, 4, 12, 13, 14] vaL (vaS l n k) (hVa l) [(15, .b true), (16, .n (.fptr (snC s))), (21, .b false), (22, .w (iN (k + 1)))]) = some (Ex.normal, (vaS l n (k + 1)), (hVa l), (FlatIn [] (Hp.mk 3 [(Ob.mk 0 0 32 (snC s)), (Ob.mk 0 0 4 [(DV.bool false)]), (Ob.mk 0 0 27 [(DV.list 4 (snR l))])] [])) :: ((decide ((↑k : Int) < (↑(List.length (snR l)) : Int))) = true) :: ((idxOk (↑k : Int) (List.length (snR l))) = true) :: ((nth (snR l) (Int.toNat (↑k : Int))) = (Option.some (snC s))) :: ((!okS s (↑n : Int)) = false) :: ((ar IntKind.i64 ((↑k : Int) + 1)) = (iN (k + 1))) :: []) := by kernel_rfl
set_option maxRecDepth 1000000 in
theorem va2 (l : List Sn) (n k : Nat) (s : Sn) : zgm [0, 1] [] (zsee Try.prog tab ftab cVn kVa [4] vaL (vaS l n k) (hVa l) [(15, .b true), (16, .n (.fptr (snC s))), (21, .b true)]) = some (Ex.ret, (mkT 57 [(4, (DV.ptr (0 + 1) 0))]), (hVa l), (FlatIn [] (Hp.mk 3 [(Ob.mk 0 0 32 (snC s)), (Ob.mk 0 0 4 [(DV.bool false)]), (Ob.mk 0 0 27 [(DV.list 4 (snR l))])] [])) :: ((decide ((↑k : Int) < (↑(List.length (snR l)) : Int))) = true) :: ((idxOk (↑k : Int) (List.length (snR l))) = true) :: ((nth (snR l) (Int.toNat (↑k : Int))) = (Option.some (snC s))) :: ((!okS s (↑n : Int)) = true) :: []) := by kernel_rfl
set_option maxRecDepth 1000000 in
theorem vaO (l : List Sn) (n k : Nat) : zsee Try.prog tab ftab noC kVa [2, 4] vaL (vaS l n k) (hVa l) [(15, .b false)] = some ((Ex.exit 0), (vaE), (hVa l), ((decide ((↑k : Int) < (↑(List.length (snR l)) : Int))) = false) :: []) := by kernel_rfl
set_option maxRecDepth 1000000 in
theorem vi1 (l : List Sn) (n i j : Nat) (s t : Sn) : zsee Try.prog tab ftab cOv kPr [0, 1, 2, 4, 6, 7, 10, 11] prI (piS n n i j) (hVr l 0 none) [(12, .b true), (17, .c [(32, .b false)]), (19, .w (iN (j + 1)))] = some (Ex.normal, (piS n n i (j + 1)), (hVr l 0 none), ((decide ((↑j : Int) < (↑n : Int))) = true) :: ((decide ((↑i : Int) < (↑j : Int))) = false) :: ((ar IntKind.i64 ((↑j : Int) + 1)) = (iN (j + 1))) :: []) := by kernel_rfl
set_option maxRecDepth 1000000 in
theorem vi2 (l : List Sn) (n i j : Nat) (s t : Sn) : zsee Try.prog tab ftab cOv kPr [0, 1, 2, 4, 6, 7, 10, 11] prI (piS n n i j) (hVr l 0 none) [(12, .b true), (17, .c [(32, .b true), (36, .n (.fptr (snC s))), (41, .n (.fptr (snC t))), (44, .b false)]), (19, .w (iN (j + 1)))] = some (Ex.normal, (piS n n i (j + 1)), (hVr l 0 none), ((decide ((↑j : Int) < (↑n : Int))) = true) :: ((decide ((↑i : Int) < (↑j : Int))) = true) :: ((idxOk (↑i : Int) (List.length (snR l))) = true) :: ((nth (snR l) (Int.toNat (↑i : Int))) = (Option.some (snC s))) :: ((idxOk (↑j : Int) (List.length (snR l))) = true) :: ((nth (snR l) (Int.toNat (↑j : Int))) = (Option.some (snC t))) :: ((s.n == t.n) = false) :: ((ar IntKind.i64 ((↑j : Int) + 1)) = (iN (j + 1))) :: []) := by kernel_rfl
set_option maxRecDepth 1000000 in
theorem vi3 (l : List Sn) (n i j : Nat) (s t : Sn) : zsee Try.prog tab ftab cOv kPr [0, 1, 2, 4, 6, 7, 10, 11] prI (piS n n i j) (hVr l 0 none) [(12, .b true), (17, .c [(32, .b true), (36, .n (.fptr (snC s))), (41, .n (.fptr (snC t))), (44, .b true), (49, .n (.fptr (snC s))), (53, .n (.fptr (snC t))), (55, .b false)]), (19, .w (iN (j + 1)))] = some (Ex.normal, (piS n n i (j + 1)), (hVr l 0 none), ((decide ((↑j : Int) < (↑n : Int))) = true) :: ((decide ((↑i : Int) < (↑j : Int))) = true) :: ((idxOk (↑i : Int) (List.length (snR l))) = true) :: ((nth (snR l) (Int.toNat (↑i : Int))) = (Option.some (snC s))) :: ((idxOk (↑j : Int) (List.length (snR l))) = true) :: ((nth (snR l) (Int.toNat (↑j : Int))) = (Option.some (snC t))) :: ((s.n == t.n) = true) :: ((idxOk (↑i : Int) (List.length (snR l))) = true) :: ((nth (snR l) (Int.toNat (↑i : Int))) = (Option.some (snC s))) :: ((idxOk (↑j : Int) (List.length (snR l))) = true) :: ((nth (snR l) (Int.toNat (↑j : Int))) = (Option.some (snC t))) :: ((ovB s t) = false) :: ((ar IntKind.i64 ((↑j : Int) + 1)) = (iN (j + 1))) :: []) := by kernel_rfl
set_option maxRecDepth 1000000 in
theorem vi4 (l : List Sn) (n i j : Nat) (s t : Sn) : zsee Try.prog tab ftab cOv kPr [] prI (piS n n i j) (hVr l 0 none) [(12, .b true), (17, .c [(32, .b true), (36, .n (.fptr (snC s))), (41, .n (.fptr (snC t))), (44, .b true), (49, .n (.fptr (snC s))), (53, .n (.fptr (snC t))), (55, .b true)])] = some (Ex.ret, (mkT 21 []), (hVr l 2 (some .ret)), ((decide ((↑j : Int) < (↑n : Int))) = true) :: ((decide ((↑i : Int) < (↑j : Int))) = true) :: ((idxOk (↑i : Int) (List.length (snR l))) = true) :: ((nth (snR l) (Int.toNat (↑i : Int))) = (Option.some (snC s))) :: ((idxOk (↑j : Int) (List.length (snR l))) = true) :: ((nth (snR l) (Int.toNat (↑j : Int))) = (Option.some (snC t))) :: ((s.n == t.n) = true) :: ((idxOk (↑i : Int) (List.length (snR l))) = true) :: ((nth (snR l) (Int.toNat (↑i : Int))) = (Option.some (snC s))) :: ((idxOk (↑j : Int) (List.length (snR l))) = true) :: ((nth (snR l) (Int.toNat (↑j : Int))) = (Option.some (snC t))) :: ((ovB s t) = true) :: []) := by kernel_rfl
set_option maxRecDepth 1000000 in
theorem viO (l : List Sn) (n i j : Nat) : zsee Try.prog tab ftab noC kPr [0, 1, 2, 6, 7] prI (piS n n i j) (hVr l 0 none) [(12, .b false)] = some ((Ex.exit 2), (poS n i), (hVr l 0 none), ((decide ((↑j : Int) < (↑n : Int))) = false) :: []) := by kernel_rfl
set_option maxRecDepth 1000000 in
theorem vo1 (l : List Sn) (n m i : Nat) : zsee Try.prog tab ftab noC kPr [0, 1, 2, 6, 7] prO (poS n i) (hVr l 0 none) [(8, .b true), (0, .l [0, 1, 2, 4, 6, 7, 10, 11] (.exit 2) (poS n i) (hVr l 0 none)), (20, .w (iN (i + 1)))] = some (Ex.normal, (poS n (i + 1)), (hVr l 0 none), ((decide ((↑i : Int) < (↑n : Int))) = true) :: (Goes Try.prog tab (kPr) (Go.Code.loop (prI)) (piS n (snR l).length i 0) (hVr l 0 none) (Ex.exit 2) (poS n i) (hVr l 0 none)) :: ((ar IntKind.i64 ((↑i : Int) + 1)) = (iN (i + 1))) :: []) := by kernel_rfl
set_option maxRecDepth 1000000 in
theorem vo2 (l : List Sn) (n m i : Nat) : zsee Try.prog tab ftab noC kPr [] prO (poS n i) (hVr l 0 none) [(8, .b true), (0, .l [0, 1, 2, 4, 6, 7, 10, 11] .ret (mkT 21 []) (hVr l 2 (some .ret)))] = some ((Ex.ret), (mkT 21 []), (hVr l 2 (some .ret)), ((decide ((↑i : Int) < (↑n : Int))) = true) :: (Goes Try.prog tab (kPr) (Go.Code.loop (prI)) (piS n (snR l).length i 0) (hVr l 0 none) (Ex.ret) (mkT 21 []) (hVr l 2 (some .ret))) :: []) := by kernel_rfl
set_option maxRecDepth 1000000 in
theorem voO (l : List Sn) (n i : Nat) : zsee Try.prog tab ftab noC kPr [] prO (poS n i) (hVr l 0 none) [(8, .b false)] = some ((Ex.exit 0), (mkT 21 []), (hVr l 0 none), ((decide ((↑i : Int) < (↑n : Int))) = false) :: []) := by kernel_rfl
set_option maxRecDepth 1000000 in
theorem vit (l : List Sn) : zsee Try.prog tab ftab noC kPr [] (bodyOf ftab fPr) (initS 21 [.yld 4, .ptr 2 0, .ptr 3 0]) (hVr l 0 none) [(0, .l [0, 1, 2, 6, 7] (.exit 0) (mkT 21 []) (hVr l 0 none))] = some (Ex.normal, (mkT 21 []), (hVr l 0 none), (Goes Try.prog tab (kPr) (Go.Code.loop (prO)) (poS (snR l).length 0) (hVr l 0 none) (Ex.exit 0) (mkT 21 []) (hVr l 0 none)) :: []) := by kernel_rfl
set_option maxRecDepth 1000000 in
theorem vir (l : List Sn) : zsee Try.prog tab ftab noC kPr [] (bodyOf ftab fPr) (initS 21 [.yld 4, .ptr 2 0, .ptr 3 0]) (hVr l 0 none) [(0, .l [0, 1, 2, 6, 7] .ret (mkT 21 []) (hVr l 2 (some .ret)))] = some ((Ex.ret), (mkT 21 []), (hVr l 2 (some .ret)), (Goes Try.prog tab (kPr) (Go.Code.loop (prO)) (poS (snR l).length 0) (hVr l 0 none) (Ex.ret) (mkT 21 []) (hVr l 2 (some .ret))) :: []) := by kernel_rfl
abbrev hVs (l : List Sn) : Hp := ⟨4, [oIn (((snR l).length : Nat) : Int), oIn (((snR l).length : Nat) : Int), oBo false, oBl l], []⟩
abbrev hVx (l : List Sn) : Hp := ⟨5, [oPl, oIn (((snR l).length : Nat) : Int), oIn (((snR l).length : Nat) : Int), oBo false, oBl l], []⟩
abbrev vaRg (l : List Sn) (e : Ex) : Prop := Goes Try.prog tab kVa (.rangeFunc (.tmp 27) #[28, 29] (rngA (bodyOf ftab fVa)) (rngB (bodyOf ftab fVa))) vaF (hVs l) e vaF (hVx l)
set_option maxRecDepth 1000000 in
theorem vf0 (l : List Sn) (n : Nat) : zflat (zans Try.prog tab ftab noC fVa [snL l, iN n] [(11, .b true)]) = some ((DV.bool false), ((decide ((↑(List.length (snR l)) : Int) > 64)) = true) :: []) := by kernel_rfl
set_option maxRecDepth 1000000 in
theorem vf1 (l : List Sn) (n : Nat) : zflat (zans Try.prog tab ftab noC fVa [snL l, iN n] [(11, .b false), (0, .l [1, 2, 4, 12, 13, 14] .ret (mkT 57 [(4, .ptr 1 0)]) (hVa l))]) = some ((DV.bool false), ((decide ((↑(List.length (snR l)) : Int) > 64)) = false) :: (Goes Try.prog tab (kVa) (Go.Code.loop (vaL)) (vaS l n 0) (hVa l) (Ex.ret) (mkT 57 [(4, (DV.ptr 1 0))]) (hVa l)) :: []) := by kernel_rfl
set_option maxRecDepth 1000000 in
theorem vf2 (l : List Sn) (n : Nat) : zflat (zans Try.prog tab ftab noC fVa [snL l, iN n] [(11, .b false), (0, .l [1, 2, 4, 12, 13, 14] (.exit 0) vaE (hVa l)), (0, .l [2, 4, 27] .ret vaF (hVx l))]) = some ((DV.bool false), ((decide ((↑(List.length (snR l)) : Int) > 64)) = false) :: (Goes Try.prog tab (kVa) (Go.Code.loop (vaL)) (vaS l n 0) (hVa l) (Ex.exit 0) (vaE) (hVa l)) :: (Goes Try.prog tab (kVa) (Go.Code.rangeFunc (Operand.tmp 27) (#[28, 29]) (rngA (bodyOf ftab fVa)) (rngB (bodyOf ftab fVa))) (vaF) (hVs l) (Ex.ret) (vaF) (hVx l)) :: []) := by kernel_rfl
set_option maxRecDepth 1000000 in
theorem vf3 (l : List Sn) (n : Nat) : zflat (zans Try.prog tab ftab noC fVa [snL l, iN n] [(11, .b false), (0, .l [1, 2, 4, 12, 13, 14] (.exit 0) vaE (hVa l)), (0, .l [2, 4, 27] .normal vaF (hVx l))]) = some ((DV.bool true), ((decide ((↑(List.length (snR l)) : Int) > 64)) = false) :: (Goes Try.prog tab (kVa) (Go.Code.loop (vaL)) (vaS l n 0) (hVa l) (Ex.exit 0) (vaE) (hVa l)) :: (Goes Try.prog tab (kVa) (Go.Code.rangeFunc (Operand.tmp 27) (#[28, 29]) (rngA (bodyOf ftab fVa)) (rngB (bodyOf ftab fVa))) (vaF) (hVs l) (Ex.normal) (vaF) (hVx l)) :: []) := by kernel_rfl
/-! ### valid -/
def fineB (l : List Sn) (i k : Nat) : Bool := match decide ((i : Int) < (k : Int)) with
  | true => match (l.getD i sn0).n == (l.getD k sn0).n with
    | true => !ovB (l.getD i sn0) (l.getD k sn0)
    | false => true
  | false => true
def lonB (l : List Sn) : Bool := allB l.length fun i => allB l.length fun k => fineB l i k
def vlB (l : List Sn) (n : Nat) : Bool := match allB l.length fun k => okS (l.getD k sn0) n with
  | true => lonB l
  | false => false
def valB (l : List Sn) (n : Nat) : Bool := match decide (l.length > 64) with
  | true => false
  | false => vlB l n
theorem va_go (l : List Sn) (n : Nat) (hl : l.length ≤ 64) (k : Nat) (hk : k < l.length) (h : okS (l.getD k sn0) n = true) : Goes Try.prog tab kVa vaL (vaS l n k) (hVa l) .normal (vaS l n (k + 1)) (hVa l) := by
  have e := snR_length l
  exact zgm_ok tab_ok mixed fun_ok cVn_ok (va1 l n k (l.getD k sn0)) (.cons (flatIn_nil _) (.cons (decide_eq_true (by omega)) (.cons (idxOk_lt (by omega)) (.cons (snR_get (by omega)) (.cons (by rw [h]; rfl) (.cons (wrK_at (by omega)) .nil))))))
theorem va_bad (l : List Sn) (n : Nat) (k : Nat) (hk : k < l.length) (h : okS (l.getD k sn0) n = false) : Goes Try.prog tab kVa vaL (vaS l n k) (hVa l) .ret (mkT 57 [(4, .ptr 1 0)]) (hVa l) := by
  have e := snR_length l
  exact zgm_ok tab_ok mixed fun_ok cVn_ok (va2 l n k (l.getD k sn0)) (.cons (flatIn_nil _) (.cons (decide_eq_true (by omega)) (.cons (idxOk_lt (by omega)) (.cons (snR_get (by omega)) (.cons (by rw [h]; rfl) .nil)))))
theorem vi_go (l : List Sn) (hl : l.length ≤ 64) (i : Nat) (hi : i < l.length) (j : Nat) (hj : j < l.length) (h : fineB l i j = true) : Goes Try.prog tab kPr prI (piS l.length l.length i j) (hVr l 0 none) .normal (piS l.length l.length i (j + 1)) (hVr l 0 none) := by
  have e := snR_length l
  unfold fineB at h
  by_cases h1 : (i : Int) < (j : Int)
  · rw [decide_eq_true h1] at h
    dsimp only at h
    cases h2 : (l.getD i sn0).n == (l.getD j sn0).n with
    | true =>
      rw [h2] at h
      dsimp only at h
      exact zsee_ok tab_ok mixed fun_ok cOv_ok (vi3 l l.length i j (l.getD i sn0) (l.getD j sn0)) (.cons (decide_eq_true (by omega)) (.cons (decide_eq_true (by omega)) (.cons (idxOk_lt (by omega)) (.cons (snR_get (by omega)) (.cons (idxOk_lt (by omega)) (.cons (snR_get (by omega)) (.cons h2 (.cons (idxOk_lt (by omega)) (.cons (snR_get (by omega)) (.cons (idxOk_lt (by omega)) (.cons (snR_get (by omega)) (.cons (by simpa using h) (.cons (wrK_at (by omega)) .nil)))))))))))))
    | false => exact zsee_ok tab_ok mixed fun_ok cOv_ok (vi2 l l.length i j (l.getD i sn0) (l.getD j sn0)) (.cons (decide_eq_true (by omega)) (.cons (decide_eq_true (by omega)) (.cons (idxOk_lt (by omega)) (.cons (snR_get (by omega)) (.cons (idxOk_lt (by omega)) (.cons (snR_get (by omega)) (.cons h2 (.cons (wrK_at (by omega)) .nil))))))))
  · exact zsee_ok tab_ok mixed fun_ok cOv_ok (vi1 l l.length i j (l.getD i sn0) (l.getD j sn0)) (.cons (decide_eq_true (by omega)) (.cons (decide_eq_false (by omega)) (.cons (wrK_at (by omega)) .nil)))
theorem vi_bad (l : List Sn) (i : Nat) (hi : i < l.length) (j : Nat) (hj : j < l.length) (h : fineB l i j = false) : Goes Try.prog tab kPr prI (piS l.length l.length i j) (hVr l 0 none) .ret (mkT 21 []) (hVr l 2 (some .ret)) := by
  have e := snR_length l
  unfold fineB at h
  by_cases h1 : (i : Int) < (j : Int)
  · rw [decide_eq_true h1] at h
    dsimp only at h
    cases h2 : (l.getD i sn0).n == (l.getD j sn0).n with
    | true =>
      rw [h2] at h
      dsimp only at h
      exact zsee_ok tab_ok mixed fun_ok cOv_ok (vi4 l l.length i j (l.getD i sn0) (l.getD j sn0)) (.cons (decide_eq_true (by omega)) (.cons (decide_eq_true (by omega)) (.cons (idxOk_lt (by omega)) (.cons (snR_get (by omega)) (.cons (idxOk_lt (by omega)) (.cons (snR_get (by omega)) (.cons h2 (.cons (idxOk_lt (by omega)) (.cons (snR_get (by omega)) (.cons (idxOk_lt (by omega)) (.cons (snR_get (by omega)) (.cons (by simpa using h) .nil))))))))))))
    | false => rw [h2] at h; cases h
  · rw [decide_eq_false h1] at h; cases h
theorem vo_go (l : List Sn) (hl : l.length ≤ 64) (i : Nat) (hi : i < l.length) (h : (allB l.length fun k => fineB l i k) = true) : Goes Try.prog tab kPr prO (poS l.length i) (hVr l 0 none) .normal (poS l.length (i + 1)) (hVr l 0 none) := by
  have e := snR_length l
  have g := scan_t (S := piS l.length l.length i) (by intro h; cases h) (fun j hj hh => vi_go l hl i hi j hj hh) (zsee_ok tab_ok mixed fun_ok noC_ok (viO l l.length i l.length) (.cons (decide_eq_false (by omega)) .nil)) h
  rw [show piS l.length l.length i 0 = piS l.length (snR l).length i 0 by rw [e]] at g
  exact zsee_ok tab_ok mixed fun_ok noC_ok (vo1 l l.length l.length i) (.cons (decide_eq_true (by omega)) (.cons g (.cons (wrK_at (by omega)) .nil)))
theorem vo_bad (l : List Sn) (hl : l.length ≤ 64) (i : Nat) (hi : i < l.length) (h : (allB l.length fun k => fineB l i k) = false) : Goes Try.prog tab kPr prO (poS l.length i) (hVr l 0 none) .ret (mkT 21 []) (hVr l 2 (some .ret)) := by
  have e := snR_length l
  have g := scan_f (S := piS l.length l.length i) (by intro h; cases h) (fun j hj hh => vi_go l hl i hi j hj hh) (fun j hj hh => vi_bad l i hi j hj hh) h
  rw [show piS l.length l.length i 0 = piS l.length (snR l).length i 0 by rw [e]] at g
  exact zsee_ok tab_ok mixed fun_ok noC_ok (vo2 l l.length l.length i) (.cons (decide_eq_true (by omega)) (.cons g .nil))
theorem pr_tab : ftab fPr = some ⟨21, bodyOf ftab fPr, [], kPr⟩ := by kernel_rfl
theorem va_rng (l : List Sn) {e : Ex} {st : Nat} {pe : Option Code} (h : Goes Try.prog tab kPr (bodyOf ftab fPr) (initS 21 [.yld 4, .ptr 2 0, .ptr 3 0]) (hVr l 0 none) e (mkT 21 []) (hVr l st pe)) (hex : ∀ i, e ≠ .exit i) {e2 : Ex} (hout : outOf st pe = some e2) : vaRg l e2 := by
  have hA : AnsH Try.prog fPr [.yld 4, .ptr 2 0, .ptr 3 0] (hVr l 0 none) (one []) (hVr l st pe) :=
    ansH_of_goes (fn := ⟨21, bodyOf ftab fPr, [], kPr⟩) (e := e) (sl' := mkT 21 []) (ds := []) tab_ok fun_ok pr_tab rfl h hex rfl
  exact Goes.range (P := Try.prog) (T := tab) (ks := kVa) (g := .tmp 27) (ps := #[28, 29]) (x := rngA (bodyOf ftab fVa)) (y := rngB (bodyOf ftab fVa)) (sl := vaF) (hp := hVs l) (hp1 := hVr l st pe) (f := fPr) (captured := [.ptr 2 0, .ptr 3 0]) (d := one []) (nc := 57) (R := vaR st pe) (e := e2) rfl (by kernel_rfl) rfl hA rfl hout
theorem val_ans (l : List Sn) (n : Nat) (hl : l.length < 2 ^ 63) : Ans Try.prog fVa [snL l, iN n] (.bool (valB l n)) ⟨0, [], []⟩ := by
  have e := snR_length l
  unfold valB vlB
  by_cases h1 : l.length > 64
  · rw [decide_eq_true h1]
    exact zflat_ok tab_ok mixed fun_ok noC_ok (vf0 l n) (.cons (decide_eq_true (by omega)) .nil)
  · rw [decide_eq_false h1]
    have h1 : l.length ≤ 64 := by omega
    dsimp only
    cases hb : allB l.length fun k => okS (l.getD k sn0) n with
    | false => exact zflat_ok tab_ok mixed fun_ok noC_ok (vf1 l n) (.cons (decide_eq_false (by omega)) (.cons (scan_f (S := vaS l n) (by intro h; cases h) (va_go l n h1) (va_bad l n) hb) .nil))
    | true =>
      have g : Goes Try.prog tab kVa (.loop vaL) (vaS l n 0) (hVa l) (.exit 0) vaE (hVa l) := scan_t (S := vaS l n) (by intro h; cases h) (va_go l n h1) (zsee_ok tab_ok mixed fun_ok noC_ok (vaO l n l.length) (.cons (decide_eq_false (by omega)) .nil)) hb
      dsimp only
      cases hc : lonB l with
      | true =>
        have q := scan_t (S := poS l.length) (by intro h; cases h) (vo_go l h1) (zsee_ok tab_ok mixed fun_ok noC_ok (voO l l.length l.length) (.cons (decide_eq_false (by omega)) .nil)) hc
        rw [show poS l.length 0 = poS (snR l).length 0 by rw [e]] at q
        have r := va_rng l (st := 0) (pe := none) (e2 := .normal) (zsee_ok tab_ok mixed fun_ok noC_ok (vit l) (.cons q .nil)) (by intro i h; cases h) rfl
        exact zflat_ok tab_ok mixed fun_ok noC_ok (vf3 l n) (.cons (decide_eq_false (by omega)) (.cons g (.cons r .nil)))
      | false =>
        have q := scan_f (S := poS l.length) (by intro h; cases h) (vo_go l h1) (vo_bad l h1) hc
        rw [show poS l.length 0 = poS (snR l).length 0 by rw [e]] at q
        have r := va_rng l (st := 2) (pe := some .ret) (e2 := .ret) (zsee_ok tab_ok mixed fun_ok noC_ok (vir l) (.cons q .nil)) (by intro i h; cases h) rfl
        exact zflat_ok tab_ok mixed fun_ok noC_ok (vf2 l n) (.cons (decide_eq_false (by omega)) (.cons g (.cons r .nil)))
end
end Go.Proofs.Ytgjgihlfkpbdgaa
