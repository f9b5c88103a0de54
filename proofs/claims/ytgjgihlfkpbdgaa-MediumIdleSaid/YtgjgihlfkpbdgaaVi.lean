/- Idle: contract. -/
import Derived.Test.YtgjgihlfkpbdgaaVh
namespace Go.Proofs.Ytgjgihlfkpbdgaa
open Go.RowKit

noncomputable section
abbrev fId : FuncId := 14
abbrev kId : List (Nat × Nat) := ksF ftab fId
abbrev idL : Code := loopAt (bodyOf ftab fId) 0
abbrev bfS (t sp : Int) : Sn := ⟨0, t - sp, t, 0⟩
abbrev hId (w : Wd) (a b : Int) : Hp := ⟨2, [oLs [iI a, iI b], oW w], []⟩
abbrev hIe (w : Wd) (a b t sp : Int) : Hp := ⟨3, [oSn (bfS t sp), oLs [iI a, iI b], oW w], []⟩
abbrev idS (r : List Sn) (sp t : Int) : Slots := mkT 52 [(1, snL r), (4, iI sp), (13, iI t)]
abbrev idE (t : Int) : Slots := mkT 52 [(10, iI t), (11, iI 0)]
set_option maxRecDepth 1000000 in
theorem xjm0 (w : Wd) (a b t sp : Int) (l : List Sn) (k : Nat) (s : Sn) : zgm [0, 1, 2] [] (zsee Try.prog tab ftab cOv kIf [0, 1, 7, 8] ifL (ifS (.fn fIc [] [.ptr 2 0]) l k) (hIe w a b t sp) [(9, .b true), (14, .n (.fptr (snC s))), (16, .c [(6, .b false)]), (18, .w (iN (k + 1)))]) = some (Ex.normal, (ifS (.fn fIc [] [.ptr 2 0]) l (k + 1)), ((hIe w a b t sp)), (FlatIn [] ((hIe w a b t sp))) :: ((decide ((↑k : Int) < (↑(List.length (snR l)) : Int))) = true) :: ((idxOk (↑k : Int) (List.length (snR l))) = true) :: ((nth (snR l) (Int.toNat (↑k : Int))) = (Option.some (snC s))) :: ((ovB s (bfS t sp)) = false) :: ((ar IntKind.i64 ((↑k : Int) + 1)) = (iN (k + 1))) :: []) := by kernel_rfl
set_option maxRecDepth 1000000 in
theorem xjh0 (w : Wd) (a b t sp : Int) (l : List Sn) (k : Nat) (s : Sn) : zgm [0, 1, 2] [] (zsee Try.prog tab ftab cOv kIf [4] ifL (ifS (.fn fIc [] [.ptr 2 0]) l k) (hIe w a b t sp) [(9, .b true), (14, .n (.fptr (snC s))), (16, .c [(6, .b true)])]) = some (Ex.ret, (mkT 19 [(4, (DV.int IntKind.i64 (↑k : Int)))]), ((hIe w a b t sp)), (FlatIn [] ((hIe w a b t sp))) :: ((decide ((↑k : Int) < (↑(List.length (snR l)) : Int))) = true) :: ((idxOk (↑k : Int) (List.length (snR l))) = true) :: ((nth (snR l) (Int.toNat (↑k : Int))) = (Option.some (snC s))) :: ((ovB s (bfS t sp)) = true) :: []) := by kernel_rfl
set_option maxRecDepth 1000000 in
theorem xjO (w : Wd) (a b t sp : Int) (l : List Sn) (k : Nat) : zsee Try.prog tab ftab noC kIf [] ifL (ifS (.fn fIc [] [.ptr 2 0]) l k) (hIe w a b t sp) [(9, .b false)] = some ((Ex.exit 0), (mkT 19 []), ((hIe w a b t sp)), ((decide ((↑k : Int) < (↑(List.length (snR l)) : Int))) = false) :: []) := by kernel_rfl
set_option maxRecDepth 1000000 in
theorem xja (w : Wd) (a b t sp : Int) (l : List Sn) (k : Nat) : zansH Try.prog tab ftab noC fIf [snL l, (.fn fIc [] [.ptr 2 0])] (hIe w a b t sp) [(0, .l [0, 1, 7, 8] .ret (mkT 19 [(4, iN k)]) (hIe w a b t sp))] = some ((DV.int (IntKind.i64) ((↑k : Int))), ((hIe w a b t sp)), (Goes (Try.prog) tab (kIf) (Go.Code.loop (ifL)) (ifS (.fn fIc [] [.ptr 2 0]) l 0) ((hIe w a b t sp)) (Ex.ret) (mkT 19 [(4, (DV.int (IntKind.i64) ((↑k : Int))))]) ((hIe w a b t sp))) :: []) := by kernel_rfl
set_option maxRecDepth 1000000 in
theorem xjb (w : Wd) (a b t sp : Int) (l : List Sn) : zansH Try.prog tab ftab noC fIf [snL l, (.fn fIc [] [.ptr 2 0])] (hIe w a b t sp) [(0, .l [0, 1, 7, 8] (.exit 0) (mkT 19 []) (hIe w a b t sp))] = some ((DV.int (IntKind.i64) (-1)), ((hIe w a b t sp)), (Goes (Try.prog) tab (kIf) (Go.Code.loop (ifL)) (ifS (.fn fIc [] [.ptr 2 0]) l 0) ((hIe w a b t sp)) (Ex.exit 0) (mkT 19 []) ((hIe w a b t sp))) :: []) := by kernel_rfl
theorem xj_go (w : Wd) (a b t sp : Int) (l : List Sn) (hl : l.length < 2 ^ 62) (k : Nat) (hk : k < l.length) (hh : (!(fun s => ovB s (bfS t sp)) (l.getD k sn0)) = true) : Goes Try.prog tab kIf ifL (ifS (.fn fIc [] [.ptr 2 0]) l k) (hIe w a b t sp) .normal (ifS (.fn fIc [] [.ptr 2 0]) l (k + 1)) (hIe w a b t sp) := by
  have e := snR_length l
  have hh : (fun s => ovB s (bfS t sp)) (l.getD k sn0) = false := by simpa using hh
  exact zgm_ok tab_ok mixed fun_ok cOv_ok (xjm0 w a b t sp l k (l.getD k sn0)) (.cons (flatIn_nil _) (.cons (decide_eq_true (by omega)) (.cons (idxOk_lt (by omega)) (.cons (snR_get (by omega)) (.cons hh (.cons (wrK_at (by omega)) .nil))))))
theorem xj_hit (w : Wd) (a b t sp : Int) (l : List Sn) (k : Nat) (hk : k < l.length) (hh : (!(fun s => ovB s (bfS t sp)) (l.getD k sn0)) = false) : Goes Try.prog tab kIf ifL (ifS (.fn fIc [] [.ptr 2 0]) l k) (hIe w a b t sp) .ret (mkT 19 [(4, iN k)]) (hIe w a b t sp) := by
  have e := snR_length l
  have hh : (fun s => ovB s (bfS t sp)) (l.getD k sn0) = true := by simpa using hh
  exact zgm_ok tab_ok mixed fun_ok cOv_ok (xjh0 w a b t sp l k (l.getD k sn0)) (.cons (flatIn_nil _) (.cons (decide_eq_true (by omega)) (.cons (idxOk_lt (by omega)) (.cons (snR_get (by omega)) (.cons hh .nil)))))
theorem xj_if (w : Wd) (a b t sp : Int) (l : List Sn) (hl : l.length < 2 ^ 62) : AnsH Try.prog fIf [snL l, (.fn fIc [] [.ptr 2 0])] (hIe w a b t sp) (iI (ifV (fun s => ovB s (bfS t sp)) l)) (hIe w a b t sp) := by
  have e := snR_length l
  unfold ifV
  cases hf : fst (fun k => !(fun s => ovB s (bfS t sp)) (l.getD k sn0)) l.length with
  | some k =>
    have hk := (fst_some hf).1
    exact zansH_ok tab_ok mixed fun_ok noC_ok (xja w a b t sp l k) (.cons (scan_s (S := ifS (.fn fIc [] [.ptr 2 0]) l) (by intro h; cases h) hf (xj_go w a b t sp l hl) fun hh => xj_hit w a b t sp l k hk hh) .nil)
  | none => exact zansH_ok tab_ok mixed fun_ok noC_ok (xjb w a b t sp l) (.cons (scan_t (S := ifS (.fn fIc [] [.ptr 2 0]) l) (by intro h; cases h) (xj_go w a b t sp l hl) (zsee_ok tab_ok mixed fun_ok noC_ok (xjO w a b t sp l l.length) (.cons (decide_eq_false (by omega)) .nil)) (fst_none hf)) .nil)
set_option maxRecDepth 1000000 in
theorem id1 (w : Wd) (r : List Sn) (a b t sp t2 v : Int) (s : Sn) : zgm [0, 1] [] (zsee Try.prog tab ftab noC kId [1, 4, 13] idL (idS r sp t) (hId w a b) [(36, .w (iI (t - sp))), (60008, .t 2 [1, 4, 13] (iI v) (hIe w a b t sp)), (43, .b false), (47, .n (.fptr (snC s))), (51, .w (iI t2))]) = some (Ex.normal, (idS r sp t2), (hId w a b), (FlatIn [] (hIe w a b t sp)) :: ((ar IntKind.i64 (t - sp)) = (iI (t - sp))) :: (AnsH (Try.prog) 40 [(DV.list 4 (snR r)), (DV.fn 41 [] [(DV.ptr 2 0)])] (hIe w a b t sp) (iI v) (hIe w a b t sp)) :: ((decide (v < 0)) = false) :: ((idxOk v (List.length (snR r))) = true) :: ((nth (snR r) (Int.toNat v)) = (Option.some (snC s))) :: ((DV.int (IntKind.i64) (IntKind.wrap IntKind.i64 (s.b + sp))) = (iI t2)) :: []) := by kernel_rfl
set_option maxRecDepth 1000000 in
theorem id2 (w : Wd) (r : List Sn) (a b t sp v : Int) : zgm [0, 1] [] (zsee Try.prog tab ftab noC kId [10, 11] idL (idS r sp t) (hId w a b) [(36, .w (iI (t - sp))), (60008, .t 2 [1, 4, 13] (iI v) (hIe w a b t sp)), (43, .b true)]) = some (Ex.ret, (idE t), (hId w a b), (FlatIn [] (hIe w a b t sp)) :: ((ar IntKind.i64 (t - sp)) = (iI (t - sp))) :: (AnsH (Try.prog) 40 [(DV.list 4 (snR r)), (DV.fn 41 [] [(DV.ptr 2 0)])] (hIe w a b t sp) (iI v) (hIe w a b t sp)) :: ((decide (v < 0)) = true) :: []) := by kernel_rfl
set_option maxRecDepth 1000000 in
theorem ie0 (w : Wd) (l : List Sn) (j t sp : Int) : zflat (zans Try.prog tab ftab (calC fMk [wdD w, snL l] (iI 8)) fId [wdD w, snL l, iI j, iI t, iI sp] [(22, .c [(14, .q (iI 8))])]) = some ((DV.tuple [(DV.int IntKind.i64 0), (DV.int (IntKind.i64) 8)]), ((calC 12 [(wdD w), (snL l)] (iI 8) 12 [(DV.agg (List.take 2 (List.drop 0 (List.take 2 (List.drop 0 (wdC w)))))), (snL l)] (Hp.mk 3 [(Ob.mk 0 0 25 (wdC w)), (Ob.mk 0 0 3 [(iI t), (iI sp)]), (Ob.mk 0 0 25 (wdC w))] [])) = (Option.some ((iI 8), (Hp.mk 3 [(Ob.mk 0 0 25 (wdC w)), (Ob.mk 0 0 3 [(iI t), (iI sp)]), (Ob.mk 0 0 25 (wdC w))] []), Option.none))) :: []) := by kernel_rfl
set_option maxRecDepth 1000000 in
theorem ie1 (w : Wd) (l : List Sn) (j t sp : Int) : zflat (zans Try.prog tab ftab (calC fMk [wdD w, snL l] (iI 0)) fId [wdD w, snL l, iI j, iI t, iI sp] [(22, .c [(14, .q (iI 0)), (19, .b true)])]) = some ((DV.tuple [(DV.int IntKind.i64 0), (DV.int (IntKind.i64) 2)]), ((calC 12 [(wdD w), (snL l)] (iI 0) 12 [(DV.agg (List.take 2 (List.drop 0 (List.take 2 (List.drop 0 (wdC w)))))), (snL l)] (Hp.mk 3 [(Ob.mk 0 0 25 (wdC w)), (Ob.mk 0 0 3 [(iI t), (iI sp)]), (Ob.mk 0 0 25 (wdC w))] [])) = (Option.some ((iI 0), (Hp.mk 3 [(Ob.mk 0 0 25 (wdC w)), (Ob.mk 0 0 3 [(iI t), (iI sp)]), (Ob.mk 0 0 25 (wdC w))] []), Option.none))) :: ((decide (j < 0)) = true) :: []) := by kernel_rfl
set_option maxRecDepth 1000000 in
theorem ie2 (w : Wd) (l : List Sn) (j t sp : Int) : zflat (zans Try.prog tab ftab (calC fMk [wdD w, snL l] (iI 0)) fId [wdD w, snL l, iI j, iI t, iI sp] [(22, .c [(14, .q (iI 0)), (19, .b false), (25, .b true)])]) = some ((DV.tuple [(DV.int IntKind.i64 0), (DV.int (IntKind.i64) 2)]), ((calC 12 [(wdD w), (snL l)] (iI 0) 12 [(DV.agg (List.take 2 (List.drop 0 (List.take 2 (List.drop 0 (wdC w)))))), (snL l)] (Hp.mk 3 [(Ob.mk 0 0 25 (wdC w)), (Ob.mk 0 0 3 [(iI t), (iI sp)]), (Ob.mk 0 0 25 (wdC w))] [])) = (Option.some ((iI 0), (Hp.mk 3 [(Ob.mk 0 0 25 (wdC w)), (Ob.mk 0 0 3 [(iI t), (iI sp)]), (Ob.mk 0 0 25 (wdC w))] []), Option.none))) :: ((decide (j < 0)) = false) :: ((decide (j ≥ (↑(List.length (rsR w.r)) : Int))) = true) :: []) := by kernel_rfl
set_option maxRecDepth 1000000 in
theorem ie3 (w : Wd) (l : List Sn) (j t sp : Int) : zflat (zans Try.prog tab ftab (calC fMk [wdD w, snL l] (iI 0)) fId [wdD w, snL l, iI j, iI t, iI sp] [(22, .c [(14, .q (iI 0)), (19, .b false), (25, .b false), (34, .b true)])]) = some ((DV.tuple [(DV.int IntKind.i64 0), (DV.int (IntKind.i64) 2)]), ((calC 12 [(wdD w), (snL l)] (iI 0) 12 [(DV.agg (List.take 2 (List.drop 0 (List.take 2 (List.drop 0 (wdC w)))))), (snL l)] (Hp.mk 3 [(Ob.mk 0 0 25 (wdC w)), (Ob.mk 0 0 3 [(iI t), (iI sp)]), (Ob.mk 0 0 25 (wdC w))] [])) = (Option.some ((iI 0), (Hp.mk 3 [(Ob.mk 0 0 25 (wdC w)), (Ob.mk 0 0 3 [(iI t), (iI sp)]), (Ob.mk 0 0 25 (wdC w))] []), Option.none))) :: ((decide (j < 0)) = false) :: ((decide (j ≥ (↑(List.length (rsR w.r)) : Int))) = false) :: ((decide (t < 0)) = true) :: []) := by kernel_rfl
set_option maxRecDepth 1000000 in
theorem ie4 (w : Wd) (l : List Sn) (j t sp : Int) : zflat (zans Try.prog tab ftab (calC fMk [wdD w, snL l] (iI 0)) fId [wdD w, snL l, iI j, iI t, iI sp] [(22, .c [(14, .q (iI 0)), (19, .b false), (25, .b false), (34, .b false), (37, .b true)])]) = some ((DV.tuple [(DV.int IntKind.i64 0), (DV.int (IntKind.i64) 2)]), ((calC 12 [(wdD w), (snL l)] (iI 0) 12 [(DV.agg (List.take 2 (List.drop 0 (List.take 2 (List.drop 0 (wdC w)))))), (snL l)] (Hp.mk 3 [(Ob.mk 0 0 25 (wdC w)), (Ob.mk 0 0 3 [(iI t), (iI sp)]), (Ob.mk 0 0 25 (wdC w))] [])) = (Option.some ((iI 0), (Hp.mk 3 [(Ob.mk 0 0 25 (wdC w)), (Ob.mk 0 0 3 [(iI t), (iI sp)]), (Ob.mk 0 0 25 (wdC w))] []), Option.none))) :: ((decide (j < 0)) = false) :: ((decide (j ≥ (↑(List.length (rsR w.r)) : Int))) = false) :: ((decide (t < 0)) = false) :: ((decide (t > 1099511627776)) = true) :: []) := by kernel_rfl
set_option maxRecDepth 1000000 in
theorem ie5 (w : Wd) (l : List Sn) (j t sp : Int) : zflat (zans Try.prog tab ftab (calC fMk [wdD w, snL l] (iI 0)) fId [wdD w, snL l, iI j, iI t, iI sp] [(22, .c [(14, .q (iI 0)), (19, .b false), (25, .b false), (34, .b false), (37, .b false), (34, .b true)])]) = some ((DV.tuple [(DV.int IntKind.i64 0), (DV.int (IntKind.i64) 2)]), ((calC 12 [(wdD w), (snL l)] (iI 0) 12 [(DV.agg (List.take 2 (List.drop 0 (List.take 2 (List.drop 0 (wdC w)))))), (snL l)] (Hp.mk 3 [(Ob.mk 0 0 25 (wdC w)), (Ob.mk 0 0 3 [(iI t), (iI sp)]), (Ob.mk 0 0 25 (wdC w))] [])) = (Option.some ((iI 0), (Hp.mk 3 [(Ob.mk 0 0 25 (wdC w)), (Ob.mk 0 0 3 [(iI t), (iI sp)]), (Ob.mk 0 0 25 (wdC w))] []), Option.none))) :: ((decide (j < 0)) = false) :: ((decide (j ≥ (↑(List.length (rsR w.r)) : Int))) = false) :: ((decide (t < 0)) = false) :: ((decide (t > 1099511627776)) = false) :: ((decide (sp < 0)) = true) :: []) := by kernel_rfl
set_option maxRecDepth 1000000 in
theorem ie6 (w : Wd) (l : List Sn) (j t sp : Int) : zflat (zans Try.prog tab ftab (calC fMk [wdD w, snL l] (iI 0)) fId [wdD w, snL l, iI j, iI t, iI sp] [(22, .c [(14, .q (iI 0)), (19, .b false), (25, .b false), (34, .b false), (37, .b false), (34, .b false), (37, .b true)])]) = some ((DV.tuple [(DV.int IntKind.i64 0), (DV.int (IntKind.i64) 2)]), ((calC 12 [(wdD w), (snL l)] (iI 0) 12 [(DV.agg (List.take 2 (List.drop 0 (List.take 2 (List.drop 0 (wdC w)))))), (snL l)] (Hp.mk 3 [(Ob.mk 0 0 25 (wdC w)), (Ob.mk 0 0 3 [(iI t), (iI sp)]), (Ob.mk 0 0 25 (wdC w))] [])) = (Option.some ((iI 0), (Hp.mk 3 [(Ob.mk 0 0 25 (wdC w)), (Ob.mk 0 0 3 [(iI t), (iI sp)]), (Ob.mk 0 0 25 (wdC w))] []), Option.none))) :: ((decide (j < 0)) = false) :: ((decide (j ≥ (↑(List.length (rsR w.r)) : Int))) = false) :: ((decide (t < 0)) = false) :: ((decide (t > 1099511627776)) = false) :: ((decide (sp < 0)) = false) :: ((decide (sp > 1099511627776)) = true) :: []) := by kernel_rfl
set_option maxRecDepth 1000000 in
theorem ie7 (w : Wd) (l : List Sn) (j t sp : Int) : zflat (zans Try.prog tab ftab (calC fMk [wdD w, snL l] (iI 0)) fId [wdD w, snL l, iI j, iI t, iI sp] [(22, .c [(14, .q (iI 0)), (19, .b false), (25, .b false), (34, .b false), (37, .b false), (34, .b false), (37, .b false)]), (27, .b true)]) = some ((DV.tuple [(iI t), (DV.int IntKind.i64 0)]), ((calC 12 [(wdD w), (snL l)] (iI 0) 12 [(DV.agg (List.take 2 (List.drop 0 (List.take 2 (List.drop 0 (wdC w)))))), (snL l)] (Hp.mk 3 [(Ob.mk 0 0 25 (wdC w)), (Ob.mk 0 0 3 [(iI t), (iI sp)]), (Ob.mk 0 0 25 (wdC w))] [])) = (Option.some ((iI 0), (Hp.mk 3 [(Ob.mk 0 0 25 (wdC w)), (Ob.mk 0 0 3 [(iI t), (iI sp)]), (Ob.mk 0 0 25 (wdC w))] []), Option.none))) :: ((decide (j < 0)) = false) :: ((decide (j ≥ (↑(List.length (rsR w.r)) : Int))) = false) :: ((decide (t < 0)) = false) :: ((decide (t > 1099511627776)) = false) :: ((decide (sp < 0)) = false) :: ((decide (sp > 1099511627776)) = false) :: ((sp == 0) = true) :: []) := by kernel_rfl
set_option maxRecDepth 1000000 in
theorem ie8 (w : Wd) (l r : List Sn) (j t sp u : Int) : zflat (zans Try.prog tab ftab (orK (calC fMk [wdD w, snL l] (iI 0)) (calC fNt [wdD w, snL l, iI j] (snL r))) fId [wdD w, snL l, iI j, iI t, iI sp] [(22, .c [(14, .q (iI 0)), (19, .b false), (25, .b false), (34, .b false), (37, .b false), (34, .b false), (37, .b false)]), (27, .b false), (33, .q (snL r)), (0, .l [1, 4, 13] .ret (idE u) (hId w t sp))]) = some ((DV.tuple [(DV.int (IntKind.i64) u), (DV.int (IntKind.i64) 0)]), ((orK (calC fMk [wdD w, snL l] (iI 0)) (calC fNt [wdD w, snL l, iI j] (snL r)) 12 [(DV.agg (List.take 2 (List.drop 0 (List.take 2 (List.drop 0 (wdC w)))))), (snL l)] (Hp.mk 3 [(Ob.mk 0 0 25 (wdC w)), (Ob.mk 0 0 3 [(iI t), (iI sp)]), (Ob.mk 0 0 25 (wdC w))] [])) = (Option.some ((iI 0), (Hp.mk 3 [(Ob.mk 0 0 25 (wdC w)), (Ob.mk 0 0 3 [(iI t), (iI sp)]), (Ob.mk 0 0 25 (wdC w))] []), Option.none))) :: ((decide (j < 0)) = false) :: ((decide (j ≥ (↑(List.length (rsR w.r)) : Int))) = false) :: ((decide (t < 0)) = false) :: ((decide (t > 1099511627776)) = false) :: ((decide (sp < 0)) = false) :: ((decide (sp > 1099511627776)) = false) :: ((sp == 0) = false) :: ((orK (calC fMk [wdD w, snL l] (iI 0)) (calC fNt [wdD w, snL l, iI j] (snL r)) 38 [(DV.agg (List.take 2 (List.drop 0 (wdC w)))), (snL l), (iI j)] (hId w t sp)) = (Option.some ((snL r), (hId w t sp), Option.none))) :: (Goes (Try.prog) tab (kId) (Go.Code.loop (idL)) (idS r sp t) (hId w t sp) (Ex.ret) (idE u) (hId w t sp)) :: []) := by kernel_rfl
/-! ### The least time that is free -/
def FreeT (r : List Sn) (sp t : Int) : Prop := ∀ s ∈ r, ovB s (bfS t sp) = false
structure Lst (r : List Sn) (sp a t : Int) : Prop where
  le : a ≤ t
  fr : FreeT r sp t
  lt : ∀ u, a ≤ u → u < t → ¬ FreeT r sp u
def InR (r : List Sn) : Prop := ∀ s ∈ r, 0 ≤ s.a ∧ s.a < s.b ∧ s.b ≤ 1099511627776
theorem ov_bf (s : Sn) (t sp : Int) : ovB s (bfS t sp) = true ↔ s.a < t ∧ t - sp < s.b := ovB_iff _ _
theorem not_free {r : List Sn} {sp t : Int} (h : ¬ FreeT r sp t) : ∃ s, s ∈ r ∧ s.a < t ∧ t - sp < s.b := by
  by_cases q : ∃ s, s ∈ r ∧ ovB s (bfS t sp) = true
  · obtain ⟨s, h1, h2⟩ := q
    exact ⟨s, h1, (ov_bf s t sp).1 h2⟩
  · refine absurd (fun s hs => ?_) h
    cases h3 : ovB s (bfS t sp) with
    | false => rfl
    | true => exact absurd ⟨s, hs, h3⟩ q
theorem Lst.cand {r : List Sn} {sp a t : Int} (h : Lst r sp a t) : t = a ∨ ∃ s, s ∈ r ∧ s.b + sp = t := by
  by_cases q : a < t
  · obtain ⟨s, h1, h2, h3⟩ := not_free (h.lt (t - 1) (by omega) (by omega))
    refine .inr ⟨s, h1, ?_⟩
    have := h.fr s h1
    have g : ¬ (s.a < t ∧ t - sp < s.b) := fun q => by rw [(ov_bf s t sp).2 q] at this; cases this
    omega
  · have := h.le
    exact .inl (by omega)
theorem cnt_lt {p p' : Sn → Bool} : ∀ {l : List Sn}, (∀ s ∈ l, p' s = true → p s = true) → (∃ s, s ∈ l ∧ p s = true ∧ p' s = false) → l.countP p' < l.countP p
  | [], _, ⟨_, h, _⟩ => by cases h
  | x :: l, h1, ⟨s, h2, h3, h4⟩ => by
    have le : l.countP p' ≤ l.countP p := by
      by_cases q : ∃ s, s ∈ l ∧ p s = true ∧ p' s = false
      · exact Nat.le_of_lt (cnt_lt (fun s hs => h1 s (List.mem_cons_of_mem _ hs)) q)
      · refine List.countP_mono_left fun s hs hp => h1 s (List.mem_cons_of_mem _ hs) hp
    rw [List.countP_cons, List.countP_cons]
    have hx := h1 x (List.mem_cons_self ..)
    rcases List.mem_cons.1 h2 with rfl | h5
    · rw [h3, h4]
      simp
      omega
    · have lt := cnt_lt (fun s hs => h1 s (List.mem_cons_of_mem _ hs)) ⟨s, h5, h3, h4⟩
      cases q : p' x with
      | true => rw [hx q]; omega
      | false => simp; omega
theorem getD_mem {l : List Sn} {k : Nat} (h : k < l.length) : l.getD k sn0 ∈ l := by
  rw [List.getD_eq_getElem?_getD, List.getElem?_eq_getElem h]
  exact List.getElem_mem h
theorem mem_getD {l : List Sn} {s : Sn} (h : s ∈ l) : ∃ k, k < l.length ∧ l.getD k sn0 = s := by
  obtain ⟨k, hk, e⟩ := List.mem_iff_getElem.1 h
  exact ⟨k, hk, by rw [List.getD_eq_getElem?_getD, List.getElem?_eq_getElem hk]; exact e⟩
theorem id_loop (w : Wd) (a b : Int) (r : List Sn) (hr : r.length < 2 ^ 62) (inr : InR r) (sp : Int) (h0 : 0 < sp) (h1 : sp ≤ 1099511627776) : ∀ (n : Nat) (t : Int), 0 ≤ t → t ≤ 2199023255552 → r.countP (fun s => decide (s.b + sp > t)) ≤ n →
    ∃ t', Lst r sp t t' ∧ ∃ q, GoesR Try.prog tab kId idL (q + 1) (idS r sp t) (hId w a b) .ret (idE t') (hId w a b) := by
  intro n
  induction n with
  | zero =>
    intro t t0 t1 hc
    have e := snR_length r
    have hw : ar IntKind.i64 (t - sp) = iI (t - sp) := congrArg (DV.int .i64) (wrapZ (x := t - sp) (by omega) (by omega))
    have g := xj_if w a b t sp r hr
    cases hf : fst (fun k => !ovB (r.getD k sn0) (bfS t sp)) r.length with
    | none =>
      have hv : ifV (fun s => ovB s (bfS t sp)) r = -1 := by unfold ifV; rw [hf]
      rw [hv] at g
      refine ⟨t, ⟨Int.le_refl _, fun s hs => ?_, fun u q1 q2 => by omega⟩, 0, GoesR.last (zgm_ok tab_ok mixed fun_ok noC_ok (id2 w r a b t sp (-1)) (.cons (flatIn_nil _) (.cons hw (.cons g (.cons rfl .nil))))) (by intro h; cases h)⟩
      obtain ⟨k, hk, rfl⟩ := mem_getD hs
      simpa using allB_t.1 (fst_none hf) k hk
    | some k =>
      obtain ⟨hk, ho, _⟩ := fst_some hf
      have ho := (ov_bf _ _ _).1 (show ovB (r.getD k sn0) (bfS t sp) = true by simpa using ho)
      have := List.countP_eq_zero.1 (Nat.le_zero.1 hc) _ (getD_mem hk)
      exact absurd (decide_eq_true (by omega)) this
  | succ n ih =>
    intro t t0 t1 hc
    have e := snR_length r
    have hw : ar IntKind.i64 (t - sp) = iI (t - sp) := congrArg (DV.int .i64) (wrapZ (x := t - sp) (by omega) (by omega))
    have g := xj_if w a b t sp r hr
    cases hf : fst (fun k => !ovB (r.getD k sn0) (bfS t sp)) r.length with
    | none =>
      have hv : ifV (fun s => ovB s (bfS t sp)) r = -1 := by unfold ifV; rw [hf]
      rw [hv] at g
      refine ⟨t, ⟨Int.le_refl _, fun s hs => ?_, fun u q1 q2 => by omega⟩, 0, GoesR.last (zgm_ok tab_ok mixed fun_ok noC_ok (id2 w r a b t sp (-1)) (.cons (flatIn_nil _) (.cons hw (.cons g (.cons rfl .nil))))) (by intro h; cases h)⟩
      obtain ⟨k, hk, rfl⟩ := mem_getD hs
      simpa using allB_t.1 (fst_none hf) k hk
    | some k =>
      obtain ⟨hk, ho, _⟩ := fst_some hf
      have hv : ifV (fun s => ovB s (bfS t sp)) r = (k : Int) := by unfold ifV; rw [hf]
      rw [hv] at g
      have ho := (ov_bf _ _ _).1 (show ovB (r.getD k sn0) (bfS t sp) = true by simpa using ho)
      have hm := getD_mem hk
      have hi := inr _ hm
      have hlt := cnt_lt (l := r) (p := fun s => decide (s.b + sp > t)) (p' := fun s => decide (s.b + sp > (r.getD k sn0).b + sp)) (fun s _ hp => decide_eq_true (by have := of_decide_eq_true hp; omega)) ⟨r.getD k sn0, hm, decide_eq_true (by omega), decide_eq_false (by omega)⟩
      obtain ⟨t', L, q, G⟩ := ih ((r.getD k sn0).b + sp) (by omega) (by omega) (by omega)
      refine ⟨t', ⟨by have := L.le; omega, L.fr, fun u q1 q2 hu => ?_⟩, q + 1, GoesR.step (zgm_ok tab_ok mixed fun_ok noC_ok (id1 w r a b t sp ((r.getD k sn0).b + sp) (k : Int) (r.getD k sn0)) (.cons (flatIn_nil _) (.cons hw (.cons g (.cons (decide_eq_false (by omega)) (.cons (idxOk_lt (by omega)) (.cons (snR_get (by omega)) (.cons (congrArg (DV.int .i64) (wrapZ (x := (r.getD k sn0).b + sp) (by omega) (by omega))) .nil)))))))) G⟩
      rcases Int.lt_or_le u ((r.getD k sn0).b + sp) with q3 | q3
      · have := hu _ hm
        rw [(ov_bf _ u sp).2 ⟨by omega, by omega⟩] at this
        cases this
      · exact L.lt u q3 q2 hu
/-! ### Idle -/
theorem valB_ok {l : List Sn} {n : Nat} (h : valB l n = true) : l.length ≤ 64 ∧ (∀ k, k < l.length → okS (l.getD k sn0) n = true) ∧ lonB l = true := by
  unfold valB at h
  split at h
  · cases h
  · rename_i h1
    have h1 := of_decide_eq_false h1
    unfold vlB at h
    split at h
    · rename_i h2
      exact ⟨by omega, allB_t.1 h2, h⟩
    · cases h
theorem chB_ok {w : Wd} {l : List Sn} (h : chB w l = true) : chk w = true ∧ valB l w.r.length = true := by
  unfold chB at h
  split at h
  · rename_i h1
    exact ⟨h1, h⟩
  · cases h
theorem chB_in {w : Wd} {l : List Sn} (h : chB w l = true) {s : Sn} (hs : s ∈ l) : (0 ≤ s.n ∧ s.n < w.r.length) ∧ (0 ≤ s.a ∧ s.a < s.b ∧ s.b ≤ 1099511627776) ∧ -2000 ≤ s.d ∧ s.d ≤ 2000 := by
  obtain ⟨k, hk, rfl⟩ := mem_getD hs
  exact (okS_iff _ _).1 ((valB_ok (chB_ok h).2).2.1 k hk)
theorem noL_mem {w : Wd} {j : Int} {l : List Sn} {s : Sn} : s ∈ noL w j l ↔ s ∈ l ∧ ntB j (nbV w j) s = true := by
  unfold noL
  rw [fil_mem]
  constructor
  · rintro ⟨k, h1, rfl, h3⟩
    exact ⟨getD_mem h1, h3⟩
  · rintro ⟨h1, h2⟩
    obtain ⟨k, hk, e⟩ := mem_getD h1
    exact ⟨k, hk, e, h2⟩
/-- what Idle answers -/
def IdA (w : Wd) (l : List Sn) (j t sp u : Int) : Prop := match asM w l j (tmO t sp) == 0 with
  | true => match sp == 0 with
    | true => u = t
    | false => Lst (noL w j l) sp t u
  | false => u = 0
theorem id_ans (w : Wd) (ok : OkW w) (l : List Sn) (hl : l.length < 2 ^ 63) (j t sp : Int) : ∃ u, IdA w l j t sp u ∧ Ans Try.prog fId [wdD w, snL l, iI j, iI t, iI sp] (.tuple [iI u, iI (asM w l j (tmO t sp))]) ⟨0, [], []⟩ := by
  unfold IdA asM tmO
  cases h1 : chB w l with
  | false =>
    have a := calC_ok (mk_f ok hl h1)
    exact ⟨0, rfl, zflat_ok tab_ok mixed fun_ok a (ie0 w l j t sp) (.cons (calC_at _ rfl rfl) .nil)⟩
  | true =>
    have m := mk_t ok hl h1
    have a := calC_ok m
    have n := chB_len h1
    cases h2 : inI w j with
    | false =>
      rcases inI_f h2 with q | ⟨q, q2⟩
      · exact ⟨0, rfl, zflat_ok tab_ok mixed fun_ok a (ie1 w l j t sp) (.cons (calC_at _ rfl rfl) (.cons (by assumption) .nil))⟩
      · exact ⟨0, rfl, zflat_ok tab_ok mixed fun_ok a (ie2 w l j t sp) (.cons (calC_at _ rfl rfl) (.cons (by assumption) (.cons (by assumption) .nil)))⟩
    | true =>
      obtain ⟨q1, q2⟩ := inI_t' h2
      cases h3 : tmB t with
      | false =>
        rcases tmB_f h3 with q | ⟨q, q3⟩
        · exact ⟨0, rfl, zflat_ok tab_ok mixed fun_ok a (ie3 w l j t sp) (.cons (calC_at _ rfl rfl) (.cons (by assumption) (.cons (by assumption) (.cons (by assumption) .nil))))⟩
        · exact ⟨0, rfl, zflat_ok tab_ok mixed fun_ok a (ie4 w l j t sp) (.cons (calC_at _ rfl rfl) (.cons (by assumption) (.cons (by assumption) (.cons (by assumption) (.cons (by assumption) .nil)))))⟩
      | true =>
        obtain ⟨q3, q4⟩ := tmB_t h3
        cases h4 : tmB sp with
        | false =>
          rcases tmB_f h4 with q | ⟨q, q5⟩
          · exact ⟨0, rfl, zflat_ok tab_ok mixed fun_ok a (ie5 w l j t sp) (.cons (calC_at _ rfl rfl) (.cons (by assumption) (.cons (by assumption) (.cons (by assumption) (.cons (by assumption) (.cons (by assumption) .nil))))))⟩
          · exact ⟨0, rfl, zflat_ok tab_ok mixed fun_ok a (ie6 w l j t sp) (.cons (calC_at _ rfl rfl) (.cons (by assumption) (.cons (by assumption) (.cons (by assumption) (.cons (by assumption) (.cons (by assumption) (.cons (by assumption) .nil)))))))⟩
        | true =>
          obtain ⟨q5, q6⟩ := tmB_t h4
          cases h5 : sp == 0 with
          | true => exact ⟨t, rfl, zflat_ok tab_ok mixed fun_ok a (ie7 w l j t sp) (.cons (calC_at _ rfl rfl) (.cons (by assumption) (.cons (by assumption) (.cons (by assumption) (.cons (by assumption) (.cons (by assumption) (.cons (by assumption) (.cons h5 .nil))))))))⟩
          | false =>
            have b := no_ans w ok l j (by omega)
            have i3 := (inB_iff _ _ _).1 h3
            have i4 := (inB_iff _ _ _).1 h4
            have nz : sp ≠ 0 := fun q => by rw [q] at h5; cases h5
            obtain ⟨u, L, q, G⟩ := id_loop w t sp (noL w j l) (by have := noL_len w j l; omega) (fun s hs => (chB_in h1 (noL_mem.1 hs).1).2.1) sp (by omega) (by omega) _ t (by omega) (by omega) (Nat.le_refl _)
            exact ⟨u, L, zflat_ok tab_ok mixed fun_ok (orK_ok a (calC_ok b)) (ie8 w l (noL w j l) j t sp u) (.cons (orK_left (calC_at _ rfl rfl)) (.cons (by assumption) (.cons (by assumption) (.cons (by assumption) (.cons (by assumption) (.cons (by assumption) (.cons (by assumption) (.cons h5 (.cons (orK_right (calC_oth (by kernel_rfl)) (calC_at _ rfl rfl)) (.cons G.goes .nil))))))))))⟩
end
end Go.Proofs.Ytgjgihlfkpbdgaa
