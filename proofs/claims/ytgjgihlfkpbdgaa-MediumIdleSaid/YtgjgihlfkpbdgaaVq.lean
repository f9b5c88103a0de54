/- Can of the reference: contract; it is receivable. -/
import Derived.Test.YtgjgihlfkpbdgaaVp
namespace Go.Proofs.Ytgjgihlfkpbdgaa
open Go.RowKit

noncomputable section
abbrev fCa : FuncId := 48
abbrev kCa : List (Nat × Nat) := ksF ftab fCa
abbrev caL : Code := loopAt (bodyOf ftab fCa) 0
abbrev caS (l : List Sn) (i : Nat) (j v : Int) (k : Nat) : Slots := mkT 88 [(1, snL l), (2, iN i), (3, iI j), (4, .ptr 0 0), (9, .ptr 1 0), (10, iI v), (11, iN k)]
set_option maxRecDepth 1000000 in
theorem cc0 (w : Wd) (l : List Sn) (i : Nat) (j v v2 v3 : Int) (k : Nat) (s t : Sn) (a c : Rw) : zsee Try.prog tab ftab (orK cRov (calC fRv [wdD w, iI t.n, iI j] (iI v2))) kCa [1, 2, 3, 4, 9, 10, 11] caL (caS l i j v k) (hR1 w s) [(36, .b true), (41, .b true), (38, .w (iN (k + 1)))] = some (Ex.normal, (caS l i j v (k + 1)), (hR1 w s), ((decide ((↑k : Int) < (↑(List.length (snR l)) : Int))) = true) :: (((↑k : Int) == (↑i : Int)) = true) :: ((ar IntKind.i64 ((↑k : Int) + 1)) = (iN (k + 1))) :: []) := by kernel_rfl
set_option maxRecDepth 1000000 in
theorem cc1 (w : Wd) (l : List Sn) (i : Nat) (j v v2 v3 : Int) (k : Nat) (s t : Sn) (a c : Rw) : zsee Try.prog tab ftab (orK cRov (calC fRv [wdD w, iI t.n, iI j] (iI v2))) kCa [1, 2, 3, 4, 9, 10, 11] caL (caS l i j v k) (hR1 w s) [(36, .b true), (41, .b false), (45, .n (.fptr (snC t))), (49, .b true), (38, .w (iN (k + 1)))] = some (Ex.normal, (caS l i j v (k + 1)), (hR1 w s), ((decide ((↑k : Int) < (↑(List.length (snR l)) : Int))) = true) :: (((↑k : Int) == (↑i : Int)) = false) :: ((idxOk (↑k : Int) (List.length (snR l))) = true) :: ((nth (snR l) (Int.toNat (↑k : Int))) = (Option.some (snC t))) :: ((!ovB t s) = true) :: ((ar IntKind.i64 ((↑k : Int) + 1)) = (iN (k + 1))) :: []) := by kernel_rfl
set_option maxRecDepth 1000000 in
theorem cc2 (w : Wd) (l : List Sn) (i : Nat) (j v v2 v3 : Int) (k : Nat) (s t : Sn) (a c : Rw) : zsee Try.prog tab ftab (orK cRov (calC fRv [wdD w, iI t.n, iI j] (iI v2))) kCa [8] caL (caS l i j v k) (hR1 w s) [(36, .b true), (41, .b false), (45, .n (.fptr (snC t))), (49, .b false), (53, .n (.fptr (snC t))), (57, .b true)] = some (Ex.ret, (mkT 88 [(8, (DV.bool false))]), (hR1 w s), ((decide ((↑k : Int) < (↑(List.length (snR l)) : Int))) = true) :: (((↑k : Int) == (↑i : Int)) = false) :: ((idxOk (↑k : Int) (List.length (snR l))) = true) :: ((nth (snR l) (Int.toNat (↑k : Int))) = (Option.some (snC t))) :: ((!ovB t s) = false) :: ((idxOk (↑k : Int) (List.length (snR l))) = true) :: ((nth (snR l) (Int.toNat (↑k : Int))) = (Option.some (snC t))) :: ((t.n == j) = true) :: []) := by kernel_rfl
set_option maxRecDepth 1000000 in
theorem cc3 (w : Wd) (l : List Sn) (i : Nat) (j v v2 v3 : Int) (k : Nat) (s t : Sn) (a c : Rw) : zsee Try.prog tab ftab (orK cRov (calC fRv [wdD w, iI t.n, iI j] (iI v2))) kCa [1, 2, 3, 4, 9, 10, 11] caL (caS l i j v k) (hR1 w s) [(36, .b true), (41, .b false), (45, .n (.fptr (snC t))), (49, .b false), (53, .n (.fptr (snC t))), (57, .b false), (62, .n (.fptr (snC t))), (65, .n (.fptr (rC a))), (71, .n (.fptr (rC c))), (74, .b false), (38, .w (iN (k + 1)))] = some (Ex.normal, (caS l i j v (k + 1)), (hR1 w s), ((decide ((↑k : Int) < (↑(List.length (snR l)) : Int))) = true) :: (((↑k : Int) == (↑i : Int)) = false) :: ((idxOk (↑k : Int) (List.length (snR l))) = true) :: ((nth (snR l) (Int.toNat (↑k : Int))) = (Option.some (snC t))) :: ((!ovB t s) = false) :: ((idxOk (↑k : Int) (List.length (snR l))) = true) :: ((nth (snR l) (Int.toNat (↑k : Int))) = (Option.some (snC t))) :: ((t.n == j) = false) :: ((idxOk (↑k : Int) (List.length (snR l))) = true) :: ((nth (snR l) (Int.toNat (↑k : Int))) = (Option.some (snC t))) :: ((idxOk t.n (List.length (rsR w.r))) = true) :: ((nth (rsR w.r) (Int.toNat t.n)) = (Option.some (rC a))) :: ((idxOk j (List.length (rsR w.r))) = true) :: ((nth (rsR w.r) (Int.toNat j)) = (Option.some (rC c))) :: ((a.c == c.c) = false) :: ((ar IntKind.i64 ((↑k : Int) + 1)) = (iN (k + 1))) :: []) := by kernel_rfl
set_option maxRecDepth 1000000 in
theorem cc4 (w : Wd) (l : List Sn) (i : Nat) (j v v2 v3 : Int) (k : Nat) (s t : Sn) (a c : Rw) : zsee Try.prog tab ftab (orK cRov (calC fRv [wdD w, iI t.n, iI j] (iI v2))) kCa [8] caL (caS l i j v k) (hR1 w s) [(36, .b true), (41, .b false), (45, .n (.fptr (snC t))), (49, .b false), (53, .n (.fptr (snC t))), (57, .b false), (62, .n (.fptr (snC t))), (65, .n (.fptr (rC a))), (71, .n (.fptr (rC c))), (74, .b true), (80, .n (.fptr (snC t))), (84, .q (iI v2)), (85, .w (iI v3)), (86, .b true)] = some (Ex.ret, (mkT 88 [(8, (DV.bool false))]), (hR1 w s), ((decide ((↑k : Int) < (↑(List.length (snR l)) : Int))) = true) :: (((↑k : Int) == (↑i : Int)) = false) :: ((idxOk (↑k : Int) (List.length (snR l))) = true) :: ((nth (snR l) (Int.toNat (↑k : Int))) = (Option.some (snC t))) :: ((!ovB t s) = false) :: ((idxOk (↑k : Int) (List.length (snR l))) = true) :: ((nth (snR l) (Int.toNat (↑k : Int))) = (Option.some (snC t))) :: ((t.n == j) = false) :: ((idxOk (↑k : Int) (List.length (snR l))) = true) :: ((nth (snR l) (Int.toNat (↑k : Int))) = (Option.some (snC t))) :: ((idxOk t.n (List.length (rsR w.r))) = true) :: ((nth (rsR w.r) (Int.toNat t.n)) = (Option.some (rC a))) :: ((idxOk j (List.length (rsR w.r))) = true) :: ((nth (rsR w.r) (Int.toNat j)) = (Option.some (rC c))) :: ((a.c == c.c) = true) :: ((idxOk (↑k : Int) (List.length (snR l))) = true) :: ((nth (snR l) (Int.toNat (↑k : Int))) = (Option.some (snC t))) :: ((orK cRov (calC fRv [wdD w, iI t.n, iI j] (iI v2)) 64 [(DV.agg (List.take 2 (List.drop 0 (wdC w)))), (iI t.n), (iI j)] (hR1 w s)) = (Option.some ((iI v2), (hR1 w s), Option.none))) :: ((ar IntKind.i64 (v2 + 100)) = (iI v3)) :: ((decide (v < v3)) = true) :: []) := by kernel_rfl
set_option maxRecDepth 1000000 in
theorem cc5 (w : Wd) (l : List Sn) (i : Nat) (j v v2 v3 : Int) (k : Nat) (s t : Sn) (a c : Rw) : zsee Try.prog tab ftab (orK cRov (calC fRv [wdD w, iI t.n, iI j] (iI v2))) kCa [1, 2, 3, 4, 9, 10, 11] caL (caS l i j v k) (hR1 w s) [(36, .b true), (41, .b false), (45, .n (.fptr (snC t))), (49, .b false), (53, .n (.fptr (snC t))), (57, .b false), (62, .n (.fptr (snC t))), (65, .n (.fptr (rC a))), (71, .n (.fptr (rC c))), (74, .b true), (80, .n (.fptr (snC t))), (84, .q (iI v2)), (85, .w (iI v3)), (86, .b false), (38, .w (iN (k + 1)))] = some (Ex.normal, (caS l i j v (k + 1)), (hR1 w s), ((decide ((↑k : Int) < (↑(List.length (snR l)) : Int))) = true) :: (((↑k : Int) == (↑i : Int)) = false) :: ((idxOk (↑k : Int) (List.length (snR l))) = true) :: ((nth (snR l) (Int.toNat (↑k : Int))) = (Option.some (snC t))) :: ((!ovB t s) = false) :: ((idxOk (↑k : Int) (List.length (snR l))) = true) :: ((nth (snR l) (Int.toNat (↑k : Int))) = (Option.some (snC t))) :: ((t.n == j) = false) :: ((idxOk (↑k : Int) (List.length (snR l))) = true) :: ((nth (snR l) (Int.toNat (↑k : Int))) = (Option.some (snC t))) :: ((idxOk t.n (List.length (rsR w.r))) = true) :: ((nth (rsR w.r) (Int.toNat t.n)) = (Option.some (rC a))) :: ((idxOk j (List.length (rsR w.r))) = true) :: ((nth (rsR w.r) (Int.toNat j)) = (Option.some (rC c))) :: ((a.c == c.c) = true) :: ((idxOk (↑k : Int) (List.length (snR l))) = true) :: ((nth (snR l) (Int.toNat (↑k : Int))) = (Option.some (snC t))) :: ((orK cRov (calC fRv [wdD w, iI t.n, iI j] (iI v2)) 64 [(DV.agg (List.take 2 (List.drop 0 (wdC w)))), (iI t.n), (iI j)] (hR1 w s)) = (Option.some ((iI v2), (hR1 w s), Option.none))) :: ((ar IntKind.i64 (v2 + 100)) = (iI v3)) :: ((decide (v < v3)) = false) :: ((ar IntKind.i64 ((↑k : Int) + 1)) = (iN (k + 1))) :: []) := by kernel_rfl
set_option maxRecDepth 1000000 in
theorem ccO (w : Wd) (l : List Sn) (i : Nat) (j v : Int) (k : Nat) (s : Sn) : zsee Try.prog tab ftab noC kCa [] caL (caS l i j v k) (hR1 w s) [(36, .b false)] = some ((Ex.exit 0), (mkT 88 []), (hR1 w s), ((decide ((↑k : Int) < (↑(List.length (snR l)) : Int))) = false) :: []) := by kernel_rfl
set_option maxRecDepth 1000000 in
theorem cg0 (C : ConF) (w : Wd) (l : List Sn) (i : Nat) (j v : Int) (s : Sn) : zflat (zans Try.prog tab ftab C fCa [wdD w, snL l, iN i, iI j] [(14, .n (.fptr (snC s))), (20, .q (iI v)), (25, .q (.bool false))]) = some ((DV.bool false), ((idxOk (↑i : Int) (List.length (snR l))) = true) :: ((nth (snR l) (Int.toNat (↑i : Int))) = (Option.some (snC s))) :: ((C 64 [(DV.agg (List.take 2 (List.drop 0 (wdC w)))), (DV.int (IntKind.i64) (s.n)), (iI j)] (Hp.mk 2 [(Ob.mk 0 0 32 (snC s)), (Ob.mk 0 0 25 (wdC w))] [])) = (Option.some ((iI v), (Hp.mk 2 [(Ob.mk 0 0 32 (snC s)), (Ob.mk 0 0 25 (wdC w))] []), Option.none))) :: ((C 65 [(DV.agg (List.take 2 (List.drop 0 (wdC w)))), (iI j), (DV.int (IntKind.i64) (s.n))] (Hp.mk 2 [(Ob.mk 0 0 32 (snC s)), (Ob.mk 0 0 25 (wdC w))] [])) = (Option.some ((DV.bool false), (Hp.mk 2 [(Ob.mk 0 0 32 (snC s)), (Ob.mk 0 0 25 (wdC w))] []), Option.none))) :: []) := by kernel_rfl
set_option maxRecDepth 1000000 in
theorem cg1 (C : ConF) (w : Wd) (l : List Sn) (i : Nat) (j v : Int) (s : Sn) : zflat (zans Try.prog tab ftab C fCa [wdD w, snL l, iN i, iI j] [(14, .n (.fptr (snC s))), (20, .q (iI v)), (25, .q (.bool true)), (31, .b true)]) = some ((DV.bool false), ((idxOk (↑i : Int) (List.length (snR l))) = true) :: ((nth (snR l) (Int.toNat (↑i : Int))) = (Option.some (snC s))) :: ((C 64 [(DV.agg (List.take 2 (List.drop 0 (wdC w)))), (DV.int (IntKind.i64) (s.n)), (iI j)] (Hp.mk 2 [(Ob.mk 0 0 32 (snC s)), (Ob.mk 0 0 25 (wdC w))] [])) = (Option.some ((iI v), (Hp.mk 2 [(Ob.mk 0 0 32 (snC s)), (Ob.mk 0 0 25 (wdC w))] []), Option.none))) :: ((C 65 [(DV.agg (List.take 2 (List.drop 0 (wdC w)))), (iI j), (DV.int (IntKind.i64) (s.n))] (Hp.mk 2 [(Ob.mk 0 0 32 (snC s)), (Ob.mk 0 0 25 (wdC w))] [])) = (Option.some ((DV.bool true), (Hp.mk 2 [(Ob.mk 0 0 32 (snC s)), (Ob.mk 0 0 25 (wdC w))] []), Option.none))) :: ((decide (v < s.d)) = true) :: []) := by kernel_rfl
set_option maxRecDepth 1000000 in
theorem cg2 (C : ConF) (w : Wd) (l : List Sn) (i : Nat) (j v : Int) (s : Sn) : zflat (zans Try.prog tab ftab C fCa [wdD w, snL l, iN i, iI j] [(14, .n (.fptr (snC s))), (20, .q (iI v)), (25, .q (.bool true)), (31, .b false), (0, .l [1, 2, 3, 4, 9, 10, 11] .ret (mkT 88 [(8, .bool false)]) (hR1 w s))]) = some ((DV.bool false), ((idxOk (↑i : Int) (List.length (snR l))) = true) :: ((nth (snR l) (Int.toNat (↑i : Int))) = (Option.some (snC s))) :: ((C 64 [(DV.agg (List.take 2 (List.drop 0 (wdC w)))), (DV.int (IntKind.i64) (s.n)), (iI j)] (hR1 w s)) = (Option.some ((iI v), (hR1 w s), Option.none))) :: ((C 65 [(DV.agg (List.take 2 (List.drop 0 (wdC w)))), (iI j), (DV.int (IntKind.i64) (s.n))] (hR1 w s)) = (Option.some ((DV.bool true), (hR1 w s), Option.none))) :: ((decide (v < s.d)) = false) :: (Goes (Try.prog) tab (kCa) (Go.Code.loop (caL)) (caS l i j v 0) (hR1 w s) (Ex.ret) (mkT 88 [(8, (DV.bool false))]) (hR1 w s)) :: []) := by kernel_rfl
set_option maxRecDepth 1000000 in
theorem cg3 (C : ConF) (w : Wd) (l : List Sn) (i : Nat) (j v : Int) (s : Sn) : zflat (zans Try.prog tab ftab C fCa [wdD w, snL l, iN i, iI j] [(14, .n (.fptr (snC s))), (20, .q (iI v)), (25, .q (.bool true)), (31, .b false), (0, .l [1, 2, 3, 4, 9, 10, 11] (.exit 0) (mkT 88 []) (hR1 w s))]) = some ((DV.bool true), ((idxOk (↑i : Int) (List.length (snR l))) = true) :: ((nth (snR l) (Int.toNat (↑i : Int))) = (Option.some (snC s))) :: ((C 64 [(DV.agg (List.take 2 (List.drop 0 (wdC w)))), (DV.int (IntKind.i64) (s.n)), (iI j)] (hR1 w s)) = (Option.some ((iI v), (hR1 w s), Option.none))) :: ((C 65 [(DV.agg (List.take 2 (List.drop 0 (wdC w)))), (iI j), (DV.int (IntKind.i64) (s.n))] (hR1 w s)) = (Option.some ((DV.bool true), (hR1 w s), Option.none))) :: ((decide (v < s.d)) = false) :: (Goes (Try.prog) tab (kCa) (Go.Code.loop (caL)) (caS l i j v 0) (hR1 w s) (Ex.exit 0) (mkT 88 []) (hR1 w s)) :: []) := by kernel_rfl
def cnB (w : Wd) (l : List Sn) (i : Nat) (j : Int) (k : Nat) : Bool := match (k : Int) == (i : Int) with
  | true => true
  | false => match ovB (l.getD k sn0) (l.getD i sn0) with
    | false => true
    | true => match (l.getD k sn0).n == j with
      | true => false
      | false => match (rI w (l.getD k sn0).n).c == (rI w j).c with
        | false => true
        | true => !decide (lv w (l.getD i sn0).n j < lv w (l.getD k sn0).n j + 100)
def canB (w : Wd) (l : List Sn) (i : Nat) (j : Int) : Bool := match hr w j (l.getD i sn0).n with
  | false => false
  | true => match decide (lv w (l.getD i sn0).n j < (l.getD i sn0).d) with
    | true => false
    | false => allB l.length fun k => cnB w l i j k
section
variable (w : Wd) (l : List Sn) (hc : chB w l = true) (i : Nat) (hi : i < l.length) (j : Int) (hj : Nd w j)
include hc hi hj
theorem cc_go (k : Nat) (hk : k < l.length) (hh : cnB w l i j k = true) : Goes Try.prog tab kCa caL (caS l i j (lv w (l.getD i sn0).n j) k) (hR1 w (l.getD i sn0)) .normal (caS l i j (lv w (l.getD i sn0).n j) (k + 1)) (hR1 w (l.getD i sn0)) := by
  have e := snR_length l
  have n := chB_len hc
  have va := (va_iff w).1 (chB_ok hc).1
  have hm := (chB_in hc (getD_mem hk)).1
  have ni : Nd w (l.getD k sn0).n := ⟨hm.1, hm.2⟩
  have a := rv_ans w va (l.getD k sn0).n j ni hj
  have hb := lv_in va ni hj
  have hw : DV.int .i64 (IntKind.i64.wrap (lv w (l.getD k sn0).n j + 100)) = iI (lv w (l.getD k sn0).n j + 100) := congrArg (DV.int .i64) (wrapZ (x := lv w (l.getD k sn0).n j + 100) (by omega) (by omega))
  unfold cnB at hh
  cases h1 : (k : Int) == (i : Int) with
  | true => exact zsee_ok tab_ok mixed fun_ok (orK_ok cRov_ok (calC_ok a)) (cc0 w l i j (lv w (l.getD i sn0).n j) (lv w (l.getD k sn0).n j) (lv w (l.getD k sn0).n j + 100) k (l.getD i sn0) (l.getD k sn0) (rI w (l.getD k sn0).n) (rI w j)) (.cons (decide_eq_true (by omega)) (.cons h1 (.cons (wrK_at (by omega)) .nil)))
  | false =>
    rw [h1] at hh
    cases h2 : ovB (l.getD k sn0) (l.getD i sn0) with
    | false => exact zsee_ok tab_ok mixed fun_ok (orK_ok cRov_ok (calC_ok a)) (cc1 w l i j (lv w (l.getD i sn0).n j) (lv w (l.getD k sn0).n j) (lv w (l.getD k sn0).n j + 100) k (l.getD i sn0) (l.getD k sn0) (rI w (l.getD k sn0).n) (rI w j)) (.cons (decide_eq_true (by omega)) (.cons h1 (.cons (idxOk_lt (by omega)) (.cons (snR_get (by omega)) (.cons (ntf h2) (.cons (wrK_at (by omega)) .nil))))))
    | true =>
      rw [h2] at hh
      cases h3 : (l.getD k sn0).n == j with
      | true => (rw [h3] at hh; cases hh)
      | false =>
        rw [h3] at hh
        cases h4 : (rI w (l.getD k sn0).n).c == (rI w j).c with
        | false => exact zsee_ok tab_ok mixed fun_ok (orK_ok cRov_ok (calC_ok a)) (cc3 w l i j (lv w (l.getD i sn0).n j) (lv w (l.getD k sn0).n j) (lv w (l.getD k sn0).n j + 100) k (l.getD i sn0) (l.getD k sn0) (rI w (l.getD k sn0).n) (rI w j)) (.cons (decide_eq_true (by omega)) (.cons h1 (.cons (idxOk_lt (by omega)) (.cons (snR_get (by omega)) (.cons (nt h2) (.cons (idxOk_lt (by omega)) (.cons (snR_get (by omega)) (.cons h3 (.cons (idxOk_lt (by omega)) (.cons (snR_get (by omega)) (.cons (rI_at ni).1 (.cons (rI_at ni).2 (.cons (rI_at hj).1 (.cons (rI_at hj).2 (.cons h4 (.cons (wrK_at (by omega)) .nil))))))))))))))))
        | true =>
          rw [h4] at hh
          have h5 : decide (lv w (l.getD i sn0).n j < lv w (l.getD k sn0).n j + 100) = false := by simpa using hh
          exact zsee_ok tab_ok mixed fun_ok (orK_ok cRov_ok (calC_ok a)) (cc5 w l i j (lv w (l.getD i sn0).n j) (lv w (l.getD k sn0).n j) (lv w (l.getD k sn0).n j + 100) k (l.getD i sn0) (l.getD k sn0) (rI w (l.getD k sn0).n) (rI w j)) (.cons (decide_eq_true (by omega)) (.cons h1 (.cons (idxOk_lt (by omega)) (.cons (snR_get (by omega)) (.cons (nt h2) (.cons (idxOk_lt (by omega)) (.cons (snR_get (by omega)) (.cons h3 (.cons (idxOk_lt (by omega)) (.cons (snR_get (by omega)) (.cons (rI_at ni).1 (.cons (rI_at ni).2 (.cons (rI_at hj).1 (.cons (rI_at hj).2 (.cons h4 (.cons (idxOk_lt (by omega)) (.cons (snR_get (by omega)) (.cons (orK_right rfl (calC_at _ rfl rfl)) (.cons hw (.cons h5 (.cons (wrK_at (by omega)) .nil)))))))))))))))))))))
theorem cc_bad (k : Nat) (hk : k < l.length) (hh : cnB w l i j k = false) : Goes Try.prog tab kCa caL (caS l i j (lv w (l.getD i sn0).n j) k) (hR1 w (l.getD i sn0)) .ret (mkT 88 [(8, .bool false)]) (hR1 w (l.getD i sn0)) := by
  have _ := hi
  have e := snR_length l
  have n := chB_len hc
  have va := (va_iff w).1 (chB_ok hc).1
  have hm := (chB_in hc (getD_mem hk)).1
  have ni : Nd w (l.getD k sn0).n := ⟨hm.1, hm.2⟩
  have a := rv_ans w va (l.getD k sn0).n j ni hj
  have hb := lv_in va ni hj
  have hw : DV.int .i64 (IntKind.i64.wrap (lv w (l.getD k sn0).n j + 100)) = iI (lv w (l.getD k sn0).n j + 100) := congrArg (DV.int .i64) (wrapZ (x := lv w (l.getD k sn0).n j + 100) (by omega) (by omega))
  unfold cnB at hh
  cases h1 : (k : Int) == (i : Int) with
  | true => (rw [h1] at hh; cases hh)
  | false =>
    rw [h1] at hh
    cases h2 : ovB (l.getD k sn0) (l.getD i sn0) with
    | false => (rw [h2] at hh; cases hh)
    | true =>
      rw [h2] at hh
      cases h3 : (l.getD k sn0).n == j with
      | true => exact zsee_ok tab_ok mixed fun_ok (orK_ok cRov_ok (calC_ok a)) (cc2 w l i j (lv w (l.getD i sn0).n j) (lv w (l.getD k sn0).n j) (lv w (l.getD k sn0).n j + 100) k (l.getD i sn0) (l.getD k sn0) (rI w (l.getD k sn0).n) (rI w j)) (.cons (decide_eq_true (by omega)) (.cons h1 (.cons (idxOk_lt (by omega)) (.cons (snR_get (by omega)) (.cons (nt h2) (.cons (idxOk_lt (by omega)) (.cons (snR_get (by omega)) (.cons h3 .nil))))))))
      | false =>
        rw [h3] at hh
        cases h4 : (rI w (l.getD k sn0).n).c == (rI w j).c with
        | false => (rw [h4] at hh; cases hh)
        | true =>
          rw [h4] at hh
          have h5 : decide (lv w (l.getD i sn0).n j < lv w (l.getD k sn0).n j + 100) = true := by simpa using hh
          exact zsee_ok tab_ok mixed fun_ok (orK_ok cRov_ok (calC_ok a)) (cc4 w l i j (lv w (l.getD i sn0).n j) (lv w (l.getD k sn0).n j) (lv w (l.getD k sn0).n j + 100) k (l.getD i sn0) (l.getD k sn0) (rI w (l.getD k sn0).n) (rI w j)) (.cons (decide_eq_true (by omega)) (.cons h1 (.cons (idxOk_lt (by omega)) (.cons (snR_get (by omega)) (.cons (nt h2) (.cons (idxOk_lt (by omega)) (.cons (snR_get (by omega)) (.cons h3 (.cons (idxOk_lt (by omega)) (.cons (snR_get (by omega)) (.cons (rI_at ni).1 (.cons (rI_at ni).2 (.cons (rI_at hj).1 (.cons (rI_at hj).2 (.cons h4 (.cons (idxOk_lt (by omega)) (.cons (snR_get (by omega)) (.cons (orK_right rfl (calC_at _ rfl rfl)) (.cons hw (.cons h5 .nil))))))))))))))))))))
theorem ca_ans : Ans Try.prog fCa [wdD w, snL l, iN i, iI j] (.bool (canB w l i j)) ⟨0, [], []⟩ := by
  have e := snR_length l
  have n := chB_len hc
  have va := (va_iff w).1 (chB_ok hc).1
  have hm := (chB_in hc (getD_mem hi)).1
  have ni : Nd w (l.getD i sn0).n := ⟨hm.1, hm.2⟩
  have a := rv_ans w va (l.getD i sn0).n j ni hj
  have b := rh_ans w va j (l.getD i sn0).n hj ni
  unfold canB
  cases h1 : hr w j (l.getD i sn0).n with
  | false =>
    rw [h1] at b
    exact zflat_ok tab_ok mixed fun_ok (orK_ok (calC_ok a) (calC_ok b)) (cg0 _ w l i j (lv w (l.getD i sn0).n j) (l.getD i sn0)) (.cons (idxOk_lt (by omega)) (.cons (snR_get (by omega)) (.cons (orK_left (calC_at _ rfl rfl)) (.cons (orK_right (calC_oth (by kernel_rfl)) (calC_at _ rfl rfl)) .nil))))
  | true =>
    rw [h1] at b
    by_cases h2 : lv w (l.getD i sn0).n j < (l.getD i sn0).d
    · rw [decide_eq_true h2]
      exact zflat_ok tab_ok mixed fun_ok (orK_ok (calC_ok a) (calC_ok b)) (cg1 _ w l i j (lv w (l.getD i sn0).n j) (l.getD i sn0)) (.cons (idxOk_lt (by omega)) (.cons (snR_get (by omega)) (.cons (orK_left (calC_at _ rfl rfl)) (.cons (orK_right (calC_oth (by kernel_rfl)) (calC_at _ rfl rfl)) (.cons (decide_eq_true (by omega)) .nil)))))
    · rw [decide_eq_false h2]
      dsimp only
      cases hb : allB l.length fun k => cnB w l i j k with
      | true => exact zflat_ok tab_ok mixed fun_ok (orK_ok (calC_ok a) (calC_ok b)) (cg3 _ w l i j (lv w (l.getD i sn0).n j) (l.getD i sn0)) (.cons (idxOk_lt (by omega)) (.cons (snR_get (by omega)) (.cons (orK_left (calC_at _ rfl rfl)) (.cons (orK_right (calC_oth (by kernel_rfl)) (calC_at _ rfl rfl)) (.cons (decide_eq_false (by omega)) (.cons (scan_t (S := caS l i j (lv w (l.getD i sn0).n j)) (by intro h; cases h) (cc_go w l hc i hi j hj) (zsee_ok tab_ok mixed fun_ok noC_ok (ccO w l i j (lv w (l.getD i sn0).n j) l.length (l.getD i sn0)) (.cons (decide_eq_false (by omega)) .nil)) hb) .nil))))))
      | false => exact zflat_ok tab_ok mixed fun_ok (orK_ok (calC_ok a) (calC_ok b)) (cg2 _ w l i j (lv w (l.getD i sn0).n j) (l.getD i sn0)) (.cons (idxOk_lt (by omega)) (.cons (snR_get (by omega)) (.cons (orK_left (calC_at _ rfl rfl)) (.cons (orK_right (calC_oth (by kernel_rfl)) (calC_at _ rfl rfl)) (.cons (decide_eq_false (by omega)) (.cons (scan_f (S := caS l i j (lv w (l.getD i sn0).n j)) (by intro h; cases h) (cc_go w l hc i hi j hj) (cc_bad w l hc i hi j hj) hb) .nil))))))
end
/-- transmissions of one node do not overlap -/
theorem same_apart {w : Wd} {l : List Sn} (hc : chB w l = true) {i k : Nat} (hi : i < l.length) (hk : k < l.length) (hne : i ≠ k) (hn : (l.getD i sn0).n = (l.getD k sn0).n) : ovB (l.getD i sn0) (l.getD k sn0) = false := by
  have h := (valB_ok (chB_ok hc).2).2.2
  rcases Nat.lt_or_ge i k with q | q
  · exact (fineB_iff l i k).1 (allB_t.1 (allB_t.1 h i hi) k hk) q hn
  · rw [ovB_sym]
    exact (fineB_iff l k i).1 (allB_t.1 (allB_t.1 h k hk) i hi) (by omega) hn.symm
/-- does k keep j from receiving s, once more -/
theorem kbB_iff (w : Wd) (s : Sn) (j : Int) (k : Sn) : kbB w s j k = true ↔ k.n ≠ s.n ∧ ovB s k = true ∧ (k.n = j ∨ ((rI w k.n).c = (rI w j).c ∧ lv w s.n j < lv w k.n j + 100)) := by
  unfold kbB
  cases h1 : k.n == s.n with
  | true => exact ⟨fun h => (by cases h), fun h => absurd (beq_iff_eq.1 h1) h.1⟩
  | false =>
    have n1 : k.n ≠ s.n := beq_eq_false_iff_ne.1 h1
    cases h2 : ovB s k with
    | false => exact ⟨fun h => (by cases h), fun h => (by cases h.2.1)⟩
    | true =>
      cases h3 : k.n == j with
      | true => exact ⟨fun _ => ⟨n1, rfl, .inl (beq_iff_eq.1 h3)⟩, fun _ => rfl⟩
      | false =>
        have n3 : k.n ≠ j := beq_eq_false_iff_ne.1 h3
        cases h4 : (rI w k.n).c == (rI w j).c with
        | false => exact ⟨fun h => (by cases h), fun h => (by
            rcases h.2.2 with q | q
            · exact absurd q n3
            · exact absurd q.1 (beq_eq_false_iff_ne.1 h4))⟩
        | true => exact ⟨fun h => ⟨n1, rfl, .inr ⟨beq_iff_eq.1 h4, of_decide_eq_true h⟩⟩, fun h => decide_eq_true (by
            rcases h.2.2 with q | q
            · exact absurd q n3
            · exact q.2)⟩
theorem cnB_iff (w : Wd) (l : List Sn) (i : Nat) (j : Int) (k : Nat) : cnB w l i j k = false ↔ k ≠ i ∧ ovB (l.getD k sn0) (l.getD i sn0) = true ∧ ((l.getD k sn0).n = j ∨ ((rI w (l.getD k sn0).n).c = (rI w j).c ∧ lv w (l.getD i sn0).n j < lv w (l.getD k sn0).n j + 100)) := by
  unfold cnB
  cases h1 : (k : Int) == (i : Int) with
  | true =>
    have := beq_iff_eq.1 h1
    exact ⟨fun h => (by cases h), fun h => absurd (by omega) h.1⟩
  | false =>
    have n1 : (k : Int) ≠ (i : Int) := beq_eq_false_iff_ne.1 h1
    have n1 : k ≠ i := fun h => n1 (by rw [h])
    cases h2 : ovB (l.getD k sn0) (l.getD i sn0) with
    | false => exact ⟨fun h => (by cases h), fun h => (by cases h.2.1)⟩
    | true =>
      cases h3 : (l.getD k sn0).n == j with
      | true => exact ⟨fun _ => ⟨n1, rfl, .inl (beq_iff_eq.1 h3)⟩, fun _ => rfl⟩
      | false =>
        have n3 : (l.getD k sn0).n ≠ j := beq_eq_false_iff_ne.1 h3
        cases h4 : (rI w (l.getD k sn0).n).c == (rI w j).c with
        | false => exact ⟨fun h => (by cases h), fun h => (by
            rcases h.2.2 with q | q
            · exact absurd q n3
            · exact absurd q.1 (beq_eq_false_iff_ne.1 h4))⟩
        | true => exact ⟨fun h => ⟨n1, rfl, .inr ⟨beq_iff_eq.1 h4, of_decide_eq_true (by simpa using h)⟩⟩, fun h => (by
            rcases h.2.2 with q | q
            · exact absurd q n3
            · show (!decide _) = false
              rw [decide_eq_true q.2]
              rfl)⟩
theorem rcv_can {w : Wd} {l : List Sn} (hc : chB w l = true) {i : Nat} (hi : i < l.length) (j : Int) : rcvB w l (l.getD i sn0) j = canB w l i j := by
  unfold rcvB canB
  cases hr w j (l.getD i sn0).n with
  | false => rfl
  | true =>
    cases decide (lv w (l.getD i sn0).n j < (l.getD i sn0).d) with
    | true => rfl
    | false =>
      dsimp only
      cases hq : allB l.length fun k => cnB w l i j k with
      | true =>
        cases hd : decide (ifV (kbB w (l.getD i sn0) j) l ≥ 0) with
        | false => rfl
        | true =>
          obtain ⟨s, hs, hb⟩ := (ifV_iff _ _).1 hd
          obtain ⟨k, hk, rfl⟩ := mem_getD hs
          obtain ⟨b1, b2, b3⟩ := (kbB_iff _ _ _ _).1 hb
          have hn := (cnB_iff w l i j k).2 ⟨fun e => b1 (by rw [e]), by rw [ovB_sym]; exact b2, b3⟩
          have := allB_t.1 hq k hk
          rw [hn] at this
          cases this
      | false =>
        obtain ⟨k, hk, hf, _⟩ := allB_f hq
        obtain ⟨b1, b2, b3⟩ := (cnB_iff w l i j k).1 hf
        have hne : (l.getD k sn0).n ≠ (l.getD i sn0).n := fun e => by
          have := same_apart hc hk hi b1 e
          rw [b2] at this
          cases this
        have hd := (ifV_iff (kbB w (l.getD i sn0) j) l).2 ⟨_, getD_mem hk, (kbB_iff _ _ _ _).2 ⟨hne, by rw [ovB_sym]; exact b2, b3⟩⟩
        rw [hd]
        rfl
end
end Go.Proofs.Ytgjgihlfkpbdgaa
