/- receivable: contract. -/
import Derived.Test.YtgjgihlfkpbdgaaVk
namespace Go.Proofs.Ytgjgihlfkpbdgaa
open Go.RowKit

noncomputable section
abbrev fRb : FuncId := 44
abbrev fRc : FuncId := 63
abbrev oFr (xs : List (List DV)) : Ob := ⟨0, 0, 72, [.list 1 xs]⟩
abbrev lk3 (a b : Bool) (v : Int) : List DV := [.bool a, .bool b, iI v]
abbrev hRv (xs : List (List DV)) (s : Sn) (j : Int) (a b : Bool) (v : Int) : Hp := ⟨4, [oLk (lk3 a b v), oIn j, oSn s, oFr xs], []⟩
/-- does k keep j from receiving s -/
def kbB (w : Wd) (s : Sn) (j : Int) (k : Sn) : Bool := match k.n == s.n with
  | true => false
  | false => match ovB s k with
    | false => false
    | true => match k.n == j with
      | true => true
      | false => match (rI w k.n).c == (rI w j).c with
        | false => false
        | true => decide (lv w s.n j < lv w k.n j + 100)
def rcvB (w : Wd) (l : List Sn) (s : Sn) (j : Int) : Bool := match hr w j s.n with
  | false => false
  | true => match decide (lv w s.n j < s.d) with
    | true => false
    | false => !decide (ifV (kbB w s j) l ≥ 0)
set_option maxRecDepth 1000000 in
theorem xrm0 (xs ys : List (List DV)) (q : Sn) (j : Int) (a b : Bool) (v v2 v3 : Int) (a2 b2 : Bool) (l : List Sn) (k : Nat) (s : Sn) : zgm [0, 1, 2, 3] [] (zsee Try.prog tab ftab cOv kIf [0, 1, 7, 8] ifL (ifS (.fn fRc [] [.ptr 1 0, .ptr 0 0, .ptr 2 0, .ptr 3 0]) l k) (hRv xs q j a b v) [(9, .b true), (14, .n (.fptr (snC s))), (16, .c [(12, .b true)]), (18, .w (iN (k + 1)))]) = some (Ex.normal, (ifS (.fn fRc [] [.ptr 1 0, .ptr 0 0, .ptr 2 0, .ptr 3 0]) l (k + 1)), ((hRv xs q j a b v)), (FlatIn [] ((hRv xs q j a b v))) :: ((decide ((↑k : Int) < (↑(List.length (snR l)) : Int))) = true) :: ((idxOk (↑k : Int) (List.length (snR l))) = true) :: ((nth (snR l) (Int.toNat (↑k : Int))) = (Option.some (snC s))) :: ((s.n == q.n) = true) :: ((ar IntKind.i64 ((↑k : Int) + 1)) = (iN (k + 1))) :: []) := by kernel_rfl
set_option maxRecDepth 1000000 in
theorem xrm1 (xs ys : List (List DV)) (q : Sn) (j : Int) (a b : Bool) (v v2 v3 : Int) (a2 b2 : Bool) (l : List Sn) (k : Nat) (s : Sn) : zgm [0, 1, 2, 3] [] (zsee Try.prog tab ftab cOv kIf [0, 1, 7, 8] ifL (ifS (.fn fRc [] [.ptr 1 0, .ptr 0 0, .ptr 2 0, .ptr 3 0]) l k) (hRv xs q j a b v) [(9, .b true), (14, .n (.fptr (snC s))), (16, .c [(12, .b false), (17, .b true)]), (18, .w (iN (k + 1)))]) = some (Ex.normal, (ifS (.fn fRc [] [.ptr 1 0, .ptr 0 0, .ptr 2 0, .ptr 3 0]) l (k + 1)), ((hRv xs q j a b v)), (FlatIn [] ((hRv xs q j a b v))) :: ((decide ((↑k : Int) < (↑(List.length (snR l)) : Int))) = true) :: ((idxOk (↑k : Int) (List.length (snR l))) = true) :: ((nth (snR l) (Int.toNat (↑k : Int))) = (Option.some (snC s))) :: ((s.n == q.n) = false) :: ((!ovB q s) = true) :: ((ar IntKind.i64 ((↑k : Int) + 1)) = (iN (k + 1))) :: []) := by kernel_rfl
set_option maxRecDepth 1000000 in
theorem xrm2 (xs ys : List (List DV)) (q : Sn) (j : Int) (a b : Bool) (v v2 v3 : Int) (a2 b2 : Bool) (l : List Sn) (k : Nat) (s : Sn) : zgm [0, 1, 2, 3] [] (zsee Try.prog tab ftab cOv kIf [0, 1, 7, 8] ifL (ifS (.fn fRc [] [.ptr 1 0, .ptr 0 0, .ptr 2 0, .ptr 3 0]) l k) (hRv xs q j a b v) [(9, .b true), (14, .n (.fptr (snC s))), (16, .c [(12, .b false), (17, .b false), (22, .n (.fptr [.list 3 ys])), (25, .n (.fptr (lk3 a2 b2 v2))), (30, .b false), (33, .b false)]), (18, .w (iN (k + 1)))]) = some (Ex.normal, (ifS (.fn fRc [] [.ptr 1 0, .ptr 0 0, .ptr 2 0, .ptr 3 0]) l (k + 1)), ((hRv xs q j a b v)), (FlatIn [] ((hRv xs q j a b v))) :: ((decide ((↑k : Int) < (↑(List.length (snR l)) : Int))) = true) :: ((idxOk (↑k : Int) (List.length (snR l))) = true) :: ((nth (snR l) (Int.toNat (↑k : Int))) = (Option.some (snC s))) :: ((s.n == q.n) = false) :: ((!ovB q s) = false) :: ((idxOk s.n (List.length xs)) = true) :: ((nth (xs) (Int.toNat s.n)) = (Option.some [(DV.list 3 ys)])) :: ((idxOk j (List.length ys)) = true) :: ((nth ys (Int.toNat j)) = (Option.some [(DV.bool a2), (DV.bool b2), (DV.int (IntKind.i64) v2)])) :: ((s.n == j) = false) :: (a2 = false) :: ((ar IntKind.i64 ((↑k : Int) + 1)) = (iN (k + 1))) :: []) := by kernel_rfl
set_option maxRecDepth 1000000 in
theorem xrm3 (xs ys : List (List DV)) (q : Sn) (j : Int) (a b : Bool) (v v2 v3 : Int) (a2 b2 : Bool) (l : List Sn) (k : Nat) (s : Sn) : zgm [0, 1, 2, 3] [] (zsee Try.prog tab ftab cOv kIf [0, 1, 7, 8] ifL (ifS (.fn fRc [] [.ptr 1 0, .ptr 0 0, .ptr 2 0, .ptr 3 0]) l k) (hRv xs q j a b v) [(9, .b true), (14, .n (.fptr (snC s))), (16, .c [(12, .b false), (17, .b false), (22, .n (.fptr [.list 3 ys])), (25, .n (.fptr (lk3 a2 b2 v2))), (30, .b false), (33, .b true), (39, .w (iI v3)), (40, .b false)]), (18, .w (iN (k + 1)))]) = some (Ex.normal, (ifS (.fn fRc [] [.ptr 1 0, .ptr 0 0, .ptr 2 0, .ptr 3 0]) l (k + 1)), ((hRv xs q j a b v)), (FlatIn [] ((hRv xs q j a b v))) :: ((decide ((↑k : Int) < (↑(List.length (snR l)) : Int))) = true) :: ((idxOk (↑k : Int) (List.length (snR l))) = true) :: ((nth (snR l) (Int.toNat (↑k : Int))) = (Option.some (snC s))) :: ((s.n == q.n) = false) :: ((!ovB q s) = false) :: ((idxOk s.n (List.length xs)) = true) :: ((nth (xs) (Int.toNat s.n)) = (Option.some [(DV.list 3 ys)])) :: ((idxOk j (List.length ys)) = true) :: ((nth ys (Int.toNat j)) = (Option.some [(DV.bool a2), (DV.bool b2), (iI v2)])) :: ((s.n == j) = false) :: (a2 = true) :: ((ar IntKind.i64 (v2 + 100)) = (iI v3)) :: ((decide (v < v3)) = false) :: ((ar IntKind.i64 ((↑k : Int) + 1)) = (iN (k + 1))) :: []) := by kernel_rfl
set_option maxRecDepth 1000000 in
theorem xrh0 (xs ys : List (List DV)) (q : Sn) (j : Int) (a b : Bool) (v v2 v3 : Int) (a2 b2 : Bool) (l : List Sn) (k : Nat) (s : Sn) : zgm [0, 1, 2, 3] [] (zsee Try.prog tab ftab cOv kIf [4] ifL (ifS (.fn fRc [] [.ptr 1 0, .ptr 0 0, .ptr 2 0, .ptr 3 0]) l k) (hRv xs q j a b v) [(9, .b true), (14, .n (.fptr (snC s))), (16, .c [(12, .b false), (17, .b false), (22, .n (.fptr [.list 3 ys])), (25, .n (.fptr (lk3 a2 b2 v2))), (30, .b true)])]) = some (Ex.ret, (mkT 19 [(4, (DV.int IntKind.i64 (↑k : Int)))]), ((hRv xs q j a b v)), (FlatIn [] ((hRv xs q j a b v))) :: ((decide ((↑k : Int) < (↑(List.length (snR l)) : Int))) = true) :: ((idxOk (↑k : Int) (List.length (snR l))) = true) :: ((nth (snR l) (Int.toNat (↑k : Int))) = (Option.some (snC s))) :: ((s.n == q.n) = false) :: ((!ovB q s) = false) :: ((idxOk s.n (List.length xs)) = true) :: ((nth (xs) (Int.toNat s.n)) = (Option.some [(DV.list 3 ys)])) :: ((idxOk j (List.length ys)) = true) :: ((nth ys (Int.toNat j)) = (Option.some [(DV.bool a2), (DV.bool b2), (DV.int (IntKind.i64) v2)])) :: ((s.n == j) = true) :: []) := by kernel_rfl
set_option maxRecDepth 1000000 in
theorem xrh1 (xs ys : List (List DV)) (q : Sn) (j : Int) (a b : Bool) (v v2 v3 : Int) (a2 b2 : Bool) (l : List Sn) (k : Nat) (s : Sn) : zgm [0, 1, 2, 3] [] (zsee Try.prog tab ftab cOv kIf [4] ifL (ifS (.fn fRc [] [.ptr 1 0, .ptr 0 0, .ptr 2 0, .ptr 3 0]) l k) (hRv xs q j a b v) [(9, .b true), (14, .n (.fptr (snC s))), (16, .c [(12, .b false), (17, .b false), (22, .n (.fptr [.list 3 ys])), (25, .n (.fptr (lk3 a2 b2 v2))), (30, .b false), (33, .b true), (39, .w (iI v3)), (40, .b true)])]) = some (Ex.ret, (mkT 19 [(4, (DV.int IntKind.i64 (↑k : Int)))]), ((hRv xs q j a b v)), (FlatIn [] ((hRv xs q j a b v))) :: ((decide ((↑k : Int) < (↑(List.length (snR l)) : Int))) = true) :: ((idxOk (↑k : Int) (List.length (snR l))) = true) :: ((nth (snR l) (Int.toNat (↑k : Int))) = (Option.some (snC s))) :: ((s.n == q.n) = false) :: ((!ovB q s) = false) :: ((idxOk s.n (List.length xs)) = true) :: ((nth (xs) (Int.toNat s.n)) = (Option.some [(DV.list 3 ys)])) :: ((idxOk j (List.length ys)) = true) :: ((nth ys (Int.toNat j)) = (Option.some [(DV.bool a2), (DV.bool b2), (iI v2)])) :: ((s.n == j) = false) :: (a2 = true) :: ((ar IntKind.i64 (v2 + 100)) = (iI v3)) :: ((decide (v < v3)) = true) :: []) := by kernel_rfl
set_option maxRecDepth 1000000 in
theorem xrO (xs ys : List (List DV)) (q : Sn) (j : Int) (a b : Bool) (v v2 v3 : Int) (a2 b2 : Bool) (l : List Sn) (k : Nat) : zsee Try.prog tab ftab noC kIf [] ifL (ifS (.fn fRc [] [.ptr 1 0, .ptr 0 0, .ptr 2 0, .ptr 3 0]) l k) (hRv xs q j a b v) [(9, .b false)] = some ((Ex.exit 0), (mkT 19 []), ((hRv xs q j a b v)), ((decide ((↑k : Int) < (↑(List.length (snR l)) : Int))) = false) :: []) := by kernel_rfl
set_option maxRecDepth 1000000 in
theorem xra (xs ys : List (List DV)) (q : Sn) (j : Int) (a b : Bool) (v v2 v3 : Int) (a2 b2 : Bool) (l : List Sn) (k : Nat) : zansH Try.prog tab ftab noC fIf [snL l, (.fn fRc [] [.ptr 1 0, .ptr 0 0, .ptr 2 0, .ptr 3 0])] (hRv xs q j a b v) [(0, .l [0, 1, 7, 8] .ret (mkT 19 [(4, iN k)]) (hRv xs q j a b v))] = some ((DV.int (IntKind.i64) ((↑k : Int))), ((hRv xs q j a b v)), (Goes (Try.prog) tab (kIf) (Go.Code.loop (ifL)) (ifS (.fn fRc [] [.ptr 1 0, .ptr 0 0, .ptr 2 0, .ptr 3 0]) l 0) ((hRv xs q j a b v)) (Ex.ret) (mkT 19 [(4, (DV.int (IntKind.i64) ((↑k : Int))))]) ((hRv xs q j a b v))) :: []) := by kernel_rfl
set_option maxRecDepth 1000000 in
theorem xrb (xs ys : List (List DV)) (q : Sn) (j : Int) (a b : Bool) (v v2 v3 : Int) (a2 b2 : Bool) (l : List Sn) : zansH Try.prog tab ftab noC fIf [snL l, (.fn fRc [] [.ptr 1 0, .ptr 0 0, .ptr 2 0, .ptr 3 0])] (hRv xs q j a b v) [(0, .l [0, 1, 7, 8] (.exit 0) (mkT 19 []) (hRv xs q j a b v))] = some ((DV.int (IntKind.i64) (-1)), ((hRv xs q j a b v)), (Goes (Try.prog) tab (kIf) (Go.Code.loop (ifL)) (ifS (.fn fRc [] [.ptr 1 0, .ptr 0 0, .ptr 2 0, .ptr 3 0]) l 0) ((hRv xs q j a b v)) (Ex.exit 0) (mkT 19 []) ((hRv xs q j a b v))) :: []) := by kernel_rfl
set_option maxRecDepth 1000000 in
theorem xrc (xs ys : List (List DV)) (q : Sn) (j : Int) (a b : Bool) (v v2 v3 : Int) (a2 b2 : Bool) (l : List Sn) (vv : Int) : zansH Try.prog tab ftab noC fCf [snL l, (.fn fRc [] [.ptr 1 0, .ptr 0 0, .ptr 2 0, .ptr 3 0])] (hRv xs q j a b v) [(60001, .t 2 [] (iI vv) (hRv xs q j a b v))] = some ((DV.bool (decide (vv ≥ 0))), ((hRv xs q j a b v)), (AnsH (Try.prog) 40 [(snL l), (DV.fn fRc [] [DV.ptr 1 0, DV.ptr 0 0, DV.ptr 2 0, DV.ptr 3 0])] ((hRv xs q j a b v)) (iI vv) ((hRv xs q j a b v))) :: []) := by kernel_rfl
set_option maxRecDepth 1000000 in
theorem yb0 (xs l ys : List (List DV)) (s : Sn) (j v : Int) (a b : Bool) : zflat (zans Try.prog tab ftab noC fRb [.list 1 xs, .list 4 l, snD s, iI j] [(13, .n (.fptr [.list 3 ys])), (16, .n (.fptr (lk3 a b v))), (20, .b true)]) = some ((DV.bool false), ((idxOk s.n (List.length xs)) = true) :: ((nth (xs) (Int.toNat s.n)) = (Option.some [(DV.list 3 ys)])) :: ((idxOk j (List.length ys)) = true) :: ((nth ys (Int.toNat j)) = (Option.some [(DV.bool a), (DV.bool b), (iI v)])) :: ((!b) = true) :: []) := by kernel_rfl
set_option maxRecDepth 1000000 in
theorem yb1 (xs l ys : List (List DV)) (s : Sn) (j v : Int) (a b : Bool) : zflat (zans Try.prog tab ftab noC fRb [.list 1 xs, .list 4 l, snD s, iI j] [(13, .n (.fptr [.list 3 ys])), (16, .n (.fptr (lk3 a b v))), (20, .b false), (26, .b true)]) = some ((DV.bool false), ((idxOk s.n (List.length xs)) = true) :: ((nth (xs) (Int.toNat s.n)) = (Option.some [(DV.list 3 ys)])) :: ((idxOk j (List.length ys)) = true) :: ((nth ys (Int.toNat j)) = (Option.some [(DV.bool a), (DV.bool b), (iI v)])) :: ((!b) = false) :: ((decide (v < s.d)) = true) :: []) := by kernel_rfl
set_option maxRecDepth 1000000 in
theorem yb2 (xs l ys : List (List DV)) (s : Sn) (j v : Int) (a b : Bool) (q : Bool) : zflat (zans Try.prog tab ftab noC fRb [.list 1 xs, .list 4 l, snD s, iI j] [(13, .n (.fptr [.list 3 ys])), (16, .n (.fptr (lk3 a b v))), (20, .b false), (26, .b false), (60004, .t 2 [] (.bool q) (hRv xs s j a b v))]) = some ((DV.bool (!q)), ((idxOk s.n (List.length xs)) = true) :: ((nth (xs) (Int.toNat s.n)) = (Option.some [(DV.list 3 ys)])) :: ((idxOk j (List.length ys)) = true) :: ((nth ys (Int.toNat j)) = (Option.some [(DV.bool a), (DV.bool b), (iI v)])) :: ((!b) = false) :: ((decide (v < s.d)) = false) :: (AnsH (Try.prog) 37 [(DV.list 4 l), (DV.fn 63 [] [(DV.ptr 1 0), (DV.ptr 0 0), (DV.ptr 2 0), (DV.ptr 3 0)])] (hRv xs s j a b v) (DV.bool q) (hRv xs s j a b v)) :: []) := by kernel_rfl
theorem lv_in {w : Wd} (va : Va w) {i j : Int} (hi : Nd w i) (hj : Nd w j) : -1900 ≤ lv w i j ∧ lv w i j ≤ 300 := by
  have := l0_in va hi hj
  unfold lv
  by_cases h0 : w.s.length = 0
  · rw [decide_eq_true h0]
    dsimp only
    omega
  · rw [decide_eq_false h0]
    have := va.sI_in h0 hi hj
    dsimp only
    omega
theorem xr_go (w : Wd) (va : Va w) (L : List Sn) (hc : chB w L = true) (q : Sn) (hq : q ∈ L) (j : Int) (hj : Nd w j) (l : List Sn) (hs : ∀ k, k < l.length → l.getD k sn0 ∈ L) (hl : l.length < 2 ^ 62) (k : Nat) (hk : k < l.length) (hh : (!(kbB w q j) (l.getD k sn0)) = true) : Goes Try.prog tab kIf ifL (ifS (.fn fRc [] [.ptr 1 0, .ptr 0 0, .ptr 2 0, .ptr 3 0]) l k) (hRv (frL w L) q j ((rI w q.n).c == (rI w j).c) (hr w j q.n) (lv w q.n j)) .normal (ifS (.fn fRc [] [.ptr 1 0, .ptr 0 0, .ptr 2 0, .ptr 3 0]) l (k + 1)) (hRv (frL w L) q j ((rI w q.n).c == (rI w j).c) (hr w j q.n) (lv w q.n j)) := by
  have e := snR_length l
  have hh : (kbB w q j) (l.getD k sn0) = false := by simpa using hh
  have hm := hs k hk
  have f := frL_at hc hm
  have g := lkL_at w (l.getD k sn0).n hj
  have hi := (chB_in hc hm).1
  have hl := lv_in va (i := (l.getD k sn0).n) (j := j) ⟨hi.1, hi.2⟩ hj
  have hw : DV.int .i64 (IntKind.i64.wrap (lv w (l.getD k sn0).n j + 100)) = iI (lv w (l.getD k sn0).n j + 100) := congrArg (DV.int .i64) (wrapZ (x := lv w (l.getD k sn0).n j + 100) (by omega) (by omega))
  unfold kbB at hh
  cases h1 : (l.getD k sn0).n == q.n with
  | true => exact zgm_ok tab_ok mixed fun_ok cOv_ok (xrm0 (frL w L) (lkL w (l.getD k sn0).n) q j ((rI w q.n).c == (rI w j).c) (hr w j q.n) (lv w q.n j) (lv w (l.getD k sn0).n j) (lv w (l.getD k sn0).n j + 100) ((rI w (l.getD k sn0).n).c == (rI w j).c) (hr w j (l.getD k sn0).n) l k (l.getD k sn0)) (.cons (flatIn_nil _) (.cons (decide_eq_true (by omega)) (.cons (idxOk_lt (by omega)) (.cons (snR_get (by omega)) (.cons h1 (.cons (wrK_at (by omega)) .nil))))))
  | false =>
    rw [h1] at hh
    cases h2 : ovB q (l.getD k sn0) with
    | false => exact zgm_ok tab_ok mixed fun_ok cOv_ok (xrm1 (frL w L) (lkL w (l.getD k sn0).n) q j ((rI w q.n).c == (rI w j).c) (hr w j q.n) (lv w q.n j) (lv w (l.getD k sn0).n j) (lv w (l.getD k sn0).n j + 100) ((rI w (l.getD k sn0).n).c == (rI w j).c) (hr w j (l.getD k sn0).n) l k (l.getD k sn0)) (.cons (flatIn_nil _) (.cons (decide_eq_true (by omega)) (.cons (idxOk_lt (by omega)) (.cons (snR_get (by omega)) (.cons h1 (.cons (ntf h2) (.cons (wrK_at (by omega)) .nil)))))))
    | true =>
      rw [h2] at hh
      cases h3 : (l.getD k sn0).n == j with
      | true => (rw [h3] at hh; cases hh)
      | false =>
        rw [h3] at hh
        cases h4 : (rI w (l.getD k sn0).n).c == (rI w j).c with
        | false => (rw [h4] at g; exact zgm_ok tab_ok mixed fun_ok cOv_ok (xrm2 (frL w L) (lkL w (l.getD k sn0).n) q j ((rI w q.n).c == (rI w j).c) (hr w j q.n) (lv w q.n j) (lv w (l.getD k sn0).n j) (lv w (l.getD k sn0).n j + 100) false (hr w j (l.getD k sn0).n) l k (l.getD k sn0)) (.cons (flatIn_nil _) (.cons (decide_eq_true (by omega)) (.cons (idxOk_lt (by omega)) (.cons (snR_get (by omega)) (.cons h1 (.cons (nt h2) (.cons f.1 (.cons f.2 (.cons g.1 (.cons g.2 (.cons h3 (.cons rfl (.cons (wrK_at (by omega)) .nil))))))))))))))
        | true =>
          rw [h4] at hh
          exact (by rw [h4] at g; exact zgm_ok tab_ok mixed fun_ok cOv_ok (xrm3 (frL w L) (lkL w (l.getD k sn0).n) q j ((rI w q.n).c == (rI w j).c) (hr w j q.n) (lv w q.n j) (lv w (l.getD k sn0).n j) (lv w (l.getD k sn0).n j + 100) true (hr w j (l.getD k sn0).n) l k (l.getD k sn0)) (.cons (flatIn_nil _) (.cons (decide_eq_true (by omega)) (.cons (idxOk_lt (by omega)) (.cons (snR_get (by omega)) (.cons h1 (.cons (nt h2) (.cons f.1 (.cons f.2 (.cons g.1 (.cons g.2 (.cons h3 (.cons rfl (.cons hw (.cons hh (.cons (wrK_at (by omega)) .nil))))))))))))))))
theorem xr_hit (w : Wd) (va : Va w) (L : List Sn) (hc : chB w L = true) (q : Sn) (hq : q ∈ L) (j : Int) (hj : Nd w j) (l : List Sn) (hs : ∀ k, k < l.length → l.getD k sn0 ∈ L) (k : Nat) (hk : k < l.length) (hh : (!(kbB w q j) (l.getD k sn0)) = false) : Goes Try.prog tab kIf ifL (ifS (.fn fRc [] [.ptr 1 0, .ptr 0 0, .ptr 2 0, .ptr 3 0]) l k) (hRv (frL w L) q j ((rI w q.n).c == (rI w j).c) (hr w j q.n) (lv w q.n j)) .ret (mkT 19 [(4, iN k)]) (hRv (frL w L) q j ((rI w q.n).c == (rI w j).c) (hr w j q.n) (lv w q.n j)) := by
  have e := snR_length l
  have hh : (kbB w q j) (l.getD k sn0) = true := by simpa using hh
  have hm := hs k hk
  have f := frL_at hc hm
  have g := lkL_at w (l.getD k sn0).n hj
  have hi := (chB_in hc hm).1
  have hl := lv_in va (i := (l.getD k sn0).n) (j := j) ⟨hi.1, hi.2⟩ hj
  have hw : DV.int .i64 (IntKind.i64.wrap (lv w (l.getD k sn0).n j + 100)) = iI (lv w (l.getD k sn0).n j + 100) := congrArg (DV.int .i64) (wrapZ (x := lv w (l.getD k sn0).n j + 100) (by omega) (by omega))
  unfold kbB at hh
  cases h1 : (l.getD k sn0).n == q.n with
  | true => (rw [h1] at hh; cases hh)
  | false =>
    rw [h1] at hh
    cases h2 : ovB q (l.getD k sn0) with
    | false => (rw [h2] at hh; cases hh)
    | true =>
      rw [h2] at hh
      cases h3 : (l.getD k sn0).n == j with
      | true => exact zgm_ok tab_ok mixed fun_ok cOv_ok (xrh0 (frL w L) (lkL w (l.getD k sn0).n) q j ((rI w q.n).c == (rI w j).c) (hr w j q.n) (lv w q.n j) (lv w (l.getD k sn0).n j) (lv w (l.getD k sn0).n j + 100) ((rI w (l.getD k sn0).n).c == (rI w j).c) (hr w j (l.getD k sn0).n) l k (l.getD k sn0)) (.cons (flatIn_nil _) (.cons (decide_eq_true (by omega)) (.cons (idxOk_lt (by omega)) (.cons (snR_get (by omega)) (.cons h1 (.cons (nt h2) (.cons f.1 (.cons f.2 (.cons g.1 (.cons g.2 (.cons h3 .nil)))))))))))
      | false =>
        rw [h3] at hh
        cases h4 : (rI w (l.getD k sn0).n).c == (rI w j).c with
        | false => (rw [h4] at hh; cases hh)
        | true =>
          rw [h4] at hh
          exact (by rw [h4] at g; exact zgm_ok tab_ok mixed fun_ok cOv_ok (xrh1 (frL w L) (lkL w (l.getD k sn0).n) q j ((rI w q.n).c == (rI w j).c) (hr w j q.n) (lv w q.n j) (lv w (l.getD k sn0).n j) (lv w (l.getD k sn0).n j + 100) true (hr w j (l.getD k sn0).n) l k (l.getD k sn0)) (.cons (flatIn_nil _) (.cons (decide_eq_true (by omega)) (.cons (idxOk_lt (by omega)) (.cons (snR_get (by omega)) (.cons h1 (.cons (nt h2) (.cons f.1 (.cons f.2 (.cons g.1 (.cons g.2 (.cons h3 (.cons rfl (.cons hw (.cons hh .nil)))))))))))))))
theorem xr_if (w : Wd) (va : Va w) (L : List Sn) (hc : chB w L = true) (q : Sn) (hq : q ∈ L) (j : Int) (hj : Nd w j) (l : List Sn) (hs : ∀ k, k < l.length → l.getD k sn0 ∈ L) (hl : l.length < 2 ^ 62) : AnsH Try.prog fIf [snL l, (.fn fRc [] [.ptr 1 0, .ptr 0 0, .ptr 2 0, .ptr 3 0])] (hRv (frL w L) q j ((rI w q.n).c == (rI w j).c) (hr w j q.n) (lv w q.n j)) (iI (ifV (kbB w q j) l)) (hRv (frL w L) q j ((rI w q.n).c == (rI w j).c) (hr w j q.n) (lv w q.n j)) := by
  have e := snR_length l
  unfold ifV
  cases hf : fst (fun k => !(kbB w q j) (l.getD k sn0)) l.length with
  | some k =>
    have hk := (fst_some hf).1
    exact zansH_ok tab_ok mixed fun_ok noC_ok (xra (frL w L) [] q j ((rI w q.n).c == (rI w j).c) (hr w j q.n) (lv w q.n j) 0 0 false false l k) (.cons (scan_s (S := ifS (.fn fRc [] [.ptr 1 0, .ptr 0 0, .ptr 2 0, .ptr 3 0]) l) (by intro h; cases h) hf (xr_go w va L hc q hq j hj l hs hl) fun hh => xr_hit w va L hc q hq j hj l hs k hk hh) .nil)
  | none => exact zansH_ok tab_ok mixed fun_ok noC_ok (xrb (frL w L) [] q j ((rI w q.n).c == (rI w j).c) (hr w j q.n) (lv w q.n j) 0 0 false false l) (.cons (scan_t (S := ifS (.fn fRc [] [.ptr 1 0, .ptr 0 0, .ptr 2 0, .ptr 3 0]) l) (by intro h; cases h) (xr_go w va L hc q hq j hj l hs hl) (zsee_ok tab_ok mixed fun_ok noC_ok (xrO (frL w L) [] q j ((rI w q.n).c == (rI w j).c) (hr w j q.n) (lv w q.n j) 0 0 false false l l.length) (.cons (decide_eq_false (by omega)) .nil)) (fst_none hf)) .nil)
theorem xr_cf (w : Wd) (va : Va w) (L : List Sn) (hc : chB w L = true) (q : Sn) (hq : q ∈ L) (j : Int) (hj : Nd w j) (l : List Sn) (hs : ∀ k, k < l.length → l.getD k sn0 ∈ L) (hl : l.length < 2 ^ 62) : AnsH Try.prog fCf [snL l, (.fn fRc [] [.ptr 1 0, .ptr 0 0, .ptr 2 0, .ptr 3 0])] (hRv (frL w L) q j ((rI w q.n).c == (rI w j).c) (hr w j q.n) (lv w q.n j)) (.bool (decide (ifV (kbB w q j) l ≥ 0))) (hRv (frL w L) q j ((rI w q.n).c == (rI w j).c) (hr w j q.n) (lv w q.n j)) :=
  zansH_ok tab_ok mixed fun_ok noC_ok (xrc (frL w L) [] q j ((rI w q.n).c == (rI w j).c) (hr w j q.n) (lv w q.n j) 0 0 false false l (ifV (kbB w q j) l)) (.cons (xr_if w va L hc q hq j hj l hs hl) .nil)
theorem rb_ans (w : Wd) (l : List Sn) (hc : chB w l = true) (s : Sn) (hs : s ∈ l) (j : Int) (hj : Nd w j) : Ans Try.prog fRb [.list 1 (frL w l), snL l, snD s, iI j] (.bool (rcvB w l s j)) ⟨0, [], []⟩ := by
  have va := (va_iff w).1 (chB_ok hc).1
  have n := chB_len hc
  have f := frL_at hc hs
  have g := lkL_at w s.n hj
  unfold rcvB
  cases h1 : hr w j s.n with
  | false =>
    rw [h1] at g
    exact zflat_ok tab_ok mixed fun_ok noC_ok (yb0 (frL w l) (snR l) (lkL w s.n) s j (lv w s.n j) _ false) (.cons f.1 (.cons f.2 (.cons g.1 (.cons g.2 (.cons rfl .nil)))))
  | true =>
    rw [h1] at g
    by_cases h2 : lv w s.n j < s.d
    · rw [decide_eq_true h2]
      exact zflat_ok tab_ok mixed fun_ok noC_ok (yb1 (frL w l) (snR l) (lkL w s.n) s j (lv w s.n j) _ true) (.cons f.1 (.cons f.2 (.cons g.1 (.cons g.2 (.cons rfl (.cons (decide_eq_true (by omega)) .nil))))))
    · rw [decide_eq_false h2]
      have c := xr_cf w va l hc s hs j hj l (fun k hk => getD_mem hk) (by omega)
      rw [h1] at c
      exact zflat_ok tab_ok mixed fun_ok noC_ok (yb2 (frL w l) (snR l) (lkL w s.n) s j (lv w s.n j) _ true _) (.cons f.1 (.cons f.2 (.cons g.1 (.cons g.2 (.cons rfl (.cons (decide_eq_false (by omega)) (.cons c .nil)))))))
end
end Go.Proofs.Ytgjgihlfkpbdgaa
