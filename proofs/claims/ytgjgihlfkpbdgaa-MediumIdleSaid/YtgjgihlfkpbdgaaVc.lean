/- Check of both sides, Asked: contracts. -/
import Derived.Test.YtgjgihlfkpbdgaaVb
namespace Go.Proofs.Ytgjgihlfkpbdgaa
open Go.RowKit

noncomputable section
def chM (w : Wd) (l : List Sn) : Int := match chk w with
  | true => match valB l w.r.length with
    | true => 0
    | false => 8
  | false => 8
abbrev fMk : FuncId := 12
abbrev fRm : FuncId := 22
structure OkL (l : List Sn) : Prop where
  n : l.length < 2 ^ 63
set_option maxRecDepth 1000000 in
theorem mk1 (C : ConF) (w : Wd) (l : List Sn) : zflat (zans Try.prog tab ftab C fMk [wdD w, snL l] [(7, .q (iI 8))]) = some ((DV.int (IntKind.i64) 8), ((C 34 [(DV.agg (List.take 2 (List.drop 0 (wdC w))))] (hW w)) = (Option.some ((iI 8), (hW w), Option.none))) :: []) := by kernel_rfl
set_option maxRecDepth 1000000 in
theorem mk2 (C : ConF) (w : Wd) (l : List Sn) : zflat (zans Try.prog tab ftab C fMk [wdD w, snL l] [(7, .q (iI 0)), (15, .q (.bool false))]) = some ((DV.int (IntKind.i64) 8), ((C 34 [(DV.agg (List.take 2 (List.drop 0 (wdC w))))] (hW w)) = (Option.some ((iI 0), (hW w), Option.none))) :: ((C 35 [(snL l), (DV.int (IntKind.i64) ((↑(List.length (rsR w.r)) : Int)))] (hW w)) = (Option.some ((DV.bool false), (hW w), Option.none))) :: []) := by kernel_rfl
set_option maxRecDepth 1000000 in
theorem mk3 (C : ConF) (w : Wd) (l : List Sn) : zflat (zans Try.prog tab ftab C fMk [wdD w, snL l] [(7, .q (iI 0)), (15, .q (.bool true))]) = some ((DV.int (IntKind.i64) 0), ((C 34 [(DV.agg (List.take 2 (List.drop 0 (wdC w))))] (hW w)) = (Option.some ((iI 0), (hW w), Option.none))) :: ((C 35 [(snL l), (DV.int (IntKind.i64) ((↑(List.length (rsR w.r)) : Int)))] (hW w)) = (Option.some ((DV.bool true), (hW w), Option.none))) :: []) := by kernel_rfl
theorem mk_ans (w : Wd) (ok : OkW w) (l : List Sn) (hl : l.length < 2 ^ 63) : Ans Try.prog fMk [wdD w, snL l] (iI (chM w l)) ⟨0, [], []⟩ := by
  have a := ck_ans w ok
  have b := val_ans l w.r.length hl
  have e := rsR_length w.r
  rw [← e] at b
  unfold chM
  cases hc : chk w with
  | false =>
    rw [chE_f hc] at a
    exact zflat_ok tab_ok mixed fun_ok (calC_ok a) (mk1 _ w l) (.cons (calC_at _ rfl rfl) .nil)
  | true =>
    rw [chE_t hc] at a
    dsimp only
    cases hv : valB l w.r.length with
    | false =>
      rw [e, hv, ← e] at b
      exact zflat_ok tab_ok mixed fun_ok (orK_ok (calC_ok a) (calC_ok b)) (mk2 _ w l) (.cons (orK_left (calC_at _ rfl rfl)) (.cons (orK_right (calC_oth (by kernel_rfl)) (calC_at _ rfl rfl)) .nil))
    | true =>
      rw [e, hv, ← e] at b
      exact zflat_ok tab_ok mixed fun_ok (orK_ok (calC_ok a) (calC_ok b)) (mk3 _ w l) (.cons (orK_left (calC_at _ rfl rfl)) (.cons (orK_right (calC_oth (by kernel_rfl)) (calC_at _ rfl rfl)) .nil))
/-! ### the reference's Check -/
abbrev kRm : List (Nat × Nat) := ksF ftab fRm
abbrev rmL : Code := loopAt (bodyOf ftab fRm) 0
abbrev rmI : Code := loopAt rmL 0
def cIO : ConF := orK cIn cRov
theorem cIO_ok : ConOk Try.prog cIO := orK_ok cIn_ok cRov_ok
abbrev oSn (s : Sn) : Ob := ⟨0, 0, 32, snC s⟩
abbrev hR1 (w : Wd) (s : Sn) : Hp := ⟨2, [oSn s, oW w], []⟩
abbrev rmS (l : List Sn) (i : Nat) : Slots := mkT 79 [(1, snL l), (2, .ptr 0 0), (6, iN i)]
abbrev rmJ (l : List Sn) (i j : Nat) : Slots := mkT 79 [(1, snL l), (2, .ptr 0 0), (6, iN i), (7, .ptr 1 0), (8, iN j)]
set_option maxRecDepth 1000000 in
theorem xb0 (w : Wd) (l : List Sn) (i j : Nat) (s t : Sn) : zgm [0] [] (zsee Try.prog tab ftab cIO kRm [4] rmL (rmS l i) (hW w) [(20, .b true), (25, .n (.fptr (snC s))), (32, .w (iI (((rsR w.r).length : Int) - 1))), (34, .b true)]) = some (Ex.ret, (mkT 79 [(4, (DV.int IntKind.i64 8))]), (hW w), (FlatIn [] (Hp.mk 2 [(Ob.mk 0 0 32 (snC s)), (Ob.mk 0 0 25 (wdC w))] [])) :: ((decide ((↑i : Int) < (↑(List.length (snR l)) : Int))) = true) :: ((idxOk (↑i : Int) (List.length (snR l))) = true) :: ((nth (snR l) (Int.toNat (↑i : Int))) = (Option.some (snC s))) :: ((ar IntKind.i64 ((↑(List.length (rsR w.r)) : Int) - 1)) = (iI ((↑(List.length (rsR w.r)) : Int) - 1))) :: ((!inB s.n 0 ((↑(List.length (rsR w.r)) : Int) - 1)) = true) :: []) := by kernel_rfl
set_option maxRecDepth 1000000 in
theorem xb1 (w : Wd) (l : List Sn) (i j : Nat) (s t : Sn) : zgm [0] [] (zsee Try.prog tab ftab cIO kRm [4] rmL (rmS l i) (hW w) [(20, .b true), (25, .n (.fptr (snC s))), (32, .w (iI (((rsR w.r).length : Int) - 1))), (34, .b false), (38, .b true)]) = some (Ex.ret, (mkT 79 [(4, (DV.int IntKind.i64 8))]), (hW w), (FlatIn [] (Hp.mk 2 [(Ob.mk 0 0 32 (snC s)), (Ob.mk 0 0 25 (wdC w))] [])) :: ((decide ((↑i : Int) < (↑(List.length (snR l)) : Int))) = true) :: ((idxOk (↑i : Int) (List.length (snR l))) = true) :: ((nth (snR l) (Int.toNat (↑i : Int))) = (Option.some (snC s))) :: ((ar IntKind.i64 ((↑(List.length (rsR w.r)) : Int) - 1)) = (iI ((↑(List.length (rsR w.r)) : Int) - 1))) :: ((!inB s.n 0 ((↑(List.length (rsR w.r)) : Int) - 1)) = false) :: ((decide (s.a < 0)) = true) :: []) := by kernel_rfl
set_option maxRecDepth 1000000 in
theorem xb2 (w : Wd) (l : List Sn) (i j : Nat) (s t : Sn) : zgm [0] [] (zsee Try.prog tab ftab cIO kRm [4] rmL (rmS l i) (hW w) [(20, .b true), (25, .n (.fptr (snC s))), (32, .w (iI (((rsR w.r).length : Int) - 1))), (34, .b false), (38, .b false), (45, .b true)]) = some (Ex.ret, (mkT 79 [(4, (DV.int IntKind.i64 8))]), (hW w), (FlatIn [] (Hp.mk 2 [(Ob.mk 0 0 32 (snC s)), (Ob.mk 0 0 25 (wdC w))] [])) :: ((decide ((↑i : Int) < (↑(List.length (snR l)) : Int))) = true) :: ((idxOk (↑i : Int) (List.length (snR l))) = true) :: ((nth (snR l) (Int.toNat (↑i : Int))) = (Option.some (snC s))) :: ((ar IntKind.i64 ((↑(List.length (rsR w.r)) : Int) - 1)) = (iI ((↑(List.length (rsR w.r)) : Int) - 1))) :: ((!inB s.n 0 ((↑(List.length (rsR w.r)) : Int) - 1)) = false) :: ((decide (s.a < 0)) = false) :: ((decide (s.a ≥ s.b)) = true) :: []) := by kernel_rfl
set_option maxRecDepth 1000000 in
theorem xb3 (w : Wd) (l : List Sn) (i j : Nat) (s t : Sn) : zgm [0] [] (zsee Try.prog tab ftab cIO kRm [4] rmL (rmS l i) (hW w) [(20, .b true), (25, .n (.fptr (snC s))), (32, .w (iI (((rsR w.r).length : Int) - 1))), (34, .b false), (38, .b false), (45, .b false), (50, .b true)]) = some (Ex.ret, (mkT 79 [(4, (DV.int IntKind.i64 8))]), (hW w), (FlatIn [] (Hp.mk 2 [(Ob.mk 0 0 32 (snC s)), (Ob.mk 0 0 25 (wdC w))] [])) :: ((decide ((↑i : Int) < (↑(List.length (snR l)) : Int))) = true) :: ((idxOk (↑i : Int) (List.length (snR l))) = true) :: ((nth (snR l) (Int.toNat (↑i : Int))) = (Option.some (snC s))) :: ((ar IntKind.i64 ((↑(List.length (rsR w.r)) : Int) - 1)) = (iI ((↑(List.length (rsR w.r)) : Int) - 1))) :: ((!inB s.n 0 ((↑(List.length (rsR w.r)) : Int) - 1)) = false) :: ((decide (s.a < 0)) = false) :: ((decide (s.a ≥ s.b)) = false) :: ((decide (s.b > 1099511627776)) = true) :: []) := by kernel_rfl
set_option maxRecDepth 1000000 in
theorem xb4 (w : Wd) (l : List Sn) (i j : Nat) (s t : Sn) : zgm [0] [] (zsee Try.prog tab ftab cIO kRm [4] rmL (rmS l i) (hW w) [(20, .b true), (25, .n (.fptr (snC s))), (32, .w (iI (((rsR w.r).length : Int) - 1))), (34, .b false), (38, .b false), (45, .b false), (50, .b false), (56, .b true)]) = some (Ex.ret, (mkT 79 [(4, (DV.int IntKind.i64 8))]), (hW w), (FlatIn [] (Hp.mk 2 [(Ob.mk 0 0 32 (snC s)), (Ob.mk 0 0 25 (wdC w))] [])) :: ((decide ((↑i : Int) < (↑(List.length (snR l)) : Int))) = true) :: ((idxOk (↑i : Int) (List.length (snR l))) = true) :: ((nth (snR l) (Int.toNat (↑i : Int))) = (Option.some (snC s))) :: ((ar IntKind.i64 ((↑(List.length (rsR w.r)) : Int) - 1)) = (iI ((↑(List.length (rsR w.r)) : Int) - 1))) :: ((!inB s.n 0 ((↑(List.length (rsR w.r)) : Int) - 1)) = false) :: ((decide (s.a < 0)) = false) :: ((decide (s.a ≥ s.b)) = false) :: ((decide (s.b > 1099511627776)) = false) :: ((!inB s.d (-2000) 2000) = true) :: []) := by kernel_rfl
set_option maxRecDepth 1000000 in
theorem xc1 (w : Wd) (l : List Sn) (i j : Nat) (s t : Sn) : zgm [0] [] (zsee Try.prog tab ftab cIO kRm [4] rmL (rmS l i) (hW w) [(20, .b true), (25, .n (.fptr (snC s))), (32, .w (iI (((rsR w.r).length : Int) - 1))), (34, .b false), (38, .b false), (45, .b false), (50, .b false), (56, .b false), (0, .l [1, 2, 6, 7, 8] .ret (mkT 79 [(4, iI 8)]) (hR1 w s))]) = some ((Ex.ret), (mkT 79 [(4, (DV.int IntKind.i64 8))]), (hW w), (FlatIn [] (hR1 w s)) :: ((decide ((↑i : Int) < (↑(List.length (snR l)) : Int))) = true) :: ((idxOk (↑i : Int) (List.length (snR l))) = true) :: ((nth (snR l) (Int.toNat (↑i : Int))) = (Option.some (snC s))) :: ((ar IntKind.i64 ((↑(List.length (rsR w.r)) : Int) - 1)) = (iI ((↑(List.length (rsR w.r)) : Int) - 1))) :: ((!inB s.n 0 ((↑(List.length (rsR w.r)) : Int) - 1)) = false) :: ((decide (s.a < 0)) = false) :: ((decide (s.a ≥ s.b)) = false) :: ((decide (s.b > 1099511627776)) = false) :: ((!inB s.d (-2000) 2000) = false) :: (Goes Try.prog tab (kRm) (Go.Code.loop (rmI)) (rmJ l i 0) (hR1 w s) (Ex.ret) (mkT 79 [(4, (DV.int (IntKind.i64) 8))]) (hR1 w s)) :: []) := by kernel_rfl
set_option maxRecDepth 1000000 in
theorem xc2 (w : Wd) (l : List Sn) (i j : Nat) (s t : Sn) : zgm [0] [] (zsee Try.prog tab ftab cIO kRm [1, 2, 6] rmL (rmS l i) (hW w) [(20, .b true), (25, .n (.fptr (snC s))), (32, .w (iI (((rsR w.r).length : Int) - 1))), (34, .b false), (38, .b false), (45, .b false), (50, .b false), (56, .b false), (0, .l [1, 2, 6, 7, 8] (.exit 2) (rmS l i) (hR1 w s)), (22, .w (iN (i + 1)))]) = some (Ex.normal, (rmS l (i + 1)), (hW w), (FlatIn [] (hR1 w s)) :: ((decide ((↑i : Int) < (↑(List.length (snR l)) : Int))) = true) :: ((idxOk (↑i : Int) (List.length (snR l))) = true) :: ((nth (snR l) (Int.toNat (↑i : Int))) = (Option.some (snC s))) :: ((ar IntKind.i64 ((↑(List.length (rsR w.r)) : Int) - 1)) = (iI ((↑(List.length (rsR w.r)) : Int) - 1))) :: ((!inB s.n 0 ((↑(List.length (rsR w.r)) : Int) - 1)) = false) :: ((decide (s.a < 0)) = false) :: ((decide (s.a ≥ s.b)) = false) :: ((decide (s.b > 1099511627776)) = false) :: ((!inB s.d (-2000) 2000) = false) :: (Goes Try.prog tab (kRm) (Go.Code.loop (rmI)) (rmJ l i 0) (hR1 w s) (Ex.exit 2) (rmS l i) (hR1 w s)) :: ((ar IntKind.i64 ((↑i : Int) + 1)) = (iN (i + 1))) :: []) := by kernel_rfl
set_option maxRecDepth 1000000 in
theorem xcO (w : Wd) (l : List Sn) (i : Nat) : zsee Try.prog tab ftab noC kRm [] rmL (rmS l i) (hW w) [(20, .b false)] = some ((Ex.exit 0), (mkT 79 []), (hW w), ((decide ((↑i : Int) < (↑(List.length (snR l)) : Int))) = false) :: []) := by kernel_rfl
set_option maxRecDepth 1000000 in
theorem xi1 (w : Wd) (l : List Sn) (i j : Nat) (s t : Sn) : zsee Try.prog tab ftab cIO kRm [1, 2, 6, 7, 8] rmI (rmJ l i j) (hR1 w s) [(60, .b true), (65, .n (.fptr (snC t))), (70, .b false), (62, .w (iN (j + 1)))] = some (Ex.normal, (rmJ l i (j + 1)), (hR1 w s), ((decide ((↑j : Int) < (↑i : Int))) = true) :: ((idxOk (↑j : Int) (List.length (snR l))) = true) :: ((nth (snR l) (Int.toNat (↑j : Int))) = (Option.some (snC t))) :: ((t.n == s.n) = false) :: ((ar IntKind.i64 ((↑j : Int) + 1)) = (iN (j + 1))) :: []) := by kernel_rfl
set_option maxRecDepth 1000000 in
theorem xi2 (w : Wd) (l : List Sn) (i j : Nat) (s t : Sn) : zsee Try.prog tab ftab cIO kRm [1, 2, 6, 7, 8] rmI (rmJ l i j) (hR1 w s) [(60, .b true), (65, .n (.fptr (snC t))), (70, .b true), (74, .n (.fptr (snC t))), (77, .b false), (62, .w (iN (j + 1)))] = some (Ex.normal, (rmJ l i (j + 1)), (hR1 w s), ((decide ((↑j : Int) < (↑i : Int))) = true) :: ((idxOk (↑j : Int) (List.length (snR l))) = true) :: ((nth (snR l) (Int.toNat (↑j : Int))) = (Option.some (snC t))) :: ((t.n == s.n) = true) :: ((idxOk (↑j : Int) (List.length (snR l))) = true) :: ((nth (snR l) (Int.toNat (↑j : Int))) = (Option.some (snC t))) :: ((ovB t s) = false) :: ((ar IntKind.i64 ((↑j : Int) + 1)) = (iN (j + 1))) :: []) := by kernel_rfl
set_option maxRecDepth 1000000 in
theorem xi3 (w : Wd) (l : List Sn) (i j : Nat) (s t : Sn) : zsee Try.prog tab ftab cIO kRm [4] rmI (rmJ l i j) (hR1 w s) [(60, .b true), (65, .n (.fptr (snC t))), (70, .b true), (74, .n (.fptr (snC t))), (77, .b true)] = some (Ex.ret, (mkT 79 [(4, (DV.int IntKind.i64 8))]), (hR1 w s), ((decide ((↑j : Int) < (↑i : Int))) = true) :: ((idxOk (↑j : Int) (List.length (snR l))) = true) :: ((nth (snR l) (Int.toNat (↑j : Int))) = (Option.some (snC t))) :: ((t.n == s.n) = true) :: ((idxOk (↑j : Int) (List.length (snR l))) = true) :: ((nth (snR l) (Int.toNat (↑j : Int))) = (Option.some (snC t))) :: ((ovB t s) = true) :: []) := by kernel_rfl
set_option maxRecDepth 1000000 in
theorem xiO (w : Wd) (l : List Sn) (i j : Nat) (s : Sn) : zsee Try.prog tab ftab noC kRm [1, 2, 6] rmI (rmJ l i j) (hR1 w s) [(60, .b false)] = some ((Ex.exit 2), (rmS l i), (hR1 w s), ((decide ((↑j : Int) < (↑i : Int))) = false) :: []) := by kernel_rfl
set_option maxRecDepth 1000000 in
theorem xm1 (C : ConF) (w : Wd) (l : List Sn) : zflat (zans Try.prog tab ftab C fRm [wdD w, snL l] [(10, .q (iI 8))]) = some ((DV.int (IntKind.i64) 8), ((C 49 [(DV.agg (List.take 2 (List.drop 0 (wdC w))))] (hW w)) = (Option.some ((iI 8), (hW w), Option.none))) :: []) := by kernel_rfl
set_option maxRecDepth 1000000 in
theorem xm2 (C : ConF) (w : Wd) (l : List Sn) : zflat (zans Try.prog tab ftab C fRm [wdD w, snL l] [(10, .q (iI 0)), (16, .b true)]) = some ((DV.int (IntKind.i64) 8), ((C 49 [(DV.agg (List.take 2 (List.drop 0 (wdC w))))] (hW w)) = (Option.some ((iI 0), (hW w), Option.none))) :: ((decide ((↑(List.length (snR l)) : Int) > 64)) = true) :: []) := by kernel_rfl
set_option maxRecDepth 1000000 in
theorem xm3 (C : ConF) (w : Wd) (l : List Sn) : zflat (zans Try.prog tab ftab C fRm [wdD w, snL l] [(10, .q (iI 0)), (16, .b false), (0, .l [1, 2, 6] .ret (mkT 79 [(4, iI 8)]) (hW w))]) = some ((DV.int (IntKind.i64) 8), ((C 49 [(DV.agg (List.take 2 (List.drop 0 (wdC w))))] (hW w)) = (Option.some ((iI 0), (hW w), Option.none))) :: ((decide ((↑(List.length (snR l)) : Int) > 64)) = false) :: (Goes Try.prog tab (kRm) (Go.Code.loop (rmL)) (rmS l 0) (hW w) (Ex.ret) (mkT 79 [(4, (DV.int (IntKind.i64) 8))]) (hW w)) :: []) := by kernel_rfl
set_option maxRecDepth 1000000 in
theorem xm4 (C : ConF) (w : Wd) (l : List Sn) : zflat (zans Try.prog tab ftab C fRm [wdD w, snL l] [(10, .q (iI 0)), (16, .b false), (0, .l [1, 2, 6] (.exit 0) (mkT 79 []) (hW w))]) = some ((DV.int (IntKind.i64) 0), ((C 49 [(DV.agg (List.take 2 (List.drop 0 (wdC w))))] (hW w)) = (Option.some ((iI 0), (hW w), Option.none))) :: ((decide ((↑(List.length (snR l)) : Int) > 64)) = false) :: (Goes Try.prog tab (kRm) (Go.Code.loop (rmL)) (rmS l 0) (hW w) (Ex.exit 0) (mkT 79 []) (hW w)) :: []) := by kernel_rfl
def cleB (l : List Sn) (i j : Nat) : Bool := match (l.getD j sn0).n == (l.getD i sn0).n with
  | true => !ovB (l.getD j sn0) (l.getD i sn0)
  | false => true
def rouB (l : List Sn) (n : Nat) (i : Nat) : Bool := match okS (l.getD i sn0) n with
  | true => allB i fun j => cleB l i j
  | false => false
theorem okS_in (s : Sn) (n : Nat) : okS s n = true ↔ inB s.n 0 ((n : Int) - 1) = true ∧ ¬ s.a < 0 ∧ ¬ s.a ≥ s.b ∧ ¬ s.b > 1099511627776 ∧ inB s.d (-2000) 2000 = true := by
  rw [okS_iff, inB_iff, inB_iff]
  constructor
  · rintro ⟨⟨h1, h2⟩, ⟨h3, h4, h5⟩, h6, h7⟩
    exact ⟨by omega, by omega, by omega, by omega, by omega⟩
  · rintro ⟨h1, h2, h3, h4, h5⟩
    exact ⟨⟨by omega, by omega⟩, ⟨by omega, by omega, by omega⟩, by omega, by omega⟩
section
variable (w : Wd) (l : List Sn)
theorem xi_go (i : Nat) (hi : i < l.length) (hl : l.length ≤ 64) (j : Nat) (hj : j < i) (h : cleB l i j = true) : Goes Try.prog tab kRm rmI (rmJ l i j) (hR1 w (l.getD i sn0)) .normal (rmJ l i (j + 1)) (hR1 w (l.getD i sn0)) := by
  have e := snR_length l
  unfold cleB at h
  cases h2 : (l.getD j sn0).n == (l.getD i sn0).n with
  | true =>
    rw [h2] at h
    exact zsee_ok tab_ok mixed fun_ok cIO_ok (xi2 w l i j (l.getD i sn0) (l.getD j sn0)) (.cons (decide_eq_true (by omega)) (.cons (idxOk_lt (by omega)) (.cons (snR_get (by omega)) (.cons h2 (.cons (idxOk_lt (by omega)) (.cons (snR_get (by omega)) (.cons (by simpa using h) (.cons (wrK_at (by omega)) .nil))))))))
  | false => exact zsee_ok tab_ok mixed fun_ok cIO_ok (xi1 w l i j (l.getD i sn0) (l.getD j sn0)) (.cons (decide_eq_true (by omega)) (.cons (idxOk_lt (by omega)) (.cons (snR_get (by omega)) (.cons h2 (.cons (wrK_at (by omega)) .nil)))))
theorem xi_bad (i : Nat) (hi : i < l.length) (j : Nat) (hj : j < i) (h : cleB l i j = false) : Goes Try.prog tab kRm rmI (rmJ l i j) (hR1 w (l.getD i sn0)) .ret (mkT 79 [(4, iI 8)]) (hR1 w (l.getD i sn0)) := by
  have e := snR_length l
  unfold cleB at h
  cases h2 : (l.getD j sn0).n == (l.getD i sn0).n with
  | true =>
    rw [h2] at h
    exact zsee_ok tab_ok mixed fun_ok cIO_ok (xi3 w l i j (l.getD i sn0) (l.getD j sn0)) (.cons (decide_eq_true (by omega)) (.cons (idxOk_lt (by omega)) (.cons (snR_get (by omega)) (.cons h2 (.cons (idxOk_lt (by omega)) (.cons (snR_get (by omega)) (.cons (by simpa using h) .nil)))))))
  | false => rw [h2] at h; cases h
theorem len1 (hr : w.r.length ≤ 32) : DV.int .i64 (IntKind.i64.wrap (((rsR w.r).length : Int) - 1)) = iI (((rsR w.r).length : Int) - 1) := by
  have e := rsR_length w.r
  exact congrArg (DV.int .i64) (wrapZ (x := ((rsR w.r).length : Int) - 1) (by omega) (by omega))
theorem nt {b : Bool} (h : b = true) : (!b) = false := by rw [h]; rfl
theorem ntf {b : Bool} (h : b = false) : (!b) = true := by rw [h]; rfl
theorem xc_go (hr : w.r.length ≤ 32) (hl : l.length ≤ 64) (i : Nat) (hi : i < l.length) (h : rouB l w.r.length i = true) : Goes Try.prog tab kRm rmL (rmS l i) (hW w) .normal (rmS l (i + 1)) (hW w) := by
  have e := snR_length l
  have e1 := rsR_length w.r
  unfold rouB at h
  cases ho : okS (l.getD i sn0) (w.r.length : Int) with
  | false => rw [ho] at h; cases h
  | true =>
    rw [ho] at h
    obtain ⟨h1, h2, h3, h4, h5⟩ := (okS_in _ _).1 ho
    rw [← e1] at h1
    have g := scan_t (S := rmJ l i) (by intro h; cases h) (fun j hj hh => xi_go w l i hi hl j hj hh) (zsee_ok tab_ok mixed fun_ok noC_ok (xiO w l i i (l.getD i sn0)) (.cons (decide_eq_false (by omega)) .nil)) h
    exact zgm_ok tab_ok mixed fun_ok cIO_ok (xc2 w l i 0 (l.getD i sn0) sn0) (.cons (flatIn_nil _) (.cons (decide_eq_true (by omega)) (.cons (idxOk_lt (by omega)) (.cons (snR_get (by omega)) (.cons (len1 w hr) (.cons (nt h1) (.cons (decide_eq_false (by omega)) (.cons (decide_eq_false (by omega)) (.cons (decide_eq_false (by omega)) (.cons (nt h5) (.cons g (.cons (wrK_at (by omega)) .nil))))))))))))
theorem xc_bad (hr : w.r.length ≤ 32) (hl : l.length ≤ 64) (i : Nat) (hi : i < l.length) (h : rouB l w.r.length i = false) : Goes Try.prog tab kRm rmL (rmS l i) (hW w) .ret (mkT 79 [(4, iI 8)]) (hW w) := by
  have e := snR_length l
  have e1 := rsR_length w.r
  unfold rouB at h
  cases ho : okS (l.getD i sn0) (w.r.length : Int) with
  | true =>
    rw [ho] at h
    obtain ⟨h1, h2, h3, h4, h5⟩ := (okS_in _ _).1 ho
    rw [← e1] at h1
    have g := scan_f (S := rmJ l i) (by intro h; cases h) (fun j hj hh => xi_go w l i hi hl j hj hh) (fun j hj hh => xi_bad w l i hi j hj hh) h
    exact zgm_ok tab_ok mixed fun_ok cIO_ok (xc1 w l i 0 (l.getD i sn0) sn0) (.cons (flatIn_nil _) (.cons (decide_eq_true (by omega)) (.cons (idxOk_lt (by omega)) (.cons (snR_get (by omega)) (.cons (len1 w hr) (.cons (nt h1) (.cons (decide_eq_false (by omega)) (.cons (decide_eq_false (by omega)) (.cons (decide_eq_false (by omega)) (.cons (nt h5) (.cons g .nil)))))))))))
  | false =>
    have hn : ¬ (okS (l.getD i sn0) (w.r.length : Int) = true) := by rw [ho]; intro h; cases h
    rw [okS_in, ← e1] at hn
    cases q1 : inB (l.getD i sn0).n 0 (((rsR w.r).length : Int) - 1) with
    | false => exact zgm_ok tab_ok mixed fun_ok cIO_ok (xb0 w l i 0 (l.getD i sn0) sn0) (.cons (flatIn_nil _) (.cons (decide_eq_true (by omega)) (.cons (idxOk_lt (by omega)) (.cons (snR_get (by omega)) (.cons (len1 w hr) (.cons (ntf q1) .nil))))))
    | true =>
      by_cases q2 : (l.getD i sn0).a < 0
      · exact zgm_ok tab_ok mixed fun_ok cIO_ok (xb1 w l i 0 (l.getD i sn0) sn0) (.cons (flatIn_nil _) (.cons (decide_eq_true (by omega)) (.cons (idxOk_lt (by omega)) (.cons (snR_get (by omega)) (.cons (len1 w hr) (.cons (nt q1) (.cons (decide_eq_true (by omega)) .nil)))))))
      by_cases q3 : (l.getD i sn0).a ≥ (l.getD i sn0).b
      · exact zgm_ok tab_ok mixed fun_ok cIO_ok (xb2 w l i 0 (l.getD i sn0) sn0) (.cons (flatIn_nil _) (.cons (decide_eq_true (by omega)) (.cons (idxOk_lt (by omega)) (.cons (snR_get (by omega)) (.cons (len1 w hr) (.cons (nt q1) (.cons (decide_eq_false (by omega)) (.cons (decide_eq_true (by omega)) .nil))))))))
      by_cases q4 : (l.getD i sn0).b > 1099511627776
      · exact zgm_ok tab_ok mixed fun_ok cIO_ok (xb3 w l i 0 (l.getD i sn0) sn0) (.cons (flatIn_nil _) (.cons (decide_eq_true (by omega)) (.cons (idxOk_lt (by omega)) (.cons (snR_get (by omega)) (.cons (len1 w hr) (.cons (nt q1) (.cons (decide_eq_false (by omega)) (.cons (decide_eq_false (by omega)) (.cons (decide_eq_true (by omega)) .nil)))))))))
      cases q5 : inB (l.getD i sn0).d (-2000) 2000 with
      | true => exact absurd ⟨q1, q2, q3, q4, q5⟩ hn
      | false => exact zgm_ok tab_ok mixed fun_ok cIO_ok (xb4 w l i 0 (l.getD i sn0) sn0) (.cons (flatIn_nil _) (.cons (decide_eq_true (by omega)) (.cons (idxOk_lt (by omega)) (.cons (snR_get (by omega)) (.cons (len1 w hr) (.cons (nt q1) (.cons (decide_eq_false (by omega)) (.cons (decide_eq_false (by omega)) (.cons (decide_eq_false (by omega)) (.cons (ntf q5) .nil))))))))))
end
theorem ovB_sym (a b : Sn) : ovB a b = ovB b a := by
  rw [Bool.eq_iff_iff, ovB_iff, ovB_iff]
  exact ⟨fun h => ⟨h.2, h.1⟩, fun h => ⟨h.2, h.1⟩⟩
theorem fineB_iff (l : List Sn) (i k : Nat) : fineB l i k = true ↔ (i < k → (l.getD i sn0).n = (l.getD k sn0).n → ovB (l.getD i sn0) (l.getD k sn0) = false) := by
  unfold fineB
  by_cases h : (i : Int) < (k : Int)
  · rw [decide_eq_true h]
    dsimp only
    cases h2 : (l.getD i sn0).n == (l.getD k sn0).n with
    | true => exact ⟨fun q _ _ => by simpa using q, fun q => by simpa using q (by omega) (beq_iff_eq.1 h2)⟩
    | false => exact ⟨fun _ _ q => by rw [q] at h2; simp at h2, fun _ => rfl⟩
  · rw [decide_eq_false h]
    exact ⟨fun _ q => by omega, fun _ => rfl⟩
theorem cleB_iff (l : List Sn) (i j : Nat) : cleB l i j = true ↔ ((l.getD j sn0).n = (l.getD i sn0).n → ovB (l.getD j sn0) (l.getD i sn0) = false) := by
  unfold cleB
  cases h2 : (l.getD j sn0).n == (l.getD i sn0).n with
  | true => exact ⟨fun q _ => by simpa using q, fun q => by simpa using q (beq_iff_eq.1 h2)⟩
  | false => exact ⟨fun _ q => by rw [q] at h2; simp at h2, fun _ => rfl⟩
theorem rou_all (l : List Sn) (n : Nat) : (allB l.length fun i => rouB l n i) = vlB l n := by
  unfold vlB
  rw [Bool.eq_iff_iff, allB_t]
  constructor
  · intro h
    have h1 : ∀ k, k < l.length → okS (l.getD k sn0) n = true := fun k hk => by
      have := h k hk
      unfold rouB at this
      split at this
      · assumption
      · cases this
    rw [allB_t.2 h1]
    unfold lonB
    refine allB_t.2 fun i hi => allB_t.2 fun k hk => (fineB_iff l i k).2 fun hik hn => ?_
    have := h k hk
    unfold rouB at this
    rw [h1 k hk] at this
    exact (cleB_iff l k i).1 (allB_t.1 this i hik) hn
  · intro h i hi
    split at h
    · rename_i h1
      unfold rouB
      rw [allB_t.1 h1 i hi]
      refine allB_t.2 fun j hj => (cleB_iff l i j).2 fun hn => ?_
      exact (fineB_iff l j i).1 (allB_t.1 (allB_t.1 h j (by omega)) i hi) hj hn
    · cases h
theorem rm_ans (w : Wd) (ok : OkW w) (l : List Sn) (hl : l.length < 2 ^ 63) : Ans Try.prog fRm [wdD w, snL l] (iI (chM w l)) ⟨0, [], []⟩ := by
  have a := rk_ans w ok
  have e := snR_length l
  unfold chM
  cases hc : chk w with
  | false =>
    rw [chE_f hc] at a
    exact zflat_ok tab_ok mixed fun_ok (calC_ok a) (xm1 _ w l) (.cons (calC_at _ rfl rfl) .nil)
  | true =>
    rw [chE_t hc] at a
    have va := (va_iff w).1 hc
    dsimp only
    unfold valB
    by_cases h1 : l.length > 64
    · rw [decide_eq_true h1]
      exact zflat_ok tab_ok mixed fun_ok (calC_ok a) (xm2 _ w l) (.cons (calC_at _ rfl rfl) (.cons (decide_eq_true (by omega)) .nil))
    · rw [decide_eq_false h1]
      dsimp only
      rw [← rou_all]
      cases hb : allB l.length fun i => rouB l w.r.length i with
      | false => exact zflat_ok tab_ok mixed fun_ok (calC_ok a) (xm3 _ w l) (.cons (calC_at _ rfl rfl) (.cons (decide_eq_false (by omega)) (.cons (scan_f (S := rmS l) (by intro h; cases h) (xc_go w l va.n2 (by omega)) (xc_bad w l va.n2 (by omega)) hb) .nil)))
      | true => exact zflat_ok tab_ok mixed fun_ok (calC_ok a) (xm4 _ w l) (.cons (calC_at _ rfl rfl) (.cons (decide_eq_false (by omega)) (.cons (scan_t (S := rmS l) (by intro h; cases h) (xc_go w l va.n2 (by omega)) (zsee_ok tab_ok mixed fun_ok noC_ok (xcO w l l.length) (.cons (decide_eq_false (by omega)) .nil)) hb) .nil)))
end
end Go.Proofs.Ytgjgihlfkpbdgaa
