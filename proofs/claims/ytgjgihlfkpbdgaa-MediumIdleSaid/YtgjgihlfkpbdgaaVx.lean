/- The law MediumSenses over data. -/
import Derived.Test.YtgjgihlfkpbdgaaVw
namespace Go.Proofs.Ytgjgihlfkpbdgaa
open Go.RowKit

noncomputable section
abbrev fS : FuncId := 5
abbrev kS : List (Nat × Nat) := ksF ftab fS
abbrev sesL : Code := loopAt (bodyOf ftab fS) 0
abbrev sesS (l : List Sn) (i : Nat) : Slots := mkT 116 [(1, snL l), (19, .bool true), (20, iN i)]
def cOO : ConF := orK cOv cRov
theorem cOO_ok : ConOk Try.prog cOO := orK_ok cOv_ok cRov_ok
set_option maxRecDepth 1000000 in
theorem lse1 (w : Wd) (l : List Sn) (i j : Nat) (s t : Sn) : zsee Try.prog tab ftab cOO kS [1, 19, 20] sesL (sesS l i) (hW w) [(88, .b true), (95, .w (iN j)), (96, .n (.fptr (snC s))), (100, .n (.fptr (snC t))), (105, .w (iN j)), (106, .n (.fptr (snC s))), (110, .n (.fptr (snC t))), (113, .b true), (90, .w (iN (i + 1)))] = some (Ex.normal, (sesS l (i + 1)), (hW w), ((decide ((↑i : Int) < (↑(List.length (snR l)) : Int))) = true) :: ((ar IntKind.i64 ((↑i : Int) - 1)) = (iN j)) :: ((idxOk (↑j : Int) (List.length (snR l))) = true) :: ((nth (snR l) (Int.toNat (↑j : Int))) = (Option.some (snC s))) :: ((idxOk (↑i : Int) (List.length (snR l))) = true) :: ((nth (snR l) (Int.toNat (↑i : Int))) = (Option.some (snC t))) :: ((ar IntKind.i64 ((↑i : Int) - 1)) = (iN j)) :: ((idxOk (↑j : Int) (List.length (snR l))) = true) :: ((nth (snR l) (Int.toNat (↑j : Int))) = (Option.some (snC s))) :: ((idxOk (↑i : Int) (List.length (snR l))) = true) :: ((nth (snR l) (Int.toNat (↑i : Int))) = (Option.some (snC t))) :: ((ovB s t == ovB s t) = true) :: ((ar IntKind.i64 ((↑i : Int) + 1)) = (iN (i + 1))) :: []) := by kernel_rfl
set_option maxRecDepth 1000000 in
theorem lseO (w : Wd) (l : List Sn) (i : Nat) : zsee Try.prog tab ftab noC kS [19] sesL (sesS l i) (hW w) [(88, .b false)] = some ((Ex.exit 0), (mkT 116 [(19, (DV.bool true))]), (hW w), ((decide ((↑i : Int) < (↑(List.length (snR l)) : Int))) = false) :: []) := by kernel_rfl
set_option maxRecDepth 1000000 in
theorem lseA (C : ConF) (w : Wd) (l : List Sn) (j t sp : Int) : zflat (zans Try.prog tab ftab C fS [wdD w, snL l, iI j, iI t, iI sp] [(23, .q (.bool true))]) = some ((DV.bool true), ((C 20 [(DV.agg (List.take 2 (List.drop 0 (wdC w)))), (snL l)] (Hp.mk 1 [(Ob.mk 0 0 25 (wdC w))] [])) = (Option.some ((DV.bool true), (Hp.mk 1 [(Ob.mk 0 0 25 (wdC w))] []), Option.none))) :: []) := by kernel_rfl
set_option maxRecDepth 1000000 in
theorem lseB (C : ConF) (w : Wd) (l r : List Sn) (j t sp e f c : Int) (b : Bool) : zflat (zans Try.prog tab ftab C fS [wdD w, snL l, iI j, iI t, iI sp] [(23, .q (.bool false)), (29, .q (.tuple [.bool b, iI e])), (37, .q (.tuple [.bool b, iI e])), (46, .q (.tuple [iI c, iI f])), (55, .q (.tuple [iI c, iI f])), (60, .b true), (64, .b true), (69, .b true), (74, .b true), (79, .q (snL r)), (82, .q (snL r)), (83, .q (.bool true)), (0, .l [1, 19, 20] (.exit 0) (mkT 116 [(19, .bool true)]) (hW w))]) = some ((DV.bool true), ((C 20 [(DV.agg (List.take 2 (List.drop 0 (wdC w)))), (snL l)] (hW w)) = (Option.some ((DV.bool false), (hW w), Option.none))) :: ((C 13 [(DV.agg (List.take 2 (List.drop 0 (wdC w)))), (snL l), (iI j), (iI t)] (hW w)) = (Option.some ((DV.tuple [DV.bool b, iI e]), (hW w), Option.none))) :: ((C 24 [(DV.agg (List.take 2 (List.drop 0 (wdC w)))), (snL l), (iI j), (iI t)] (hW w)) = (Option.some ((DV.tuple [DV.bool b, iI e]), (hW w), Option.none))) :: ((C 14 [(DV.agg (List.take 2 (List.drop 0 (wdC w)))), (snL l), (iI j), (iI t), (iI sp)] (hW w)) = (Option.some ((DV.tuple [iI c, iI f]), (hW w), Option.none))) :: ((C 25 [(DV.agg (List.take 2 (List.drop 0 (wdC w)))), (snL l), (iI j), (iI t), (iI sp)] (hW w)) = (Option.some ((DV.tuple [iI c, iI f]), (hW w), Option.none))) :: ((b == b) = true) :: ((e == e) = true) :: ((c == c) = true) :: ((f == f) = true) :: ((C 19 [(snL l), (iI t)] (hW w)) = (Option.some ((snL r), (hW w), Option.none))) :: ((C 26 [(snL l), (iI t)] (hW w)) = (Option.some ((snL r), (hW w), Option.none))) :: ((C 18 [(snL r), (snL r)] (hW w)) = (Option.some ((DV.bool true), (hW w), Option.none))) :: (Goes (Try.prog) tab (kS) (Go.Code.loop (sesL)) (sesS l 1) (hW w) (Ex.exit 0) (mkT 116 [(19, (DV.bool true))]) (hW w)) :: []) := by kernel_rfl
theorem senses_all (w : Wd) (ok : OkW w) (l : List Sn) (hl : okN l) (j t sp : Int) : Ans Try.prog fS [wdD w, snL l, iI j, iI t, iI sp] (.bool true) ⟨0, [], []⟩ := by
  have gr := gr_ans w ok l
  have e := snR_length l
  cases hg : grB w l with
  | true =>
    rw [hg] at gr
    exact zflat_ok tab_ok mixed fun_ok (calC_ok gr) (lseA _ w l j t sp) (.cons (calC_at _ rfl rfl) .nil)
  | false =>
    rw [hg] at gr
    obtain ⟨_, h80⟩ := grB_f hg
    have bu := bu_ans w ok l hl j t
    have rb := rB_ans w ok l hl j t
    obtain ⟨u, hu, id⟩ := id_ans w ok l hl j t sp
    have ri := rI_ans w ok l hl j t sp u hu
    have dr := dr_ans l t (by omega)
    have dp := dp_ans l t (by omega)
    have hdl : (drL l t).length ≤ l.length := filN_len _ _ _
    have sm := zs_ans (drL l t) (drL l t) (by omega)
    rw [(sameL_iff eqS_iff).2 rfl] at sm
    have g : Goes Try.prog tab kS (.loop sesL) (sesS l 1) (hW w) (.exit 0) (mkT 116 [(19, .bool true)]) (hW w) :=
      Goes.loop (l.length - 1) (fun k => sesS l (k + 1)) (fun _ => hW w) (fun k hk => zsee_ok tab_ok mixed fun_ok cOO_ok (lse1 w l (k + 1) k (l.getD k sn0) (l.getD (k + 1) sn0)) (.cons (decide_eq_true (by omega)) (.cons (congrArg (DV.int .i64) (by rw [show ((k + 1 : Nat) : Int) - 1 = (k : Int) by omega]; exact wrapI (by omega))) (.cons (idxOk_lt (by omega)) (.cons (snR_get (by omega)) (.cons (idxOk_lt (by omega)) (.cons (snR_get (by omega)) (.cons (congrArg (DV.int .i64) (by rw [show ((k + 1 : Nat) : Int) - 1 = (k : Int) by omega]; exact wrapI (by omega))) (.cons (idxOk_lt (by omega)) (.cons (snR_get (by omega)) (.cons (idxOk_lt (by omega)) (.cons (snR_get (by omega)) (.cons (by simp) (.cons (wrK_at (by omega)) .nil)))))))))))))) (zsee_ok tab_ok mixed fun_ok noC_ok (lseO w l (l.length - 1 + 1)) (.cons (decide_eq_false (by omega)) .nil)) (by intro h; cases h)
    exact zflat_ok tab_ok mixed fun_ok (orK_ok (calC_ok gr) (orK_ok (calC_ok bu) (orK_ok (calC_ok rb) (orK_ok (calC_ok id) (orK_ok (calC_ok ri) (orK_ok (calC_ok dr) (orK_ok (calC_ok dp) (calC_ok sm)))))))) (lseB _ w l (drL l t) j t sp (asM w l j (tmB t)) (asM w l j (tmO t sp)) u (buO w l j t)) (.cons (orK_left (calC_at _ rfl rfl)) (.cons (orK_right (calC_oth (by kernel_rfl)) (orK_left (calC_at _ rfl rfl))) (.cons (orK_right (calC_oth (by kernel_rfl)) (orK_right (calC_oth (by kernel_rfl)) (orK_left (calC_at _ rfl rfl)))) (.cons (orK_right (calC_oth (by kernel_rfl)) (orK_right (calC_oth (by kernel_rfl)) (orK_right (calC_oth (by kernel_rfl)) (orK_left (calC_at _ rfl rfl))))) (.cons (orK_right (calC_oth (by kernel_rfl)) (orK_right (calC_oth (by kernel_rfl)) (orK_right (calC_oth (by kernel_rfl)) (orK_right (calC_oth (by kernel_rfl)) (orK_left (calC_at _ rfl rfl)))))) (.cons (by simp) (.cons (by simp) (.cons (by simp) (.cons (by simp) (.cons (orK_right (calC_oth (by kernel_rfl)) (orK_right (calC_oth (by kernel_rfl)) (orK_right (calC_oth (by kernel_rfl)) (orK_right (calC_oth (by kernel_rfl)) (orK_right (calC_oth (by kernel_rfl)) (orK_left (calC_at _ rfl rfl))))))) (.cons (orK_right (calC_oth (by kernel_rfl)) (orK_right (calC_oth (by kernel_rfl)) (orK_right (calC_oth (by kernel_rfl)) (orK_right (calC_oth (by kernel_rfl)) (orK_right (calC_oth (by kernel_rfl)) (orK_right (calC_oth (by kernel_rfl)) (orK_left (calC_at _ rfl rfl)))))))) (.cons (orK_right (calC_oth (by kernel_rfl)) (orK_right (calC_oth (by kernel_rfl)) (orK_right (calC_oth (by kernel_rfl)) (orK_right (calC_oth (by kernel_rfl)) (orK_right (calC_oth (by kernel_rfl)) (orK_right (calC_oth (by kernel_rfl)) (orK_right (calC_oth (by kernel_rfl)) (calC_at _ rfl rfl)))))))) (.cons g .nil)))))))))))))
end
end Go.Proofs.Ytgjgihlfkpbdgaa
