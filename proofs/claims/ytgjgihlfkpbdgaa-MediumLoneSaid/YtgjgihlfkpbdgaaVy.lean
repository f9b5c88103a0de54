/- The law MediumIdle over data; the examples. -/
import Derived.Test.YtgjgihlfkpbdgaaVx
import Derived.Test.YtgjgihlfkpbdgaaVv
namespace Go.Proofs.Ytgjgihlfkpbdgaa
open Go.RowKit

noncomputable section
abbrev fI : FuncId := 9
abbrev kI2 : List (Nat × Nat) := ksF ftab fI
abbrev iL : Code := loopAt (bodyOf ftab fI) 0
abbrev iM : Code := loopAt (bodyOf ftab fI) 1
abbrev iS (l : List Sn) (j fr sp t u : Int) : Slots := mkT 135 [(1, snL l), (2, iI j), (3, iI fr), (4, iI sp), (5, .ptr 0 0), (11, .bool true), (12, iI t), (14, iI u)]
abbrev iE (l : List Sn) (j fr sp t : Int) : Slots := mkT 135 [(1, snL l), (2, iI j), (3, iI fr), (4, iI sp), (5, .ptr 0 0), (11, .bool true), (12, iI t)]
abbrev iT (l : List Sn) (j fr sp t : Int) (v : Bool) (i : Nat) : Slots := mkT 135 [(1, snL l), (2, iI j), (3, iI fr), (4, iI sp), (5, .ptr 0 0), (11, .bool true), (12, iI t), (17, .bool v), (18, iN i)]
abbrev iF (fr t : Int) (v : Bool) : Slots := mkT 135 [(3, iI fr), (11, .bool true), (12, iI t), (17, .bool v)]
set_option maxRecDepth 1000000 in
theorem mi1 (w : Wd) (l : List Sn) (j fr sp t u u2 : Int) : zsee Try.prog tab ftab (calC fBs [wdD w, snL l, iI j, iI u] (.tuple [.bool false, iI 0])) kI2 [1, 2, 3, 4, 5, 11, 12, 14] iL (iS l j fr sp t u) (hW w) [(58, .b true), (61, .b true), (70, .q (.tuple [.bool false, iI 0])), (64, .w (iI u2))] = some (Ex.normal, (iS l j fr sp t u2), (hW w), ((decide (u < t)) = true) :: ((decide (u ≤ 1099511627776)) = true) :: ((calC 13 [(wdD w), (snL l), (iI j), (iI u)] (DV.tuple [DV.bool false, iI 0]) 13 [(DV.agg (List.take 2 (List.drop 0 (wdC w)))), (snL l), (iI j), (iI u)] (hW w)) = (Option.some ((DV.tuple [DV.bool false, iI 0]), (hW w), Option.none))) :: ((ar IntKind.i64 (u + 1)) = (iI u2)) :: []) := by kernel_rfl
set_option maxRecDepth 1000000 in
theorem mi2 (w : Wd) (l : List Sn) (j fr sp t u u2 : Int) : zsee Try.prog tab ftab noC kI2 [1, 2, 3, 4, 5, 11, 12] iL (iS l j fr sp t u) (hW w) [(58, .b false)] = some ((Ex.exit 0), (iE l j fr sp t), (hW w), ((decide (u < t)) = false) :: []) := by kernel_rfl
set_option maxRecDepth 1000000 in
theorem mi3 (w : Wd) (l : List Sn) (j fr sp t u u2 : Int) : zsee Try.prog tab ftab noC kI2 [1, 2, 3, 4, 5, 11, 12] iL (iS l j fr sp t u) (hW w) [(58, .b true), (61, .b false)] = some ((Ex.exit 0), (iE l j fr sp t), (hW w), ((decide (u < t)) = true) :: ((decide (u ≤ 1099511627776)) = false) :: []) := by kernel_rfl
set_option maxRecDepth 1000000 in
theorem mj0 (w : Wd) (l : List Sn) (j fr sp t c : Int) (i : Nat) (s : Sn) : zsee Try.prog tab ftab (calC fHs [wdD w, iI j, iI s.n] (.tuple [.bool false, iI 0])) kI2 [1, 2, 3, 4, 5, 11, 12, 17, 18] iM (iT l j fr sp t true i) (hW w) [(84, .b true), (92, .n (.fptr (snC s))), (95, .q (.tuple [.bool false, iI 0])), (86, .w (iN (i + 1)))] = some (Ex.normal, (iT l j fr sp t true (i + 1)), (hW w), ((decide ((↑i : Int) < (↑(List.length (snR l)) : Int))) = true) :: ((idxOk (↑i : Int) (List.length (snR l))) = true) :: ((nth (snR l) (Int.toNat (↑i : Int))) = (Option.some (snC s))) :: ((calC 29 [(wdD w), (iI j), (iI s.n)] (DV.tuple [DV.bool false, iI 0]) 29 [(DV.agg (List.take 2 (List.drop 0 (wdC w)))), (iI j), (iI s.n)] (hW w)) = (Option.some ((DV.tuple [DV.bool false, iI 0]), (hW w), Option.none))) :: ((ar IntKind.i64 ((↑i : Int) + 1)) = (iN (i + 1))) :: []) := by kernel_rfl
set_option maxRecDepth 1000000 in
theorem mj1 (w : Wd) (l : List Sn) (j fr sp t c : Int) (i : Nat) (s : Sn) : zsee Try.prog tab ftab (calC fHs [wdD w, iI j, iI s.n] (.tuple [.bool true, iI 0])) kI2 [1, 2, 3, 4, 5, 11, 12, 17, 18] iM (iT l j fr sp t true i) (hW w) [(84, .b true), (92, .n (.fptr (snC s))), (95, .q (.tuple [.bool true, iI 0])), (86, .w (iN (i + 1)))] = some (Ex.normal, (iT l j fr sp t true (i + 1)), (hW w), ((decide ((↑i : Int) < (↑(List.length (snR l)) : Int))) = true) :: ((idxOk (↑i : Int) (List.length (snR l))) = true) :: ((nth (snR l) (Int.toNat (↑i : Int))) = (Option.some (snC s))) :: ((calC 29 [(wdD w), (iI j), (iI s.n)] (DV.tuple [DV.bool true, iI 0]) 29 [(DV.agg (List.take 2 (List.drop 0 (wdC w)))), (iI j), (iI s.n)] (hW w)) = (Option.some ((DV.tuple [DV.bool true, iI 0]), (hW w), Option.none))) :: ((ar IntKind.i64 ((↑i : Int) + 1)) = (iN (i + 1))) :: []) := by kernel_rfl
set_option maxRecDepth 1000000 in
theorem mj2 (w : Wd) (l : List Sn) (j fr sp t c : Int) (i : Nat) (s : Sn) : zsee Try.prog tab ftab (calC fHs [wdD w, iI j, iI s.n] (.tuple [.bool false, iI 0])) kI2 [1, 2, 3, 4, 5, 11, 12, 17, 18] iM (iT l j fr sp t false i) (hW w) [(84, .b true), (92, .n (.fptr (snC s))), (95, .q (.tuple [.bool false, iI 0])), (107, .n (.fptr (snC s))), (111, .b false), (86, .w (iN (i + 1)))] = some (Ex.normal, (iT l j fr sp t false (i + 1)), (hW w), ((decide ((↑i : Int) < (↑(List.length (snR l)) : Int))) = true) :: ((idxOk (↑i : Int) (List.length (snR l))) = true) :: ((nth (snR l) (Int.toNat (↑i : Int))) = (Option.some (snC s))) :: ((calC 29 [(wdD w), (iI j), (iI s.n)] (DV.tuple [DV.bool false, iI 0]) 29 [(DV.agg (List.take 2 (List.drop 0 (wdC w)))), (iI j), (iI s.n)] (hW w)) = (Option.some ((DV.tuple [DV.bool false, iI 0]), (hW w), Option.none))) :: ((idxOk (↑i : Int) (List.length (snR l))) = true) :: ((nth (snR l) (Int.toNat (↑i : Int))) = (Option.some (snC s))) :: ((s.n == j) = false) :: ((ar IntKind.i64 ((↑i : Int) + 1)) = (iN (i + 1))) :: []) := by kernel_rfl
set_option maxRecDepth 1000000 in
theorem mj3 (w : Wd) (l : List Sn) (j fr sp t c : Int) (i : Nat) (s : Sn) : zsee Try.prog tab ftab (calC fHs [wdD w, iI j, iI s.n] (.tuple [.bool false, iI 0])) kI2 [1, 2, 3, 4, 5, 11, 12, 17, 18] iM (iT l j fr sp t false i) (hW w) [(84, .b true), (92, .n (.fptr (snC s))), (95, .q (.tuple [.bool false, iI 0])), (107, .n (.fptr (snC s))), (111, .b true), (118, .n (.fptr (snC s))), (122, .w (iI c)), (123, .b false), (86, .w (iN (i + 1)))] = some (Ex.normal, (iT l j fr sp t false (i + 1)), (hW w), ((decide ((↑i : Int) < (↑(List.length (snR l)) : Int))) = true) :: ((idxOk (↑i : Int) (List.length (snR l))) = true) :: ((nth (snR l) (Int.toNat (↑i : Int))) = (Option.some (snC s))) :: ((calC 29 [(wdD w), (iI j), (iI s.n)] (DV.tuple [DV.bool false, iI 0]) 29 [(DV.agg (List.take 2 (List.drop 0 (wdC w)))), (iI j), (iI s.n)] (hW w)) = (Option.some ((DV.tuple [DV.bool false, iI 0]), (hW w), Option.none))) :: ((idxOk (↑i : Int) (List.length (snR l))) = true) :: ((nth (snR l) (Int.toNat (↑i : Int))) = (Option.some (snC s))) :: ((s.n == j) = true) :: ((idxOk (↑i : Int) (List.length (snR l))) = true) :: ((nth (snR l) (Int.toNat (↑i : Int))) = (Option.some (snC s))) :: ((DV.int (IntKind.i64) (IntKind.wrap IntKind.i64 (s.b + sp))) = (iI c)) :: ((t == c) = false) :: ((ar IntKind.i64 ((↑i : Int) + 1)) = (iN (i + 1))) :: []) := by kernel_rfl
set_option maxRecDepth 1000000 in
theorem mj4 (w : Wd) (l : List Sn) (j fr sp t c : Int) (i : Nat) (s : Sn) : zsee Try.prog tab ftab (calC fHs [wdD w, iI j, iI s.n] (.tuple [.bool false, iI 0])) kI2 [1, 2, 3, 4, 5, 11, 12, 17, 18] iM (iT l j fr sp t false i) (hW w) [(84, .b true), (92, .n (.fptr (snC s))), (95, .q (.tuple [.bool false, iI 0])), (107, .n (.fptr (snC s))), (111, .b true), (118, .n (.fptr (snC s))), (122, .w (iI c)), (123, .b true), (86, .w (iN (i + 1)))] = some (Ex.normal, (iT l j fr sp t true (i + 1)), (hW w), ((decide ((↑i : Int) < (↑(List.length (snR l)) : Int))) = true) :: ((idxOk (↑i : Int) (List.length (snR l))) = true) :: ((nth (snR l) (Int.toNat (↑i : Int))) = (Option.some (snC s))) :: ((calC 29 [(wdD w), (iI j), (iI s.n)] (DV.tuple [DV.bool false, iI 0]) 29 [(DV.agg (List.take 2 (List.drop 0 (wdC w)))), (iI j), (iI s.n)] (hW w)) = (Option.some ((DV.tuple [DV.bool false, iI 0]), (hW w), Option.none))) :: ((idxOk (↑i : Int) (List.length (snR l))) = true) :: ((nth (snR l) (Int.toNat (↑i : Int))) = (Option.some (snC s))) :: ((s.n == j) = true) :: ((idxOk (↑i : Int) (List.length (snR l))) = true) :: ((nth (snR l) (Int.toNat (↑i : Int))) = (Option.some (snC s))) :: ((DV.int (IntKind.i64) (IntKind.wrap IntKind.i64 (s.b + sp))) = (iI c)) :: ((t == c) = true) :: ((ar IntKind.i64 ((↑i : Int) + 1)) = (iN (i + 1))) :: []) := by kernel_rfl
set_option maxRecDepth 1000000 in
theorem mj5 (w : Wd) (l : List Sn) (j fr sp t c : Int) (i : Nat) (s : Sn) : zsee Try.prog tab ftab (calC fHs [wdD w, iI j, iI s.n] (.tuple [.bool true, iI 0])) kI2 [1, 2, 3, 4, 5, 11, 12, 17, 18] iM (iT l j fr sp t false i) (hW w) [(84, .b true), (92, .n (.fptr (snC s))), (95, .q (.tuple [.bool true, iI 0])), (118, .n (.fptr (snC s))), (122, .w (iI c)), (123, .b false), (86, .w (iN (i + 1)))] = some (Ex.normal, (iT l j fr sp t false (i + 1)), (hW w), ((decide ((↑i : Int) < (↑(List.length (snR l)) : Int))) = true) :: ((idxOk (↑i : Int) (List.length (snR l))) = true) :: ((nth (snR l) (Int.toNat (↑i : Int))) = (Option.some (snC s))) :: ((calC 29 [(wdD w), (iI j), (iI s.n)] (DV.tuple [DV.bool true, iI 0]) 29 [(DV.agg (List.take 2 (List.drop 0 (wdC w)))), (iI j), (iI s.n)] (hW w)) = (Option.some ((DV.tuple [DV.bool true, iI 0]), (hW w), Option.none))) :: ((idxOk (↑i : Int) (List.length (snR l))) = true) :: ((nth (snR l) (Int.toNat (↑i : Int))) = (Option.some (snC s))) :: ((DV.int (IntKind.i64) (IntKind.wrap IntKind.i64 (s.b + sp))) = (iI c)) :: ((t == c) = false) :: ((ar IntKind.i64 ((↑i : Int) + 1)) = (iN (i + 1))) :: []) := by kernel_rfl
set_option maxRecDepth 1000000 in
theorem mj6 (w : Wd) (l : List Sn) (j fr sp t c : Int) (i : Nat) (s : Sn) : zsee Try.prog tab ftab (calC fHs [wdD w, iI j, iI s.n] (.tuple [.bool true, iI 0])) kI2 [1, 2, 3, 4, 5, 11, 12, 17, 18] iM (iT l j fr sp t false i) (hW w) [(84, .b true), (92, .n (.fptr (snC s))), (95, .q (.tuple [.bool true, iI 0])), (118, .n (.fptr (snC s))), (122, .w (iI c)), (123, .b true), (86, .w (iN (i + 1)))] = some (Ex.normal, (iT l j fr sp t true (i + 1)), (hW w), ((decide ((↑i : Int) < (↑(List.length (snR l)) : Int))) = true) :: ((idxOk (↑i : Int) (List.length (snR l))) = true) :: ((nth (snR l) (Int.toNat (↑i : Int))) = (Option.some (snC s))) :: ((calC 29 [(wdD w), (iI j), (iI s.n)] (DV.tuple [DV.bool true, iI 0]) 29 [(DV.agg (List.take 2 (List.drop 0 (wdC w)))), (iI j), (iI s.n)] (hW w)) = (Option.some ((DV.tuple [DV.bool true, iI 0]), (hW w), Option.none))) :: ((idxOk (↑i : Int) (List.length (snR l))) = true) :: ((nth (snR l) (Int.toNat (↑i : Int))) = (Option.some (snC s))) :: ((DV.int (IntKind.i64) (IntKind.wrap IntKind.i64 (s.b + sp))) = (iI c)) :: ((t == c) = true) :: ((ar IntKind.i64 ((↑i : Int) + 1)) = (iN (i + 1))) :: []) := by kernel_rfl
set_option maxRecDepth 1000000 in
theorem mjO (w : Wd) (l : List Sn) (j fr sp t : Int) (i : Nat) (v : Bool) : zsee Try.prog tab ftab noC kI2 [3, 11, 12, 17] iM (iT l j fr sp t v i) (hW w) [(84, .b false)] = some ((Ex.exit 2), (iF fr t v), (hW w), ((decide ((↑i : Int) < (↑(List.length (snR l)) : Int))) = false) :: []) := by kernel_rfl
set_option maxRecDepth 1000000 in
theorem ml0 (C : ConF) (w : Wd) (l : List Sn) (j fr sp : Int) : zflat (zans Try.prog tab ftab C fI [wdD w, snL l, iI j, iI fr, iI sp] [(21, .q (.bool true)), (24, .q (.bool true))]) = some ((DV.bool true), ((C 17 [] (Hp.mk 1 [(Ob.mk 0 0 25 (wdC w))] [])) = (Option.some ((DV.bool true), (Hp.mk 1 [(Ob.mk 0 0 25 (wdC w))] []), Option.none))) :: ((C 20 [(DV.agg (List.take 2 (List.drop 0 (wdC w)))), (snL l)] (Hp.mk 1 [(Ob.mk 0 0 25 (wdC w))] [])) = (Option.some ((DV.bool true), (Hp.mk 1 [(Ob.mk 0 0 25 (wdC w))] []), Option.none))) :: []) := by kernel_rfl
set_option maxRecDepth 1000000 in
theorem ml1 (C : ConF) (w : Wd) (l : List Sn) (j fr sp : Int) : zflat (zans Try.prog tab ftab C fI [wdD w, snL l, iI j, iI fr, iI sp] [(21, .q (.bool true)), (24, .q (.bool false)), (27, .b true)]) = some ((DV.bool true), ((C 17 [] (Hp.mk 1 [(Ob.mk 0 0 25 (wdC w))] [])) = (Option.some ((DV.bool true), (Hp.mk 1 [(Ob.mk 0 0 25 (wdC w))] []), Option.none))) :: ((C 20 [(DV.agg (List.take 2 (List.drop 0 (wdC w)))), (snL l)] (Hp.mk 1 [(Ob.mk 0 0 25 (wdC w))] [])) = (Option.some ((DV.bool false), (Hp.mk 1 [(Ob.mk 0 0 25 (wdC w))] []), Option.none))) :: ((decide (sp > 60)) = true) :: []) := by kernel_rfl
set_option maxRecDepth 1000000 in
theorem ml2 (C : ConF) (w : Wd) (l : List Sn) (j fr sp e : Int) : zflat (zans Try.prog tab ftab C fI [wdD w, snL l, iI j, iI fr, iI sp] [(21, .q (.bool true)), (24, .q (.bool false)), (27, .b false), (40, .q (.tuple [iI 0, iI e])), (44, .b true)]) = some ((DV.bool (0 == 0)), ((C 17 [] (Hp.mk 1 [(Ob.mk 0 0 25 (wdC w))] [])) = (Option.some ((DV.bool true), (Hp.mk 1 [(Ob.mk 0 0 25 (wdC w))] []), Option.none))) :: ((C 20 [(DV.agg (List.take 2 (List.drop 0 (wdC w)))), (snL l)] (Hp.mk 1 [(Ob.mk 0 0 25 (wdC w))] [])) = (Option.some ((DV.bool false), (Hp.mk 1 [(Ob.mk 0 0 25 (wdC w))] []), Option.none))) :: ((decide (sp > 60)) = false) :: ((C 14 [(DV.agg (List.take 2 (List.drop 0 (wdC w)))), (snL l), (iI j), (iI fr), (iI sp)] (Hp.mk 1 [(Ob.mk 0 0 25 (wdC w))] [])) = (Option.some ((DV.tuple [iI 0, iI e]), (Hp.mk 1 [(Ob.mk 0 0 25 (wdC w))] []), Option.none))) :: ((e != 0) = true) :: []) := by kernel_rfl
set_option maxRecDepth 1000000 in
theorem ml3 (C : ConF) (w : Wd) (l : List Sn) (j fr sp t d m : Int) (v : Bool) : zflat (zans Try.prog tab ftab C fI [wdD w, snL l, iI j, iI fr, iI sp] [(21, .q (.bool true)), (24, .q (.bool false)), (27, .b false), (40, .q (.tuple [iI t, iI 0])), (51, .b false), (54, .w (iI d)), (55, .w (iI m)), (0, .l [1, 2, 3, 4, 5, 11, 12, 14] (.exit 0) (iE l j fr sp t) (hW w)), (80, .b v), (0, .l [1, 2, 3, 4, 5, 11, 12, 17, 18] (.exit 2) (iF fr t true) (hW w)), (130, .b true)]) = some ((DV.bool true), ((C 17 [] (hW w)) = (Option.some ((DV.bool true), (hW w), Option.none))) :: ((C 20 [(DV.agg (List.take 2 (List.drop 0 (wdC w)))), (snL l)] (hW w)) = (Option.some ((DV.bool false), (hW w), Option.none))) :: ((decide (sp > 60)) = false) :: ((C 14 [(DV.agg (List.take 2 (List.drop 0 (wdC w)))), (snL l), (iI j), (iI fr), (iI sp)] (hW w)) = (Option.some ((DV.tuple [iI t, iI 0]), (hW w), Option.none))) :: ((decide (sp < 0)) = false) :: ((ar IntKind.i64 (t - sp)) = (iI d)) :: ((DV.int (IntKind.i64) (match false with | true => if 0 < d then 0 else d | false => if d < 0 then 0 else d)) = (iI m)) :: (Goes (Try.prog) tab (kI2) (Go.Code.loop (iL)) (iS l j fr sp t m) (hW w) (Ex.exit 0) (iE l j fr sp t) (hW w)) :: ((t == fr) = v) :: (Goes (Try.prog) tab (kI2) (Go.Code.loop (iM)) (iT l j fr sp t v 0) (hW w) (Ex.exit 2) (iF fr t true) (hW w)) :: ((decide (t ≥ fr)) = true) :: []) := by kernel_rfl
def idV (w : Wd) (l : List Sn) (j fr sp u : Int) : Nat → Bool
  | 0 => u == fr
  | i + 1 => idV w l j fr sp u i || ((hr w j (l.getD i sn0).n || (l.getD i sn0).n == j) && u == (l.getD i sn0).b + sp)
theorem idV_t {w : Wd} {l : List Sn} {j fr sp u : Int} : ∀ {n : Nat}, (u = fr ∨ ∃ i, i < n ∧ (hr w j (l.getD i sn0).n || (l.getD i sn0).n == j) = true ∧ u = (l.getD i sn0).b + sp) → idV w l j fr sp u n = true
  | 0, h => by
    rcases h with h | ⟨i, h, _⟩
    · exact beq_iff_eq.2 h
    · omega
  | n + 1, h => by
    show (idV w l j fr sp u n || _) = true
    rcases h with h | ⟨i, h1, h2, h3⟩
    · rw [idV_t (.inl h)]; rfl
    · rcases Nat.lt_or_ge i n with q | q
      · rw [idV_t (.inr ⟨i, q, h2, h3⟩)]; rfl
      · rw [show n = i by omega, h2, h3]
        simp
section
variable (w : Wd) (ok : OkW w) (l : List Sn) (hc : chB w l = true) (j fr sp u : Int) (hj : Nd w j) (hs : 0 ≤ sp ∧ sp ≤ 60) (hu : 0 ≤ u ∧ u ≤ 4398046511104)
include ok hc hj hs hu
theorem mj_go (i : Nat) (hi : i < l.length) : Goes Try.prog tab kI2 iM (iT l j fr sp u (idV w l j fr sp u i) i) (hW w) .normal (iT l j fr sp u (idV w l j fr sp u (i + 1)) (i + 1)) (hW w) := by
  have _ := hu
  have e := snR_length l
  have n := chB_len hc
  have hm := chB_in hc (getD_mem hi)
  have a := hs_ans w ok j (l.getD i sn0).n
  rw [hrD_t (chB_ok hc).1 hj ⟨hm.1.1, hm.1.2⟩] at a
  rw [show idV w l j fr sp u (i + 1) = (idV w l j fr sp u i || ((hr w j (l.getD i sn0).n || (l.getD i sn0).n == j) && u == (l.getD i sn0).b + sp)) from rfl]
  cases h0 : idV w l j fr sp u i with
  | true =>
    cases h1 : hr w j (l.getD i sn0).n with
    | false => rw [h1] at a; exact zsee_ok tab_ok mixed fun_ok (calC_ok a) (mj0 w l j fr sp u ((l.getD i sn0).b + sp) i (l.getD i sn0)) (.cons (decide_eq_true (by omega)) (.cons (idxOk_lt (by omega)) (.cons (snR_get (by omega)) (.cons (calC_at _ rfl rfl) (.cons (wrK_at (by omega)) .nil)))))
    | true => rw [h1] at a; exact zsee_ok tab_ok mixed fun_ok (calC_ok a) (mj1 w l j fr sp u ((l.getD i sn0).b + sp) i (l.getD i sn0)) (.cons (decide_eq_true (by omega)) (.cons (idxOk_lt (by omega)) (.cons (snR_get (by omega)) (.cons (calC_at _ rfl rfl) (.cons (wrK_at (by omega)) .nil)))))
  | false =>
    cases h1 : hr w j (l.getD i sn0).n with
    | false =>
      rw [h1] at a
      cases h2 : (l.getD i sn0).n == j with
      | false => exact zsee_ok tab_ok mixed fun_ok (calC_ok a) (mj2 w l j fr sp u ((l.getD i sn0).b + sp) i (l.getD i sn0)) (.cons (decide_eq_true (by omega)) (.cons (idxOk_lt (by omega)) (.cons (snR_get (by omega)) (.cons (calC_at _ rfl rfl) (.cons (idxOk_lt (by omega)) (.cons (snR_get (by omega)) (.cons h2 (.cons (wrK_at (by omega)) .nil))))))))
      | true =>
        cases h3 : u == (l.getD i sn0).b + sp with
        | false => exact zsee_ok tab_ok mixed fun_ok (calC_ok a) (mj3 w l j fr sp u ((l.getD i sn0).b + sp) i (l.getD i sn0)) (.cons (decide_eq_true (by omega)) (.cons (idxOk_lt (by omega)) (.cons (snR_get (by omega)) (.cons (calC_at _ rfl rfl) (.cons (idxOk_lt (by omega)) (.cons (snR_get (by omega)) (.cons h2 (.cons (idxOk_lt (by omega)) (.cons (snR_get (by omega)) (.cons (congrArg (DV.int .i64) (wrapZ (by omega) (by omega))) (.cons h3 (.cons (wrK_at (by omega)) .nil))))))))))))
        | true => exact zsee_ok tab_ok mixed fun_ok (calC_ok a) (mj4 w l j fr sp u ((l.getD i sn0).b + sp) i (l.getD i sn0)) (.cons (decide_eq_true (by omega)) (.cons (idxOk_lt (by omega)) (.cons (snR_get (by omega)) (.cons (calC_at _ rfl rfl) (.cons (idxOk_lt (by omega)) (.cons (snR_get (by omega)) (.cons h2 (.cons (idxOk_lt (by omega)) (.cons (snR_get (by omega)) (.cons (congrArg (DV.int .i64) (wrapZ (by omega) (by omega))) (.cons h3 (.cons (wrK_at (by omega)) .nil))))))))))))
    | true =>
      rw [h1] at a
      cases h3 : u == (l.getD i sn0).b + sp with
      | false => exact zsee_ok tab_ok mixed fun_ok (calC_ok a) (mj5 w l j fr sp u ((l.getD i sn0).b + sp) i (l.getD i sn0)) (.cons (decide_eq_true (by omega)) (.cons (idxOk_lt (by omega)) (.cons (snR_get (by omega)) (.cons (calC_at _ rfl rfl) (.cons (idxOk_lt (by omega)) (.cons (snR_get (by omega)) (.cons (congrArg (DV.int .i64) (wrapZ (by omega) (by omega))) (.cons h3 (.cons (wrK_at (by omega)) .nil)))))))))
      | true => exact zsee_ok tab_ok mixed fun_ok (calC_ok a) (mj6 w l j fr sp u ((l.getD i sn0).b + sp) i (l.getD i sn0)) (.cons (decide_eq_true (by omega)) (.cons (idxOk_lt (by omega)) (.cons (snR_get (by omega)) (.cons (calC_at _ rfl rfl) (.cons (idxOk_lt (by omega)) (.cons (snR_get (by omega)) (.cons (congrArg (DV.int .i64) (wrapZ (by omega) (by omega))) (.cons h3 (.cons (wrK_at (by omega)) .nil)))))))))
theorem mi_loop (m : Int) (hm : m = if u - sp < 0 then 0 else u - sp) (hL : sp ≠ 0 → FreeT (noL w j l) sp u) : Goes Try.prog tab kI2 (.loop iL) (iS l j fr sp u m) (hW w) (.exit 0) (iE l j fr sp u) (hW w) := by
  have m0 : 0 ≤ m ∧ m ≤ u ∧ u - sp ≤ m ∧ (sp = 0 → m = u) := by
    rw [hm]
    split <;> refine ⟨?_, ?_, ?_, ?_⟩ <;> omega
  have n64 := chB_len hc
  obtain ⟨n, hn⟩ : ∃ n : Nat, (n : Int) = (if u ≤ 1099511627777 then u else 1099511627777) - m ∨ ((if u ≤ 1099511627777 then u else 1099511627777) < m ∧ n = 0) := by
    by_cases q : (if u ≤ 1099511627777 then u else 1099511627777) < m
    · exact ⟨0, .inr ⟨q, rfl⟩⟩
    · exact ⟨((if u ≤ 1099511627777 then u else 1099511627777) - m).toNat, .inl (by omega)⟩
  have hlast : ∀ c, c = m + (n : Int) → Goes Try.prog tab kI2 iL (iS l j fr sp u c) (hW w) (.exit 0) (iE l j fr sp u) (hW w) := by
    rintro c rfl
    by_cases q : m + (n : Int) < u
    · have : ¬ m + (n : Int) ≤ 1099511627776 := by
        split at hn <;> omega
      exact zsee_ok tab_ok mixed fun_ok noC_ok (mi3 w l j fr sp u (m + (n : Int)) 0) (.cons (decide_eq_true (by omega)) (.cons (decide_eq_false (by omega)) .nil))
    · exact zsee_ok tab_ok mixed fun_ok noC_ok (mi2 w l j fr sp u (m + (n : Int)) 0) (.cons (decide_eq_false (by omega)) .nil)
  have key := Goes.loop (P := Try.prog) (T := tab) (ks := kI2) n (fun k => iS l j fr sp u (m + (k : Int))) (fun _ => hW w) (fun k hk => by
    have hv : m + (k : Int) < u ∧ m + (k : Int) ≤ 1099511627776 := by
      split at hn <;> omega
    have ht : tmB (m + (k : Int)) = true := (inB_iff _ _ _).2 ⟨by omega, by omega⟩
    have b := bu_ans w ok l (by omega) j (m + (k : Int))
    have hz : asM w l j (tmB (m + (k : Int))) = 0 := by
      unfold asM
      rw [hc, (nd_iff w j).2 hj, ht]
    have hb : buV w l j (m + (k : Int)) = false := by
      cases q : buV w l j (m + (k : Int)) with
      | false => rfl
      | true =>
        obtain ⟨s, h1, h2⟩ := (ifV_iff _ _).1 q
        have h2 : s.a ≤ m + (k : Int) ∧ m + (k : Int) < s.b := by
          unfold atB at h2
          split at h2
          · rename_i q1
            exact ⟨of_decide_eq_true q1, of_decide_eq_true h2⟩
          · cases h2
        have h3 := hL (fun z => by have := m0.2.2.2 z; omega) s h1
        rw [(ov_bf s u sp).2 ⟨by omega, by omega⟩] at h3
        cases h3
    unfold buD buO at b
    rw [hz, hb] at b
    have hw : DV.int .i64 (IntKind.i64.wrap (m + (k : Int) + 1)) = iI (m + ((k + 1 : Nat) : Int)) := by
      rw [show m + ((k + 1 : Nat) : Int) = m + (k : Int) + 1 by omega]
      exact congrArg (DV.int .i64) (wrapZ (by omega) (by omega))
    exact zsee_ok tab_ok mixed fun_ok (calC_ok b) (mi1 w l j fr sp u (m + (k : Int)) (m + ((k + 1 : Nat) : Int))) (.cons (decide_eq_true (by omega)) (.cons (decide_eq_true (by omega)) (.cons (calC_at _ rfl rfl) (.cons hw .nil))))) (hlast _ rfl) (by intro h; cases h)
  rw [show m + ((0 : Nat) : Int) = m by omega] at key
  exact key
end
theorem idle_all (w : Wd) (ok : OkW w) (l : List Sn) (hl : okN l) (j fr sp : Int) : Ans Try.prog fI [wdD w, snL l, iI j, iI fr, iI sp] (.bool true) ⟨0, [], []⟩ := by
  have av := av_ans
  have gr := gr_ans w ok l
  have e := snR_length l
  obtain ⟨u, hu, id⟩ := id_ans w ok l hl j fr sp
  cases hg : grB w l with
  | true =>
    rw [hg] at gr
    exact zflat_ok tab_ok mixed fun_ok (orK_ok (calC_ok av) (orK_ok (calC_ok gr) (calC_ok id))) (ml0 _ w l j fr sp) (.cons (orK_left (calC_at _ rfl rfl)) (.cons (orK_right (calC_oth (by kernel_rfl)) (orK_left (calC_at _ rfl rfl))) .nil))
  | false =>
    rw [hg] at gr
    obtain ⟨_, h80⟩ := grB_f hg
    by_cases h60 : sp > 60
    · exact zflat_ok tab_ok mixed fun_ok (orK_ok (calC_ok av) (orK_ok (calC_ok gr) (calC_ok id))) (ml1 _ w l j fr sp) (.cons (orK_left (calC_at _ rfl rfl)) (.cons (orK_right (calC_oth (by kernel_rfl)) (orK_left (calC_at _ rfl rfl))) (.cons (decide_eq_true (by omega)) .nil)))
    · unfold IdA at hu
      cases hz : asM w l j (tmO fr sp) == 0 with
      | false =>
        rw [hz] at hu
        rw [show u = 0 from hu] at id
        exact zflat_ok tab_ok mixed fun_ok (orK_ok (calC_ok av) (orK_ok (calC_ok gr) (calC_ok id))) (ml2 _ w l j fr sp (asM w l j (tmO fr sp))) (.cons (orK_left (calC_at _ rfl rfl)) (.cons (orK_right (calC_oth (by kernel_rfl)) (orK_left (calC_at _ rfl rfl))) (.cons (decide_eq_false (by omega)) (.cons (orK_right (calC_oth (by kernel_rfl)) (orK_right (calC_oth (by kernel_rfl)) (calC_at _ rfl rfl))) (.cons (by simp only [bne, hz]; rfl) .nil)))))
      | true =>
        rw [hz] at hu
        obtain ⟨hc, hj, ht⟩ := asM_z hz
        rw [beq_iff_eq.1 hz] at id
        have i1 : tmB fr = true ∧ tmB sp = true := by
          unfold tmO at ht
          split at ht
          · rename_i q
            exact ⟨q, ht⟩
          · cases ht
        have t1 := (inB_iff _ _ _).1 i1.1
        have t2 := (inB_iff _ _ _).1 i1.2
        have hL : sp ≠ 0 → Lst (noL w j l) sp fr u := fun hne => by
          rw [beq_eq_false_iff_ne.2 hne] at hu
          exact hu
        have h0 : sp = 0 → u = fr := fun h => by
          rw [h] at hu
          exact hu
        have cand : u = fr ∨ ∃ i, i < l.length ∧ (hr w j (l.getD i sn0).n || (l.getD i sn0).n == j) = true ∧ u = (l.getD i sn0).b + sp := by
          by_cases q : sp = 0
          · exact .inl (h0 q)
          · rcases (hL q).cand with h | ⟨s, h1, h2⟩
            · exact .inl h
            · obtain ⟨g1, g2⟩ := noL_mem.1 h1
              rw [ntB_hr hc hj g1] at g2
              obtain ⟨i, hi, rfl⟩ := mem_getD g1
              exact .inr ⟨i, hi, by rw [Bool.or_comm]; exact g2, h2.symm⟩
        have hge : fr ≤ u := by
          by_cases q : sp = 0
          · rw [h0 q]; exact Int.le_refl _
          · exact (hL q).le
        have hub : u ≤ 4398046511104 := by
          rcases cand with h | ⟨i, hi, _, h⟩
          · omega
          · have := (chB_in hc (getD_mem hi)).2.1
            omega
        have g1 := mi_loop w ok l hc j fr sp u hj ⟨t2.1, by omega⟩ ⟨by omega, hub⟩ _ rfl (fun q => (hL q).fr)
        have g2 := Goes.loop (P := Try.prog) (T := tab) (ks := kI2) l.length (fun i => iT l j fr sp u (idV w l j fr sp u i) i) (fun _ => hW w) (mj_go w ok l hc j fr sp u hj ⟨t2.1, by omega⟩ ⟨by omega, hub⟩) (zsee_ok tab_ok mixed fun_ok noC_ok (mjO w l j fr sp u l.length _) (.cons (decide_eq_false (by omega)) .nil)) (by intro h; cases h)
        rw [idV_t cand] at g2
        exact zflat_ok tab_ok mixed fun_ok (orK_ok (calC_ok av) (orK_ok (calC_ok gr) (calC_ok id))) (ml3 _ w l j fr sp u (u - sp) (if u - sp < 0 then 0 else u - sp) (u == fr)) (.cons (orK_left (calC_at _ rfl rfl)) (.cons (orK_right (calC_oth (by kernel_rfl)) (orK_left (calC_at _ rfl rfl))) (.cons (decide_eq_false (by omega)) (.cons (orK_right (calC_oth (by kernel_rfl)) (orK_right (calC_oth (by kernel_rfl)) (calC_at _ rfl rfl))) (.cons (decide_eq_false (by omega)) (.cons (congrArg (DV.int .i64) (wrapZ (by omega) (by omega))) (.cons rfl (.cons g1 (.cons rfl (.cons g2 (.cons (decide_eq_true (by omega)) .nil)))))))))))
end
end Go.Proofs.Ytgjgihlfkpbdgaa
