/- Drop and Idle of the reference: contracts. -/
import Derived.Test.YtgjgihlfkpbdgaaVt
namespace Go.Proofs.Ytgjgihlfkpbdgaa
open Go.RowKit

noncomputable section
abbrev fDp : FuncId := 26
abbrev kDp : List (Nat × Nat) := ksF ftab fDp
abbrev dpL : Code := loopAt (bodyOf ftab fDp) 0
abbrev dpS (l : List Sn) (t : Int) (d : DV) (k : Nat) : Slots := mkT 28 [(0, snL l), (1, iI t), (5, d), (6, iN k)]
abbrev fRi : FuncId := 25
abbrev kRi : List (Nat × Nat) := ksF ftab fRi
abbrev riL : Code := loopAt (bodyOf ftab fRi) 0
abbrev riS (l : List Sn) (j t sp best i : Int) : Slots := mkT 69 [(1, snL l), (2, iI j), (3, iI t), (4, iI sp), (5, .ptr 0 0), (13, iI best), (14, iI i)]
set_option maxRecDepth 1000000 in
theorem xp0n (l : List Sn) (t : Int) (k n : Nat) (cl : List DV) (s : Sn) : zgm [] [] (zsee Try.prog tab ftab noC kDp [0, 1, 5, 6] dpL (dpS l t .nil k) h00 [(10, .b true), (15, .n (.fptr (snC s))), (19, .b false), (12, .w (iN (k + 1)))]) = some (Ex.normal, (dpS l t .nil (k + 1)), (h00), (FlatIn [] (h00)) :: ((decide ((↑k : Int) < (↑(List.length (snR l)) : Int))) = true) :: ((idxOk (↑k : Int) (List.length (snR l))) = true) :: ((nth (snR l) (Int.toNat (↑k : Int))) = (Option.some (snC s))) :: ((decide (s.b > t)) = false) :: ((ar IntKind.i64 ((↑k : Int) + 1)) = (iN (k + 1))) :: []) := by kernel_rfl
set_option maxRecDepth 1000000 in
theorem xp0k (l : List Sn) (t : Int) (k n : Nat) (cl : List DV) (s : Sn) : zgm [1] [1] (zsee Try.prog tab ftab noC kDp [0, 1, 5, 6] dpL (dpS l t .nil k) h00 [(10, .b true), (15, .n (.fptr (snC s))), (19, .b true), (23, .n (.fptr (snC s))), (12, .w (iN (k + 1)))]) = some (Ex.normal, (dpS l t (.sl 0 0 4 1 1) (k + 1)), ((⟨1, [⟨1, 0, tSn, (snC s)⟩], []⟩ : Hp)), (FlatIn [1] (Hp.mk 2 [(Ob.mk 1 0 32 (snC s)), (Ob.mk 0 0 32 (snC s))] [])) :: ((decide ((↑k : Int) < (↑(List.length (snR l)) : Int))) = true) :: ((idxOk (↑k : Int) (List.length (snR l))) = true) :: ((nth (snR l) (Int.toNat (↑k : Int))) = (Option.some (snC s))) :: ((decide (s.b > t)) = true) :: ((idxOk (↑k : Int) (List.length (snR l))) = true) :: ((nth (snR l) (Int.toNat (↑k : Int))) = (Option.some (snC s))) :: ((ar IntKind.i64 ((↑k : Int) + 1)) = (iN (k + 1))) :: []) := by kernel_rfl
set_option maxRecDepth 1000000 in
theorem xp0O (l : List Sn) (t : Int) (k n : Nat) (cl : List DV) (s : Sn) : zsee Try.prog tab ftab noC kDp [5] dpL (dpS l t .nil k) h00 [(10, .b false)] = some ((Ex.exit 0), (mkT 28 [(5, DV.nil)]), (h00), ((decide ((↑k : Int) < (↑(List.length (snR l)) : Int))) = false) :: []) := by kernel_rfl
set_option maxRecDepth 1000000 in
theorem xp0F (l : List Sn) (t : Int) (k n : Nat) (cl : List DV) (s : Sn) : zans Try.prog tab ftab noC fDp [snL l, iI t] [(0, .l [0, 1, 5, 6] (.exit 0) (mkT 28 [(5, .nil)]) h00)] = some (DV.nil, (h00), (Goes (Try.prog) tab (kDp) (Go.Code.loop (dpL)) (dpS l t .nil 0) (h00) (Ex.exit 0) (mkT 28 [(5, DV.nil)]) (h00)) :: []) := by kernel_rfl
set_option maxRecDepth 1000000 in
theorem xp1n (l : List Sn) (t : Int) (k n : Nat) (cl : List DV) (s : Sn) : zgm [0] [0] (zsee Try.prog tab ftab noC kDp [0, 1, 5, 6] dpL (dpS l t (.sl 0 0 4 n n) k) (⟨1, [⟨1, 0, tSn, cl⟩], []⟩ : Hp) [(10, .b true), (15, .n (.fptr (snC s))), (19, .b false), (12, .w (iN (k + 1)))]) = some (Ex.normal, (dpS l t (.sl 0 0 4 n n) (k + 1)), ((⟨1, [⟨1, 0, tSn, cl⟩], []⟩ : Hp)), (FlatIn [0] ((⟨1, [⟨1, 0, tSn, cl⟩], []⟩ : Hp))) :: ((decide ((↑k : Int) < (↑(List.length (snR l)) : Int))) = true) :: ((idxOk (↑k : Int) (List.length (snR l))) = true) :: ((nth (snR l) (Int.toNat (↑k : Int))) = (Option.some (snC s))) :: ((decide (s.b > t)) = false) :: ((ar IntKind.i64 ((↑k : Int) + 1)) = (iN (k + 1))) :: []) := by kernel_rfl
set_option maxRecDepth 1000000 in
theorem xp1k (l : List Sn) (t : Int) (k n : Nat) (cl : List DV) (s : Sn) : zgm [2] [2] (zsee Try.prog tab ftab noC kDp [0, 1, 5, 6] dpL (dpS l t (.sl 0 0 4 n n) k) (⟨1, [⟨1, 0, tSn, cl⟩], []⟩ : Hp) [(10, .b true), (15, .n (.fptr (snC s))), (19, .b true), (23, .n (.fptr (snC s))), (26, .h (.sl 2 0 4 (n + 1) (n + 1)) ⟨3, [⟨3, 0, tSn, cl ++ snC s⟩, ⟨0, 0, tSn, snC s⟩, ⟨2, 0, tSn, cl⟩], []⟩ (some 0)), (12, .w (iN (k + 1)))]) = some (Ex.normal, (dpS l t (.sl 0 0 4 (n + 1) (n + 1)) (k + 1)), ((⟨1, [⟨1, 0, tSn, (cl ++ snC s)⟩], []⟩ : Hp)), (FlatIn [2] (Hp.mk 3 [(Ob.mk 3 0 32 (cl ++ snC s)), (Ob.mk 0 0 32 (snC s)), (Ob.mk 2 0 32 (cl))] [])) :: ((decide ((↑k : Int) < (↑(List.length (snR l)) : Int))) = true) :: ((idxOk (↑k : Int) (List.length (snR l))) = true) :: ((nth (snR l) (Int.toNat (↑k : Int))) = (Option.some (snC s))) :: ((decide (s.b > t)) = true) :: ((idxOk (↑k : Int) (List.length (snR l))) = true) :: ((nth (snR l) (Int.toNat (↑k : Int))) = (Option.some (snC s))) :: ((builtinD tab (Hp.mk 2 [(Ob.mk 0 0 32 (snC s)), (Ob.mk 1 0 32 (cl))] []) (Builtin.append) [(DV.sl 0 0 4 n n), (DV.sl 1 0 4 1 1)] [27, 27]) = (Option.some ((DV.sl 2 0 4 (n + 1) (n + 1)), (Hp.mk 3 [(Ob.mk 3 0 32 (cl ++ snC s)), (Ob.mk 0 0 32 (snC s)), (Ob.mk 2 0 32 (cl))] []), (Option.some 0)))) :: ((ar IntKind.i64 ((↑k : Int) + 1)) = (iN (k + 1))) :: []) := by kernel_rfl
set_option maxRecDepth 1000000 in
theorem xp1O (l : List Sn) (t : Int) (k n : Nat) (cl : List DV) (s : Sn) : zsee Try.prog tab ftab noC kDp [5] dpL (dpS l t (.sl 0 0 4 n n) k) (⟨1, [⟨1, 0, tSn, cl⟩], []⟩ : Hp) [(10, .b false)] = some ((Ex.exit 0), (mkT 28 [(5, (DV.sl 0 0 4 n n))]), ((⟨1, [⟨1, 0, tSn, cl⟩], []⟩ : Hp)), ((decide ((↑k : Int) < (↑(List.length (snR l)) : Int))) = false) :: []) := by kernel_rfl
set_option maxRecDepth 1000000 in
theorem xp1F (l : List Sn) (t : Int) (k n : Nat) (cl : List DV) (s : Sn) : zans Try.prog tab ftab noC fDp [snL l, iI t] [(0, .l [0, 1, 5, 6] (.exit 0) (mkT 28 [(5, (.sl 0 0 4 n n))]) (⟨1, [⟨1, 0, tSn, cl⟩], []⟩ : Hp))] = some ((DV.sl 0 0 4 n n), ((⟨1, [⟨1, 0, tSn, cl⟩], []⟩ : Hp)), (Goes (Try.prog) tab (kDp) (Go.Code.loop (dpL)) (dpS l t .nil 0) (h00) (Ex.exit 0) (mkT 28 [(5, (DV.sl 0 0 4 n n))]) ((⟨1, [⟨1, 0, tSn, cl⟩], []⟩ : Hp))) :: []) := by kernel_rfl
set_option maxRecDepth 1000000 in
theorem xq00 (w : Wd) (l : List Sn) (j t sp best i i2 c d : Int) (s : Sn) : zsee Try.prog tab ftab noC kRi [1, 2, 3, 4, 5, 13, 14] riL (riS l j t sp best i) (hW w) [(31, .b true), (36, .b false), (46, .b false), (33, .w (iI i2))] = some (Ex.normal, (riS l j t sp best i2), (hW w), ((decide (i < (↑(List.length (snR l)) : Int))) = true) :: ((decide (i ≥ 0)) = false) :: ((decide (t ≥ t)) = false) :: ((ar IntKind.i64 (i + 1)) = (iI i2)) :: []) := by kernel_rfl
set_option maxRecDepth 1000000 in
theorem xq01 (w : Wd) (l : List Sn) (j t sp best i i2 c d : Int) (s : Sn) : zsee Try.prog tab ftab (calC fbu [wdD w, snL l, iI j, iI d, iI t] (.bool true)) kRi [1, 2, 3, 4, 5, 13, 14] riL (riS l j t sp best i) (hW w) [(31, .b true), (36, .b false), (46, .b true), (53, .w (iI d)), (55, .q (.bool true)), (33, .w (iI i2))] = some (Ex.normal, (riS l j t sp best i2), (hW w), ((decide (i < (↑(List.length (snR l)) : Int))) = true) :: ((decide (i ≥ 0)) = false) :: ((decide (t ≥ t)) = true) :: ((ar IntKind.i64 (t - sp)) = (iI d)) :: ((calC 52 [(wdD w), (snL l), (iI j), (iI d), (iI t)] (DV.bool true) 52 [(DV.agg (List.take 2 (List.drop 0 (wdC w)))), (snL l), (iI j), (iI d), (iI t)] (hW w)) = (Option.some ((DV.bool true), (hW w), Option.none))) :: ((ar IntKind.i64 (i + 1)) = (iI i2)) :: []) := by kernel_rfl
set_option maxRecDepth 1000000 in
theorem xq02 (w : Wd) (l : List Sn) (j t sp best i i2 c d : Int) (s : Sn) : zsee Try.prog tab ftab (calC fbu [wdD w, snL l, iI j, iI d, iI t] (.bool false)) kRi [1, 2, 3, 4, 5, 13, 14] riL (riS l j t sp best i) (hW w) [(31, .b true), (36, .b false), (46, .b true), (53, .w (iI d)), (55, .q (.bool false)), (60, .b true), (33, .w (iI i2))] = some (Ex.normal, (riS l j t sp t i2), (hW w), ((decide (i < (↑(List.length (snR l)) : Int))) = true) :: ((decide (i ≥ 0)) = false) :: ((decide (t ≥ t)) = true) :: ((ar IntKind.i64 (t - sp)) = (iI d)) :: ((calC 52 [(wdD w), (snL l), (iI j), (iI d), (iI t)] (DV.bool false) 52 [(DV.agg (List.take 2 (List.drop 0 (wdC w)))), (snL l), (iI j), (iI d), (iI t)] (hW w)) = (Option.some ((DV.bool false), (hW w), Option.none))) :: ((decide (best < 0)) = true) :: ((ar IntKind.i64 (i + 1)) = (iI i2)) :: []) := by kernel_rfl
set_option maxRecDepth 1000000 in
theorem xq03 (w : Wd) (l : List Sn) (j t sp best i i2 c d : Int) (s : Sn) : zsee Try.prog tab ftab (calC fbu [wdD w, snL l, iI j, iI d, iI t] (.bool false)) kRi [1, 2, 3, 4, 5, 13, 14] riL (riS l j t sp best i) (hW w) [(31, .b true), (36, .b false), (46, .b true), (53, .w (iI d)), (55, .q (.bool false)), (60, .b false), (64, .b true), (33, .w (iI i2))] = some (Ex.normal, (riS l j t sp t i2), (hW w), ((decide (i < (↑(List.length (snR l)) : Int))) = true) :: ((decide (i ≥ 0)) = false) :: ((decide (t ≥ t)) = true) :: ((ar IntKind.i64 (t - sp)) = (iI d)) :: ((calC 52 [(wdD w), (snL l), (iI j), (iI d), (iI t)] (DV.bool false) 52 [(DV.agg (List.take 2 (List.drop 0 (wdC w)))), (snL l), (iI j), (iI d), (iI t)] (hW w)) = (Option.some ((DV.bool false), (hW w), Option.none))) :: ((decide (best < 0)) = false) :: ((decide (t < best)) = true) :: ((ar IntKind.i64 (i + 1)) = (iI i2)) :: []) := by kernel_rfl
set_option maxRecDepth 1000000 in
theorem xq04 (w : Wd) (l : List Sn) (j t sp best i i2 c d : Int) (s : Sn) : zsee Try.prog tab ftab (calC fbu [wdD w, snL l, iI j, iI d, iI t] (.bool false)) kRi [1, 2, 3, 4, 5, 13, 14] riL (riS l j t sp best i) (hW w) [(31, .b true), (36, .b false), (46, .b true), (53, .w (iI d)), (55, .q (.bool false)), (60, .b false), (64, .b false), (33, .w (iI i2))] = some (Ex.normal, (riS l j t sp best i2), (hW w), ((decide (i < (↑(List.length (snR l)) : Int))) = true) :: ((decide (i ≥ 0)) = false) :: ((decide (t ≥ t)) = true) :: ((ar IntKind.i64 (t - sp)) = (iI d)) :: ((calC 52 [(wdD w), (snL l), (iI j), (iI d), (iI t)] (DV.bool false) 52 [(DV.agg (List.take 2 (List.drop 0 (wdC w)))), (snL l), (iI j), (iI d), (iI t)] (hW w)) = (Option.some ((DV.bool false), (hW w), Option.none))) :: ((decide (best < 0)) = false) :: ((decide (t < best)) = false) :: ((ar IntKind.i64 (i + 1)) = (iI i2)) :: []) := by kernel_rfl
set_option maxRecDepth 1000000 in
theorem xq10 (w : Wd) (l : List Sn) (j t sp best i i2 c d : Int) (s : Sn) : zsee Try.prog tab ftab noC kRi [1, 2, 3, 4, 5, 13, 14] riL (riS l j t sp best i) (hW w) [(31, .b true), (36, .b true), (39, .n (.fptr (snC s))), (43, .w (iI c)), (46, .b false), (33, .w (iI i2))] = some (Ex.normal, (riS l j t sp best i2), (hW w), ((decide (i < (↑(List.length (snR l)) : Int))) = true) :: ((decide (i ≥ 0)) = true) :: ((idxOk i (List.length (snR l))) = true) :: ((nth (snR l) (Int.toNat i)) = (Option.some (snC s))) :: ((DV.int (IntKind.i64) (IntKind.wrap IntKind.i64 (s.b + sp))) = (iI c)) :: ((decide (c ≥ t)) = false) :: ((ar IntKind.i64 (i + 1)) = (iI i2)) :: []) := by kernel_rfl
set_option maxRecDepth 1000000 in
theorem xq11 (w : Wd) (l : List Sn) (j t sp best i i2 c d : Int) (s : Sn) : zsee Try.prog tab ftab (calC fbu [wdD w, snL l, iI j, iI d, iI c] (.bool true)) kRi [1, 2, 3, 4, 5, 13, 14] riL (riS l j t sp best i) (hW w) [(31, .b true), (36, .b true), (39, .n (.fptr (snC s))), (43, .w (iI c)), (46, .b true), (53, .w (iI d)), (55, .q (.bool true)), (33, .w (iI i2))] = some (Ex.normal, (riS l j t sp best i2), (hW w), ((decide (i < (↑(List.length (snR l)) : Int))) = true) :: ((decide (i ≥ 0)) = true) :: ((idxOk i (List.length (snR l))) = true) :: ((nth (snR l) (Int.toNat i)) = (Option.some (snC s))) :: ((DV.int (IntKind.i64) (IntKind.wrap IntKind.i64 (s.b + sp))) = (iI c)) :: ((decide (c ≥ t)) = true) :: ((ar IntKind.i64 (c - sp)) = (iI d)) :: ((calC 52 [(wdD w), (snL l), (iI j), (iI d), (iI c)] (DV.bool true) 52 [(DV.agg (List.take 2 (List.drop 0 (wdC w)))), (snL l), (iI j), (iI d), (iI c)] (hW w)) = (Option.some ((DV.bool true), (hW w), Option.none))) :: ((ar IntKind.i64 (i + 1)) = (iI i2)) :: []) := by kernel_rfl
set_option maxRecDepth 1000000 in
theorem xq12 (w : Wd) (l : List Sn) (j t sp best i i2 c d : Int) (s : Sn) : zsee Try.prog tab ftab (calC fbu [wdD w, snL l, iI j, iI d, iI c] (.bool false)) kRi [1, 2, 3, 4, 5, 13, 14] riL (riS l j t sp best i) (hW w) [(31, .b true), (36, .b true), (39, .n (.fptr (snC s))), (43, .w (iI c)), (46, .b true), (53, .w (iI d)), (55, .q (.bool false)), (60, .b true), (33, .w (iI i2))] = some (Ex.normal, (riS l j t sp c i2), (hW w), ((decide (i < (↑(List.length (snR l)) : Int))) = true) :: ((decide (i ≥ 0)) = true) :: ((idxOk i (List.length (snR l))) = true) :: ((nth (snR l) (Int.toNat i)) = (Option.some (snC s))) :: ((DV.int (IntKind.i64) (IntKind.wrap IntKind.i64 (s.b + sp))) = (iI c)) :: ((decide (c ≥ t)) = true) :: ((ar IntKind.i64 (c - sp)) = (iI d)) :: ((calC 52 [(wdD w), (snL l), (iI j), (iI d), (iI c)] (DV.bool false) 52 [(DV.agg (List.take 2 (List.drop 0 (wdC w)))), (snL l), (iI j), (iI d), (iI c)] (hW w)) = (Option.some ((DV.bool false), (hW w), Option.none))) :: ((decide (best < 0)) = true) :: ((ar IntKind.i64 (i + 1)) = (iI i2)) :: []) := by kernel_rfl
set_option maxRecDepth 1000000 in
theorem xq13 (w : Wd) (l : List Sn) (j t sp best i i2 c d : Int) (s : Sn) : zsee Try.prog tab ftab (calC fbu [wdD w, snL l, iI j, iI d, iI c] (.bool false)) kRi [1, 2, 3, 4, 5, 13, 14] riL (riS l j t sp best i) (hW w) [(31, .b true), (36, .b true), (39, .n (.fptr (snC s))), (43, .w (iI c)), (46, .b true), (53, .w (iI d)), (55, .q (.bool false)), (60, .b false), (64, .b true), (33, .w (iI i2))] = some (Ex.normal, (riS l j t sp c i2), (hW w), ((decide (i < (↑(List.length (snR l)) : Int))) = true) :: ((decide (i ≥ 0)) = true) :: ((idxOk i (List.length (snR l))) = true) :: ((nth (snR l) (Int.toNat i)) = (Option.some (snC s))) :: ((DV.int (IntKind.i64) (IntKind.wrap IntKind.i64 (s.b + sp))) = (iI c)) :: ((decide (c ≥ t)) = true) :: ((ar IntKind.i64 (c - sp)) = (iI d)) :: ((calC 52 [(wdD w), (snL l), (iI j), (iI d), (iI c)] (DV.bool false) 52 [(DV.agg (List.take 2 (List.drop 0 (wdC w)))), (snL l), (iI j), (iI d), (iI c)] (hW w)) = (Option.some ((DV.bool false), (hW w), Option.none))) :: ((decide (best < 0)) = false) :: ((decide (c < best)) = true) :: ((ar IntKind.i64 (i + 1)) = (iI i2)) :: []) := by kernel_rfl
set_option maxRecDepth 1000000 in
theorem xq14 (w : Wd) (l : List Sn) (j t sp best i i2 c d : Int) (s : Sn) : zsee Try.prog tab ftab (calC fbu [wdD w, snL l, iI j, iI d, iI c] (.bool false)) kRi [1, 2, 3, 4, 5, 13, 14] riL (riS l j t sp best i) (hW w) [(31, .b true), (36, .b true), (39, .n (.fptr (snC s))), (43, .w (iI c)), (46, .b true), (53, .w (iI d)), (55, .q (.bool false)), (60, .b false), (64, .b false), (33, .w (iI i2))] = some (Ex.normal, (riS l j t sp best i2), (hW w), ((decide (i < (↑(List.length (snR l)) : Int))) = true) :: ((decide (i ≥ 0)) = true) :: ((idxOk i (List.length (snR l))) = true) :: ((nth (snR l) (Int.toNat i)) = (Option.some (snC s))) :: ((DV.int (IntKind.i64) (IntKind.wrap IntKind.i64 (s.b + sp))) = (iI c)) :: ((decide (c ≥ t)) = true) :: ((ar IntKind.i64 (c - sp)) = (iI d)) :: ((calC 52 [(wdD w), (snL l), (iI j), (iI d), (iI c)] (DV.bool false) 52 [(DV.agg (List.take 2 (List.drop 0 (wdC w)))), (snL l), (iI j), (iI d), (iI c)] (hW w)) = (Option.some ((DV.bool false), (hW w), Option.none))) :: ((decide (best < 0)) = false) :: ((decide (c < best)) = false) :: ((ar IntKind.i64 (i + 1)) = (iI i2)) :: []) := by kernel_rfl
set_option maxRecDepth 1000000 in
theorem xqO (w : Wd) (l : List Sn) (j t sp best i i2 c d : Int) (s : Sn) : zsee Try.prog tab ftab noC kRi [13] riL (riS l j t sp best i) (hW w) [(31, .b false)] = some ((Ex.exit 0), (mkT 69 [(13, (DV.int (IntKind.i64) best))]), (hW w), ((decide (i < (↑(List.length (snR l)) : Int))) = false) :: []) := by kernel_rfl
set_option maxRecDepth 1000000 in
theorem xr0 (C : ConF) (w : Wd) (l : List Sn) (j t sp e u : Int) : zflat (zans Try.prog tab ftab C fRi [wdD w, snL l, iI j, iI t, iI sp] [(21, .q (iI e)), (23, .b true)]) = some ((DV.tuple [(DV.int IntKind.i64 0), (DV.int (IntKind.i64) e)]), ((C 51 [(DV.agg (List.take 2 (List.drop 0 (wdC w)))), (snL l), (iI j), (iI t), (iI sp)] (Hp.mk 1 [(Ob.mk 0 0 25 (wdC w))] [])) = (Option.some ((iI e), (Hp.mk 1 [(Ob.mk 0 0 25 (wdC w))] []), Option.none))) :: ((e != 0) = true) :: []) := by kernel_rfl
set_option maxRecDepth 1000000 in
theorem xr1 (C : ConF) (w : Wd) (l : List Sn) (j t sp e u : Int) : zflat (zans Try.prog tab ftab C fRi [wdD w, snL l, iI j, iI t, iI sp] [(21, .q (iI 0)), (26, .b true)]) = some ((DV.tuple [(iI t), (DV.int IntKind.i64 0)]), ((C 51 [(DV.agg (List.take 2 (List.drop 0 (wdC w)))), (snL l), (iI j), (iI t), (iI sp)] (Hp.mk 1 [(Ob.mk 0 0 25 (wdC w))] [])) = (Option.some ((iI 0), (Hp.mk 1 [(Ob.mk 0 0 25 (wdC w))] []), Option.none))) :: ((sp == 0) = true) :: []) := by kernel_rfl
set_option maxRecDepth 1000000 in
theorem xr2 (C : ConF) (w : Wd) (l : List Sn) (j t sp e u : Int) : zflat (zans Try.prog tab ftab C fRi [wdD w, snL l, iI j, iI t, iI sp] [(21, .q (iI 0)), (26, .b false), (0, .l [1, 2, 3, 4, 5, 13, 14] (.exit 0) (mkT 69 [(13, iI u)]) (hW w))]) = some ((DV.tuple [(DV.int (IntKind.i64) u), (DV.int IntKind.i64 0)]), ((C 51 [(DV.agg (List.take 2 (List.drop 0 (wdC w)))), (snL l), (iI j), (iI t), (iI sp)] (hW w)) = (Option.some ((iI 0), (hW w), Option.none))) :: ((sp == 0) = false) :: (Goes (Try.prog) tab (kRi) (Go.Code.loop (riL)) (riS l j t sp (-1) (-1)) (hW w) (Ex.exit 0) (mkT 69 [(13, (DV.int (IntKind.i64) u))]) (hW w)) :: []) := by kernel_rfl
theorem xp_go (l : List Sn) (t : Int) (hl : l.length ≤ 1000000) (k : Nat) (hk : k < l.length) : Goes Try.prog tab kDp dpL (dpS l t (dS 0 (filN (fun s => decide (s.b > t)) l k)) k) (hS 0 [] (filN (fun s => decide (s.b > t)) l k)) .normal (dpS l t (dS 0 (filN (fun s => decide (s.b > t)) l (k + 1))) (k + 1)) (hS 0 [] (filN (fun s => decide (s.b > t)) l (k + 1))) := by
  have e := snR_length l
  have hlen := filN_len (fun s => decide (s.b > t)) l k
  rw [show filN (fun s => decide (s.b > t)) l (k + 1) = match decide ((l.getD k sn0).b > t) with
    | true => filN (fun s => decide (s.b > t)) l k ++ [l.getD k sn0]
    | false => filN (fun s => decide (s.b > t)) l k from rfl]
  generalize filN (fun s => decide (s.b > t)) l k = r at *
  cases hh : decide ((l.getD k sn0).b > t) with
  | false =>
    cases r with
    | nil => exact zgm_ok tab_ok mixed fun_ok noC_ok (xp0n l t k 0 [] (l.getD k sn0)) (.cons (flatIn_nil _) (.cons (decide_eq_true (by omega)) (.cons (idxOk_lt (by omega)) (.cons (snR_get (by omega)) (.cons hh (.cons (wrK_at (by omega)) .nil))))))
    | cons x r => exact zgm_ok tab_ok mixed fun_ok noC_ok (xp1n l t k (x :: r).length (celN (x :: r)) (l.getD k sn0)) (.cons (flatOne rfl (celN_flat _)) (.cons (decide_eq_true (by omega)) (.cons (idxOk_lt (by omega)) (.cons (snR_get (by omega)) (.cons hh (.cons (wrK_at (by omega)) .nil))))))
  | true =>
    cases r with
    | nil => exact zgm_ok tab_ok mixed fun_ok noC_ok (xp0k l t k 0 [] (l.getD k sn0)) (.cons (flatOne rfl (snC_flat _)) (.cons (decide_eq_true (by omega)) (.cons (idxOk_lt (by omega)) (.cons (snR_get (by omega)) (.cons hh (.cons (idxOk_lt (by omega)) (.cons (snR_get (by omega)) (.cons (wrK_at (by omega)) .nil))))))))
    | cons x r =>
      rw [dS_snoc, hS_snoc]
      exact zgm_ok tab_ok mixed fun_ok noC_ok (xp1k l t k (x :: r).length (celN (x :: r)) (l.getD k sn0)) (.cons (flatOne rfl (app_flat (celN_flat _) (snC_flat _))) (.cons (decide_eq_true (by omega)) (.cons (idxOk_lt (by omega)) (.cons (snR_get (by omega)) (.cons hh (.cons (idxOk_lt (by omega)) (.cons (snR_get (by omega)) (.cons (by rw [app_tabN]; exact appH_grow (id := 0) (n := (x :: r).length) (m := 0) (e := tSn) (j := snT) (o := ⟨1, 0, tSn, celN (x :: r)⟩) (news := snC (l.getD k sn0)) rfl rfl rfl (.inl rfl) rfl (celN_length _) (fit_at (by show (_ + (0 + 1)) * 32 ≤ _; omega) (by omega))) (.cons (wrK_at (by omega)) .nil)))))))))
theorem dp_ans (l : List Sn) (t : Int) (hl : l.length ≤ 1000000) : Ans Try.prog fDp [snL l, iI t] (snL (drL l t)) ⟨0, [], []⟩ := by
  have e := snR_length l
  have en : Goes Try.prog tab kDp dpL (dpS l t (dS 0 (drL l t)) l.length) (hS 0 [] (drL l t)) (.exit 0) (mkT 28 [(5, dS 0 (drL l t))]) (hS 0 [] (drL l t)) := by
    generalize drL l t = r
    cases r with
    | nil => exact zsee_ok tab_ok mixed fun_ok noC_ok (xp0O l t l.length 0 [] sn0) (.cons (decide_eq_false (by omega)) .nil)
    | cons x r => exact zsee_ok tab_ok mixed fun_ok noC_ok (xp1O l t l.length (x :: r).length (celN (x :: r)) sn0) (.cons (decide_eq_false (by omega)) .nil)
  have g : Goes Try.prog tab kDp (.loop dpL) (dpS l t .nil 0) h00 (.exit 0) (mkT 28 [(5, dS 0 (drL l t))]) (hS 0 [] (drL l t)) :=
    Goes.loop l.length (fun k => dpS l t (dS 0 (filN (fun s => decide (s.b > t)) l k)) k) (fun k => hS 0 [] (filN (fun s => decide (s.b > t)) l k)) (fun k hk => xp_go l t hl k hk) en (by intro h; cases h)
  have z : Ans Try.prog fDp [snL l, iI t] (dS 0 (drL l t)) (hS 0 [] (drL l t)) := by
    generalize drL l t = r at *
    cases r with
    | nil => exact zans_ok tab_ok mixed fun_ok noC_ok (xp0F l t 0 0 [] sn0) (.cons g .nil)
    | cons x r => exact zans_ok tab_ok mixed fun_ok noC_ok (xp1F l t 0 (x :: r).length (celN (x :: r)) sn0) (.cons g .nil)
  exact AnsH.frz z (by cases drL l t <;> rfl) (dS_frz (L := []) rfl (fun _ => rfl) _)
/-! ### Idle -/
def idCd (l : List Sn) (t sp : Int) : Nat → Int
  | 0 => t
  | k + 1 => (l.getD k sn0).b + sp
def idSt (w : Wd) (l : List Sn) (j t sp c best : Int) : Int := match decide (c ≥ t) with
  | false => best
  | true => match rbV w l j (c - sp) c with
    | true => best
    | false => match decide (best < 0) with
      | true => c
      | false => match decide (c < best) with
        | true => c
        | false => best
def idBs (w : Wd) (l : List Sn) (j t sp : Int) : Nat → Int
  | 0 => -1
  | k + 1 => idSt w l j t sp (idCd l t sp k) (idBs w l j t sp k)
theorem free_rbV {w : Wd} {l : List Sn} {j : Int} (hc : chB w l = true) (hj : Nd w j) (sp c : Int) : rbV w l j (c - sp) c = false ↔ FreeT (noL w j l) sp c := by
  have key : ∀ s, s ∈ l → (rbB w j (c - sp) c s = true ↔ s ∈ noL w j l ∧ ovB s (bfS c sp) = true) := fun s hs => by
    rw [rbB_or, ← ntB_hr hc hj hs, Bool.and_eq_true, noL_mem, ov_bf]
    have : tmA (c - sp) c s = true ↔ s.a < c ∧ c - sp < s.b := by
      unfold tmA
      by_cases q : s.a < c
      · rw [decide_eq_true q]
        simp only [decide_eq_true_eq]
        omega
      · rw [decide_eq_false q]
        simp only [Bool.false_eq_true, false_iff]
        omega
    rw [this]
    exact ⟨fun h => ⟨⟨hs, h.1⟩, h.2⟩, fun h => ⟨h.1.2, h.2⟩⟩
  constructor
  · intro h s hs
    have hsl := (noL_mem.1 hs).1
    cases q : ovB s (bfS c sp) with
    | false => rfl
    | true =>
      obtain ⟨k, hk, rfl⟩ := mem_getD hsl
      have : rbV w l j (c - sp) c = true := anyB_iff.2 ⟨k, hk, (key _ hsl).2 ⟨hs, q⟩⟩
      rw [h] at this
      cases this
  · intro h
    cases q : rbV w l j (c - sp) c with
    | false => rfl
    | true =>
      obtain ⟨k, hk, hb⟩ := anyB_iff.1 q
      obtain ⟨h1, h2⟩ := (key _ (getD_mem hk)).1 hb
      rw [h _ h1] at h2
      cases h2
theorem idBs_inv {w : Wd} {l : List Sn} {j t sp : Int} (hc : chB w l = true) (hj : Nd w j) (h0 : 0 ≤ t) : ∀ k, (idBs w l j t sp k = -1 ∧ ∀ m, m < k → ¬ (t ≤ idCd l t sp m ∧ FreeT (noL w j l) sp (idCd l t sp m))) ∨
    (t ≤ idBs w l j t sp k ∧ FreeT (noL w j l) sp (idBs w l j t sp k) ∧ (∃ m, m < k ∧ idCd l t sp m = idBs w l j t sp k) ∧ ∀ m, m < k → t ≤ idCd l t sp m → FreeT (noL w j l) sp (idCd l t sp m) → idBs w l j t sp k ≤ idCd l t sp m)
  | 0 => .inl ⟨rfl, fun m h => by omega⟩
  | k + 1 => by
    have ih := idBs_inv (sp := sp) hc hj h0 k
    have fr := free_rbV hc hj sp (idCd l t sp k)
    show (idSt w l j t sp (idCd l t sp k) (idBs w l j t sp k) = -1 ∧ _) ∨ _
    rw [show idBs w l j t sp (k + 1) = idSt w l j t sp (idCd l t sp k) (idBs w l j t sp k) from rfl]
    generalize idBs w l j t sp k = b at *
    unfold idSt
    by_cases c1 : idCd l t sp k ≥ t
    · rw [decide_eq_true c1]
      dsimp only
      cases c2 : rbV w l j (idCd l t sp k - sp) (idCd l t sp k) with
      | true =>
        have nf : ¬ FreeT (noL w j l) sp (idCd l t sp k) := fun q => by rw [fr.2 q] at c2; cases c2
        dsimp only
        rcases ih with ⟨i1, i2⟩ | ⟨i1, i2, ⟨m0, i3, i4⟩, i5⟩
        · refine .inl ⟨i1, fun m hm q => ?_⟩
          rcases Nat.lt_or_ge m k with h | h
          · exact i2 m h q
          · rw [show m = k by omega] at q
            exact nf q.2
        · refine .inr ⟨i1, i2, ⟨m0, by omega, i4⟩, fun m hm q1 q2 => ?_⟩
          rcases Nat.lt_or_ge m k with h | h
          · exact i5 m h q1 q2
          · rw [show m = k by omega] at q2
            exact absurd q2 nf
      | false =>
        have f := fr.1 c2
        dsimp only
        rcases ih with ⟨i1, i2⟩ | ⟨i1, i2, ⟨m0, i3, i4⟩, i5⟩
        · rw [decide_eq_true (show b < 0 by omega)]
          refine .inr ⟨c1, f, ⟨k, by omega, rfl⟩, fun m hm q1 q2 => ?_⟩
          rcases Nat.lt_or_ge m k with h | h
          · exact absurd ⟨q1, q2⟩ (i2 m h)
          · rw [show m = k by omega]
            exact Int.le_refl _
        · rw [decide_eq_false (show ¬ b < 0 by omega)]
          dsimp only
          by_cases c3 : idCd l t sp k < b
          · rw [decide_eq_true c3]
            refine .inr ⟨c1, f, ⟨k, by omega, rfl⟩, fun m hm q1 q2 => ?_⟩
            rcases Nat.lt_or_ge m k with h | h
            · have := i5 m h q1 q2
              dsimp only
              omega
            · rw [show m = k by omega]
              exact Int.le_refl _
          · rw [decide_eq_false c3]
            refine .inr ⟨i1, i2, ⟨m0, by omega, i4⟩, fun m hm q1 q2 => ?_⟩
            rcases Nat.lt_or_ge m k with h | h
            · exact i5 m h q1 q2
            · rw [show m = k by omega]
              dsimp only
              omega
    · rw [decide_eq_false c1]
      dsimp only
      rcases ih with ⟨i1, i2⟩ | ⟨i1, i2, ⟨m0, i3, i4⟩, i5⟩
      · refine .inl ⟨i1, fun m hm q => ?_⟩
        rcases Nat.lt_or_ge m k with h | h
        · exact i2 m h q
        · rw [show m = k by omega] at q
          exact c1 q.1
      · refine .inr ⟨i1, i2, ⟨m0, by omega, i4⟩, fun m hm q1 q2 => ?_⟩
        rcases Nat.lt_or_ge m k with h | h
        · exact i5 m h q1 q2
        · rw [show m = k by omega] at q1
          exact absurd q1 c1
theorem idBs_lst {w : Wd} {l : List Sn} {j t sp u : Int} (hc : chB w l = true) (hj : Nd w j) (h0 : 0 ≤ t) (L : Lst (noL w j l) sp t u) : idBs w l j t sp (l.length + 1) = u := by
  obtain ⟨m, hm, hu⟩ : ∃ m, m < l.length + 1 ∧ idCd l t sp m = u := by
    rcases L.cand with h | ⟨s, hs, h⟩
    · exact ⟨0, by omega, h.symm⟩
    · obtain ⟨k, hk, rfl⟩ := mem_getD (noL_mem.1 hs).1
      exact ⟨k + 1, by omega, h⟩
  rcases idBs_inv (sp := sp) hc hj h0 (l.length + 1) with ⟨i1, i2⟩ | ⟨i1, i2, _, i5⟩
  · exact absurd ⟨by rw [hu]; exact L.le, by rw [hu]; exact L.fr⟩ (i2 m hm)
  · have a := i5 m hm (by rw [hu]; exact L.le) (by rw [hu]; exact L.fr)
    rw [hu] at a
    rcases Int.lt_or_le (idBs w l j t sp (l.length + 1)) u with q | q
    · exact absurd i2 (L.lt _ i1 q)
    · omega
section
variable (w : Wd) (l : List Sn) (hc : chB w l = true) (j t sp : Int) (hj : Nd w j) (h0 : 0 ≤ t ∧ t ≤ 1099511627776) (h1 : 0 ≤ sp ∧ sp ≤ 1099511627776)
include hc hj h0 h1
theorem xq_go (k : Nat) (hk : k < l.length + 1) : Goes Try.prog tab kRi riL (riS l j t sp (idBs w l j t sp k) ((k : Int) - 1)) (hW w) .normal (riS l j t sp (idBs w l j t sp (k + 1)) (((k + 1 : Nat) : Int) - 1)) (hW w) := by
  have e := snR_length l
  have n := chB_len hc
  cases k with
  | zero =>
    rw [show (((0 : Nat) : Int) - 1) = -1 from rfl, show (((0 + 1 : Nat) : Int) - 1) = 0 from rfl]
    have a := rbu_ans w l hc j (t - sp) t hj
    show Goes _ _ _ _ _ _ _ (riS l j t sp (idSt w l j t sp t (idBs w l j t sp 0)) _) _
    unfold idSt
    cases c1 : decide (t ≥ t) with
    | false => exact zsee_ok tab_ok mixed fun_ok noC_ok (xq00 w l j t sp (idBs w l j t sp 0) (-1) 0 0 (t - sp) sn0) (.cons (decide_eq_true (by omega)) (.cons (decide_eq_false (by omega)) (.cons c1 (.cons (congrArg (DV.int .i64) (wrapZ (by omega) (by omega))) .nil))))
    | true =>
      dsimp only
      cases c2 : rbV w l j (t - sp) t with
      | true => rw [c2] at a; exact zsee_ok tab_ok mixed fun_ok (calC_ok a) (xq01 w l j t sp (idBs w l j t sp 0) (-1) 0 0 (t - sp) sn0) (.cons (decide_eq_true (by omega)) (.cons (decide_eq_false (by omega)) (.cons c1 (.cons (congrArg (DV.int .i64) (wrapZ (by omega) (by omega))) (.cons (calC_at _ rfl rfl) (.cons (congrArg (DV.int .i64) (wrapZ (by omega) (by omega))) .nil))))))
      | false =>
        rw [c2] at a
        dsimp only
        cases c3 : decide (idBs w l j t sp 0 < 0) with
        | true => exact zsee_ok tab_ok mixed fun_ok (calC_ok a) (xq02 w l j t sp (idBs w l j t sp 0) (-1) 0 0 (t - sp) sn0) (.cons (decide_eq_true (by omega)) (.cons (decide_eq_false (by omega)) (.cons c1 (.cons (congrArg (DV.int .i64) (wrapZ (by omega) (by omega))) (.cons (calC_at _ rfl rfl) (.cons c3 (.cons (congrArg (DV.int .i64) (wrapZ (by omega) (by omega))) .nil)))))))
        | false =>
          dsimp only
          cases c4 : decide (t < idBs w l j t sp 0) with
          | true => exact zsee_ok tab_ok mixed fun_ok (calC_ok a) (xq03 w l j t sp (idBs w l j t sp 0) (-1) 0 0 (t - sp) sn0) (.cons (decide_eq_true (by omega)) (.cons (decide_eq_false (by omega)) (.cons c1 (.cons (congrArg (DV.int .i64) (wrapZ (by omega) (by omega))) (.cons (calC_at _ rfl rfl) (.cons c3 (.cons c4 (.cons (congrArg (DV.int .i64) (wrapZ (by omega) (by omega))) .nil))))))))
          | false => exact zsee_ok tab_ok mixed fun_ok (calC_ok a) (xq04 w l j t sp (idBs w l j t sp 0) (-1) 0 0 (t - sp) sn0) (.cons (decide_eq_true (by omega)) (.cons (decide_eq_false (by omega)) (.cons c1 (.cons (congrArg (DV.int .i64) (wrapZ (by omega) (by omega))) (.cons (calC_at _ rfl rfl) (.cons c3 (.cons c4 (.cons (congrArg (DV.int .i64) (wrapZ (by omega) (by omega))) .nil))))))))
  | succ m =>
    rw [show (((m + 1 : Nat) : Int) - 1) = (m : Int) by omega, show (((m + 1 + 1 : Nat) : Int) - 1) = (m : Int) + 1 by omega]
    have hm := (chB_in hc (getD_mem (show m < l.length by omega))).2.1
    have a := rbu_ans w l hc j (((l.getD m sn0).b + sp) - sp) ((l.getD m sn0).b + sp) hj
    show Goes _ _ _ _ _ _ _ (riS l j t sp (idSt w l j t sp ((l.getD m sn0).b + sp) (idBs w l j t sp (m + 1))) _) _
    unfold idSt
    cases c1 : decide (((l.getD m sn0).b + sp) ≥ t) with
    | false => exact zsee_ok tab_ok mixed fun_ok noC_ok (xq10 w l j t sp (idBs w l j t sp (m + 1)) (m : Int) ((m : Int) + 1) ((l.getD m sn0).b + sp) (((l.getD m sn0).b + sp) - sp) (l.getD m sn0)) (.cons (decide_eq_true (by omega)) (.cons (decide_eq_true (by omega)) (.cons (idxOk_lt (by omega)) (.cons (snR_get (by omega)) (.cons (congrArg (DV.int .i64) (wrapZ (by omega) (by omega))) (.cons c1 (.cons (congrArg (DV.int .i64) (wrapZ (by omega) (by omega))) .nil)))))))
    | true =>
      dsimp only
      cases c2 : rbV w l j (((l.getD m sn0).b + sp) - sp) ((l.getD m sn0).b + sp) with
      | true => rw [c2] at a; exact zsee_ok tab_ok mixed fun_ok (calC_ok a) (xq11 w l j t sp (idBs w l j t sp (m + 1)) (m : Int) ((m : Int) + 1) ((l.getD m sn0).b + sp) (((l.getD m sn0).b + sp) - sp) (l.getD m sn0)) (.cons (decide_eq_true (by omega)) (.cons (decide_eq_true (by omega)) (.cons (idxOk_lt (by omega)) (.cons (snR_get (by omega)) (.cons (congrArg (DV.int .i64) (wrapZ (by omega) (by omega))) (.cons c1 (.cons (congrArg (DV.int .i64) (wrapZ (by omega) (by omega))) (.cons (calC_at _ rfl rfl) (.cons (congrArg (DV.int .i64) (wrapZ (by omega) (by omega))) .nil)))))))))
      | false =>
        rw [c2] at a
        dsimp only
        cases c3 : decide (idBs w l j t sp (m + 1) < 0) with
        | true => exact zsee_ok tab_ok mixed fun_ok (calC_ok a) (xq12 w l j t sp (idBs w l j t sp (m + 1)) (m : Int) ((m : Int) + 1) ((l.getD m sn0).b + sp) (((l.getD m sn0).b + sp) - sp) (l.getD m sn0)) (.cons (decide_eq_true (by omega)) (.cons (decide_eq_true (by omega)) (.cons (idxOk_lt (by omega)) (.cons (snR_get (by omega)) (.cons (congrArg (DV.int .i64) (wrapZ (by omega) (by omega))) (.cons c1 (.cons (congrArg (DV.int .i64) (wrapZ (by omega) (by omega))) (.cons (calC_at _ rfl rfl) (.cons c3 (.cons (congrArg (DV.int .i64) (wrapZ (by omega) (by omega))) .nil))))))))))
        | false =>
          dsimp only
          cases c4 : decide (((l.getD m sn0).b + sp) < idBs w l j t sp (m + 1)) with
          | true => exact zsee_ok tab_ok mixed fun_ok (calC_ok a) (xq13 w l j t sp (idBs w l j t sp (m + 1)) (m : Int) ((m : Int) + 1) ((l.getD m sn0).b + sp) (((l.getD m sn0).b + sp) - sp) (l.getD m sn0)) (.cons (decide_eq_true (by omega)) (.cons (decide_eq_true (by omega)) (.cons (idxOk_lt (by omega)) (.cons (snR_get (by omega)) (.cons (congrArg (DV.int .i64) (wrapZ (by omega) (by omega))) (.cons c1 (.cons (congrArg (DV.int .i64) (wrapZ (by omega) (by omega))) (.cons (calC_at _ rfl rfl) (.cons c3 (.cons c4 (.cons (congrArg (DV.int .i64) (wrapZ (by omega) (by omega))) .nil)))))))))))
          | false => exact zsee_ok tab_ok mixed fun_ok (calC_ok a) (xq14 w l j t sp (idBs w l j t sp (m + 1)) (m : Int) ((m : Int) + 1) ((l.getD m sn0).b + sp) (((l.getD m sn0).b + sp) - sp) (l.getD m sn0)) (.cons (decide_eq_true (by omega)) (.cons (decide_eq_true (by omega)) (.cons (idxOk_lt (by omega)) (.cons (snR_get (by omega)) (.cons (congrArg (DV.int .i64) (wrapZ (by omega) (by omega))) (.cons c1 (.cons (congrArg (DV.int .i64) (wrapZ (by omega) (by omega))) (.cons (calC_at _ rfl rfl) (.cons c3 (.cons c4 (.cons (congrArg (DV.int .i64) (wrapZ (by omega) (by omega))) .nil)))))))))))
theorem xq_loop : Goes Try.prog tab kRi (.loop riL) (riS l j t sp (-1) (-1)) (hW w) (.exit 0) (mkT 69 [(13, iI (idBs w l j t sp (l.length + 1)))]) (hW w) := by
  have e := snR_length l
  have z := zsee_ok tab_ok mixed fun_ok noC_ok (xqO w l j t sp (idBs w l j t sp (l.length + 1)) (((l.length + 1 : Nat) : Int) - 1) 0 0 0 sn0) (.cons (decide_eq_false (by omega)) .nil)
  exact Goes.loop (P := Try.prog) (T := tab) (ks := kRi) (l.length + 1) (fun k => riS l j t sp (idBs w l j t sp k) ((k : Int) - 1)) (fun _ => hW w) (fun k hk => xq_go w l hc j t sp hj h0 h1 k hk) z (by intro h; cases h)
end
theorem rI_ans (w : Wd) (ok : OkW w) (l : List Sn) (hl : l.length < 2 ^ 63) (j t sp u : Int) (hA : IdA w l j t sp u) : Ans Try.prog fRi [wdD w, snL l, iI j, iI t, iI sp] (.tuple [iI u, iI (asM w l j (tmO t sp))]) ⟨0, [], []⟩ := by
  have a := aq_ans w ok l hl j t sp
  unfold IdA at hA
  cases hz : asM w l j (tmO t sp) == 0 with
  | false =>
    rw [hz] at hA
    rw [show u = 0 from hA]
    exact zflat_ok tab_ok mixed fun_ok (calC_ok a) (xr0 _ w l j t sp (asM w l j (tmO t sp)) 0) (.cons (calC_at _ rfl rfl) (.cons (by simp only [bne, hz]; rfl) .nil))
  | true =>
    rw [hz] at hA
    obtain ⟨c1, c2, c3⟩ := asM_z hz
    rw [beq_iff_eq.1 hz] at a ⊢
    have i1 : tmB t = true ∧ tmB sp = true := by
      unfold tmO at c3
      split at c3
      · rename_i q
        exact ⟨q, c3⟩
      · cases c3
    have t1 := (inB_iff _ _ _).1 i1.1
    have t2 := (inB_iff _ _ _).1 i1.2
    cases hs : sp == 0 with
    | true =>
      rw [hs] at hA
      rw [show u = t from hA]
      exact zflat_ok tab_ok mixed fun_ok (calC_ok a) (xr1 _ w l j t sp 0 0) (.cons (calC_at _ rfl rfl) (.cons hs .nil))
    | false =>
      rw [hs] at hA
      have g := xq_loop w l c1 j t sp c2 t1 t2
      rw [idBs_lst c1 c2 t1.1 hA] at g
      exact zflat_ok tab_ok mixed fun_ok (calC_ok a) (xr2 _ w l j t sp 0 u) (.cons (calC_at _ rfl rfl) (.cons hs (.cons g .nil)))
end
end Go.Proofs.Ytgjgihlfkpbdgaa
