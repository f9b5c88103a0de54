/- Receivers of the reference: contract. -/
import Derived.Test.YtgjgihlfkpbdgaaVq
namespace Go.Proofs.Ytgjgihlfkpbdgaa
open Go.RowKit

noncomputable section
abbrev fZr : FuncId := 21
abbrev kZr : List (Nat × Nat) := ksF ftab fZr
abbrev rzL : Code := loopAt (bodyOf ftab fZr) 0
abbrev rzI : Code := loopAt rzL 0
abbrev rzS (l : List Sn) (ds : List (List DV)) (od : DV) (n i : Nat) (rd : DV) (j : Nat) : Slots := mkT 60 [(1, snL l), (2, .list 1 ds), (3, .ptr 0 0), (9, od), (10, iN n), (11, iN i), (12, rd), (13, iN j)]
abbrev rzE (l : List Sn) (ds : List (List DV)) (od : DV) (n i : Nat) (rd : DV) : Slots := mkT 60 [(1, snL l), (2, .list 1 ds), (3, .ptr 0 0), (9, od), (10, iN n), (11, iN i), (12, rd)]
abbrev rzO (l : List Sn) (ds : List (List DV)) (od : DV) (n i : Nat) : Slots := mkT 60 [(1, snL l), (2, .list 1 ds), (3, .ptr 0 0), (9, od), (10, iN n), (11, iN i)]
set_option maxRecDepth 1000000 in
theorem rz00n (w : Wd) (l : List Sn) (ds : List (List DV)) (n i j p q : Nat) (oc cl : List DV) : zgm [0] [] (zsee Try.prog tab ftab (calC fCa [wdD w, snL l, iN i, iN j] (.bool false)) kZr [1, 2, 3, 9, 10, 11, 12, 13] rzI (rzS l ds .nil n i .nil j) (⟨1, [oW w], []⟩ : Hp) [(30, .b true), (37, .q (.bool false)), (32, .w (iN (j + 1)))]) = some (Ex.normal, ((rzS l ds .nil n i .nil (j + 1))), ((⟨1, [oW w], []⟩ : Hp)), (FlatIn [] ((⟨1, [oW w], []⟩ : Hp))) :: ((decide ((↑j : Int) < (↑(List.length (rsR w.r)) : Int))) = true) :: ((calC 48 [(wdD w), (snL l), (iN i), (iN j)] (DV.bool false) 48 [(DV.agg (List.take 2 (List.drop 0 (wdC w)))), (snL l), (iN i), (iN j)] ((⟨1, [oW w], []⟩ : Hp))) = (Option.some ((DV.bool false), ((⟨1, [oW w], []⟩ : Hp)), Option.none))) :: ((ar IntKind.i64 ((↑j : Int) + 1)) = (iN (j + 1))) :: []) := by kernel_rfl
set_option maxRecDepth 1000000 in
theorem rz00l (w : Wd) (l : List Sn) (ds : List (List DV)) (n i j p q : Nat) (oc cl : List DV) : zgm [0] [] (zsee Try.prog tab ftab (calC fCa [wdD w, snL l, iN i, iN j] (.bool true)) kZr [1, 2, 3, 9, 10, 11, 12, 13] rzI (rzS l ds .nil n i .nil j) (⟨1, [oW w], []⟩ : Hp) [(30, .b true), (37, .q (.bool true)), (41, .b false), (45, .n (.fptr [.bool true])), (54, .w (iN (n + 1))), (32, .w (iN (j + 1)))]) = some (Ex.normal, ((rzS l ds .nil (n + 1) i .nil (j + 1))), ((⟨1, [oW w], []⟩ : Hp)), (FlatIn [] ((⟨1, [oW w], []⟩ : Hp))) :: ((decide ((↑j : Int) < (↑(List.length (rsR w.r)) : Int))) = true) :: ((calC 48 [(wdD w), (snL l), (iN i), (iN j)] (DV.bool true) 48 [(DV.agg (List.take 2 (List.drop 0 (wdC w)))), (snL l), (iN i), (iN j)] ((⟨1, [oW w], []⟩ : Hp))) = (Option.some ((DV.bool true), ((⟨1, [oW w], []⟩ : Hp)), Option.none))) :: ((decide ((↑n : Int) ≥ (↑(List.length ds) : Int))) = false) :: ((idxOk (↑n : Int) (List.length ds)) = true) :: ((nth ds (Int.toNat (↑n : Int))) = (Option.some [(DV.bool true)])) :: ((ar IntKind.i64 ((↑n : Int) + 1)) = (iN (n + 1))) :: ((ar IntKind.i64 ((↑j : Int) + 1)) = (iN (j + 1))) :: []) := by kernel_rfl
set_option maxRecDepth 1000000 in
theorem rz00e (w : Wd) (l : List Sn) (ds : List (List DV)) (n i j p q : Nat) (oc cl : List DV) : zgm [0, 2] [2] (zsee Try.prog tab ftab (calC fCa [wdD w, snL l, iN i, iN j] (.bool true)) kZr [1, 2, 3, 9, 10, 11, 12, 13] rzI (rzS l ds .nil n i .nil j) (⟨1, [oW w], []⟩ : Hp) [(30, .b true), (37, .q (.bool true)), (41, .b true), (54, .w (iN (n + 1))), (32, .w (iN (j + 1)))]) = some (Ex.normal, ((rzS l ds .nil (n + 1) i (.sl 1 0 1 1 1) (j + 1))), ((⟨2, oJ 1 ([iN j]) :: [oW w], []⟩ : Hp)), (FlatIn [2] (Hp.mk 3 [(Ob.mk 1 0 3 [(DV.int (IntKind.i64) ((↑j : Int)))]), (Ob.mk 0 0 3 [(DV.int (IntKind.i64) ((↑j : Int)))]), (oW w)] [])) :: ((decide ((↑j : Int) < (↑(List.length (rsR w.r)) : Int))) = true) :: ((calC 48 [(wdD w), (snL l), (iN i), (iN j)] (DV.bool true) 48 [(DV.agg (List.take 2 (List.drop 0 (wdC w)))), (snL l), (iN i), (iN j)] (Hp.mk 1 [(oW w)] [])) = (Option.some ((DV.bool true), (Hp.mk 1 [(oW w)] []), Option.none))) :: ((decide ((↑n : Int) ≥ (↑(List.length ds) : Int))) = true) :: ((ar IntKind.i64 ((↑n : Int) + 1)) = (iN (n + 1))) :: ((ar IntKind.i64 ((↑j : Int) + 1)) = (iN (j + 1))) :: []) := by kernel_rfl
set_option maxRecDepth 1000000 in
theorem rz00k (w : Wd) (l : List Sn) (ds : List (List DV)) (n i j p q : Nat) (oc cl : List DV) : zgm [0, 2] [2] (zsee Try.prog tab ftab (calC fCa [wdD w, snL l, iN i, iN j] (.bool true)) kZr [1, 2, 3, 9, 10, 11, 12, 13] rzI (rzS l ds .nil n i .nil j) (⟨1, [oW w], []⟩ : Hp) [(30, .b true), (37, .q (.bool true)), (41, .b false), (45, .n (.fptr [.bool false])), (54, .w (iN (n + 1))), (32, .w (iN (j + 1)))]) = some (Ex.normal, ((rzS l ds .nil (n + 1) i (.sl 1 0 1 1 1) (j + 1))), ((⟨2, oJ 1 ([iN j]) :: [oW w], []⟩ : Hp)), (FlatIn [2] (Hp.mk 3 [(Ob.mk 1 0 3 [(DV.int (IntKind.i64) ((↑j : Int)))]), (Ob.mk 0 0 3 [(DV.int (IntKind.i64) ((↑j : Int)))]), (oW w)] [])) :: ((decide ((↑j : Int) < (↑(List.length (rsR w.r)) : Int))) = true) :: ((calC 48 [(wdD w), (snL l), (iN i), (iN j)] (DV.bool true) 48 [(DV.agg (List.take 2 (List.drop 0 (wdC w)))), (snL l), (iN i), (iN j)] (Hp.mk 1 [(oW w)] [])) = (Option.some ((DV.bool true), (Hp.mk 1 [(oW w)] []), Option.none))) :: ((decide ((↑n : Int) ≥ (↑(List.length ds) : Int))) = false) :: ((idxOk (↑n : Int) (List.length ds)) = true) :: ((nth ds (Int.toNat (↑n : Int))) = (Option.some [(DV.bool false)])) :: ((ar IntKind.i64 ((↑n : Int) + 1)) = (iN (n + 1))) :: ((ar IntKind.i64 ((↑j : Int) + 1)) = (iN (j + 1))) :: []) := by kernel_rfl
set_option maxRecDepth 1000000 in
theorem rz00O (w : Wd) (l : List Sn) (ds : List (List DV)) (n i j p q : Nat) (oc cl : List DV) : zsee Try.prog tab ftab noC kZr [1, 2, 3, 9, 10, 11, 12] rzI (rzS l ds .nil n i .nil j) (⟨1, [oW w], []⟩ : Hp) [(30, .b false)] = some ((Ex.exit 2), (rzE l ds .nil n i .nil), ((⟨1, [oW w], []⟩ : Hp)), ((decide ((↑j : Int) < (↑(List.length (rsR w.r)) : Int))) = false) :: []) := by kernel_rfl
set_option maxRecDepth 1000000 in
theorem rz01n (w : Wd) (l : List Sn) (ds : List (List DV)) (n i j p q : Nat) (oc cl : List DV) : zgm [0, 1] [1] (zsee Try.prog tab ftab (calC fCa [wdD w, snL l, iN i, iN j] (.bool false)) kZr [1, 2, 3, 9, 10, 11, 12, 13] rzI (rzS l ds .nil n i (.sl 1 0 1 q q) j) (⟨2, oJ 1 cl :: [oW w], []⟩ : Hp) [(30, .b true), (37, .q (.bool false)), (32, .w (iN (j + 1)))]) = some (Ex.normal, ((rzS l ds .nil n i (.sl 1 0 1 q q) (j + 1))), ((⟨2, oJ 1 cl :: [oW w], []⟩ : Hp)), (FlatIn [1] ((⟨2, oJ 1 cl :: [oW w], []⟩ : Hp))) :: ((decide ((↑j : Int) < (↑(List.length (rsR w.r)) : Int))) = true) :: ((calC 48 [(wdD w), (snL l), (iN i), (iN j)] (DV.bool false) 48 [(DV.agg (List.take 2 (List.drop 0 (wdC w)))), (snL l), (iN i), (iN j)] ((⟨2, oJ 1 cl :: [oW w], []⟩ : Hp))) = (Option.some ((DV.bool false), ((⟨2, oJ 1 cl :: [oW w], []⟩ : Hp)), Option.none))) :: ((ar IntKind.i64 ((↑j : Int) + 1)) = (iN (j + 1))) :: []) := by kernel_rfl
set_option maxRecDepth 1000000 in
theorem rz01l (w : Wd) (l : List Sn) (ds : List (List DV)) (n i j p q : Nat) (oc cl : List DV) : zgm [0, 1] [1] (zsee Try.prog tab ftab (calC fCa [wdD w, snL l, iN i, iN j] (.bool true)) kZr [1, 2, 3, 9, 10, 11, 12, 13] rzI (rzS l ds .nil n i (.sl 1 0 1 q q) j) (⟨2, oJ 1 cl :: [oW w], []⟩ : Hp) [(30, .b true), (37, .q (.bool true)), (41, .b false), (45, .n (.fptr [.bool true])), (54, .w (iN (n + 1))), (32, .w (iN (j + 1)))]) = some (Ex.normal, ((rzS l ds .nil (n + 1) i (.sl 1 0 1 q q) (j + 1))), ((⟨2, oJ 1 cl :: [oW w], []⟩ : Hp)), (FlatIn [1] ((⟨2, oJ 1 cl :: [oW w], []⟩ : Hp))) :: ((decide ((↑j : Int) < (↑(List.length (rsR w.r)) : Int))) = true) :: ((calC 48 [(wdD w), (snL l), (iN i), (iN j)] (DV.bool true) 48 [(DV.agg (List.take 2 (List.drop 0 (wdC w)))), (snL l), (iN i), (iN j)] ((⟨2, oJ 1 cl :: [oW w], []⟩ : Hp))) = (Option.some ((DV.bool true), ((⟨2, oJ 1 cl :: [oW w], []⟩ : Hp)), Option.none))) :: ((decide ((↑n : Int) ≥ (↑(List.length ds) : Int))) = false) :: ((idxOk (↑n : Int) (List.length ds)) = true) :: ((nth ds (Int.toNat (↑n : Int))) = (Option.some [(DV.bool true)])) :: ((ar IntKind.i64 ((↑n : Int) + 1)) = (iN (n + 1))) :: ((ar IntKind.i64 ((↑j : Int) + 1)) = (iN (j + 1))) :: []) := by kernel_rfl
set_option maxRecDepth 1000000 in
theorem rz01e (w : Wd) (l : List Sn) (ds : List (List DV)) (n i j p q : Nat) (oc cl : List DV) : zgm [0, 3] [3] (zsee Try.prog tab ftab (calC fCa [wdD w, snL l, iN i, iN j] (.bool true)) kZr [1, 2, 3, 9, 10, 11, 12, 13] rzI (rzS l ds .nil n i (.sl 1 0 1 q q) j) (⟨2, oJ 1 cl :: [oW w], []⟩ : Hp) [(30, .b true), (37, .q (.bool true)), (41, .b true), (52, .h (.sl 3 0 1 (q + 1) (q + 1)) ⟨4, ⟨3, 1, 3, cl ++ [iN j]⟩ :: oJ 0 [iN j] :: ⟨2, 0, 3, cl⟩ :: [oW w], []⟩ (some 1)), (54, .w (iN (n + 1))), (32, .w (iN (j + 1)))]) = some (Ex.normal, ((rzS l ds .nil (n + 1) i (.sl 1 0 1 (q + 1) (q + 1)) (j + 1))), ((⟨2, oJ 1 (cl ++ [iN j]) :: [oW w], []⟩ : Hp)), (FlatIn [3] (Hp.mk 4 [(Ob.mk 3 1 3 (cl ++ [iN j])), (oJ 0 [iN j]), (Ob.mk 2 0 3 (cl)), (oW w)] [])) :: ((decide ((↑j : Int) < (↑(List.length (rsR w.r)) : Int))) = true) :: ((calC 48 [(wdD w), (snL l), (iN i), (iN j)] (DV.bool true) 48 [(DV.agg (List.take 2 (List.drop 0 (wdC w)))), (snL l), (iN i), (iN j)] (Hp.mk 2 [(oJ 1 cl), (oW w)] [])) = (Option.some ((DV.bool true), (Hp.mk 2 [(oJ 1 cl), (oW w)] []), Option.none))) :: ((decide ((↑n : Int) ≥ (↑(List.length ds) : Int))) = true) :: ((builtinD tab (Hp.mk 3 [(Ob.mk 0 0 3 [(iN j)]), (oJ 1 cl), (oW w)] []) (Builtin.append) [(DV.sl 1 0 1 q q), (DV.sl 2 0 1 1 1)] [55, 55]) = (Option.some ((DV.sl 3 0 1 (q + 1) (q + 1)), (Hp.mk 4 [(Ob.mk 3 1 3 (cl ++ [iN j])), (oJ 0 [iN j]), (Ob.mk 2 0 3 (cl)), (oW w)] []), (Option.some 1)))) :: ((ar IntKind.i64 ((↑n : Int) + 1)) = (iN (n + 1))) :: ((ar IntKind.i64 ((↑j : Int) + 1)) = (iN (j + 1))) :: []) := by kernel_rfl
set_option maxRecDepth 1000000 in
theorem rz01k (w : Wd) (l : List Sn) (ds : List (List DV)) (n i j p q : Nat) (oc cl : List DV) : zgm [0, 3] [3] (zsee Try.prog tab ftab (calC fCa [wdD w, snL l, iN i, iN j] (.bool true)) kZr [1, 2, 3, 9, 10, 11, 12, 13] rzI (rzS l ds .nil n i (.sl 1 0 1 q q) j) (⟨2, oJ 1 cl :: [oW w], []⟩ : Hp) [(30, .b true), (37, .q (.bool true)), (41, .b false), (45, .n (.fptr [.bool false])), (52, .h (.sl 3 0 1 (q + 1) (q + 1)) ⟨4, ⟨3, 1, 3, cl ++ [iN j]⟩ :: oJ 0 [iN j] :: ⟨2, 0, 3, cl⟩ :: [oW w], []⟩ (some 1)), (54, .w (iN (n + 1))), (32, .w (iN (j + 1)))]) = some (Ex.normal, ((rzS l ds .nil (n + 1) i (.sl 1 0 1 (q + 1) (q + 1)) (j + 1))), ((⟨2, oJ 1 (cl ++ [iN j]) :: [oW w], []⟩ : Hp)), (FlatIn [3] (Hp.mk 4 [(Ob.mk 3 1 3 (cl ++ [iN j])), (oJ 0 [iN j]), (Ob.mk 2 0 3 (cl)), (oW w)] [])) :: ((decide ((↑j : Int) < (↑(List.length (rsR w.r)) : Int))) = true) :: ((calC 48 [(wdD w), (snL l), (iN i), (iN j)] (DV.bool true) 48 [(DV.agg (List.take 2 (List.drop 0 (wdC w)))), (snL l), (iN i), (iN j)] (Hp.mk 2 [(oJ 1 cl), (oW w)] [])) = (Option.some ((DV.bool true), (Hp.mk 2 [(oJ 1 cl), (oW w)] []), Option.none))) :: ((decide ((↑n : Int) ≥ (↑(List.length ds) : Int))) = false) :: ((idxOk (↑n : Int) (List.length ds)) = true) :: ((nth ds (Int.toNat (↑n : Int))) = (Option.some [(DV.bool false)])) :: ((builtinD tab (Hp.mk 3 [(Ob.mk 0 0 3 [(iN j)]), (oJ 1 cl), (oW w)] []) (Builtin.append) [(DV.sl 1 0 1 q q), (DV.sl 2 0 1 1 1)] [55, 55]) = (Option.some ((DV.sl 3 0 1 (q + 1) (q + 1)), (Hp.mk 4 [(Ob.mk 3 1 3 (cl ++ [iN j])), (oJ 0 [iN j]), (Ob.mk 2 0 3 (cl)), (oW w)] []), (Option.some 1)))) :: ((ar IntKind.i64 ((↑n : Int) + 1)) = (iN (n + 1))) :: ((ar IntKind.i64 ((↑j : Int) + 1)) = (iN (j + 1))) :: []) := by kernel_rfl
set_option maxRecDepth 1000000 in
theorem rz01O (w : Wd) (l : List Sn) (ds : List (List DV)) (n i j p q : Nat) (oc cl : List DV) : zsee Try.prog tab ftab noC kZr [1, 2, 3, 9, 10, 11, 12] rzI (rzS l ds .nil n i (.sl 1 0 1 q q) j) (⟨2, oJ 1 cl :: [oW w], []⟩ : Hp) [(30, .b false)] = some ((Ex.exit 2), (rzE l ds .nil n i (.sl 1 0 1 q q)), ((⟨2, oJ 1 cl :: [oW w], []⟩ : Hp)), ((decide ((↑j : Int) < (↑(List.length (rsR w.r)) : Int))) = false) :: []) := by kernel_rfl
set_option maxRecDepth 1000000 in
theorem ry0 (w : Wd) (l : List Sn) (ds xs : List (List DV)) (n n2 i p : Nat) (oc : List DV) : zgm [0, 2] [2] (zsee Try.prog tab ftab noC kZr [1, 2, 3, 9, 10, 11] rzL (rzO l ds .nil n i) (⟨1, [oW w], []⟩ : Hp) [(23, .b true), (0, .l [1, 2, 3, 9, 10, 11, 12, 13] (.exit 2) (rzE l ds .nil n2 i (.list 1 xs)) (⟨1, [oW w], []⟩ : Hp)), (25, .w (iN (i + 1)))]) = some (Ex.normal, (rzO l ds (.sl 1 0 1 1 1) n2 (i + 1)), ((⟨2, [⟨1, 0, tIs, [.list 1 xs]⟩, oW w], []⟩ : Hp)), (FlatIn [2] (Hp.mk 3 [(Ob.mk 1 0 55 [(DV.list 1 (xs))]), (Ob.mk 0 0 55 [(DV.list 1 (xs))]), (oW w)] [])) :: ((decide ((↑i : Int) < (↑(List.length (snR l)) : Int))) = true) :: (Goes (Try.prog) tab (kZr) (Go.Code.loop (rzI)) (rzS l ds .nil n i .nil 0) ((⟨1, [oW w], []⟩ : Hp)) (Ex.exit 2) (rzE l ds .nil n2 i (.list 1 xs)) ((⟨1, [oW w], []⟩ : Hp))) :: ((ar IntKind.i64 ((↑i : Int) + 1)) = (iN (i + 1))) :: []) := by kernel_rfl
set_option maxRecDepth 1000000 in
theorem ryO0 (w : Wd) (l : List Sn) (ds xs : List (List DV)) (n n2 i p : Nat) (oc : List DV) : zsee Try.prog tab ftab noC kZr [9] rzL (rzO l ds .nil n i) (⟨1, [oW w], []⟩ : Hp) [(23, .b false)] = some ((Ex.exit 0), (mkT 60 [(9, DV.nil)]), ((⟨1, [oW w], []⟩ : Hp)), ((decide ((↑i : Int) < (↑(List.length (snR l)) : Int))) = false) :: []) := by kernel_rfl
set_option maxRecDepth 1000000 in
theorem rx0 (C : ConF) (w : Wd) (l : List Sn) (ds : List (List DV)) (p : Nat) (oc : List DV) : zans Try.prog tab ftab C fZr [wdD w, snL l, .list 1 ds] [(16, .q (iI 0)), (0, .l [1, 2, 3, 9, 10, 11] (.exit 0) (mkT 60 [(9, .nil)]) (⟨1, [oW w], []⟩ : Hp))] = some ((DV.tuple [DV.nil, (DV.int IntKind.i64 0)]), ((⟨1, [oW w], []⟩ : Hp)), ((C 22 [(DV.agg (List.take 2 (List.drop 0 (wdC w)))), (snL l)] ((⟨1, [oW w], []⟩ : Hp))) = (Option.some ((iI 0), ((⟨1, [oW w], []⟩ : Hp)), Option.none))) :: (Goes (Try.prog) tab (kZr) (Go.Code.loop (rzL)) (rzO l ds .nil 0 0) ((⟨1, [oW w], []⟩ : Hp)) (Ex.exit 0) (mkT 60 [(9, DV.nil)]) ((⟨1, [oW w], []⟩ : Hp))) :: []) := by kernel_rfl
set_option maxRecDepth 1000000 in
theorem rz10n (w : Wd) (l : List Sn) (ds : List (List DV)) (n i j p q : Nat) (oc cl : List DV) : zgm [0, 1] [1] (zsee Try.prog tab ftab (calC fCa [wdD w, snL l, iN i, iN j] (.bool false)) kZr [1, 2, 3, 9, 10, 11, 12, 13] rzI (rzS l ds (.sl 1 0 1 p p) n i .nil j) (⟨2, [⟨1, 0, tIs, oc⟩, oW w], []⟩ : Hp) [(30, .b true), (37, .q (.bool false)), (32, .w (iN (j + 1)))]) = some (Ex.normal, ((rzS l ds (.sl 1 0 1 p p) n i .nil (j + 1))), ((⟨2, [⟨1, 0, tIs, oc⟩, oW w], []⟩ : Hp)), (FlatIn [1] ((⟨2, [⟨1, 0, tIs, oc⟩, oW w], []⟩ : Hp))) :: ((decide ((↑j : Int) < (↑(List.length (rsR w.r)) : Int))) = true) :: ((calC 48 [(wdD w), (snL l), (iN i), (iN j)] (DV.bool false) 48 [(DV.agg (List.take 2 (List.drop 0 (wdC w)))), (snL l), (iN i), (iN j)] ((⟨2, [⟨1, 0, tIs, oc⟩, oW w], []⟩ : Hp))) = (Option.some ((DV.bool false), ((⟨2, [⟨1, 0, tIs, oc⟩, oW w], []⟩ : Hp)), Option.none))) :: ((ar IntKind.i64 ((↑j : Int) + 1)) = (iN (j + 1))) :: []) := by kernel_rfl
set_option maxRecDepth 1000000 in
theorem rz10l (w : Wd) (l : List Sn) (ds : List (List DV)) (n i j p q : Nat) (oc cl : List DV) : zgm [0, 1] [1] (zsee Try.prog tab ftab (calC fCa [wdD w, snL l, iN i, iN j] (.bool true)) kZr [1, 2, 3, 9, 10, 11, 12, 13] rzI (rzS l ds (.sl 1 0 1 p p) n i .nil j) (⟨2, [⟨1, 0, tIs, oc⟩, oW w], []⟩ : Hp) [(30, .b true), (37, .q (.bool true)), (41, .b false), (45, .n (.fptr [.bool true])), (54, .w (iN (n + 1))), (32, .w (iN (j + 1)))]) = some (Ex.normal, ((rzS l ds (.sl 1 0 1 p p) (n + 1) i .nil (j + 1))), ((⟨2, [⟨1, 0, tIs, oc⟩, oW w], []⟩ : Hp)), (FlatIn [1] ((⟨2, [⟨1, 0, tIs, oc⟩, oW w], []⟩ : Hp))) :: ((decide ((↑j : Int) < (↑(List.length (rsR w.r)) : Int))) = true) :: ((calC 48 [(wdD w), (snL l), (iN i), (iN j)] (DV.bool true) 48 [(DV.agg (List.take 2 (List.drop 0 (wdC w)))), (snL l), (iN i), (iN j)] ((⟨2, [⟨1, 0, tIs, oc⟩, oW w], []⟩ : Hp))) = (Option.some ((DV.bool true), ((⟨2, [⟨1, 0, tIs, oc⟩, oW w], []⟩ : Hp)), Option.none))) :: ((decide ((↑n : Int) ≥ (↑(List.length ds) : Int))) = false) :: ((idxOk (↑n : Int) (List.length ds)) = true) :: ((nth ds (Int.toNat (↑n : Int))) = (Option.some [(DV.bool true)])) :: ((ar IntKind.i64 ((↑n : Int) + 1)) = (iN (n + 1))) :: ((ar IntKind.i64 ((↑j : Int) + 1)) = (iN (j + 1))) :: []) := by kernel_rfl
set_option maxRecDepth 1000000 in
theorem rz10e (w : Wd) (l : List Sn) (ds : List (List DV)) (n i j p q : Nat) (oc cl : List DV) : zgm [0, 1, 3] [1, 3] (zsee Try.prog tab ftab (calC fCa [wdD w, snL l, iN i, iN j] (.bool true)) kZr [1, 2, 3, 9, 10, 11, 12, 13] rzI (rzS l ds (.sl 1 0 1 p p) n i .nil j) (⟨2, [⟨1, 0, tIs, oc⟩, oW w], []⟩ : Hp) [(30, .b true), (37, .q (.bool true)), (41, .b true), (54, .w (iN (n + 1))), (32, .w (iN (j + 1)))]) = some (Ex.normal, ((rzS l ds (.sl 1 0 1 p p) (n + 1) i (.sl 2 0 1 1 1) (j + 1))), ((⟨3, oJ 1 ([iN j]) :: [⟨1, 0, tIs, oc⟩, oW w], []⟩ : Hp)), (FlatIn [1, 3] (Hp.mk 4 [(Ob.mk 1 0 3 [(DV.int (IntKind.i64) ((↑j : Int)))]), (Ob.mk 0 0 3 [(DV.int (IntKind.i64) ((↑j : Int)))]), (Ob.mk 1 0 55 (oc)), (oW w)] [])) :: ((decide ((↑j : Int) < (↑(List.length (rsR w.r)) : Int))) = true) :: ((calC 48 [(wdD w), (snL l), (iN i), (iN j)] (DV.bool true) 48 [(DV.agg (List.take 2 (List.drop 0 (wdC w)))), (snL l), (iN i), (iN j)] (Hp.mk 2 [(Ob.mk 1 0 55 (oc)), (oW w)] [])) = (Option.some ((DV.bool true), (Hp.mk 2 [(Ob.mk 1 0 55 (oc)), (oW w)] []), Option.none))) :: ((decide ((↑n : Int) ≥ (↑(List.length ds) : Int))) = true) :: ((ar IntKind.i64 ((↑n : Int) + 1)) = (iN (n + 1))) :: ((ar IntKind.i64 ((↑j : Int) + 1)) = (iN (j + 1))) :: []) := by kernel_rfl
set_option maxRecDepth 1000000 in
theorem rz10k (w : Wd) (l : List Sn) (ds : List (List DV)) (n i j p q : Nat) (oc cl : List DV) : zgm [0, 1, 3] [1, 3] (zsee Try.prog tab ftab (calC fCa [wdD w, snL l, iN i, iN j] (.bool true)) kZr [1, 2, 3, 9, 10, 11, 12, 13] rzI (rzS l ds (.sl 1 0 1 p p) n i .nil j) (⟨2, [⟨1, 0, tIs, oc⟩, oW w], []⟩ : Hp) [(30, .b true), (37, .q (.bool true)), (41, .b false), (45, .n (.fptr [.bool false])), (54, .w (iN (n + 1))), (32, .w (iN (j + 1)))]) = some (Ex.normal, ((rzS l ds (.sl 1 0 1 p p) (n + 1) i (.sl 2 0 1 1 1) (j + 1))), ((⟨3, oJ 1 ([iN j]) :: [⟨1, 0, tIs, oc⟩, oW w], []⟩ : Hp)), (FlatIn [1, 3] (Hp.mk 4 [(Ob.mk 1 0 3 [(DV.int (IntKind.i64) ((↑j : Int)))]), (Ob.mk 0 0 3 [(DV.int (IntKind.i64) ((↑j : Int)))]), (Ob.mk 1 0 55 (oc)), (oW w)] [])) :: ((decide ((↑j : Int) < (↑(List.length (rsR w.r)) : Int))) = true) :: ((calC 48 [(wdD w), (snL l), (iN i), (iN j)] (DV.bool true) 48 [(DV.agg (List.take 2 (List.drop 0 (wdC w)))), (snL l), (iN i), (iN j)] (Hp.mk 2 [(Ob.mk 1 0 55 (oc)), (oW w)] [])) = (Option.some ((DV.bool true), (Hp.mk 2 [(Ob.mk 1 0 55 (oc)), (oW w)] []), Option.none))) :: ((decide ((↑n : Int) ≥ (↑(List.length ds) : Int))) = false) :: ((idxOk (↑n : Int) (List.length ds)) = true) :: ((nth ds (Int.toNat (↑n : Int))) = (Option.some [(DV.bool false)])) :: ((ar IntKind.i64 ((↑n : Int) + 1)) = (iN (n + 1))) :: ((ar IntKind.i64 ((↑j : Int) + 1)) = (iN (j + 1))) :: []) := by kernel_rfl
set_option maxRecDepth 1000000 in
theorem rz10O (w : Wd) (l : List Sn) (ds : List (List DV)) (n i j p q : Nat) (oc cl : List DV) : zsee Try.prog tab ftab noC kZr [1, 2, 3, 9, 10, 11, 12] rzI (rzS l ds (.sl 1 0 1 p p) n i .nil j) (⟨2, [⟨1, 0, tIs, oc⟩, oW w], []⟩ : Hp) [(30, .b false)] = some ((Ex.exit 2), (rzE l ds (.sl 1 0 1 p p) n i .nil), ((⟨2, [⟨1, 0, tIs, oc⟩, oW w], []⟩ : Hp)), ((decide ((↑j : Int) < (↑(List.length (rsR w.r)) : Int))) = false) :: []) := by kernel_rfl
set_option maxRecDepth 1000000 in
theorem rz11n (w : Wd) (l : List Sn) (ds : List (List DV)) (n i j p q : Nat) (oc cl : List DV) : zgm [0, 1, 2] [1, 2] (zsee Try.prog tab ftab (calC fCa [wdD w, snL l, iN i, iN j] (.bool false)) kZr [1, 2, 3, 9, 10, 11, 12, 13] rzI (rzS l ds (.sl 1 0 1 p p) n i (.sl 2 0 1 q q) j) (⟨3, oJ 1 cl :: [⟨1, 0, tIs, oc⟩, oW w], []⟩ : Hp) [(30, .b true), (37, .q (.bool false)), (32, .w (iN (j + 1)))]) = some (Ex.normal, ((rzS l ds (.sl 1 0 1 p p) n i (.sl 2 0 1 q q) (j + 1))), ((⟨3, oJ 1 cl :: [⟨1, 0, tIs, oc⟩, oW w], []⟩ : Hp)), (FlatIn [1, 2] ((⟨3, oJ 1 cl :: [⟨1, 0, tIs, oc⟩, oW w], []⟩ : Hp))) :: ((decide ((↑j : Int) < (↑(List.length (rsR w.r)) : Int))) = true) :: ((calC 48 [(wdD w), (snL l), (iN i), (iN j)] (DV.bool false) 48 [(DV.agg (List.take 2 (List.drop 0 (wdC w)))), (snL l), (iN i), (iN j)] ((⟨3, oJ 1 cl :: [⟨1, 0, tIs, oc⟩, oW w], []⟩ : Hp))) = (Option.some ((DV.bool false), ((⟨3, oJ 1 cl :: [⟨1, 0, tIs, oc⟩, oW w], []⟩ : Hp)), Option.none))) :: ((ar IntKind.i64 ((↑j : Int) + 1)) = (iN (j + 1))) :: []) := by kernel_rfl
set_option maxRecDepth 1000000 in
theorem rz11l (w : Wd) (l : List Sn) (ds : List (List DV)) (n i j p q : Nat) (oc cl : List DV) : zgm [0, 1, 2] [1, 2] (zsee Try.prog tab ftab (calC fCa [wdD w, snL l, iN i, iN j] (.bool true)) kZr [1, 2, 3, 9, 10, 11, 12, 13] rzI (rzS l ds (.sl 1 0 1 p p) n i (.sl 2 0 1 q q) j) (⟨3, oJ 1 cl :: [⟨1, 0, tIs, oc⟩, oW w], []⟩ : Hp) [(30, .b true), (37, .q (.bool true)), (41, .b false), (45, .n (.fptr [.bool true])), (54, .w (iN (n + 1))), (32, .w (iN (j + 1)))]) = some (Ex.normal, ((rzS l ds (.sl 1 0 1 p p) (n + 1) i (.sl 2 0 1 q q) (j + 1))), ((⟨3, oJ 1 cl :: [⟨1, 0, tIs, oc⟩, oW w], []⟩ : Hp)), (FlatIn [1, 2] ((⟨3, oJ 1 cl :: [⟨1, 0, tIs, oc⟩, oW w], []⟩ : Hp))) :: ((decide ((↑j : Int) < (↑(List.length (rsR w.r)) : Int))) = true) :: ((calC 48 [(wdD w), (snL l), (iN i), (iN j)] (DV.bool true) 48 [(DV.agg (List.take 2 (List.drop 0 (wdC w)))), (snL l), (iN i), (iN j)] ((⟨3, oJ 1 cl :: [⟨1, 0, tIs, oc⟩, oW w], []⟩ : Hp))) = (Option.some ((DV.bool true), ((⟨3, oJ 1 cl :: [⟨1, 0, tIs, oc⟩, oW w], []⟩ : Hp)), Option.none))) :: ((decide ((↑n : Int) ≥ (↑(List.length ds) : Int))) = false) :: ((idxOk (↑n : Int) (List.length ds)) = true) :: ((nth ds (Int.toNat (↑n : Int))) = (Option.some [(DV.bool true)])) :: ((ar IntKind.i64 ((↑n : Int) + 1)) = (iN (n + 1))) :: ((ar IntKind.i64 ((↑j : Int) + 1)) = (iN (j + 1))) :: []) := by kernel_rfl
set_option maxRecDepth 1000000 in
theorem rz11e (w : Wd) (l : List Sn) (ds : List (List DV)) (n i j p q : Nat) (oc cl : List DV) : zgm [0, 1, 4] [1, 4] (zsee Try.prog tab ftab (calC fCa [wdD w, snL l, iN i, iN j] (.bool true)) kZr [1, 2, 3, 9, 10, 11, 12, 13] rzI (rzS l ds (.sl 1 0 1 p p) n i (.sl 2 0 1 q q) j) (⟨3, oJ 1 cl :: [⟨1, 0, tIs, oc⟩, oW w], []⟩ : Hp) [(30, .b true), (37, .q (.bool true)), (41, .b true), (52, .h (.sl 4 0 1 (q + 1) (q + 1)) ⟨5, ⟨3, 2, 3, cl ++ [iN j]⟩ :: oJ 0 [iN j] :: ⟨2, 0, 3, cl⟩ :: [⟨1, 0, tIs, oc⟩, oW w], []⟩ (some 2)), (54, .w (iN (n + 1))), (32, .w (iN (j + 1)))]) = some (Ex.normal, ((rzS l ds (.sl 1 0 1 p p) (n + 1) i (.sl 2 0 1 (q + 1) (q + 1)) (j + 1))), ((⟨3, oJ 1 (cl ++ [iN j]) :: [⟨1, 0, tIs, oc⟩, oW w], []⟩ : Hp)), (FlatIn [1, 4] (Hp.mk 5 [(Ob.mk 3 2 3 (cl ++ [iN j])), (oJ 0 [iN j]), (Ob.mk 2 0 3 (cl)), (Ob.mk 1 0 55 (oc)), (oW w)] [])) :: ((decide ((↑j : Int) < (↑(List.length (rsR w.r)) : Int))) = true) :: ((calC 48 [(wdD w), (snL l), (iN i), (iN j)] (DV.bool true) 48 [(DV.agg (List.take 2 (List.drop 0 (wdC w)))), (snL l), (iN i), (iN j)] (Hp.mk 3 [(oJ 1 cl), (Ob.mk 1 0 55 (oc)), (oW w)] [])) = (Option.some ((DV.bool true), (Hp.mk 3 [(oJ 1 cl), (Ob.mk 1 0 55 (oc)), (oW w)] []), Option.none))) :: ((decide ((↑n : Int) ≥ (↑(List.length ds) : Int))) = true) :: ((builtinD tab (Hp.mk 4 [(Ob.mk 0 0 3 [(iN j)]), (oJ 1 cl), (Ob.mk 1 0 55 (oc)), (oW w)] []) (Builtin.append) [(DV.sl 2 0 1 q q), (DV.sl 3 0 1 1 1)] [55, 55]) = (Option.some ((DV.sl 4 0 1 (q + 1) (q + 1)), (Hp.mk 5 [(Ob.mk 3 2 3 (cl ++ [iN j])), (oJ 0 [iN j]), (Ob.mk 2 0 3 (cl)), (Ob.mk 1 0 55 (oc)), (oW w)] []), (Option.some 2)))) :: ((ar IntKind.i64 ((↑n : Int) + 1)) = (iN (n + 1))) :: ((ar IntKind.i64 ((↑j : Int) + 1)) = (iN (j + 1))) :: []) := by kernel_rfl
set_option maxRecDepth 1000000 in
theorem rz11k (w : Wd) (l : List Sn) (ds : List (List DV)) (n i j p q : Nat) (oc cl : List DV) : zgm [0, 1, 4] [1, 4] (zsee Try.prog tab ftab (calC fCa [wdD w, snL l, iN i, iN j] (.bool true)) kZr [1, 2, 3, 9, 10, 11, 12, 13] rzI (rzS l ds (.sl 1 0 1 p p) n i (.sl 2 0 1 q q) j) (⟨3, oJ 1 cl :: [⟨1, 0, tIs, oc⟩, oW w], []⟩ : Hp) [(30, .b true), (37, .q (.bool true)), (41, .b false), (45, .n (.fptr [.bool false])), (52, .h (.sl 4 0 1 (q + 1) (q + 1)) ⟨5, ⟨3, 2, 3, cl ++ [iN j]⟩ :: oJ 0 [iN j] :: ⟨2, 0, 3, cl⟩ :: [⟨1, 0, tIs, oc⟩, oW w], []⟩ (some 2)), (54, .w (iN (n + 1))), (32, .w (iN (j + 1)))]) = some (Ex.normal, ((rzS l ds (.sl 1 0 1 p p) (n + 1) i (.sl 2 0 1 (q + 1) (q + 1)) (j + 1))), ((⟨3, oJ 1 (cl ++ [iN j]) :: [⟨1, 0, tIs, oc⟩, oW w], []⟩ : Hp)), (FlatIn [1, 4] (Hp.mk 5 [(Ob.mk 3 2 3 (cl ++ [iN j])), (oJ 0 [iN j]), (Ob.mk 2 0 3 (cl)), (Ob.mk 1 0 55 (oc)), (oW w)] [])) :: ((decide ((↑j : Int) < (↑(List.length (rsR w.r)) : Int))) = true) :: ((calC 48 [(wdD w), (snL l), (iN i), (iN j)] (DV.bool true) 48 [(DV.agg (List.take 2 (List.drop 0 (wdC w)))), (snL l), (iN i), (iN j)] (Hp.mk 3 [(oJ 1 cl), (Ob.mk 1 0 55 (oc)), (oW w)] [])) = (Option.some ((DV.bool true), (Hp.mk 3 [(oJ 1 cl), (Ob.mk 1 0 55 (oc)), (oW w)] []), Option.none))) :: ((decide ((↑n : Int) ≥ (↑(List.length ds) : Int))) = false) :: ((idxOk (↑n : Int) (List.length ds)) = true) :: ((nth ds (Int.toNat (↑n : Int))) = (Option.some [(DV.bool false)])) :: ((builtinD tab (Hp.mk 4 [(Ob.mk 0 0 3 [(iN j)]), (oJ 1 cl), (Ob.mk 1 0 55 (oc)), (oW w)] []) (Builtin.append) [(DV.sl 2 0 1 q q), (DV.sl 3 0 1 1 1)] [55, 55]) = (Option.some ((DV.sl 4 0 1 (q + 1) (q + 1)), (Hp.mk 5 [(Ob.mk 3 2 3 (cl ++ [iN j])), (oJ 0 [iN j]), (Ob.mk 2 0 3 (cl)), (Ob.mk 1 0 55 (oc)), (oW w)] []), (Option.some 2)))) :: ((ar IntKind.i64 ((↑n : Int) + 1)) = (iN (n + 1))) :: ((ar IntKind.i64 ((↑j : Int) + 1)) = (iN (j + 1))) :: []) := by kernel_rfl
set_option maxRecDepth 1000000 in
theorem rz11O (w : Wd) (l : List Sn) (ds : List (List DV)) (n i j p q : Nat) (oc cl : List DV) : zsee Try.prog tab ftab noC kZr [1, 2, 3, 9, 10, 11, 12] rzI (rzS l ds (.sl 1 0 1 p p) n i (.sl 2 0 1 q q) j) (⟨3, oJ 1 cl :: [⟨1, 0, tIs, oc⟩, oW w], []⟩ : Hp) [(30, .b false)] = some ((Ex.exit 2), (rzE l ds (.sl 1 0 1 p p) n i (.sl 2 0 1 q q)), ((⟨3, oJ 1 cl :: [⟨1, 0, tIs, oc⟩, oW w], []⟩ : Hp)), ((decide ((↑j : Int) < (↑(List.length (rsR w.r)) : Int))) = false) :: []) := by kernel_rfl
set_option maxRecDepth 1000000 in
theorem ry1 (w : Wd) (l : List Sn) (ds xs : List (List DV)) (n n2 i p : Nat) (oc : List DV) : zgm [0, 3] [3] (zsee Try.prog tab ftab noC kZr [1, 2, 3, 9, 10, 11] rzL (rzO l ds (.sl 1 0 1 p p) n i) (⟨2, [⟨1, 0, tIs, oc⟩, oW w], []⟩ : Hp) [(23, .b true), (0, .l [1, 2, 3, 9, 10, 11, 12, 13] (.exit 2) (rzE l ds (.sl 1 0 1 p p) n2 i (.list 1 xs)) (⟨2, [⟨1, 0, tIs, oc⟩, oW w], []⟩ : Hp)), (58, .h (.sl 3 0 1 (p + 1) (p + 1)) ⟨4, [⟨3, 1, tIs, oc ++ [.list 1 xs]⟩, ⟨0, 0, tIs, [.list 1 xs]⟩, ⟨2, 0, tIs, oc⟩, oW w], []⟩ (some 1)), (25, .w (iN (i + 1)))]) = some (Ex.normal, (rzO l ds (.sl 1 0 1 (p + 1) (p + 1)) n2 (i + 1)), ((⟨2, [⟨1, 0, tIs, oc ++ [.list 1 xs]⟩, oW w], []⟩ : Hp)), (FlatIn [3] (Hp.mk 4 [(Ob.mk 3 1 55 (oc ++ [DV.list 1 xs])), (Ob.mk 0 0 55 [(DV.list 1 xs)]), (Ob.mk 2 0 55 (oc)), (oW w)] [])) :: ((decide ((↑i : Int) < (↑(List.length (snR l)) : Int))) = true) :: (Goes (Try.prog) tab (kZr) (Go.Code.loop (rzI)) (rzS l ds (.sl 1 0 1 p p) n i .nil 0) ((⟨2, [⟨1, 0, tIs, oc⟩, oW w], []⟩ : Hp)) (Ex.exit 2) (rzE l ds (.sl 1 0 1 p p) n2 i (.list 1 xs)) ((⟨2, [⟨1, 0, tIs, oc⟩, oW w], []⟩ : Hp))) :: ((builtinD tab (Hp.mk 3 [(Ob.mk 0 0 55 [(DV.list 1 xs)]), (Ob.mk 1 0 55 (oc)), (oW w)] []) (Builtin.append) [(DV.sl 1 0 1 p p), (DV.sl 2 0 1 1 1)] [23, 23]) = (Option.some ((DV.sl 3 0 1 (p + 1) (p + 1)), (Hp.mk 4 [(Ob.mk 3 1 55 (oc ++ [DV.list 1 xs])), (Ob.mk 0 0 55 [(DV.list 1 xs)]), (Ob.mk 2 0 55 (oc)), (oW w)] []), (Option.some 1)))) :: ((ar IntKind.i64 ((↑i : Int) + 1)) = (iN (i + 1))) :: []) := by kernel_rfl
set_option maxRecDepth 1000000 in
theorem ryO1 (w : Wd) (l : List Sn) (ds xs : List (List DV)) (n n2 i p : Nat) (oc : List DV) : zsee Try.prog tab ftab noC kZr [9] rzL (rzO l ds (.sl 1 0 1 p p) n i) (⟨2, [⟨1, 0, tIs, oc⟩, oW w], []⟩ : Hp) [(23, .b false)] = some ((Ex.exit 0), (mkT 60 [(9, (DV.sl 1 0 1 p p))]), ((⟨2, [⟨1, 0, tIs, oc⟩, oW w], []⟩ : Hp)), ((decide ((↑i : Int) < (↑(List.length (snR l)) : Int))) = false) :: []) := by kernel_rfl
set_option maxRecDepth 1000000 in
theorem rx1 (C : ConF) (w : Wd) (l : List Sn) (ds : List (List DV)) (p : Nat) (oc : List DV) : zans Try.prog tab ftab C fZr [wdD w, snL l, .list 1 ds] [(16, .q (iI 0)), (0, .l [1, 2, 3, 9, 10, 11] (.exit 0) (mkT 60 [(9, (.sl 1 0 1 p p))]) (⟨2, [⟨1, 0, tIs, oc⟩, oW w], []⟩ : Hp))] = some ((DV.tuple [(DV.sl 1 0 1 p p), (DV.int IntKind.i64 0)]), ((⟨2, [⟨1, 0, tIs, oc⟩, oW w], []⟩ : Hp)), ((C 22 [(DV.agg (List.take 2 (List.drop 0 (wdC w)))), (snL l)] ((⟨1, [oW w], []⟩ : Hp))) = (Option.some ((iI 0), ((⟨1, [oW w], []⟩ : Hp)), Option.none))) :: (Goes (Try.prog) tab (kZr) (Go.Code.loop (rzL)) (rzO l ds .nil 0 0) ((⟨1, [oW w], []⟩ : Hp)) (Ex.exit 0) (mkT 60 [(9, (DV.sl 1 0 1 p p))]) ((⟨2, [⟨1, 0, tIs, oc⟩, oW w], []⟩ : Hp))) :: []) := by kernel_rfl
set_option maxRecDepth 1000000 in
theorem rx2 (C : ConF) (w : Wd) (l : List Sn) (ds : List (List DV)) : zflat (zans Try.prog tab ftab C fZr [wdD w, snL l, .list 1 ds] [(16, .q (iI 8))]) = some ((DV.tuple [(DV.nil), (DV.int (IntKind.i64) 8)]), ((C 22 [(DV.agg (List.take 2 (List.drop 0 (wdC w)))), (snL l)] (Hp.mk 1 [(Ob.mk 0 0 25 (wdC w))] [])) = (Option.some ((iI 8), (Hp.mk 1 [(Ob.mk 0 0 25 (wdC w))] []), Option.none))) :: []) := by kernel_rfl
/-! ### The draws, counted -/
def stpR (ds : List Bool) (v : Bool) (j : Nat) (p : List Int × Nat) : List Int × Nat := match v with
  | false => p
  | true => match decide ((p.2 : Int) ≥ (ds.length : Int)) with
    | true => (p.1 ++ [(j : Int)], p.2 + 1)
    | false => match ds.getD p.2 false with
      | true => (p.1, p.2 + 1)
      | false => (p.1 ++ [(j : Int)], p.2 + 1)
def innR (ds : List Bool) (f : Nat → Bool) (n : Nat) : Nat → List Int × Nat
  | 0 => ([], n)
  | j + 1 => stpR ds (f j) j (innR ds f n j)
def ouR (ds : List Bool) (F : Nat → Nat → Bool) (m : Nat) : Nat → List (List Int) × Nat
  | 0 => ([], 0)
  | i + 1 => ((ouR ds F m i).1 ++ [(innR ds (F i) (ouR ds F m i).2 m).1], (innR ds (F i) (ouR ds F m i).2 m).2)
theorem stp_rel (ds : List Bool) (v : Bool) (j : Nat) (row : List Int) (n : Nat) : stp v j (row, ds.drop n) = ((stpR ds v j (row, n)).1, ds.drop (stpR ds v j (row, n)).2) := by
  unfold stp stpR
  cases v with
  | false => rfl
  | true =>
    dsimp only
    by_cases h : n < ds.length
    · rw [decide_eq_false (show ¬ ((n : Int) ≥ (ds.length : Int)) by omega), List.drop_eq_getElem_cons h, List.getD_eq_getElem?_getD, List.getElem?_eq_getElem h]
      dsimp only [Option.getD_some]
      cases ds[n] <;> rfl
    · rw [decide_eq_true (show (n : Int) ≥ (ds.length : Int) by omega), List.drop_eq_nil_of_le (by omega)]
      dsimp only
      rw [List.drop_eq_nil_of_le (by omega)]
theorem inn_rel (ds : List Bool) (f : Nat → Bool) (n : Nat) : ∀ j, inn f (ds.drop n) j = ((innR ds f n j).1, ds.drop (innR ds f n j).2)
  | 0 => rfl
  | j + 1 => by
    rw [inn, inn_rel ds f n j, stp_rel]
    rfl
theorem out_rel (ds : List Bool) (F : Nat → Nat → Bool) (m : Nat) : ∀ i, out F m ds i = ((ouR ds F m i).1, ds.drop (ouR ds F m i).2)
  | 0 => rfl
  | i + 1 => by
    rw [out, out_rel ds F m i, inn_rel]
    rfl
theorem innR_len (ds : List Bool) (f : Nat → Bool) (n : Nat) : ∀ j, (innR ds f n j).1.length ≤ j ∧ (innR ds f n j).2 ≤ n + j
  | 0 => ⟨Nat.le_refl _, Nat.le_refl _⟩
  | j + 1 => by
    have := innR_len ds f n j
    show (stpR ds (f j) j (innR ds f n j)).1.length ≤ j + 1 ∧ (stpR ds (f j) j (innR ds f n j)).2 ≤ n + (j + 1)
    generalize innR ds f n j = p at *
    unfold stpR
    split
    · omega
    · split
      · exact ⟨by simp; omega, by show p.2 + 1 ≤ _; omega⟩
      · split
        · exact ⟨by show p.1.length ≤ _; omega, by show p.2 + 1 ≤ _; omega⟩
        · exact ⟨by simp; omega, by show p.2 + 1 ≤ _; omega⟩
theorem ouR_len (ds : List Bool) (F : Nat → Nat → Bool) (m : Nat) : ∀ i, (ouR ds F m i).1.length = i ∧ (ouR ds F m i).2 ≤ i * m
  | 0 => ⟨rfl, Nat.zero_le _⟩
  | i + 1 => by
    have h1 := ouR_len ds F m i
    have h2 := (innR_len ds (F i) (ouR ds F m i).2 m).2
    refine ⟨?_, ?_⟩
    · show ((ouR ds F m i).1 ++ [_]).length = _
      rw [List.length_append, h1.1]
      rfl
    · show (innR ds (F i) (ouR ds F m i).2 m).2 ≤ _
      rw [Nat.succ_mul]
      omega
/-! ### How the rows stand -/
def oD : List (List Int) → DV
  | [] => .nil
  | r :: s => .sl 1 0 1 (r :: s).length (r :: s).length
def oH (w : Wd) : List (List Int) → Hp
  | [] => ⟨1, [oW w], []⟩
  | r :: s => ⟨2, [⟨1, 0, tIs, celS (r :: s)⟩, oW w], []⟩
def nDr : List (List Int) → List Int → DV
  | _, [] => .nil
  | [], x :: r => .sl 1 0 1 (x :: r).length (x :: r).length
  | _ :: _, x :: r => .sl 2 0 1 (x :: r).length (x :: r).length
def nHr (w : Wd) : List (List Int) → List Int → Hp
  | [], [] => ⟨1, [oW w], []⟩
  | [], x :: r => ⟨2, oJ 1 (celI (x :: r)) :: [oW w], []⟩
  | y :: s, [] => ⟨2, [⟨1, 0, tIs, celS (y :: s)⟩, oW w], []⟩
  | y :: s, x :: r => ⟨3, oJ 1 (celI (x :: r)) :: [⟨1, 0, tIs, celS (y :: s)⟩, oW w], []⟩
theorem celI_flat (l : List Int) : ∀ d ∈ celI l, flat0 d = true := flatten_flat (i1_flat l)
theorem b1_at {ds : List Bool} {n : Nat} {v : Bool} (h : n < ds.length) (hv : ds.getD n false = v) : nth (b1 ds) ((n : Int).toNat) = some [.bool v] := by
  rw [Int.toNat_natCast, nth_eq]
  unfold b1
  rw [List.getElem?_map, List.getElem?_eq_getElem h]
  rw [List.getD_eq_getElem?_getD, List.getElem?_eq_getElem h] at hv
  exact congrArg (fun b => some [DV.bool b]) hv
section
variable (w : Wd) (l : List Sn) (hc : chB w l = true) (ds : List Bool) (i : Nat) (hi : i < l.length)
include hc hi
theorem rz_go (rs : List (List Int)) (row : List Int) (n : Nat) (hn9 : n < 2 ^ 62) (j : Nat) (hj : j < w.r.length) (hrow : row.length ≤ 1000) :
    Goes Try.prog tab kZr rzI (rzS l (b1 ds) (oD rs) n i (nDr rs row) j) (nHr w rs row) .normal (rzS l (b1 ds) (oD rs) (stpR ds (canB w l i j) j (row, n)).2 i (nDr rs (stpR ds (canB w l i j) j (row, n)).1) (j + 1)) (nHr w rs (stpR ds (canB w l i j) j (row, n)).1) := by
  have e1 := rsR_length w.r
  have va := (va_iff w).1 (chB_ok hc).1
  have v2 := va.n2
  have a := ca_ans w l hc i hi (j : Int) ⟨by omega, by omega⟩
  unfold stpR
  cases rs with
  | nil =>
    cases row with
    | nil =>
      cases hv : canB w l i (j : Int) with
      | false => rw [hv] at a; exact zgm_ok tab_ok mixed fun_ok (calC_ok a) (rz00n w l (b1 ds) n i j 0 0 [] []) (.cons (flatIn_nil _) (.cons (decide_eq_true (by omega)) (.cons (calC_at _ rfl rfl) (.cons (wrK_at (by omega)) .nil))))
      | true =>
        rw [hv] at a
        by_cases hn : n < ds.length
        · rw [decide_eq_false (show ¬ ((n : Int) ≥ (ds.length : Int)) by omega)]
          cases hd : ds.getD n false with
          | true => exact zgm_ok tab_ok mixed fun_ok (calC_ok a) (rz00l w l (b1 ds) n i j 0 0 [] []) (.cons (flatIn_nil _) (.cons (decide_eq_true (by omega)) (.cons (calC_at _ rfl rfl) (.cons (decide_eq_false (by rw [b1_length]; omega)) (.cons (idxOk_lt (by rw [b1_length]; omega)) (.cons (b1_at hn hd) (.cons (wrK_at (by omega)) (.cons (wrK_at (by omega)) .nil))))))))
          | false => dsimp only; exact zgm_ok tab_ok mixed fun_ok (calC_ok a) (rz00k w l (b1 ds) n i j 0 0 [] []) (.cons (flatOne rfl (one_flat rfl)) (.cons (decide_eq_true (by omega)) (.cons (calC_at _ rfl rfl) (.cons (decide_eq_false (by rw [b1_length]; omega)) (.cons (idxOk_lt (by rw [b1_length]; omega)) (.cons (b1_at hn hd) (.cons (wrK_at (by omega)) (.cons (wrK_at (by omega)) .nil))))))))
        · rw [decide_eq_true (show (n : Int) ≥ (ds.length : Int) by omega)]
          dsimp only; exact zgm_ok tab_ok mixed fun_ok (calC_ok a) (rz00e w l (b1 ds) n i j 0 0 [] []) (.cons (flatOne rfl (one_flat rfl)) (.cons (decide_eq_true (by omega)) (.cons (calC_at _ rfl rfl) (.cons (decide_eq_true (by rw [b1_length]; omega)) (.cons (wrK_at (by omega)) (.cons (wrK_at (by omega)) .nil))))))
    | cons x r =>
      cases hv : canB w l i (j : Int) with
      | false => rw [hv] at a; exact zgm_ok tab_ok mixed fun_ok (calC_ok a) (rz01n w l (b1 ds) n i j 0 (x :: r).length [] (celI (x :: r))) (.cons (flatOne rfl (celI_flat _)) (.cons (decide_eq_true (by omega)) (.cons (calC_at _ rfl rfl) (.cons (wrK_at (by omega)) .nil))))
      | true =>
        rw [hv] at a
        by_cases hn : n < ds.length
        · rw [decide_eq_false (show ¬ ((n : Int) ≥ (ds.length : Int)) by omega)]
          cases hd : ds.getD n false with
          | true => exact zgm_ok tab_ok mixed fun_ok (calC_ok a) (rz01l w l (b1 ds) n i j 0 (x :: r).length [] (celI (x :: r))) (.cons (flatOne rfl (celI_flat _)) (.cons (decide_eq_true (by omega)) (.cons (calC_at _ rfl rfl) (.cons (decide_eq_false (by rw [b1_length]; omega)) (.cons (idxOk_lt (by rw [b1_length]; omega)) (.cons (b1_at hn hd) (.cons (wrK_at (by omega)) (.cons (wrK_at (by omega)) .nil))))))))
          | false => dsimp only; rw [show nHr w [] (x :: r ++ [(j : Int)]) = ⟨2, oJ 1 (celI (x :: r) ++ [iN j]) :: [oW w], []⟩ by rw [← celI_snoc]; rfl, show nDr [] (x :: r ++ [(j : Int)]) = .sl 1 0 1 ((x :: r).length + 1) ((x :: r).length + 1) by show DV.sl 1 0 1 (x :: (r ++ [(j : Int)])).length _ = _; simp]; exact zgm_ok tab_ok mixed fun_ok (calC_ok a) (rz01k w l (b1 ds) n i j 0 (x :: r).length [] (celI (x :: r))) (.cons (flatOne rfl (app_flat (celI_flat _) (one_flat rfl))) (.cons (decide_eq_true (by omega)) (.cons (calC_at _ rfl rfl) (.cons (decide_eq_false (by rw [b1_length]; omega)) (.cons (idxOk_lt (by rw [b1_length]; omega)) (.cons (b1_at hn hd) (.cons (by rw [app_tabI]; exact appH_grow (id := 1) (n := (x :: r).length) (m := 0) (e := 3) (j := inT) (o := oJ 1 (celI (x :: r))) (news := [iN j]) rfl rfl rfl (.inl rfl) rfl (by rw [celI_length, Nat.mul_one]) (fit_at (by show (_ + (0 + 1)) * 8 ≤ _; omega) (by omega))) (.cons (wrK_at (by omega)) (.cons (wrK_at (by omega)) .nil)))))))))
        · rw [decide_eq_true (show (n : Int) ≥ (ds.length : Int) by omega)]
          dsimp only; rw [show nHr w [] (x :: r ++ [(j : Int)]) = ⟨2, oJ 1 (celI (x :: r) ++ [iN j]) :: [oW w], []⟩ by rw [← celI_snoc]; rfl, show nDr [] (x :: r ++ [(j : Int)]) = .sl 1 0 1 ((x :: r).length + 1) ((x :: r).length + 1) by show DV.sl 1 0 1 (x :: (r ++ [(j : Int)])).length _ = _; simp]; exact zgm_ok tab_ok mixed fun_ok (calC_ok a) (rz01e w l (b1 ds) n i j 0 (x :: r).length [] (celI (x :: r))) (.cons (flatOne rfl (app_flat (celI_flat _) (one_flat rfl))) (.cons (decide_eq_true (by omega)) (.cons (calC_at _ rfl rfl) (.cons (decide_eq_true (by rw [b1_length]; omega)) (.cons (by rw [app_tabI]; exact appH_grow (id := 1) (n := (x :: r).length) (m := 0) (e := 3) (j := inT) (o := oJ 1 (celI (x :: r))) (news := [iN j]) rfl rfl rfl (.inl rfl) rfl (by rw [celI_length, Nat.mul_one]) (fit_at (by show (_ + (0 + 1)) * 8 ≤ _; omega) (by omega))) (.cons (wrK_at (by omega)) (.cons (wrK_at (by omega)) .nil)))))))
  | cons y s =>
    cases row with
    | nil =>
      cases hv : canB w l i (j : Int) with
      | false => rw [hv] at a; exact zgm_ok tab_ok mixed fun_ok (calC_ok a) (rz10n w l (b1 ds) n i j (y :: s).length 0 (celS (y :: s)) []) (.cons (flatOne rfl (celS_flat _)) (.cons (decide_eq_true (by omega)) (.cons (calC_at _ rfl rfl) (.cons (wrK_at (by omega)) .nil))))
      | true =>
        rw [hv] at a
        by_cases hn : n < ds.length
        · rw [decide_eq_false (show ¬ ((n : Int) ≥ (ds.length : Int)) by omega)]
          cases hd : ds.getD n false with
          | true => exact zgm_ok tab_ok mixed fun_ok (calC_ok a) (rz10l w l (b1 ds) n i j (y :: s).length 0 (celS (y :: s)) []) (.cons (flatOne rfl (celS_flat _)) (.cons (decide_eq_true (by omega)) (.cons (calC_at _ rfl rfl) (.cons (decide_eq_false (by rw [b1_length]; omega)) (.cons (idxOk_lt (by rw [b1_length]; omega)) (.cons (b1_at hn hd) (.cons (wrK_at (by omega)) (.cons (wrK_at (by omega)) .nil))))))))
          | false => dsimp only; exact zgm_ok tab_ok mixed fun_ok (calC_ok a) (rz10k w l (b1 ds) n i j (y :: s).length 0 (celS (y :: s)) []) (.cons (flatTwo rfl rfl (celS_flat _) (one_flat rfl)) (.cons (decide_eq_true (by omega)) (.cons (calC_at _ rfl rfl) (.cons (decide_eq_false (by rw [b1_length]; omega)) (.cons (idxOk_lt (by rw [b1_length]; omega)) (.cons (b1_at hn hd) (.cons (wrK_at (by omega)) (.cons (wrK_at (by omega)) .nil))))))))
        · rw [decide_eq_true (show (n : Int) ≥ (ds.length : Int) by omega)]
          dsimp only; exact zgm_ok tab_ok mixed fun_ok (calC_ok a) (rz10e w l (b1 ds) n i j (y :: s).length 0 (celS (y :: s)) []) (.cons (flatTwo rfl rfl (celS_flat _) (one_flat rfl)) (.cons (decide_eq_true (by omega)) (.cons (calC_at _ rfl rfl) (.cons (decide_eq_true (by rw [b1_length]; omega)) (.cons (wrK_at (by omega)) (.cons (wrK_at (by omega)) .nil))))))
    | cons x r =>
      cases hv : canB w l i (j : Int) with
      | false => rw [hv] at a; exact zgm_ok tab_ok mixed fun_ok (calC_ok a) (rz11n w l (b1 ds) n i j (y :: s).length (x :: r).length (celS (y :: s)) (celI (x :: r))) (.cons (flatTwo rfl rfl (celS_flat _) (celI_flat _)) (.cons (decide_eq_true (by omega)) (.cons (calC_at _ rfl rfl) (.cons (wrK_at (by omega)) .nil))))
      | true =>
        rw [hv] at a
        by_cases hn : n < ds.length
        · rw [decide_eq_false (show ¬ ((n : Int) ≥ (ds.length : Int)) by omega)]
          cases hd : ds.getD n false with
          | true => exact zgm_ok tab_ok mixed fun_ok (calC_ok a) (rz11l w l (b1 ds) n i j (y :: s).length (x :: r).length (celS (y :: s)) (celI (x :: r))) (.cons (flatTwo rfl rfl (celS_flat _) (celI_flat _)) (.cons (decide_eq_true (by omega)) (.cons (calC_at _ rfl rfl) (.cons (decide_eq_false (by rw [b1_length]; omega)) (.cons (idxOk_lt (by rw [b1_length]; omega)) (.cons (b1_at hn hd) (.cons (wrK_at (by omega)) (.cons (wrK_at (by omega)) .nil))))))))
          | false => dsimp only; rw [show nHr w (y :: s) (x :: r ++ [(j : Int)]) = ⟨3, oJ 1 (celI (x :: r) ++ [iN j]) :: [⟨1, 0, tIs, celS (y :: s)⟩, oW w], []⟩ by rw [← celI_snoc]; rfl, show nDr (y :: s) (x :: r ++ [(j : Int)]) = .sl 2 0 1 ((x :: r).length + 1) ((x :: r).length + 1) by show DV.sl 2 0 1 (x :: (r ++ [(j : Int)])).length _ = _; simp]; exact zgm_ok tab_ok mixed fun_ok (calC_ok a) (rz11k w l (b1 ds) n i j (y :: s).length (x :: r).length (celS (y :: s)) (celI (x :: r))) (.cons (flatTwo rfl rfl (celS_flat _) (app_flat (celI_flat _) (one_flat rfl))) (.cons (decide_eq_true (by omega)) (.cons (calC_at _ rfl rfl) (.cons (decide_eq_false (by rw [b1_length]; omega)) (.cons (idxOk_lt (by rw [b1_length]; omega)) (.cons (b1_at hn hd) (.cons (by rw [app_tabI]; exact appH_grow (id := 2) (n := (x :: r).length) (m := 0) (e := 3) (j := inT) (o := oJ 1 (celI (x :: r))) (news := [iN j]) rfl rfl rfl (.inl rfl) rfl (by rw [celI_length, Nat.mul_one]) (fit_at (by show (_ + (0 + 1)) * 8 ≤ _; omega) (by omega))) (.cons (wrK_at (by omega)) (.cons (wrK_at (by omega)) .nil)))))))))
        · rw [decide_eq_true (show (n : Int) ≥ (ds.length : Int) by omega)]
          dsimp only; rw [show nHr w (y :: s) (x :: r ++ [(j : Int)]) = ⟨3, oJ 1 (celI (x :: r) ++ [iN j]) :: [⟨1, 0, tIs, celS (y :: s)⟩, oW w], []⟩ by rw [← celI_snoc]; rfl, show nDr (y :: s) (x :: r ++ [(j : Int)]) = .sl 2 0 1 ((x :: r).length + 1) ((x :: r).length + 1) by show DV.sl 2 0 1 (x :: (r ++ [(j : Int)])).length _ = _; simp]; exact zgm_ok tab_ok mixed fun_ok (calC_ok a) (rz11e w l (b1 ds) n i j (y :: s).length (x :: r).length (celS (y :: s)) (celI (x :: r))) (.cons (flatTwo rfl rfl (celS_flat _) (app_flat (celI_flat _) (one_flat rfl))) (.cons (decide_eq_true (by omega)) (.cons (calC_at _ rfl rfl) (.cons (decide_eq_true (by rw [b1_length]; omega)) (.cons (by rw [app_tabI]; exact appH_grow (id := 2) (n := (x :: r).length) (m := 0) (e := 3) (j := inT) (o := oJ 1 (celI (x :: r))) (news := [iN j]) rfl rfl rfl (.inl rfl) rfl (by rw [celI_length, Nat.mul_one]) (fit_at (by show (_ + (0 + 1)) * 8 ≤ _; omega) (by omega))) (.cons (wrK_at (by omega)) (.cons (wrK_at (by omega)) .nil)))))))
end
end
end Go.Proofs.Ytgjgihlfkpbdgaa
