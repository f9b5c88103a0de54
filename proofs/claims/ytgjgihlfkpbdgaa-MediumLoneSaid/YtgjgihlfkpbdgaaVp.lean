/- Comparisons, Great, has; Asked, busy, Busy of the reference: contracts. -/
import Derived.Test.YtgjgihlfkpbdgaaVo
namespace Go.Proofs.Ytgjgihlfkpbdgaa
open Go.RowKit

noncomputable section
abbrev fSI : FuncId := 33
abbrev fSR : FuncId := 23
abbrev fSm : FuncId := 18
abbrev fGr : FuncId := 20
abbrev fHa : FuncId := 31
abbrev fAq : FuncId := 51
abbrev fbu : FuncId := 52
abbrev fRB : FuncId := 24
abbrev kSI : List (Nat × Nat) := ksF ftab fSI
abbrev kSR : List (Nat × Nat) := ksF ftab fSR
abbrev kSm : List (Nat × Nat) := ksF ftab fSm
abbrev kHa : List (Nat × Nat) := ksF ftab fHa
abbrev kbu : List (Nat × Nat) := ksF ftab fbu
abbrev SIl : Code := loopAt (bodyOf ftab fSI) 0
abbrev SRl : Code := loopAt (bodyOf ftab fSR) 0
abbrev Sml : Code := loopAt (bodyOf ftab fSm) 0
abbrev Hal : Code := loopAt (bodyOf ftab fHa) 0
abbrev bul : Code := loopAt (bodyOf ftab fbu) 0
abbrev SIs (xs ys : List (List DV)) (k : Nat) : Slots := mkT 26 [(0, .list 1 xs), (1, .list 1 ys), (5, iN k)]
abbrev SRs (xs ys : List (List DV)) (k : Nat) : Slots := mkT 27 [(0, .list 1 xs), (1, .list 1 ys), (5, iN k)]
abbrev Sms (xs ys : List (List DV)) (k : Nat) : Slots := mkT 26 [(0, .list 4 xs), (1, .list 4 ys), (5, iN k)]
abbrev Has (l : List Int) (v : Int) (k : Nat) : Slots := mkT 18 [(0, .list 1 (i1 l)), (1, iI v), (5, iN k)]
set_option maxRecDepth 1000000 in
theorem zi1 (xs ys : List (List DV)) (k : Nat) (x y : Int) : zsee Try.prog tab ftab noC kSI [0, 1, 5] SIl (SIs xs ys k) h00 [(14, .b true), (19, .n (.fptr [iI x])), (23, .n (.fptr [iI y])), (25, .b false), (16, .w (iN (k + 1)))] = some (Ex.normal, (SIs xs ys (k + 1)), (h00), ((decide ((↑k : Int) < (↑(List.length xs) : Int))) = true) :: ((idxOk (↑k : Int) (List.length xs)) = true) :: ((nth xs (Int.toNat (↑k : Int))) = (Option.some [(iI x)])) :: ((idxOk (↑k : Int) (List.length ys)) = true) :: ((nth ys (Int.toNat (↑k : Int))) = (Option.some [(iI y)])) :: ((x != y) = false) :: ((ar IntKind.i64 ((↑k : Int) + 1)) = (iN (k + 1))) :: []) := by kernel_rfl
set_option maxRecDepth 1000000 in
theorem zi2 (xs ys : List (List DV)) (k : Nat) (x y : Int) : zsee Try.prog tab ftab noC kSI [4] SIl (SIs xs ys k) h00 [(14, .b true), (19, .n (.fptr [iI x])), (23, .n (.fptr [iI y])), (25, .b true)] = some (Ex.ret, (mkT 26 [(4, (DV.bool false))]), (h00), ((decide ((↑k : Int) < (↑(List.length xs) : Int))) = true) :: ((idxOk (↑k : Int) (List.length xs)) = true) :: ((nth xs (Int.toNat (↑k : Int))) = (Option.some [(iI x)])) :: ((idxOk (↑k : Int) (List.length ys)) = true) :: ((nth ys (Int.toNat (↑k : Int))) = (Option.some [(iI y)])) :: ((x != y) = true) :: []) := by kernel_rfl
set_option maxRecDepth 1000000 in
theorem ziO (xs ys : List (List DV)) (k : Nat) : zsee Try.prog tab ftab noC kSI [] SIl (SIs xs ys k) h00 [(14, .b false)] = some ((Ex.exit 0), (mkT 26 []), (h00), ((decide ((↑k : Int) < (↑(List.length xs) : Int))) = false) :: []) := by kernel_rfl
set_option maxRecDepth 1000000 in
theorem ziA (xs ys : List (List DV)) : zflat (zans Try.prog tab ftab noC fSI [.list 1 xs, .list 1 ys] [(10, .b true)]) = some ((DV.bool false), (((↑(List.length xs) : Int) != (↑(List.length ys) : Int)) = true) :: []) := by kernel_rfl
set_option maxRecDepth 1000000 in
theorem ziB (xs ys : List (List DV)) : zflat (zans Try.prog tab ftab noC fSI [.list 1 xs, .list 1 ys] [(10, .b false), (0, .l [0, 1, 5] .ret (mkT 27 [(4, .bool false)]) h00)]) = some ((DV.bool false), (((↑(List.length xs) : Int) != (↑(List.length ys) : Int)) = false) :: (Goes (Try.prog) tab (kSI) (Go.Code.loop (SIl)) (SIs xs ys 0) (h00) (Ex.ret) (mkT 27 [(4, (DV.bool false))]) (h00)) :: []) := by kernel_rfl
set_option maxRecDepth 1000000 in
theorem ziC (xs ys : List (List DV)) : zflat (zans Try.prog tab ftab noC fSI [.list 1 xs, .list 1 ys] [(10, .b false), (0, .l [0, 1, 5] (.exit 0) (mkT 27 []) h00)]) = some ((DV.bool true), (((↑(List.length xs) : Int) != (↑(List.length ys) : Int)) = false) :: (Goes (Try.prog) tab (kSI) (Go.Code.loop (SIl)) (SIs xs ys 0) (h00) (Ex.exit 0) (mkT 27 []) (h00)) :: []) := by kernel_rfl
set_option maxRecDepth 1000000 in
theorem zr1 (C : ConF) (xs ys : List (List DV)) (k : Nat) (x y : List (List DV)) : zsee Try.prog tab ftab C kSR [0, 1, 5] SRl (SRs xs ys k) h00 [(14, .b true), (19, .n (.fptr [.list 1 x])), (23, .n (.fptr [.list 1 y])), (25, .q (.bool true)), (16, .w (iN (k + 1)))] = some (Ex.normal, (SRs xs ys (k + 1)), (h00), ((decide ((↑k : Int) < (↑(List.length xs) : Int))) = true) :: ((idxOk (↑k : Int) (List.length xs)) = true) :: ((nth xs (Int.toNat (↑k : Int))) = (Option.some [(DV.list 1 x)])) :: ((idxOk (↑k : Int) (List.length ys)) = true) :: ((nth ys (Int.toNat (↑k : Int))) = (Option.some [(DV.list 1 y)])) :: ((C 33 [(DV.list 1 x), (DV.list 1 y)] (h00)) = (Option.some ((DV.bool true), (h00), Option.none))) :: ((ar IntKind.i64 ((↑k : Int) + 1)) = (iN (k + 1))) :: []) := by kernel_rfl
set_option maxRecDepth 1000000 in
theorem zr2 (C : ConF) (xs ys : List (List DV)) (k : Nat) (x y : List (List DV)) : zsee Try.prog tab ftab C kSR [4] SRl (SRs xs ys k) h00 [(14, .b true), (19, .n (.fptr [.list 1 x])), (23, .n (.fptr [.list 1 y])), (25, .q (.bool false))] = some (Ex.ret, (mkT 27 [(4, (DV.bool false))]), (h00), ((decide ((↑k : Int) < (↑(List.length xs) : Int))) = true) :: ((idxOk (↑k : Int) (List.length xs)) = true) :: ((nth xs (Int.toNat (↑k : Int))) = (Option.some [(DV.list 1 x)])) :: ((idxOk (↑k : Int) (List.length ys)) = true) :: ((nth ys (Int.toNat (↑k : Int))) = (Option.some [(DV.list 1 y)])) :: ((C 33 [(DV.list 1 x), (DV.list 1 y)] (h00)) = (Option.some ((DV.bool false), (h00), Option.none))) :: []) := by kernel_rfl
set_option maxRecDepth 1000000 in
theorem zrO (xs ys : List (List DV)) (k : Nat) : zsee Try.prog tab ftab noC kSR [] SRl (SRs xs ys k) h00 [(14, .b false)] = some ((Ex.exit 0), (mkT 27 []), (h00), ((decide ((↑k : Int) < (↑(List.length xs) : Int))) = false) :: []) := by kernel_rfl
set_option maxRecDepth 1000000 in
theorem zrA (xs ys : List (List DV)) : zflat (zans Try.prog tab ftab noC fSR [.list 1 xs, .list 1 ys] [(10, .b true)]) = some ((DV.bool false), (((↑(List.length xs) : Int) != (↑(List.length ys) : Int)) = true) :: []) := by kernel_rfl
set_option maxRecDepth 1000000 in
theorem zrB (xs ys : List (List DV)) : zflat (zans Try.prog tab ftab noC fSR [.list 1 xs, .list 1 ys] [(10, .b false), (0, .l [0, 1, 5] .ret (mkT 27 [(4, .bool false)]) h00)]) = some ((DV.bool false), (((↑(List.length xs) : Int) != (↑(List.length ys) : Int)) = false) :: (Goes (Try.prog) tab (kSR) (Go.Code.loop (SRl)) (SRs xs ys 0) (h00) (Ex.ret) (mkT 27 [(4, (DV.bool false))]) (h00)) :: []) := by kernel_rfl
set_option maxRecDepth 1000000 in
theorem zrC (xs ys : List (List DV)) : zflat (zans Try.prog tab ftab noC fSR [.list 1 xs, .list 1 ys] [(10, .b false), (0, .l [0, 1, 5] (.exit 0) (mkT 27 []) h00)]) = some ((DV.bool true), (((↑(List.length xs) : Int) != (↑(List.length ys) : Int)) = false) :: (Goes (Try.prog) tab (kSR) (Go.Code.loop (SRl)) (SRs xs ys 0) (h00) (Ex.exit 0) (mkT 27 []) (h00)) :: []) := by kernel_rfl
set_option maxRecDepth 1000000 in
theorem zs1 (xs ys : List (List DV)) (k : Nat) (s t : Sn) : zsee Try.prog tab ftab noC kSm [0, 1, 5] Sml (Sms xs ys k) h00 [(14, .b true), (19, .n (.fptr (snC s))), (23, .n (.fptr (snC t))), (25, .b false), (16, .w (iN (k + 1)))] = some (Ex.normal, (Sms xs ys (k + 1)), (h00), ((decide ((↑k : Int) < (↑(List.length xs) : Int))) = true) :: ((idxOk (↑k : Int) (List.length xs)) = true) :: ((nth xs (Int.toNat (↑k : Int))) = (Option.some (snC s))) :: ((idxOk (↑k : Int) (List.length ys)) = true) :: ((nth ys (Int.toNat (↑k : Int))) = (Option.some (snC t))) :: ((!(s.n == t.n && (s.a == t.a && (s.b == t.b && (s.d == t.d && true))))) = false) :: ((ar IntKind.i64 ((↑k : Int) + 1)) = (iN (k + 1))) :: []) := by kernel_rfl
set_option maxRecDepth 1000000 in
theorem zs2 (xs ys : List (List DV)) (k : Nat) (s t : Sn) : zsee Try.prog tab ftab noC kSm [4] Sml (Sms xs ys k) h00 [(14, .b true), (19, .n (.fptr (snC s))), (23, .n (.fptr (snC t))), (25, .b true)] = some (Ex.ret, (mkT 26 [(4, (DV.bool false))]), (h00), ((decide ((↑k : Int) < (↑(List.length xs) : Int))) = true) :: ((idxOk (↑k : Int) (List.length xs)) = true) :: ((nth xs (Int.toNat (↑k : Int))) = (Option.some (snC s))) :: ((idxOk (↑k : Int) (List.length ys)) = true) :: ((nth ys (Int.toNat (↑k : Int))) = (Option.some (snC t))) :: ((!(s.n == t.n && (s.a == t.a && (s.b == t.b && (s.d == t.d && true))))) = true) :: []) := by kernel_rfl
set_option maxRecDepth 1000000 in
theorem zsO (xs ys : List (List DV)) (k : Nat) : zsee Try.prog tab ftab noC kSm [] Sml (Sms xs ys k) h00 [(14, .b false)] = some ((Ex.exit 0), (mkT 26 []), (h00), ((decide ((↑k : Int) < (↑(List.length xs) : Int))) = false) :: []) := by kernel_rfl
set_option maxRecDepth 1000000 in
theorem zsA (xs ys : List (List DV)) : zflat (zans Try.prog tab ftab noC fSm [.list 4 xs, .list 4 ys] [(10, .b true)]) = some ((DV.bool false), (((↑(List.length xs) : Int) != (↑(List.length ys) : Int)) = true) :: []) := by kernel_rfl
set_option maxRecDepth 1000000 in
theorem zsB (xs ys : List (List DV)) : zflat (zans Try.prog tab ftab noC fSm [.list 4 xs, .list 4 ys] [(10, .b false), (0, .l [0, 1, 5] .ret (mkT 27 [(4, .bool false)]) h00)]) = some ((DV.bool false), (((↑(List.length xs) : Int) != (↑(List.length ys) : Int)) = false) :: (Goes (Try.prog) tab (kSm) (Go.Code.loop (Sml)) (Sms xs ys 0) (h00) (Ex.ret) (mkT 27 [(4, (DV.bool false))]) (h00)) :: []) := by kernel_rfl
set_option maxRecDepth 1000000 in
theorem zsC (xs ys : List (List DV)) : zflat (zans Try.prog tab ftab noC fSm [.list 4 xs, .list 4 ys] [(10, .b false), (0, .l [0, 1, 5] (.exit 0) (mkT 27 []) h00)]) = some ((DV.bool true), (((↑(List.length xs) : Int) != (↑(List.length ys) : Int)) = false) :: (Goes (Try.prog) tab (kSm) (Go.Code.loop (Sml)) (Sms xs ys 0) (h00) (Ex.exit 0) (mkT 27 []) (h00)) :: []) := by kernel_rfl
set_option maxRecDepth 1000000 in
theorem zh1 (l : List Int) (v : Int) (k : Nat) (x : Int) : zsee Try.prog tab ftab noC kHa [0, 1, 5] Hal (Has l v k) h00 [(9, .b true), (14, .n (.fptr [iI x])), (17, .b false), (11, .w (iN (k + 1)))] = some (Ex.normal, (Has l v (k + 1)), (h00), ((decide ((↑k : Int) < (↑(List.length (i1 l)) : Int))) = true) :: ((idxOk (↑k : Int) (List.length (i1 l))) = true) :: ((nth (i1 l) (Int.toNat (↑k : Int))) = (Option.some [(iI x)])) :: ((x == v) = false) :: ((ar IntKind.i64 ((↑k : Int) + 1)) = (iN (k + 1))) :: []) := by kernel_rfl
set_option maxRecDepth 1000000 in
theorem zh2 (l : List Int) (v : Int) (k : Nat) (x : Int) : zsee Try.prog tab ftab noC kHa [4] Hal (Has l v k) h00 [(9, .b true), (14, .n (.fptr [iI x])), (17, .b true)] = some (Ex.ret, (mkT 18 [(4, (DV.bool true))]), (h00), ((decide ((↑k : Int) < (↑(List.length (i1 l)) : Int))) = true) :: ((idxOk (↑k : Int) (List.length (i1 l))) = true) :: ((nth (i1 l) (Int.toNat (↑k : Int))) = (Option.some [(iI x)])) :: ((x == v) = true) :: []) := by kernel_rfl
set_option maxRecDepth 1000000 in
theorem zhO (l : List Int) (v : Int) (k : Nat) : zsee Try.prog tab ftab noC kHa [] Hal (Has l v k) h00 [(9, .b false)] = some ((Ex.exit 0), (mkT 18 []), (h00), ((decide ((↑k : Int) < (↑(List.length (i1 l)) : Int))) = false) :: []) := by kernel_rfl
set_option maxRecDepth 1000000 in
theorem zhA (l : List Int) (v : Int) : zflat (zans Try.prog tab ftab noC fHa [.list 1 (i1 l), iI v] [(0, .l [0, 1, 5] .ret (mkT 18 [(4, .bool true)]) h00)]) = some ((DV.bool true), (Goes (Try.prog) tab (kHa) (Go.Code.loop (Hal)) (Has l v 0) (h00) (Ex.ret) (mkT 18 [(4, (DV.bool true))]) (h00)) :: []) := by kernel_rfl
set_option maxRecDepth 1000000 in
theorem zhB (l : List Int) (v : Int) : zflat (zans Try.prog tab ftab noC fHa [.list 1 (i1 l), iI v] [(0, .l [0, 1, 5] (.exit 0) (mkT 18 []) h00)]) = some ((DV.bool false), (Goes (Try.prog) tab (kHa) (Go.Code.loop (Hal)) (Has l v 0) (h00) (Ex.exit 0) (mkT 18 []) (h00)) :: []) := by kernel_rfl
set_option maxRecDepth 1000000 in
theorem zg1 (C : ConF) (w : Wd) (l : List Sn) : zflat (zans Try.prog tab ftab C fGr [wdD w, snL l] [(6, .q (.bool true))]) = some ((DV.bool true), ((C 47 [(DV.agg (List.take 2 (List.drop 0 (wdC w))))] (Hp.mk 1 [(Ob.mk 0 0 25 (wdC w))] [])) = (Option.some ((DV.bool true), (Hp.mk 1 [(Ob.mk 0 0 25 (wdC w))] []), Option.none))) :: []) := by kernel_rfl
set_option maxRecDepth 1000000 in
theorem zg2 (C : ConF) (w : Wd) (l : List Sn) : zflat (zans Try.prog tab ftab C fGr [wdD w, snL l] [(6, .q (.bool false))]) = some ((DV.bool (decide ((↑(List.length (snR l)) : Int) > 80))), ((C 47 [(DV.agg (List.take 2 (List.drop 0 (wdC w))))] (Hp.mk 1 [(Ob.mk 0 0 25 (wdC w))] [])) = (Option.some ((DV.bool false), (Hp.mk 1 [(Ob.mk 0 0 25 (wdC w))] []), Option.none))) :: []) := by kernel_rfl
set_option maxRecDepth 1000000 in
theorem za0 (w : Wd) (l : List Sn) (j t u : Int) : zflat (zans Try.prog tab ftab (orK (calC fRm [wdD w, snL l] (iI 8)) cIn) fAq [wdD w, snL l, iI j, iI t, iI u] [(14, .q (iI 8))]) = some ((DV.int (IntKind.i64) 8), ((orK (calC fRm [wdD w, snL l] (iI 8)) cIn 22 [(DV.agg (List.take 2 (List.drop 0 (wdC w)))), (snL l)] (Hp.mk 1 [(Ob.mk 0 0 25 (wdC w))] [])) = (Option.some ((iI 8), (Hp.mk 1 [(Ob.mk 0 0 25 (wdC w))] []), Option.none))) :: []) := by kernel_rfl
set_option maxRecDepth 1000000 in
theorem za1 (w : Wd) (l : List Sn) (j t u : Int) : zflat (zans Try.prog tab ftab (orK (calC fRm [wdD w, snL l] (iI 0)) cIn) fAq [wdD w, snL l, iI j, iI t, iI u] [(14, .q (iI 0)), (22, .w (iI (((rsR w.r).length : Int) - 1))), (24, .b true)]) = some ((DV.int (IntKind.i64) 2), ((orK (calC fRm [wdD w, snL l] (iI 0)) cIn 22 [(DV.agg (List.take 2 (List.drop 0 (wdC w)))), (snL l)] (Hp.mk 1 [(Ob.mk 0 0 25 (wdC w))] [])) = (Option.some ((iI 0), (Hp.mk 1 [(Ob.mk 0 0 25 (wdC w))] []), Option.none))) :: ((ar IntKind.i64 ((↑(List.length (rsR w.r)) : Int) - 1)) = (iI ((↑(List.length (rsR w.r)) : Int) - 1))) :: ((!inB j 0 ((↑(List.length (rsR w.r)) : Int) - 1)) = true) :: []) := by kernel_rfl
set_option maxRecDepth 1000000 in
theorem za2 (w : Wd) (l : List Sn) (j t u : Int) : zflat (zans Try.prog tab ftab (orK (calC fRm [wdD w, snL l] (iI 0)) cIn) fAq [wdD w, snL l, iI j, iI t, iI u] [(14, .q (iI 0)), (22, .w (iI (((rsR w.r).length : Int) - 1))), (24, .b false), (28, .b true)]) = some ((DV.int (IntKind.i64) 2), ((orK (calC fRm [wdD w, snL l] (iI 0)) cIn 22 [(DV.agg (List.take 2 (List.drop 0 (wdC w)))), (snL l)] (Hp.mk 1 [(Ob.mk 0 0 25 (wdC w))] [])) = (Option.some ((iI 0), (Hp.mk 1 [(Ob.mk 0 0 25 (wdC w))] []), Option.none))) :: ((ar IntKind.i64 ((↑(List.length (rsR w.r)) : Int) - 1)) = (iI ((↑(List.length (rsR w.r)) : Int) - 1))) :: ((!inB j 0 ((↑(List.length (rsR w.r)) : Int) - 1)) = false) :: ((!inB t 0 1099511627776) = true) :: []) := by kernel_rfl
set_option maxRecDepth 1000000 in
theorem za3 (w : Wd) (l : List Sn) (j t u : Int) : zflat (zans Try.prog tab ftab (orK (calC fRm [wdD w, snL l] (iI 0)) cIn) fAq [wdD w, snL l, iI j, iI t, iI u] [(14, .q (iI 0)), (22, .w (iI (((rsR w.r).length : Int) - 1))), (24, .b false), (28, .b false), (33, .b true)]) = some ((DV.int (IntKind.i64) 2), ((orK (calC fRm [wdD w, snL l] (iI 0)) cIn 22 [(DV.agg (List.take 2 (List.drop 0 (wdC w)))), (snL l)] (Hp.mk 1 [(Ob.mk 0 0 25 (wdC w))] [])) = (Option.some ((iI 0), (Hp.mk 1 [(Ob.mk 0 0 25 (wdC w))] []), Option.none))) :: ((ar IntKind.i64 ((↑(List.length (rsR w.r)) : Int) - 1)) = (iI ((↑(List.length (rsR w.r)) : Int) - 1))) :: ((!inB j 0 ((↑(List.length (rsR w.r)) : Int) - 1)) = false) :: ((!inB t 0 1099511627776) = false) :: ((!inB u 0 1099511627776) = true) :: []) := by kernel_rfl
set_option maxRecDepth 1000000 in
theorem za4 (w : Wd) (l : List Sn) (j t u : Int) : zflat (zans Try.prog tab ftab (orK (calC fRm [wdD w, snL l] (iI 0)) cIn) fAq [wdD w, snL l, iI j, iI t, iI u] [(14, .q (iI 0)), (22, .w (iI (((rsR w.r).length : Int) - 1))), (24, .b false), (28, .b false), (33, .b false)]) = some ((DV.int (IntKind.i64) 0), ((orK (calC fRm [wdD w, snL l] (iI 0)) cIn 22 [(DV.agg (List.take 2 (List.drop 0 (wdC w)))), (snL l)] (Hp.mk 1 [(Ob.mk 0 0 25 (wdC w))] [])) = (Option.some ((iI 0), (Hp.mk 1 [(Ob.mk 0 0 25 (wdC w))] []), Option.none))) :: ((ar IntKind.i64 ((↑(List.length (rsR w.r)) : Int) - 1)) = (iI ((↑(List.length (rsR w.r)) : Int) - 1))) :: ((!inB j 0 ((↑(List.length (rsR w.r)) : Int) - 1)) = false) :: ((!inB t 0 1099511627776) = false) :: ((!inB u 0 1099511627776) = false) :: []) := by kernel_rfl
abbrev buS (l : List Sn) (j a b : Int) (k : Nat) : Slots := mkT 53 [(1, snL l), (2, iI j), (3, iI a), (4, iI b), (5, .ptr 0 0), (11, iN k)]
set_option maxRecDepth 1000000 in
theorem zb0 (w : Wd) (l : List Sn) (j a b : Int) (k : Nat) (s : Sn) : zsee Try.prog tab ftab noC kbu [1, 2, 3, 4, 5, 11] bul (buS l j a b k) (hW w) [(15, .b true), (20, .n (.fptr (snC s))), (24, .b true), (38, .n (.fptr (snC s))), (42, .b false), (17, .w (iN (k + 1)))] = some (Ex.normal, (buS l j a b (k + 1)), (hW w), ((decide ((↑k : Int) < (↑(List.length (snR l)) : Int))) = true) :: ((idxOk (↑k : Int) (List.length (snR l))) = true) :: ((nth (snR l) (Int.toNat (↑k : Int))) = (Option.some (snC s))) :: ((s.n == j) = true) :: ((idxOk (↑k : Int) (List.length (snR l))) = true) :: ((nth (snR l) (Int.toNat (↑k : Int))) = (Option.some (snC s))) :: ((decide (s.a < b)) = false) :: ((ar IntKind.i64 ((↑k : Int) + 1)) = (iN (k + 1))) :: []) := by kernel_rfl
set_option maxRecDepth 1000000 in
theorem zb1 (w : Wd) (l : List Sn) (j a b : Int) (k : Nat) (s : Sn) : zsee Try.prog tab ftab noC kbu [1, 2, 3, 4, 5, 11] bul (buS l j a b k) (hW w) [(15, .b true), (20, .n (.fptr (snC s))), (24, .b true), (38, .n (.fptr (snC s))), (42, .b true), (47, .n (.fptr (snC s))), (51, .b false), (17, .w (iN (k + 1)))] = some (Ex.normal, (buS l j a b (k + 1)), (hW w), ((decide ((↑k : Int) < (↑(List.length (snR l)) : Int))) = true) :: ((idxOk (↑k : Int) (List.length (snR l))) = true) :: ((nth (snR l) (Int.toNat (↑k : Int))) = (Option.some (snC s))) :: ((s.n == j) = true) :: ((idxOk (↑k : Int) (List.length (snR l))) = true) :: ((nth (snR l) (Int.toNat (↑k : Int))) = (Option.some (snC s))) :: ((decide (s.a < b)) = true) :: ((idxOk (↑k : Int) (List.length (snR l))) = true) :: ((nth (snR l) (Int.toNat (↑k : Int))) = (Option.some (snC s))) :: ((decide (s.b > a)) = false) :: ((ar IntKind.i64 ((↑k : Int) + 1)) = (iN (k + 1))) :: []) := by kernel_rfl
set_option maxRecDepth 1000000 in
theorem zb2 (w : Wd) (l : List Sn) (j a b : Int) (k : Nat) (s : Sn) : zsee Try.prog tab ftab (calC fRh [wdD w, iI j, iI s.n] (.bool false)) kbu [1, 2, 3, 4, 5, 11] bul (buS l j a b k) (hW w) [(15, .b true), (20, .n (.fptr (snC s))), (24, .b false), (30, .n (.fptr (snC s))), (33, .q (.bool false)), (17, .w (iN (k + 1)))] = some (Ex.normal, (buS l j a b (k + 1)), (hW w), ((decide ((↑k : Int) < (↑(List.length (snR l)) : Int))) = true) :: ((idxOk (↑k : Int) (List.length (snR l))) = true) :: ((nth (snR l) (Int.toNat (↑k : Int))) = (Option.some (snC s))) :: ((s.n == j) = false) :: ((idxOk (↑k : Int) (List.length (snR l))) = true) :: ((nth (snR l) (Int.toNat (↑k : Int))) = (Option.some (snC s))) :: ((calC fRh [wdD w, iI j, iI s.n] (DV.bool false) 65 ([] ++ [DV.agg (List.take 2 (List.drop 0 (wdC w))), iI j, iI s.n] ++ []) (hW w)) = (Option.some ((DV.bool false), (hW w), Option.none))) :: ((ar IntKind.i64 ((↑k : Int) + 1)) = (iN (k + 1))) :: []) := by kernel_rfl
set_option maxRecDepth 1000000 in
theorem zb3 (w : Wd) (l : List Sn) (j a b : Int) (k : Nat) (s : Sn) : zsee Try.prog tab ftab (calC fRh [wdD w, iI j, iI s.n] (.bool true)) kbu [1, 2, 3, 4, 5, 11] bul (buS l j a b k) (hW w) [(15, .b true), (20, .n (.fptr (snC s))), (24, .b false), (30, .n (.fptr (snC s))), (33, .q (.bool true)), (38, .n (.fptr (snC s))), (42, .b false), (17, .w (iN (k + 1)))] = some (Ex.normal, (buS l j a b (k + 1)), (hW w), ((decide ((↑k : Int) < (↑(List.length (snR l)) : Int))) = true) :: ((idxOk (↑k : Int) (List.length (snR l))) = true) :: ((nth (snR l) (Int.toNat (↑k : Int))) = (Option.some (snC s))) :: ((s.n == j) = false) :: ((idxOk (↑k : Int) (List.length (snR l))) = true) :: ((nth (snR l) (Int.toNat (↑k : Int))) = (Option.some (snC s))) :: ((calC fRh [wdD w, iI j, iI s.n] (DV.bool true) 65 ([] ++ [DV.agg (List.take 2 (List.drop 0 (wdC w))), iI j, iI s.n] ++ []) (hW w)) = (Option.some ((DV.bool true), (hW w), Option.none))) :: ((idxOk (↑k : Int) (List.length (snR l))) = true) :: ((nth (snR l) (Int.toNat (↑k : Int))) = (Option.some (snC s))) :: ((decide (s.a < b)) = false) :: ((ar IntKind.i64 ((↑k : Int) + 1)) = (iN (k + 1))) :: []) := by kernel_rfl
set_option maxRecDepth 1000000 in
theorem zb4 (w : Wd) (l : List Sn) (j a b : Int) (k : Nat) (s : Sn) : zsee Try.prog tab ftab (calC fRh [wdD w, iI j, iI s.n] (.bool true)) kbu [1, 2, 3, 4, 5, 11] bul (buS l j a b k) (hW w) [(15, .b true), (20, .n (.fptr (snC s))), (24, .b false), (30, .n (.fptr (snC s))), (33, .q (.bool true)), (38, .n (.fptr (snC s))), (42, .b true), (47, .n (.fptr (snC s))), (51, .b false), (17, .w (iN (k + 1)))] = some (Ex.normal, (buS l j a b (k + 1)), (hW w), ((decide ((↑k : Int) < (↑(List.length (snR l)) : Int))) = true) :: ((idxOk (↑k : Int) (List.length (snR l))) = true) :: ((nth (snR l) (Int.toNat (↑k : Int))) = (Option.some (snC s))) :: ((s.n == j) = false) :: ((idxOk (↑k : Int) (List.length (snR l))) = true) :: ((nth (snR l) (Int.toNat (↑k : Int))) = (Option.some (snC s))) :: ((calC fRh [wdD w, iI j, iI s.n] (DV.bool true) 65 ([] ++ [DV.agg (List.take 2 (List.drop 0 (wdC w))), iI j, iI s.n] ++ []) (hW w)) = (Option.some ((DV.bool true), (hW w), Option.none))) :: ((idxOk (↑k : Int) (List.length (snR l))) = true) :: ((nth (snR l) (Int.toNat (↑k : Int))) = (Option.some (snC s))) :: ((decide (s.a < b)) = true) :: ((idxOk (↑k : Int) (List.length (snR l))) = true) :: ((nth (snR l) (Int.toNat (↑k : Int))) = (Option.some (snC s))) :: ((decide (s.b > a)) = false) :: ((ar IntKind.i64 ((↑k : Int) + 1)) = (iN (k + 1))) :: []) := by kernel_rfl
set_option maxRecDepth 1000000 in
theorem zb5 (w : Wd) (l : List Sn) (j a b : Int) (k : Nat) (s : Sn) : zsee Try.prog tab ftab noC kbu [10] bul (buS l j a b k) (hW w) [(15, .b true), (20, .n (.fptr (snC s))), (24, .b true), (38, .n (.fptr (snC s))), (42, .b true), (47, .n (.fptr (snC s))), (51, .b true)] = some (Ex.ret, (mkT 53 [(10, (DV.bool true))]), (hW w), ((decide ((↑k : Int) < (↑(List.length (snR l)) : Int))) = true) :: ((idxOk (↑k : Int) (List.length (snR l))) = true) :: ((nth (snR l) (Int.toNat (↑k : Int))) = (Option.some (snC s))) :: ((s.n == j) = true) :: ((idxOk (↑k : Int) (List.length (snR l))) = true) :: ((nth (snR l) (Int.toNat (↑k : Int))) = (Option.some (snC s))) :: ((decide (s.a < b)) = true) :: ((idxOk (↑k : Int) (List.length (snR l))) = true) :: ((nth (snR l) (Int.toNat (↑k : Int))) = (Option.some (snC s))) :: ((decide (s.b > a)) = true) :: []) := by kernel_rfl
set_option maxRecDepth 1000000 in
theorem zb6 (w : Wd) (l : List Sn) (j a b : Int) (k : Nat) (s : Sn) : zsee Try.prog tab ftab (calC fRh [wdD w, iI j, iI s.n] (.bool true)) kbu [10] bul (buS l j a b k) (hW w) [(15, .b true), (20, .n (.fptr (snC s))), (24, .b false), (30, .n (.fptr (snC s))), (33, .q (.bool true)), (38, .n (.fptr (snC s))), (42, .b true), (47, .n (.fptr (snC s))), (51, .b true)] = some (Ex.ret, (mkT 53 [(10, (DV.bool true))]), (hW w), ((decide ((↑k : Int) < (↑(List.length (snR l)) : Int))) = true) :: ((idxOk (↑k : Int) (List.length (snR l))) = true) :: ((nth (snR l) (Int.toNat (↑k : Int))) = (Option.some (snC s))) :: ((s.n == j) = false) :: ((idxOk (↑k : Int) (List.length (snR l))) = true) :: ((nth (snR l) (Int.toNat (↑k : Int))) = (Option.some (snC s))) :: ((calC fRh [wdD w, iI j, iI s.n] (DV.bool true) 65 ([] ++ [DV.agg (List.take 2 (List.drop 0 (wdC w))), iI j, iI s.n] ++ []) (hW w)) = (Option.some ((DV.bool true), (hW w), Option.none))) :: ((idxOk (↑k : Int) (List.length (snR l))) = true) :: ((nth (snR l) (Int.toNat (↑k : Int))) = (Option.some (snC s))) :: ((decide (s.a < b)) = true) :: ((idxOk (↑k : Int) (List.length (snR l))) = true) :: ((nth (snR l) (Int.toNat (↑k : Int))) = (Option.some (snC s))) :: ((decide (s.b > a)) = true) :: []) := by kernel_rfl
set_option maxRecDepth 1000000 in
theorem zbO (w : Wd) (l : List Sn) (j a b : Int) (k : Nat) : zsee Try.prog tab ftab noC kbu [] bul (buS l j a b k) (hW w) [(15, .b false)] = some ((Ex.exit 0), (mkT 53 []), (hW w), ((decide ((↑k : Int) < (↑(List.length (snR l)) : Int))) = false) :: []) := by kernel_rfl
set_option maxRecDepth 1000000 in
theorem zbA (w : Wd) (l : List Sn) (j a b : Int) : zflat (zans Try.prog tab ftab noC fbu [wdD w, snL l, iI j, iI a, iI b] [(0, .l [1, 2, 3, 4, 5, 11] .ret (mkT 53 [(10, .bool true)]) (hW w))]) = some ((DV.bool true), (Goes (Try.prog) tab (kbu) (Go.Code.loop (bul)) (buS l j a b 0) (hW w) (Ex.ret) (mkT 53 [(10, (DV.bool true))]) (hW w)) :: []) := by kernel_rfl
set_option maxRecDepth 1000000 in
theorem zbB (w : Wd) (l : List Sn) (j a b : Int) : zflat (zans Try.prog tab ftab noC fbu [wdD w, snL l, iI j, iI a, iI b] [(0, .l [1, 2, 3, 4, 5, 11] (.exit 0) (mkT 53 []) (hW w))]) = some ((DV.bool false), (Goes (Try.prog) tab (kbu) (Go.Code.loop (bul)) (buS l j a b 0) (hW w) (Ex.exit 0) (mkT 53 []) (hW w)) :: []) := by kernel_rfl
set_option maxRecDepth 1000000 in
theorem zc1 (C : ConF) (w : Wd) (l : List Sn) (j t e : Int) : zflat (zans Try.prog tab ftab C fRB [wdD w, snL l, iI j, iI t] [(15, .q (iI e)), (17, .b true)]) = some ((DV.tuple [(DV.bool false), (DV.int (IntKind.i64) e)]), ((C 51 [(DV.agg (List.take 2 (List.drop 0 (wdC w)))), (snL l), (iI j), (iI t), (DV.int IntKind.i64 0)] (hW w)) = (Option.some ((iI e), (hW w), Option.none))) :: ((e != 0) = true) :: []) := by kernel_rfl
set_option maxRecDepth 1000000 in
theorem zc2 (C : ConF) (w : Wd) (l : List Sn) (j t : Int) (b : Bool) : zflat (zans Try.prog tab ftab C fRB [wdD w, snL l, iI j, iI t] [(15, .q (iI 0)), (24, .w (iI (t + 1))), (25, .q (.bool b))]) = some ((DV.tuple [(DV.bool b), (DV.int IntKind.i64 0)]), ((C 51 [(DV.agg (List.take 2 (List.drop 0 (wdC w)))), (snL l), (iI j), (iI t), (DV.int IntKind.i64 0)] (hW w)) = (Option.some ((iI 0), (hW w), Option.none))) :: ((ar IntKind.i64 (t + 1)) = (iI (t + 1))) :: ((C 52 [(DV.agg (List.take 2 (List.drop 0 (wdC w)))), (snL l), (iI j), (iI t), (iI (t + 1))] (hW w)) = (Option.some ((DV.bool b), (hW w), Option.none))) :: []) := by kernel_rfl
/-! ### Lists compared -/
def sameL {α : Type} (eq : α → α → Bool) (d : α) (a b : List α) : Bool := match decide (a.length = b.length) with
  | true => allB a.length fun k => eq (a.getD k d) (b.getD k d)
  | false => false
theorem sameL_iff {α : Type} {eq : α → α → Bool} {d : α} (h : ∀ x y, eq x y = true ↔ x = y) {a b : List α} : sameL eq d a b = true ↔ a = b := by
  unfold sameL
  by_cases hl : a.length = b.length
  · rw [decide_eq_true hl]
    dsimp only
    rw [allB_t]
    constructor
    · intro g
      refine List.ext_getElem hl fun k h1 h2 => ?_
      have := (h _ _).1 (g k h1)
      rw [List.getD_eq_getElem?_getD, List.getD_eq_getElem?_getD, List.getElem?_eq_getElem h1, List.getElem?_eq_getElem h2] at this
      exact this
    · rintro rfl k _
      exact (h _ _).2 rfl
  · rw [decide_eq_false hl]
    exact ⟨fun g => (by cases g), fun g => absurd (congrArg List.length g) hl⟩
def eqI (x y : Int) : Bool := x == y
theorem eqI_iff (x y : Int) : eqI x y = true ↔ x = y := beq_iff_eq
def eqR (x y : List Int) : Bool := sameL eqI 0 x y
theorem eqR_iff (x y : List Int) : eqR x y = true ↔ x = y := sameL_iff eqI_iff
def eqS (s t : Sn) : Bool := s.n == t.n && (s.a == t.a && (s.b == t.b && (s.d == t.d && true)))
theorem eqS_iff (s t : Sn) : eqS s t = true ↔ s = t := by
  obtain ⟨a, b, c, d⟩ := s
  obtain ⟨a', b', c', d'⟩ := t
  simp [eqS]
theorem zi_ans (a b : List Int) (ha : a.length < 2 ^ 63) : Ans Try.prog fSI [.list 1 (i1 a), .list 1 (i1 b)] (.bool (sameL eqI 0 a b)) ⟨0, [], []⟩ := by
  have e1 := i1_length a
  have e2 := i1_length b
  unfold sameL
  by_cases hl : a.length = b.length
  · rw [decide_eq_true hl]
    have hn : (((i1 a).length : Int) != ((i1 b).length : Int)) = false := by rw [e1, e2, hl]; simp
    dsimp only
    have go : ∀ k, k < a.length → eqI (a.getD k 0) (b.getD k 0) = true → Goes Try.prog tab kSI SIl (SIs (i1 a) (i1 b) k) h00 .normal (SIs (i1 a) (i1 b) (k + 1)) h00 := fun k hk hh => by
      exact zsee_ok tab_ok mixed fun_ok noC_ok (zi1 (i1 a) (i1 b) k (a.getD k 0) (b.getD k 0)) (.cons (decide_eq_true (by omega)) (.cons (idxOk_lt (by omega)) (.cons (i1_at (get_in _ hk)) (.cons (idxOk_lt (by omega)) (.cons (i1_at (get_in _ (by omega))) (.cons (by unfold eqI at hh; simp only [bne, hh]; rfl) (.cons (wrK_at (by omega)) .nil)))))))
    have bad : ∀ k, k < a.length → eqI (a.getD k 0) (b.getD k 0) = false → Goes Try.prog tab kSI SIl (SIs (i1 a) (i1 b) k) h00 .ret (mkT 27 [(4, .bool false)]) h00 := fun k hk hh => by
      exact zsee_ok tab_ok mixed fun_ok noC_ok (zi2 (i1 a) (i1 b) k (a.getD k 0) (b.getD k 0)) (.cons (decide_eq_true (by omega)) (.cons (idxOk_lt (by omega)) (.cons (i1_at (get_in _ hk)) (.cons (idxOk_lt (by omega)) (.cons (i1_at (get_in _ (by omega))) (.cons (by unfold eqI at hh; simp only [bne, hh]; rfl) .nil))))))
    cases hb : allB a.length fun k => eqI (a.getD k 0) (b.getD k 0) with
    | true => exact zflat_ok tab_ok mixed fun_ok noC_ok (ziC (i1 a) (i1 b)) (.cons hn (.cons (scan_t (S := SIs (i1 a) (i1 b)) (by intro h; cases h) go (zsee_ok tab_ok mixed fun_ok noC_ok (ziO (i1 a) (i1 b) a.length) (.cons (decide_eq_false (by omega)) .nil)) hb) .nil))
    | false => exact zflat_ok tab_ok mixed fun_ok noC_ok (ziB (i1 a) (i1 b)) (.cons hn (.cons (scan_f (S := SIs (i1 a) (i1 b)) (by intro h; cases h) go bad hb) .nil))
  · rw [decide_eq_false hl]
    exact zflat_ok tab_ok mixed fun_ok noC_ok (ziA (i1 a) (i1 b)) (.cons (bne_iff_ne.2 (by omega)) .nil)
theorem zr_ans (a b : List (List Int)) (ha : a.length < 2 ^ 63) (hr : ∀ k, k < a.length → (a.getD k []).length < 2 ^ 63) : Ans Try.prog fSR [.list 1 (ssR a), .list 1 (ssR b)] (.bool (sameL eqR [] a b)) ⟨0, [], []⟩ := by
  have e1 := ssR_length a
  have e2 := ssR_length b
  unfold sameL
  by_cases hl : a.length = b.length
  · rw [decide_eq_true hl]
    have hn : (((ssR a).length : Int) != ((ssR b).length : Int)) = false := by rw [e1, e2, hl]; simp
    dsimp only
    have go : ∀ k, k < a.length → eqR (a.getD k []) (b.getD k []) = true → Goes Try.prog tab kSR SRl (SRs (ssR a) (ssR b) k) h00 .normal (SRs (ssR a) (ssR b) (k + 1)) h00 := fun k hk hh => by
      have c := zi_ans (a.getD k []) (b.getD k []) (hr k hk)
      change sameL eqI 0 _ _ = true at hh
      rw [hh] at c
      exact zsee_ok tab_ok mixed fun_ok (calC_ok c) (zr1 _ (ssR a) (ssR b) k (i1 (a.getD k [])) (i1 (b.getD k []))) (.cons (decide_eq_true (by omega)) (.cons (idxOk_lt (by omega)) (.cons (ssR_at (get_in _ hk)) (.cons (idxOk_lt (by omega)) (.cons (ssR_at (get_in _ (by omega))) (.cons (calC_at _ rfl rfl) (.cons (wrK_at (by omega)) .nil)))))))
    have bad : ∀ k, k < a.length → eqR (a.getD k []) (b.getD k []) = false → Goes Try.prog tab kSR SRl (SRs (ssR a) (ssR b) k) h00 .ret (mkT 27 [(4, .bool false)]) h00 := fun k hk hh => by
      have c := zi_ans (a.getD k []) (b.getD k []) (hr k hk)
      change sameL eqI 0 _ _ = false at hh
      rw [hh] at c
      exact zsee_ok tab_ok mixed fun_ok (calC_ok c) (zr2 _ (ssR a) (ssR b) k (i1 (a.getD k [])) (i1 (b.getD k []))) (.cons (decide_eq_true (by omega)) (.cons (idxOk_lt (by omega)) (.cons (ssR_at (get_in _ hk)) (.cons (idxOk_lt (by omega)) (.cons (ssR_at (get_in _ (by omega))) (.cons (calC_at _ rfl rfl) .nil))))))
    cases hb : allB a.length fun k => eqR (a.getD k []) (b.getD k []) with
    | true => exact zflat_ok tab_ok mixed fun_ok noC_ok (zrC (ssR a) (ssR b)) (.cons hn (.cons (scan_t (S := SRs (ssR a) (ssR b)) (by intro h; cases h) go (zsee_ok tab_ok mixed fun_ok noC_ok (zrO (ssR a) (ssR b) a.length) (.cons (decide_eq_false (by omega)) .nil)) hb) .nil))
    | false => exact zflat_ok tab_ok mixed fun_ok noC_ok (zrB (ssR a) (ssR b)) (.cons hn (.cons (scan_f (S := SRs (ssR a) (ssR b)) (by intro h; cases h) go bad hb) .nil))
  · rw [decide_eq_false hl]
    exact zflat_ok tab_ok mixed fun_ok noC_ok (zrA (ssR a) (ssR b)) (.cons (bne_iff_ne.2 (by omega)) .nil)
theorem zs_ans (a b : List Sn) (ha : a.length < 2 ^ 63) : Ans Try.prog fSm [.list 4 (snR a), .list 4 (snR b)] (.bool (sameL eqS sn0 a b)) ⟨0, [], []⟩ := by
  have e1 := snR_length a
  have e2 := snR_length b
  unfold sameL
  by_cases hl : a.length = b.length
  · rw [decide_eq_true hl]
    have hn : (((snR a).length : Int) != ((snR b).length : Int)) = false := by rw [e1, e2, hl]; simp
    dsimp only
    have go : ∀ k, k < a.length → eqS (a.getD k sn0) (b.getD k sn0) = true → Goes Try.prog tab kSm Sml (Sms (snR a) (snR b) k) h00 .normal (Sms (snR a) (snR b) (k + 1)) h00 := fun k hk hh => by
      exact zsee_ok tab_ok mixed fun_ok noC_ok (zs1 (snR a) (snR b) k (a.getD k sn0) (b.getD k sn0)) (.cons (decide_eq_true (by omega)) (.cons (idxOk_lt (by omega)) (.cons (snR_get hk) (.cons (idxOk_lt (by omega)) (.cons (snR_get (by omega)) (.cons (nt hh) (.cons (wrK_at (by omega)) .nil)))))))
    have bad : ∀ k, k < a.length → eqS (a.getD k sn0) (b.getD k sn0) = false → Goes Try.prog tab kSm Sml (Sms (snR a) (snR b) k) h00 .ret (mkT 27 [(4, .bool false)]) h00 := fun k hk hh => by
      exact zsee_ok tab_ok mixed fun_ok noC_ok (zs2 (snR a) (snR b) k (a.getD k sn0) (b.getD k sn0)) (.cons (decide_eq_true (by omega)) (.cons (idxOk_lt (by omega)) (.cons (snR_get hk) (.cons (idxOk_lt (by omega)) (.cons (snR_get (by omega)) (.cons (ntf hh) .nil))))))
    cases hb : allB a.length fun k => eqS (a.getD k sn0) (b.getD k sn0) with
    | true => exact zflat_ok tab_ok mixed fun_ok noC_ok (zsC (snR a) (snR b)) (.cons hn (.cons (scan_t (S := Sms (snR a) (snR b)) (by intro h; cases h) go (zsee_ok tab_ok mixed fun_ok noC_ok (zsO (snR a) (snR b) a.length) (.cons (decide_eq_false (by omega)) .nil)) hb) .nil))
    | false => exact zflat_ok tab_ok mixed fun_ok noC_ok (zsB (snR a) (snR b)) (.cons hn (.cons (scan_f (S := Sms (snR a) (snR b)) (by intro h; cases h) go bad hb) .nil))
  · rw [decide_eq_false hl]
    exact zflat_ok tab_ok mixed fun_ok noC_ok (zsA (snR a) (snR b)) (.cons (bne_iff_ne.2 (by omega)) .nil)
/-! ### has, Great, Asked -/
def hsB (l : List Int) (v : Int) : Bool := anyB l.length fun k => l.getD k 0 == v
theorem hsB_iff (l : List Int) (v : Int) : hsB l v = true ↔ v ∈ l := by
  unfold hsB
  rw [anyB_iff]
  constructor
  · rintro ⟨k, h1, h2⟩
    have h2 := beq_iff_eq.1 h2
    rw [← h2, List.getD_eq_getElem?_getD, List.getElem?_eq_getElem h1]
    exact List.getElem_mem h1
  · intro h
    obtain ⟨k, hk, e⟩ := List.mem_iff_getElem.1 h
    exact ⟨k, hk, by rw [List.getD_eq_getElem?_getD, List.getElem?_eq_getElem hk]; simp [e]⟩
theorem ha_ans (l : List Int) (v : Int) (hl : l.length < 2 ^ 63) : Ans Try.prog fHa [.list 1 (i1 l), iI v] (.bool (hsB l v)) ⟨0, [], []⟩ := by
  have e := i1_length l
  have go : ∀ k, k < l.length → (!(l.getD k 0 == v)) = true → Goes Try.prog tab kHa Hal (Has l v k) h00 .normal (Has l v (k + 1)) h00 := fun k hk hh =>
    zsee_ok tab_ok mixed fun_ok noC_ok (zh1 l v k (l.getD k 0)) (.cons (decide_eq_true (by omega)) (.cons (idxOk_lt (by omega)) (.cons (i1_at (get_in _ hk)) (.cons (by simpa using hh) (.cons (wrK_at (by omega)) .nil)))))
  have bad : ∀ k, k < l.length → (!(l.getD k 0 == v)) = false → Goes Try.prog tab kHa Hal (Has l v k) h00 .ret (mkT 18 [(4, .bool true)]) h00 := fun k hk hh =>
    zsee_ok tab_ok mixed fun_ok noC_ok (zh2 l v k (l.getD k 0)) (.cons (decide_eq_true (by omega)) (.cons (idxOk_lt (by omega)) (.cons (i1_at (get_in _ hk)) (.cons (by simpa using hh) .nil))))
  unfold hsB anyB
  cases hb : allB l.length fun k => !(l.getD k 0 == v) with
  | true => exact zflat_ok tab_ok mixed fun_ok noC_ok (zhB l v) (.cons (scan_t (S := Has l v) (by intro h; cases h) go (zsee_ok tab_ok mixed fun_ok noC_ok (zhO l v l.length) (.cons (decide_eq_false (by omega)) .nil)) hb) .nil)
  | false => exact zflat_ok tab_ok mixed fun_ok noC_ok (zhA l v) (.cons (scan_f (S := Has l v) (by intro h; cases h) go bad hb) .nil)
def grB (w : Wd) (l : List Sn) : Bool := match gtB w with
  | true => true
  | false => decide (l.length > 80)
theorem gr_ans (w : Wd) (ok : OkW w) (l : List Sn) : Ans Try.prog fGr [wdD w, snL l] (.bool (grB w l)) ⟨0, [], []⟩ := by
  have a := gt_ans w ok
  have e := snR_length l
  unfold grB
  cases hg : gtB w with
  | true =>
    rw [hg] at a
    exact zflat_ok tab_ok mixed fun_ok (calC_ok a) (zg1 _ w l) (.cons (calC_at _ rfl rfl) .nil)
  | false =>
    rw [hg] at a
    have z := zflat_ok tab_ok mixed fun_ok (calC_ok a) (zg2 _ w l) (.cons (calC_at _ rfl rfl) .nil)
    rw [show decide (((snR l).length : Int) > 80) = decide (l.length > 80) by rw [e]; exact decide_eq_decide.2 (by omega)] at z
    exact z
theorem rm_t {w : Wd} {l : List Sn} (ok : OkW w) (hl : l.length < 2 ^ 63) (h : chB w l = true) : Ans Try.prog fRm [wdD w, snL l] (iI 0) ⟨0, [], []⟩ := by
  have := rm_ans w ok l hl
  rwa [chM_t h] at this
theorem rm_f {w : Wd} {l : List Sn} (ok : OkW w) (hl : l.length < 2 ^ 63) (h : chB w l = false) : Ans Try.prog fRm [wdD w, snL l] (iI 8) ⟨0, [], []⟩ := by
  have := rm_ans w ok l hl
  rwa [chM_f h] at this
theorem aq_ans (w : Wd) (ok : OkW w) (l : List Sn) (hl : l.length < 2 ^ 63) (j t u : Int) : Ans Try.prog fAq [wdD w, snL l, iI j, iI t, iI u] (iI (asM w l j (tmO t u))) ⟨0, [], []⟩ := by
  have e1 := rsR_length w.r
  unfold asM tmO
  cases h1 : chB w l with
  | false => exact zflat_ok tab_ok mixed fun_ok (orK_ok (calC_ok (rm_f ok hl h1)) cIn_ok) (za0 w l j t u) (.cons (orK_left (calC_at _ rfl rfl)) .nil)
  | true =>
    have va := (va_iff w).1 (chB_ok h1).1
    have q := orK_ok (calC_ok (rm_t ok hl h1)) cIn_ok
    have hj : inI w j = inB j 0 (((rsR w.r).length : Int) - 1) := by unfold inI; rw [e1]
    cases h2 : inI w j with
    | false => exact zflat_ok tab_ok mixed fun_ok q (za1 w l j t u) (.cons (orK_left (calC_at _ rfl rfl)) (.cons (len1 w va.n2) (.cons (ntf (hj.symm.trans h2)) .nil)))
    | true =>
      cases h3 : tmB t with
      | false => exact zflat_ok tab_ok mixed fun_ok q (za2 w l j t u) (.cons (orK_left (calC_at _ rfl rfl)) (.cons (len1 w va.n2) (.cons (nt (hj.symm.trans h2)) (.cons (ntf h3) .nil))))
      | true =>
        cases h4 : tmB u with
        | false => exact zflat_ok tab_ok mixed fun_ok q (za3 w l j t u) (.cons (orK_left (calC_at _ rfl rfl)) (.cons (len1 w va.n2) (.cons (nt (hj.symm.trans h2)) (.cons (nt h3) (.cons (ntf h4) .nil)))))
        | true => exact zflat_ok tab_ok mixed fun_ok q (za4 w l j t u) (.cons (orK_left (calC_at _ rfl rfl)) (.cons (len1 w va.n2) (.cons (nt (hj.symm.trans h2)) (.cons (nt h3) (.cons (nt h4) .nil)))))
/-! ### busy, Busy -/
def tmA (a b : Int) (s : Sn) : Bool := match decide (s.a < b) with
  | true => decide (s.b > a)
  | false => false
def rbB (w : Wd) (j a b : Int) (s : Sn) : Bool := match s.n == j with
  | true => tmA a b s
  | false => match hr w j s.n with
    | true => tmA a b s
    | false => false
def rbV (w : Wd) (l : List Sn) (j a b : Int) : Bool := anyB l.length fun k => rbB w j a b (l.getD k sn0)
section
variable (w : Wd) (l : List Sn) (hc : chB w l = true) (j a b : Int) (hj : Nd w j)
include hc hj
theorem zb_go (k : Nat) (hk : k < l.length) (hh : rbB w j a b (l.getD k sn0) = false) : Goes Try.prog tab kbu bul (buS l j a b k) (hW w) .normal (buS l j a b (k + 1)) (hW w) := by
  have e := snR_length l
  have hi := (chB_in hc (getD_mem hk)).1
  have va := (va_iff w).1 (chB_ok hc).1
  have c := rh_ans w va j (l.getD k sn0).n hj ⟨hi.1, hi.2⟩
  have n := chB_len hc
  unfold rbB tmA at hh
  cases h1 : (l.getD k sn0).n == j with
  | true =>
    rw [h1] at hh
    cases h2 : decide ((l.getD k sn0).a < b) with
    | true => rw [h2] at hh; exact zsee_ok tab_ok mixed fun_ok noC_ok (zb1 w l j a b k (l.getD k sn0)) (.cons (decide_eq_true (by omega)) (.cons (idxOk_lt (by omega)) (.cons (snR_get (by omega)) (.cons h1 (.cons (idxOk_lt (by omega)) (.cons (snR_get (by omega)) (.cons h2 (.cons (idxOk_lt (by omega)) (.cons (snR_get (by omega)) (.cons hh (.cons (wrK_at (by omega)) .nil)))))))))))
    | false => exact zsee_ok tab_ok mixed fun_ok noC_ok (zb0 w l j a b k (l.getD k sn0)) (.cons (decide_eq_true (by omega)) (.cons (idxOk_lt (by omega)) (.cons (snR_get (by omega)) (.cons h1 (.cons (idxOk_lt (by omega)) (.cons (snR_get (by omega)) (.cons h2 (.cons (wrK_at (by omega)) .nil))))))))
  | false =>
    rw [h1] at hh
    cases h3 : hr w j (l.getD k sn0).n with
    | false =>
      rw [h3] at c hh
      exact zsee_ok tab_ok mixed fun_ok (calC_ok c) (zb2 w l j a b k (l.getD k sn0)) (.cons (decide_eq_true (by omega)) (.cons (idxOk_lt (by omega)) (.cons (snR_get (by omega)) (.cons h1 (.cons (idxOk_lt (by omega)) (.cons (snR_get (by omega)) (.cons (calC_at _ rfl rfl) (.cons (wrK_at (by omega)) .nil))))))))
    | true =>
      rw [h3] at c hh
      cases h2 : decide ((l.getD k sn0).a < b) with
      | true => rw [h2] at hh; exact zsee_ok tab_ok mixed fun_ok (calC_ok c) (zb4 w l j a b k (l.getD k sn0)) (.cons (decide_eq_true (by omega)) (.cons (idxOk_lt (by omega)) (.cons (snR_get (by omega)) (.cons h1 (.cons (idxOk_lt (by omega)) (.cons (snR_get (by omega)) (.cons (calC_at _ rfl rfl) (.cons (idxOk_lt (by omega)) (.cons (snR_get (by omega)) (.cons h2 (.cons (idxOk_lt (by omega)) (.cons (snR_get (by omega)) (.cons hh (.cons (wrK_at (by omega)) .nil))))))))))))))
      | false => exact zsee_ok tab_ok mixed fun_ok (calC_ok c) (zb3 w l j a b k (l.getD k sn0)) (.cons (decide_eq_true (by omega)) (.cons (idxOk_lt (by omega)) (.cons (snR_get (by omega)) (.cons h1 (.cons (idxOk_lt (by omega)) (.cons (snR_get (by omega)) (.cons (calC_at _ rfl rfl) (.cons (idxOk_lt (by omega)) (.cons (snR_get (by omega)) (.cons h2 (.cons (wrK_at (by omega)) .nil)))))))))))
theorem zb_bad (k : Nat) (hk : k < l.length) (hh : rbB w j a b (l.getD k sn0) = true) : Goes Try.prog tab kbu bul (buS l j a b k) (hW w) .ret (mkT 53 [(10, .bool true)]) (hW w) := by
  have e := snR_length l
  have hi := (chB_in hc (getD_mem hk)).1
  have va := (va_iff w).1 (chB_ok hc).1
  have c := rh_ans w va j (l.getD k sn0).n hj ⟨hi.1, hi.2⟩
  have n := chB_len hc
  unfold rbB tmA at hh
  cases h1 : (l.getD k sn0).n == j with
  | true =>
    rw [h1] at hh
    cases h2 : decide ((l.getD k sn0).a < b) with
    | true => rw [h2] at hh; exact zsee_ok tab_ok mixed fun_ok noC_ok (zb5 w l j a b k (l.getD k sn0)) (.cons (decide_eq_true (by omega)) (.cons (idxOk_lt (by omega)) (.cons (snR_get (by omega)) (.cons h1 (.cons (idxOk_lt (by omega)) (.cons (snR_get (by omega)) (.cons h2 (.cons (idxOk_lt (by omega)) (.cons (snR_get (by omega)) (.cons hh .nil))))))))))
    | false => (rw [h2] at hh; cases hh)
  | false =>
    rw [h1] at hh
    cases h3 : hr w j (l.getD k sn0).n with
    | false =>
      rw [h3] at c hh
      cases hh
    | true =>
      rw [h3] at c hh
      cases h2 : decide ((l.getD k sn0).a < b) with
      | true => rw [h2] at hh; exact zsee_ok tab_ok mixed fun_ok (calC_ok c) (zb6 w l j a b k (l.getD k sn0)) (.cons (decide_eq_true (by omega)) (.cons (idxOk_lt (by omega)) (.cons (snR_get (by omega)) (.cons h1 (.cons (idxOk_lt (by omega)) (.cons (snR_get (by omega)) (.cons (calC_at _ rfl rfl) (.cons (idxOk_lt (by omega)) (.cons (snR_get (by omega)) (.cons h2 (.cons (idxOk_lt (by omega)) (.cons (snR_get (by omega)) (.cons hh .nil)))))))))))))
      | false => (rw [h2] at hh; cases hh)
theorem rbu_ans : Ans Try.prog fbu [wdD w, snL l, iI j, iI a, iI b] (.bool (rbV w l j a b)) ⟨0, [], []⟩ := by
  have e := snR_length l
  have n := chB_len hc
  unfold rbV anyB
  cases hb : allB l.length fun k => !rbB w j a b (l.getD k sn0) with
  | true => exact zflat_ok tab_ok mixed fun_ok noC_ok (zbB w l j a b) (.cons (scan_t (S := buS l j a b) (by intro h; cases h) (fun k hk hh => zb_go w l hc j a b hj k hk (by simpa using hh)) (zsee_ok tab_ok mixed fun_ok noC_ok (zbO w l j a b l.length) (.cons (decide_eq_false (by omega)) .nil)) hb) .nil)
  | false => exact zflat_ok tab_ok mixed fun_ok noC_ok (zbA w l j a b) (.cons (scan_f (S := buS l j a b) (by intro h; cases h) (fun k hk hh => zb_go w l hc j a b hj k hk (by simpa using hh)) (fun k hk hh => zb_bad w l hc j a b hj k hk (by simpa using hh)) hb) .nil)
end
theorem asM_z {w : Wd} {l : List Sn} {j : Int} {b : Bool} (h : (asM w l j b == 0) = true) : chB w l = true ∧ Nd w j ∧ b = true := by
  unfold asM at h
  cases h1 : chB w l with
  | false => rw [h1] at h; cases h
  | true =>
    rw [h1] at h
    cases h2 : inI w j with
    | false => rw [h2] at h; cases h
    | true =>
      rw [h2] at h
      cases b with
      | false => cases h
      | true => exact ⟨rfl, (nd_iff w j).1 h2, rfl⟩
theorem tmO_0 (t : Int) : tmO t 0 = tmB t := by
  unfold tmO
  cases tmB t <;> rfl
theorem nbL_mem (w : Wd) (j : Int) {i : Int} (hi : Nd w i) : i ∈ nbL w j w.r.length ↔ hr w j i = true := by
  have key : ∀ n, i ∈ nbL w j n ↔ i < ((n : Nat) : Int) ∧ hr w j i = true := by
    intro n
    have h0 := hi.lo
    induction n with
    | zero => exact ⟨fun h => (by cases h), fun h => (by have := h.1; omega)⟩
    | succ n ih =>
      unfold nbL
      cases hq : hr w j (n : Int) with
      | true =>
        dsimp only
        refine (List.mem_append.trans (or_congr ih List.mem_singleton)).trans ?_
        constructor
        · rintro (⟨h1, h2⟩ | rfl)
          · exact ⟨by omega, h2⟩
          · exact ⟨by omega, hq⟩
        · rintro ⟨h1, h2⟩
          by_cases e : i = (n : Int)
          · exact .inr e
          · exact .inl ⟨by omega, h2⟩
      | false =>
        refine ih.trans ?_
        constructor
        · rintro ⟨h1, h2⟩
          exact ⟨by omega, h2⟩
        · rintro ⟨h1, h2⟩
          refine ⟨?_, h2⟩
          by_cases e : i = (n : Int)
          · rw [e, hq] at h2; cases h2
          · omega
  rw [key]
  exact ⟨fun h => h.2, fun h => ⟨hi.hi, h⟩⟩
/-- who is noticed -/
theorem ntB_hr {w : Wd} {l : List Sn} {j : Int} (hc : chB w l = true) (hj : Nd w j) {s : Sn} (hs : s ∈ l) : ntB j (nbV w j) s = (s.n == j || hr w j s.n) := by
  have va := (va_iff w).1 (chB_ok hc).1
  have hA : okA w j j = true := okA_t (chB_ok hc).1 hj hj
  have hi := (chB_in hc hs).1
  have hm : hasI (nbV w j) s.n = hr w j s.n := by
    rw [Bool.eq_iff_iff, hasI_iff]
    unfold nbV
    rw [hA]
    exact nbL_mem w j ⟨hi.1, hi.2⟩
  unfold ntB
  rw [hm]
  cases s.n == j <;> rfl
theorem rbB_or (w : Wd) (j a b : Int) (s : Sn) : rbB w j a b s = ((s.n == j || hr w j s.n) && tmA a b s) := by
  unfold rbB
  cases s.n == j <;> cases hr w j s.n <;> rfl
/-- busy by both is the same -/
theorem bu_same {w : Wd} {l : List Sn} {j t : Int} (hc : chB w l = true) (hj : Nd w j) : rbV w l j t (t + 1) = buV w l j t := by
  rw [Bool.eq_iff_iff]
  unfold rbV buV
  rw [ifV_iff, anyB_iff]
  have hb : ∀ s : Sn, s ∈ l → ((ntB j (nbV w j) s = true ∧ atB t s = true) ↔ rbB w j t (t + 1) s = true) := fun s hs => by
    have ha : tmA t (t + 1) s = atB t s := by
      unfold tmA atB
      by_cases q : s.a ≤ t
      · rw [decide_eq_true q, decide_eq_true (by omega)]
      · rw [decide_eq_false q, decide_eq_false (by omega)]
    rw [rbB_or, ha, ntB_hr hc hj hs, Bool.and_eq_true]
  constructor
  · rintro ⟨k, hk, h⟩
    have := (hb _ (getD_mem hk)).2 h
    exact ⟨_, noL_mem.2 ⟨getD_mem hk, this.1⟩, this.2⟩
  · rintro ⟨s, hs, h⟩
    obtain ⟨h1, h2⟩ := noL_mem.1 hs
    obtain ⟨k, hk, rfl⟩ := mem_getD h1
    exact ⟨k, hk, (hb _ h1).1 ⟨h2, h⟩⟩
theorem rB_ans (w : Wd) (ok : OkW w) (l : List Sn) (hl : l.length < 2 ^ 63) (j t : Int) : Ans Try.prog fRB [wdD w, snL l, iI j, iI t] (buD w l j t) ⟨0, [], []⟩ := by
  have a := aq_ans w ok l hl j t 0
  rw [tmO_0] at a
  unfold buD buO
  cases hz : asM w l j (tmB t) == 0 with
  | false => exact zflat_ok tab_ok mixed fun_ok (calC_ok a) (zc1 _ w l j t (asM w l j (tmB t))) (.cons (calC_at _ rfl rfl) (.cons (by simp only [bne, hz]; rfl) .nil))
  | true =>
    obtain ⟨h1, h2, h3⟩ := asM_z hz
    rw [beq_iff_eq.1 hz] at a ⊢
    have b := rbu_ans w l h1 j t (t + 1) h2
    rw [bu_same h1 h2] at b
    have i3 := (inB_iff _ _ _).1 h3
    exact zflat_ok tab_ok mixed fun_ok (orK_ok (calC_ok a) (calC_ok b)) (zc2 _ w l j t (buV w l j t)) (.cons (orK_left (calC_at _ rfl rfl)) (.cons (congrArg (DV.int .i64) (wrapZ (x := t + 1) (by omega) (by omega))) (.cons (orK_right (calC_oth (by kernel_rfl)) (calC_at _ rfl rfl)) .nil)))
end
end Go.Proofs.Ytgjgihlfkpbdgaa
