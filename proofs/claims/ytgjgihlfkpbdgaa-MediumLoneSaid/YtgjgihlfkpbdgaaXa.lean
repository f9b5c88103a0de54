/- The law MediumLone over data. -/
import Derived.Test.YtgjgihlfkpbdgaaVz
namespace Go.Proofs.Ytgjgihlfkpbdgaa
open Go.RowKit

noncomputable section
theorem AnsH.args {P : Program} {f : FuncId} {as0 bs : List DV} {h0 hp : Hp} {d : DV} (h : AnsH P f bs h0 d hp) (hl : ∀ E w vs, VRs E w as0 vs → VRs E w bs vs) : AnsH P f as0 h0 d hp := ⟨h.1, fun W0 S0 E w vs hs hv => h.2 W0 S0 E w vs hs (hl E w vs hv)⟩
theorem re_nil (w : Wd) (ok : OkW w) (l : List Sn) (hl : l.length < 2 ^ 63) : Ans Try.prog fRe [wdD w, snL l, .nil] (reD w l []) ⟨0, [], []⟩ := AnsH.args (re_ans w ok l hl []) fun E w vs h => by
  obtain ⟨a, s, rfl, p1, h⟩ := h.uncons
  obtain ⟨b, s, rfl, p2, h⟩ := h.uncons
  obtain ⟨c, s, rfl, p3, h⟩ := h.uncons
  cases h.unnil
  refine .cons p1 (.cons p2 (.cons ?_ (.nil _ _)))
  cases p3
  exact VR.nil_list _ _ 1
abbrev fLo1 : FuncId := 7
abbrev kLo1 : List (Nat × Nat) := ksF ftab fLo1
abbrev loL1 : Code := loopAt (bodyOf ftab fLo1) 0
abbrev loK1 : Code := loopAt loL1 0
abbrev loJ1 : Code := loopAt loL1 1
abbrev loS1 (l : List Sn) (rs : List (List Int)) (i : Nat) : Slots := mkT 149 [(1, snL l), (2, .ptr 0 0), (5, .bool true), (6, .list 1 (ssR rs)), (8, iN i)]
abbrev loS2 (l : List Sn) (rs : List (List Int)) (i : Nat) (v : Bool) (k : Nat) : Slots := mkT 149 [(1, snL l), (2, .ptr 0 0), (5, .bool true), (6, .list 1 (ssR rs)), (8, iN i), (9, .bool v), (10, iN k)]
abbrev loE2 (l : List Sn) (rs : List (List Int)) (i : Nat) (v : Bool) : Slots := mkT 149 [(1, snL l), (2, .ptr 0 0), (5, .bool true), (6, .list 1 (ssR rs)), (8, iN i), (9, .bool v)]
abbrev loS3 (l : List Sn) (rs : List (List Int)) (i j : Nat) : Slots := mkT 149 [(1, snL l), (2, .ptr 0 0), (5, .bool true), (6, .list 1 (ssR rs)), (8, iN i), (13, iN j)]
set_option maxRecDepth 1000000 in
theorem xlo0 (w : Wd) (l : List Sn) (rs : List (List Int)) (i k : Nat) (s t : Sn) : zsee Try.prog tab ftab cOv kLo1 [1, 2, 5, 6, 8, 9, 10] loK1 (loS2 l rs i true k) (hW w) [(56, .b true), (63, .b true), (58, .w (iN (k + 1)))] = some (Ex.normal, (loS2 l rs i true (k + 1)), (hW w), ((decide ((↑k : Int) < (↑(List.length (snR l)) : Int))) = true) :: (((↑k : Int) == (↑i : Int)) = true) :: ((ar IntKind.i64 ((↑k : Int) + 1)) = (iN (k + 1))) :: []) := by kernel_rfl
set_option maxRecDepth 1000000 in
theorem xlo1 (w : Wd) (l : List Sn) (rs : List (List Int)) (i k : Nat) (s t : Sn) : zsee Try.prog tab ftab cOv kLo1 [1, 2, 5, 6, 8, 9, 10] loK1 (loS2 l rs i true k) (hW w) [(56, .b true), (63, .b false), (67, .n (.fptr (snC s))), (71, .n (.fptr (snC t))), (74, .b true), (58, .w (iN (k + 1)))] = some (Ex.normal, (loS2 l rs i true (k + 1)), (hW w), ((decide ((↑k : Int) < (↑(List.length (snR l)) : Int))) = true) :: (((↑k : Int) == (↑i : Int)) = false) :: ((idxOk (↑i : Int) (List.length (snR l))) = true) :: ((nth (snR l) (Int.toNat (↑i : Int))) = (Option.some (snC s))) :: ((idxOk (↑k : Int) (List.length (snR l))) = true) :: ((nth (snR l) (Int.toNat (↑k : Int))) = (Option.some (snC t))) :: ((!ovB s t) = true) :: ((ar IntKind.i64 ((↑k : Int) + 1)) = (iN (k + 1))) :: []) := by kernel_rfl
set_option maxRecDepth 1000000 in
theorem xlo2 (w : Wd) (l : List Sn) (rs : List (List Int)) (i k : Nat) (s t : Sn) : zsee Try.prog tab ftab cOv kLo1 [1, 2, 5, 6, 8, 9, 10] loK1 (loS2 l rs i true k) (hW w) [(56, .b true), (63, .b false), (67, .n (.fptr (snC s))), (71, .n (.fptr (snC t))), (74, .b false), (58, .w (iN (k + 1)))] = some (Ex.normal, (loS2 l rs i false (k + 1)), (hW w), ((decide ((↑k : Int) < (↑(List.length (snR l)) : Int))) = true) :: (((↑k : Int) == (↑i : Int)) = false) :: ((idxOk (↑i : Int) (List.length (snR l))) = true) :: ((nth (snR l) (Int.toNat (↑i : Int))) = (Option.some (snC s))) :: ((idxOk (↑k : Int) (List.length (snR l))) = true) :: ((nth (snR l) (Int.toNat (↑k : Int))) = (Option.some (snC t))) :: ((!ovB s t) = false) :: ((ar IntKind.i64 ((↑k : Int) + 1)) = (iN (k + 1))) :: []) := by kernel_rfl
set_option maxRecDepth 1000000 in
theorem xlo3 (w : Wd) (l : List Sn) (rs : List (List Int)) (i k : Nat) (s t : Sn) : zsee Try.prog tab ftab cOv kLo1 [1, 2, 5, 6, 8, 9, 10] loK1 (loS2 l rs i false k) (hW w) [(56, .b true), (58, .w (iN (k + 1)))] = some (Ex.normal, (loS2 l rs i false (k + 1)), (hW w), ((decide ((↑k : Int) < (↑(List.length (snR l)) : Int))) = true) :: ((ar IntKind.i64 ((↑k : Int) + 1)) = (iN (k + 1))) :: []) := by kernel_rfl
set_option maxRecDepth 1000000 in
theorem xloO (w : Wd) (l : List Sn) (rs : List (List Int)) (i k : Nat) (v : Bool) : zsee Try.prog tab ftab noC kLo1 [1, 2, 5, 6, 8, 9] loK1 (loS2 l rs i v k) (hW w) [(56, .b false)] = some ((Ex.exit 2), (loE2 l rs i v), (hW w), ((decide ((↑k : Int) < (↑(List.length (snR l)) : Int))) = false) :: []) := by kernel_rfl
set_option maxRecDepth 1000000 in
theorem xlj0 (C : ConF) (w : Wd) (l : List Sn) (rs : List (List Int)) (i j : Nat) (v : Int) (s : Sn) (r : List Int) : zsee Try.prog tab ftab C kLo1 [1, 2, 5, 6, 8, 13] loJ1 (loS3 l rs i j) (hW w) [(98, .b true), (106, .n (.fptr (snC s))), (109, .q (.tuple [.bool false, iI 0])), (116, .n (.fptr (snC s))), (120, .q (.tuple [iI v, iI 0])), (132, .n (.fptr [.list 1 (i1 r)])), (135, .q (.bool false)), (100, .w (iN (j + 1)))] = some (Ex.normal, (loS3 l rs i (j + 1)), (hW w), ((decide ((↑j : Int) < (↑(List.length (rsR w.r)) : Int))) = true) :: ((idxOk (↑i : Int) (List.length (snR l))) = true) :: ((nth (snR l) (Int.toNat (↑i : Int))) = (Option.some (snC s))) :: ((C 29 [(DV.agg (List.take 2 (List.drop 0 (wdC w)))), (iN j), (DV.int (IntKind.i64) (s.n))] (hW w)) = (Option.some ((DV.tuple [DV.bool false, iI 0]), (hW w), Option.none))) :: ((idxOk (↑i : Int) (List.length (snR l))) = true) :: ((nth (snR l) (Int.toNat (↑i : Int))) = (Option.some (snC s))) :: ((C 30 [(DV.agg (List.take 2 (List.drop 0 (wdC w)))), (DV.int (IntKind.i64) (s.n)), (iN j)] (hW w)) = (Option.some ((DV.tuple [iI v, iI 0]), (hW w), Option.none))) :: ((idxOk (↑i : Int) (List.length (ssR rs))) = true) :: ((nth (ssR rs) (Int.toNat (↑i : Int))) = (Option.some [(DV.list 1 (i1 r))])) :: ((C 31 [(DV.list 1 (i1 r)), (iN j)] (hW w)) = (Option.some ((DV.bool false), (hW w), Option.none))) :: ((ar IntKind.i64 ((↑j : Int) + 1)) = (iN (j + 1))) :: []) := by kernel_rfl
set_option maxRecDepth 1000000 in
theorem xlj1 (C : ConF) (w : Wd) (l : List Sn) (rs : List (List Int)) (i j : Nat) (v : Int) (s : Sn) (r : List Int) : zsee Try.prog tab ftab C kLo1 [1, 2, 5, 6, 8, 13] loJ1 (loS3 l rs i j) (hW w) [(98, .b true), (106, .n (.fptr (snC s))), (109, .q (.tuple [.bool true, iI 0])), (116, .n (.fptr (snC s))), (120, .q (.tuple [iI v, iI 0])), (132, .n (.fptr [.list 1 (i1 r)])), (135, .q (.bool false)), (141, .n (.fptr (snC s))), (144, .b false), (100, .w (iN (j + 1)))] = some (Ex.normal, (loS3 l rs i (j + 1)), (hW w), ((decide ((↑j : Int) < (↑(List.length (rsR w.r)) : Int))) = true) :: ((idxOk (↑i : Int) (List.length (snR l))) = true) :: ((nth (snR l) (Int.toNat (↑i : Int))) = (Option.some (snC s))) :: ((C 29 [(DV.agg (List.take 2 (List.drop 0 (wdC w)))), (iN j), (DV.int (IntKind.i64) (s.n))] (hW w)) = (Option.some ((DV.tuple [DV.bool true, iI 0]), (hW w), Option.none))) :: ((idxOk (↑i : Int) (List.length (snR l))) = true) :: ((nth (snR l) (Int.toNat (↑i : Int))) = (Option.some (snC s))) :: ((C 30 [(DV.agg (List.take 2 (List.drop 0 (wdC w)))), (DV.int (IntKind.i64) (s.n)), (iN j)] (hW w)) = (Option.some ((DV.tuple [iI v, iI 0]), (hW w), Option.none))) :: ((idxOk (↑i : Int) (List.length (ssR rs))) = true) :: ((nth (ssR rs) (Int.toNat (↑i : Int))) = (Option.some [(DV.list 1 (i1 r))])) :: ((C 31 [(DV.list 1 (i1 r)), (iN j)] (hW w)) = (Option.some ((DV.bool false), (hW w), Option.none))) :: ((idxOk (↑i : Int) (List.length (snR l))) = true) :: ((nth (snR l) (Int.toNat (↑i : Int))) = (Option.some (snC s))) :: ((decide (v ≥ s.d)) = false) :: ((ar IntKind.i64 ((↑j : Int) + 1)) = (iN (j + 1))) :: []) := by kernel_rfl
set_option maxRecDepth 1000000 in
theorem xlj2 (C : ConF) (w : Wd) (l : List Sn) (rs : List (List Int)) (i j : Nat) (v : Int) (s : Sn) (r : List Int) : zsee Try.prog tab ftab C kLo1 [1, 2, 5, 6, 8, 13] loJ1 (loS3 l rs i j) (hW w) [(98, .b true), (106, .n (.fptr (snC s))), (109, .q (.tuple [.bool true, iI 0])), (116, .n (.fptr (snC s))), (120, .q (.tuple [iI v, iI 0])), (132, .n (.fptr [.list 1 (i1 r)])), (135, .q (.bool true)), (141, .n (.fptr (snC s))), (144, .b true), (100, .w (iN (j + 1)))] = some (Ex.normal, (loS3 l rs i (j + 1)), (hW w), ((decide ((↑j : Int) < (↑(List.length (rsR w.r)) : Int))) = true) :: ((idxOk (↑i : Int) (List.length (snR l))) = true) :: ((nth (snR l) (Int.toNat (↑i : Int))) = (Option.some (snC s))) :: ((C 29 [(DV.agg (List.take 2 (List.drop 0 (wdC w)))), (iN j), (DV.int (IntKind.i64) (s.n))] (hW w)) = (Option.some ((DV.tuple [DV.bool true, iI 0]), (hW w), Option.none))) :: ((idxOk (↑i : Int) (List.length (snR l))) = true) :: ((nth (snR l) (Int.toNat (↑i : Int))) = (Option.some (snC s))) :: ((C 30 [(DV.agg (List.take 2 (List.drop 0 (wdC w)))), (DV.int (IntKind.i64) (s.n)), (iN j)] (hW w)) = (Option.some ((DV.tuple [iI v, iI 0]), (hW w), Option.none))) :: ((idxOk (↑i : Int) (List.length (ssR rs))) = true) :: ((nth (ssR rs) (Int.toNat (↑i : Int))) = (Option.some [(DV.list 1 (i1 r))])) :: ((C 31 [(DV.list 1 (i1 r)), (iN j)] (hW w)) = (Option.some ((DV.bool true), (hW w), Option.none))) :: ((idxOk (↑i : Int) (List.length (snR l))) = true) :: ((nth (snR l) (Int.toNat (↑i : Int))) = (Option.some (snC s))) :: ((decide (v ≥ s.d)) = true) :: ((ar IntKind.i64 ((↑j : Int) + 1)) = (iN (j + 1))) :: []) := by kernel_rfl
set_option maxRecDepth 1000000 in
theorem xljO (w : Wd) (l : List Sn) (rs : List (List Int)) (i j : Nat) : zsee Try.prog tab ftab noC kLo1 [1, 2, 5, 6, 8] loJ1 (loS3 l rs i j) (hW w) [(98, .b false)] = some ((Ex.exit 4), (loS1 l rs i), (hW w), ((decide ((↑j : Int) < (↑(List.length (rsR w.r)) : Int))) = false) :: []) := by kernel_rfl
set_option maxRecDepth 1000000 in
theorem xlp0 (C : ConF) (w : Wd) (l : List Sn) (rs : List (List Int)) (i : Nat) (nb : List Int) : zsee Try.prog tab ftab C kLo1 [1, 2, 5, 6, 8] loL1 (loS1 l rs i) (hW w) [(50, .b true), (0, .l [1, 2, 5, 6, 8, 9, 10] (.exit 2) (loE2 l rs i false) (hW w)), (52, .w (iN (i + 1)))] = some (Ex.normal, (loS1 l rs (i + 1)), (hW w), ((decide ((↑i : Int) < (↑(List.length (snR l)) : Int))) = true) :: (Goes (Try.prog) tab (kLo1) (Go.Code.loop (loK1)) (loS2 l rs i true 0) (hW w) (Ex.exit 2) (loE2 l rs i false) (hW w)) :: ((ar IntKind.i64 ((↑i : Int) + 1)) = (iN (i + 1))) :: []) := by kernel_rfl
set_option maxRecDepth 1000000 in
theorem xlp1 (C : ConF) (w : Wd) (l : List Sn) (rs : List (List Int)) (i : Nat) (nb : List Int) : zsee Try.prog tab ftab C kLo1 [1, 2, 5, 6, 8] loL1 (loS1 l rs i) (hW w) [(50, .b true), (0, .l [1, 2, 5, 6, 8, 9, 10] (.exit 2) (loE2 l rs i true) (hW w)), (81, .q (.tuple [.list 1 (i1 nb), iI 0])), (92, .b false), (0, .l [1, 2, 5, 6, 8, 13] (.exit 4) (loS1 l rs i) (hW w)), (52, .w (iN (i + 1)))] = some (Ex.normal, (loS1 l rs (i + 1)), (hW w), ((decide ((↑i : Int) < (↑(List.length (snR l)) : Int))) = true) :: (Goes (Try.prog) tab (kLo1) (Go.Code.loop (loK1)) (loS2 l rs i true 0) (hW w) (Ex.exit 2) (loE2 l rs i true) (hW w)) :: ((C 32 [(DV.agg (List.take 2 (List.drop 0 (wdC w)))), (DV.int IntKind.i64 0)] (hW w)) = (Option.some ((DV.tuple [DV.list 1 (i1 nb), iI 0]), (hW w), Option.none))) :: ((decide ((↑(List.length (i1 nb)) : Int) ≥ (↑(List.length (rsR w.r)) : Int))) = false) :: (Goes (Try.prog) tab (kLo1) (Go.Code.loop (loJ1)) (loS3 l rs i 0) (hW w) (Ex.exit 4) (loS1 l rs i) (hW w)) :: ((ar IntKind.i64 ((↑i : Int) + 1)) = (iN (i + 1))) :: []) := by kernel_rfl
set_option maxRecDepth 1000000 in
theorem xlpO (C : ConF) (w : Wd) (l : List Sn) (rs : List (List Int)) (i : Nat) (nb : List Int) : zsee Try.prog tab ftab noC kLo1 [5] loL1 (loS1 l rs i) (hW w) [(50, .b false)] = some ((Ex.exit 0), (mkT 149 [(5, (DV.bool true))]), (hW w), ((decide ((↑i : Int) < (↑(List.length (snR l)) : Int))) = false) :: []) := by kernel_rfl
set_option maxRecDepth 1000000 in
theorem xlq0 (C : ConF) (w : Wd) (l : List Sn) (rs : List (List Int)) : zflat (zans Try.prog tab ftab C fLo1 [wdD w, snL l] [(18, .q (.bool true)), (21, .q (.bool true))]) = some ((DV.bool true), ((C 17 [] (Hp.mk 1 [(Ob.mk 0 0 25 (wdC w))] [])) = (Option.some ((DV.bool true), (Hp.mk 1 [(Ob.mk 0 0 25 (wdC w))] []), Option.none))) :: ((C 20 [(DV.agg (List.take 2 (List.drop 0 (wdC w)))), (snL l)] (Hp.mk 1 [(Ob.mk 0 0 25 (wdC w))] [])) = (Option.some ((DV.bool true), (Hp.mk 1 [(Ob.mk 0 0 25 (wdC w))] []), Option.none))) :: []) := by kernel_rfl
set_option maxRecDepth 1000000 in
theorem xlq1 (C : ConF) (w : Wd) (l : List Sn) (rs : List (List Int)) : zflat (zans Try.prog tab ftab C fLo1 [wdD w, snL l] [(18, .q (.bool true)), (21, .q (.bool false)), (30, .q (.tuple [.list 1 (ssR rs), iI 8]))]) = some ((DV.bool (8 != 0)), ((C 17 [] (Hp.mk 1 [(Ob.mk 0 0 25 (wdC w))] [])) = (Option.some ((DV.bool true), (Hp.mk 1 [(Ob.mk 0 0 25 (wdC w))] []), Option.none))) :: ((C 20 [(DV.agg (List.take 2 (List.drop 0 (wdC w)))), (snL l)] (Hp.mk 1 [(Ob.mk 0 0 25 (wdC w))] [])) = (Option.some ((DV.bool false), (Hp.mk 1 [(Ob.mk 0 0 25 (wdC w))] []), Option.none))) :: ((C 16 [(DV.agg (List.take 2 (List.drop 0 (wdC w)))), (snL l), (DV.nil)] (Hp.mk 1 [(Ob.mk 0 0 25 (wdC w))] [])) = (Option.some ((DV.tuple [DV.list 1 (ssR rs), iI 8]), (Hp.mk 1 [(Ob.mk 0 0 25 (wdC w))] []), Option.none))) :: []) := by kernel_rfl
set_option maxRecDepth 1000000 in
theorem xlq2 (C : ConF) (w : Wd) (l : List Sn) (rs : List (List Int)) : zflat (zans Try.prog tab ftab C fLo1 [wdD w, snL l] [(18, .q (.bool true)), (21, .q (.bool false)), (30, .q (.tuple [.list 1 (ssR rs), iI 0])), (40, .b false), (0, .l [1, 2, 5, 6, 8] (.exit 0) (mkT 149 [(5, .bool true)]) (hW w))]) = some ((DV.bool true), ((C 17 [] (hW w)) = (Option.some ((DV.bool true), (hW w), Option.none))) :: ((C 20 [(DV.agg (List.take 2 (List.drop 0 (wdC w)))), (snL l)] (hW w)) = (Option.some ((DV.bool false), (hW w), Option.none))) :: ((C 16 [(DV.agg (List.take 2 (List.drop 0 (wdC w)))), (snL l), (DV.nil)] (hW w)) = (Option.some ((DV.tuple [DV.list 1 (ssR rs), iI 0]), (hW w), Option.none))) :: (((↑(List.length (ssR rs)) : Int) != (↑(List.length (snR l)) : Int)) = false) :: (Goes (Try.prog) tab (kLo1) (Go.Code.loop (loL1)) (loS1 l rs 0) (hW w) (Ex.exit 0) (mkT 149 [(5, (DV.bool true))]) (hW w)) :: []) := by kernel_rfl
theorem inn_nil (f : Nat → Bool) : ∀ n, (inn f [] n).2 = [] ∧ ∀ j, j < n → f j = true → (j : Int) ∈ (inn f [] n).1
  | 0 => ⟨rfl, fun j h => by omega⟩
  | n + 1 => by
    have ih := inn_nil f n
    show (stp (f n) n (inn f [] n)).2 = [] ∧ ∀ j, j < n + 1 → f j = true → (j : Int) ∈ (stp (f n) n (inn f [] n)).1
    generalize inn f [] n = p at *
    obtain ⟨r, d⟩ := p
    obtain ⟨rfl, ih⟩ := ih
    unfold stp
    cases hf : f n with
    | false => exact ⟨rfl, fun j hj hfj => ih j (by
        rcases Nat.lt_or_ge j n with q | q
        · exact q
        · rw [show j = n by omega, hf] at hfj; cases hfj) hfj⟩
    | true =>
      refine ⟨rfl, fun j hj hfj => ?_⟩
      rcases Nat.lt_or_ge j n with q | q
      · exact List.mem_append.2 (.inl (ih j q hfj))
      · rw [show j = n by omega]
        exact List.mem_append.2 (.inr (List.mem_singleton.2 rfl))
theorem out_nil (F : Nat → Nat → Bool) (m : Nat) : ∀ i, (out F m [] i).2 = [] ∧ ∀ k, k < i → (out F m [] i).1.getD k [] = (inn (F k) [] m).1
  | 0 => ⟨rfl, fun k h => by omega⟩
  | i + 1 => by
    have ih := out_nil F m i
    have hl := out_len F m [] i
    refine ⟨?_, fun k hk => ?_⟩
    · show (inn (F i) (out F m [] i).2 m).2 = []
      rw [ih.1]
      exact (inn_nil _ _).1
    · show ((out F m [] i).1 ++ [(inn (F i) (out F m [] i).2 m).1]).getD k [] = _
      rcases Nat.lt_or_ge k i with q | q
      · rw [← ih.2 k q, List.getD_eq_getElem?_getD, List.getD_eq_getElem?_getD, List.getElem?_append_left (by omega)]
      · obtain rfl : k = i := by omega
        rw [List.getD_eq_getElem?_getD, List.getElem?_append_right (by omega), hl, Nat.sub_self, ih.1]
        rfl
theorem reO_nil {w : Wd} {l : List Sn} {i : Nat} (hi : i < l.length) : (reO w l [] l.length).1.getD i [] = (inn (fun j => rcvB w l (l.getD i sn0) j) [] w.r.length).1 := (out_nil (fun i j => rcvB w l (l.getD i sn0) j) w.r.length l.length).2 i hi
/-- without draws: the receivers are those that can receive -/
theorem hs_nil {w : Wd} {l : List Sn} {i : Nat} (hi : i < l.length) {j : Nat} (hj : j < w.r.length) : hsB ((reO w l [] l.length).1.getD i []) (j : Int) = rcvB w l (l.getD i sn0) (j : Int) := by
  rw [reO_nil hi, Bool.eq_iff_iff, hsB_iff]
  constructor
  · intro h
    obtain ⟨k, _, e, hk⟩ := inn_mem _ _ _ _ h
    obtain rfl : k = j := by omega
    exact hk
  · exact fun h => (inn_nil (fun j : Nat => rcvB w l (l.getD i sn0) (j : Int)) w.r.length).2 j hj h
def lonV (l : List Sn) (i : Nat) : Nat → Bool
  | 0 => true
  | k + 1 => lonV l i k && ((k : Int) == (i : Int) || !ovB (l.getD i sn0) (l.getD k sn0))
theorem lonV_t {l : List Sn} {i : Nat} : ∀ {n : Nat}, lonV l i n = true → ∀ k, k < n → k = i ∨ ovB (l.getD i sn0) (l.getD k sn0) = false
  | 0, _, k, h => by omega
  | n + 1, h, k, hk => by
    have h : (lonV l i n && ((n : Int) == (i : Int) || !ovB (l.getD i sn0) (l.getD n sn0))) = true := h
    rw [Bool.and_eq_true, Bool.or_eq_true] at h
    rcases Nat.lt_or_ge k n with q | q
    · exact lonV_t h.1 k q
    · obtain rfl : k = n := by omega
      rcases h.2 with q | q
      · have := beq_iff_eq.1 q
        exact .inl (by omega)
      · exact .inr (by simpa using q)
theorem lone_rcv {w : Wd} {l : List Sn} {i : Nat} (hL : lonV l i l.length = true) (j : Int) : rcvB w l (l.getD i sn0) j = (hr w j (l.getD i sn0).n && decide (lv w (l.getD i sn0).n j ≥ (l.getD i sn0).d)) := by
  rw [Bool.eq_iff_iff, rcv_iff, Bool.and_eq_true, decide_eq_true_eq]
  constructor
  · exact fun h => ⟨h.hr, h.lv⟩
  · rintro ⟨h1, h2⟩
    refine ⟨h1, h2, fun s hs => ?_⟩
    cases q : kbB w (l.getD i sn0) j s with
    | false => rfl
    | true =>
      obtain ⟨k, hk, rfl⟩ := mem_getD hs
      obtain ⟨q1, q2, _⟩ := (kbB_iff _ _ _ _).1 q
      rcases lonV_t hL k hk with rfl | z
      · exact absurd rfl q1
      · rw [q2] at z; cases z
theorem nbL_lt (w : Wd) : ∀ n, 0 < n → (nbL w 0 n).length ≤ n - 1
  | 0, h => by omega
  | 1, _ => by
    have : hr w 0 (0 : Nat) = false := hr_self w 0
    unfold nbL
    rw [this]
    show (nbL w 0 0).length ≤ 0
    exact Nat.le_refl _
  | n + 2, _ => by
    have ih := nbL_lt w (n + 1) (by omega)
    have e : nbL w 0 (n + 2) = match hr w 0 ((n + 1 : Nat) : Int) with
      | true => nbL w 0 (n + 1) ++ [((n + 1 : Nat) : Int)]
      | false => nbL w 0 (n + 1) := rfl
    rw [e]
    split
    · rw [List.length_append, List.length_singleton]; omega
    · omega
section
variable (w : Wd) (ok : OkW w) (l : List Sn) (hc : chB w l = true)
include ok hc
theorem xlo_go (rs : List (List Int)) (i : Nat) (hi : i < l.length) (k : Nat) (hk : k < l.length) : Goes Try.prog tab kLo1 loK1 (loS2 l rs i (lonV l i k) k) (hW w) .normal (loS2 l rs i (lonV l i (k + 1)) (k + 1)) (hW w) := by
  have e := snR_length l
  have n := chB_len hc
  have _ := ok
  rw [show lonV l i (k + 1) = (lonV l i k && ((k : Int) == (i : Int) || !ovB (l.getD i sn0) (l.getD k sn0))) from rfl]
  cases h0 : lonV l i k with
  | false => exact zsee_ok tab_ok mixed fun_ok cOv_ok (xlo3 w l rs i k (l.getD i sn0) (l.getD k sn0)) (.cons (decide_eq_true (by omega)) (.cons (wrK_at (by omega)) .nil))
  | true =>
    cases h1 : (k : Int) == (i : Int) with
    | true => exact zsee_ok tab_ok mixed fun_ok cOv_ok (xlo0 w l rs i k (l.getD i sn0) (l.getD k sn0)) (.cons (decide_eq_true (by omega)) (.cons h1 (.cons (wrK_at (by omega)) .nil)))
    | false =>
      cases h2 : ovB (l.getD i sn0) (l.getD k sn0) with
      | false => exact zsee_ok tab_ok mixed fun_ok cOv_ok (xlo1 w l rs i k (l.getD i sn0) (l.getD k sn0)) (.cons (decide_eq_true (by omega)) (.cons h1 (.cons (idxOk_lt (by omega)) (.cons (snR_get (by omega)) (.cons (idxOk_lt (by omega)) (.cons (snR_get (by omega)) (.cons (ntf h2) (.cons (wrK_at (by omega)) .nil))))))))
      | true => exact zsee_ok tab_ok mixed fun_ok cOv_ok (xlo2 w l rs i k (l.getD i sn0) (l.getD k sn0)) (.cons (decide_eq_true (by omega)) (.cons h1 (.cons (idxOk_lt (by omega)) (.cons (snR_get (by omega)) (.cons (idxOk_lt (by omega)) (.cons (snR_get (by omega)) (.cons (nt h2) (.cons (wrK_at (by omega)) .nil))))))))
theorem xlj_go (i : Nat) (hi : i < l.length) (hL : lonV l i l.length = true) (j : Nat) (hj : j < w.r.length) : Goes Try.prog tab kLo1 loJ1 (loS3 l (reO w l [] l.length).1 i j) (hW w) .normal (loS3 l (reO w l [] l.length).1 i (j + 1)) (hW w) := by
  have e := snR_length l
  have e1 := rsR_length w.r
  have hrl : (reO w l [] l.length).1.length = l.length := out_len _ _ _ _
  have es := ssR_length (reO w l [] l.length).1
  have n := chB_len hc
  have va := (va_iff w).1 (chB_ok hc).1
  have v2 := va.n2
  have hm := chB_in hc (getD_mem hi)
  have ni : Nd w (l.getD i sn0).n := ⟨hm.1.1, hm.1.2⟩
  have nj : Nd w (j : Int) := ⟨by omega, by omega⟩
  have a := hs_ans w ok (j : Int) (l.getD i sn0).n
  rw [hrD_t (chB_ok hc).1 nj ni] at a
  have b := le_ans w ok (l.getD i sn0).n (j : Int)
  rw [lvD_t (chB_ok hc).1 ni nj] at b
  have hlen : ((reO w l [] l.length).1.getD i []).length ≤ 32 := by
    rw [reO_nil hi]
    have := inn_len (fun j : Nat => rcvB w l (l.getD i sn0) (j : Int)) [] w.r.length
    omega
  have c := ha_ans ((reO w l [] l.length).1.getD i []) (j : Int) (by omega)
  rw [hs_nil hi hj, lone_rcv hL] at c
  cases h1 : hr w (j : Int) (l.getD i sn0).n with
  | false =>
    rw [h1] at a c
    exact zsee_ok tab_ok mixed fun_ok (orK_ok (calC_ok a) (orK_ok (calC_ok b) (calC_ok c))) (xlj0 _ w l (reO w l [] l.length).1 i j (lv w (l.getD i sn0).n j) (l.getD i sn0) ((reO w l [] l.length).1.getD i [])) (.cons (decide_eq_true (by omega)) (.cons (idxOk_lt (by omega)) (.cons (snR_get (by omega)) (.cons (orK_left (calC_at _ rfl rfl)) (.cons (idxOk_lt (by omega)) (.cons (snR_get (by omega)) (.cons (orK_right (calC_oth (by kernel_rfl)) (orK_left (calC_at _ rfl rfl))) (.cons (idxOk_lt (by omega)) (.cons (ssR_at (get_in _ (by omega))) (.cons (orK_right (calC_oth (by kernel_rfl)) (orK_right (calC_oth (by kernel_rfl)) (calC_at _ rfl rfl))) (.cons (wrK_at (by omega)) .nil)))))))))))
  | true =>
    rw [h1] at a c
    by_cases h2 : lv w (l.getD i sn0).n (j : Int) ≥ (l.getD i sn0).d
    · rw [decide_eq_true h2] at c
      exact zsee_ok tab_ok mixed fun_ok (orK_ok (calC_ok a) (orK_ok (calC_ok b) (calC_ok c))) (xlj2 _ w l (reO w l [] l.length).1 i j (lv w (l.getD i sn0).n j) (l.getD i sn0) ((reO w l [] l.length).1.getD i [])) (.cons (decide_eq_true (by omega)) (.cons (idxOk_lt (by omega)) (.cons (snR_get (by omega)) (.cons (orK_left (calC_at _ rfl rfl)) (.cons (idxOk_lt (by omega)) (.cons (snR_get (by omega)) (.cons (orK_right (calC_oth (by kernel_rfl)) (orK_left (calC_at _ rfl rfl))) (.cons (idxOk_lt (by omega)) (.cons (ssR_at (get_in _ (by omega))) (.cons (orK_right (calC_oth (by kernel_rfl)) (orK_right (calC_oth (by kernel_rfl)) (calC_at _ rfl rfl))) (.cons (idxOk_lt (by omega)) (.cons (snR_get (by omega)) (.cons (decide_eq_true (by omega)) (.cons (wrK_at (by omega)) .nil))))))))))))))
    · rw [decide_eq_false h2] at c
      exact zsee_ok tab_ok mixed fun_ok (orK_ok (calC_ok a) (orK_ok (calC_ok b) (calC_ok c))) (xlj1 _ w l (reO w l [] l.length).1 i j (lv w (l.getD i sn0).n j) (l.getD i sn0) ((reO w l [] l.length).1.getD i [])) (.cons (decide_eq_true (by omega)) (.cons (idxOk_lt (by omega)) (.cons (snR_get (by omega)) (.cons (orK_left (calC_at _ rfl rfl)) (.cons (idxOk_lt (by omega)) (.cons (snR_get (by omega)) (.cons (orK_right (calC_oth (by kernel_rfl)) (orK_left (calC_at _ rfl rfl))) (.cons (idxOk_lt (by omega)) (.cons (ssR_at (get_in _ (by omega))) (.cons (orK_right (calC_oth (by kernel_rfl)) (orK_right (calC_oth (by kernel_rfl)) (calC_at _ rfl rfl))) (.cons (idxOk_lt (by omega)) (.cons (snR_get (by omega)) (.cons (decide_eq_false (by omega)) (.cons (wrK_at (by omega)) .nil))))))))))))))
theorem xlp_go (i : Nat) (hi : i < l.length) : Goes Try.prog tab kLo1 loL1 (loS1 l (reO w l [] l.length).1 i) (hW w) .normal (loS1 l (reO w l [] l.length).1 (i + 1)) (hW w) := by
  have e := snR_length l
  have e1 := rsR_length w.r
  have n := chB_len hc
  have va := (va_iff w).1 (chB_ok hc).1
  have v1 := va.n1
  have v2 := va.n2
  have g := Goes.loop (P := Try.prog) (T := tab) (ks := kLo1) l.length (fun k => loS2 l (reO w l [] l.length).1 i (lonV l i k) k) (fun _ => hW w) (fun k hk => xlo_go w ok l hc _ i hi k hk) (zsee_ok tab_ok mixed fun_ok noC_ok (xloO w l (reO w l [] l.length).1 i l.length (lonV l i l.length)) (.cons (decide_eq_false (by omega)) .nil)) (by intro h; cases h)
  have nz : Nd w (0 : Int) := ⟨by omega, by omega⟩
  have nb := nb_ans w ok 0
  have hA : okA w 0 0 = true := okA_t (chB_ok hc).1 nz nz
  have hE : asE w 0 0 = 0 := asE_t (chB_ok hc).1 nz nz
  unfold nbD nbV at nb
  rw [hA, hE] at nb
  have hl := nbL_lt w w.r.length (by omega)
  have en := i1_length (nbL w 0 w.r.length)
  cases hL : lonV l i l.length with
  | false =>
    rw [hL] at g
    exact zsee_ok tab_ok mixed fun_ok noC_ok (xlp0 noC w l (reO w l [] l.length).1 i []) (.cons (decide_eq_true (by omega)) (.cons g (.cons (wrK_at (by omega)) .nil)))
  | true =>
    rw [hL] at g
    have g2 := Goes.loop (P := Try.prog) (T := tab) (ks := kLo1) w.r.length (fun j => loS3 l (reO w l [] l.length).1 i j) (fun _ => hW w) (fun j hj => xlj_go w ok l hc i hi hL j hj) (zsee_ok tab_ok mixed fun_ok noC_ok (xljO w l (reO w l [] l.length).1 i w.r.length) (.cons (decide_eq_false (by omega)) .nil)) (by intro h; cases h)
    exact zsee_ok tab_ok mixed fun_ok (calC_ok nb) (xlp1 _ w l (reO w l [] l.length).1 i (nbL w 0 w.r.length)) (.cons (decide_eq_true (by omega)) (.cons g (.cons (calC_at _ rfl rfl) (.cons (decide_eq_false (by omega)) (.cons g2 (.cons (wrK_at (by omega)) .nil))))))
theorem xlp_loop : Goes Try.prog tab kLo1 (.loop loL1) (loS1 l (reO w l [] l.length).1 0) (hW w) (.exit 0) (mkT 149 [(5, .bool true)]) (hW w) := by
  have e := snR_length l
  exact Goes.loop (P := Try.prog) (T := tab) (ks := kLo1) l.length (fun i => loS1 l (reO w l [] l.length).1 i) (fun _ => hW w) (xlp_go w ok l hc) (zsee_ok tab_ok mixed fun_ok noC_ok (xlpO noC w l (reO w l [] l.length).1 l.length []) (.cons (decide_eq_false (by omega)) .nil)) (by intro h; cases h)
end
theorem lone_all (w : Wd) (ok : OkW w) (l : List Sn) (hl : okN l) : Ans Try.prog fLo1 [wdD w, snL l] (.bool true) ⟨0, [], []⟩ := by
  have av := av_ans
  have gr := gr_ans w ok l
  have re := re_nil w ok l hl
  have e := snR_length l
  unfold reD reV at re
  cases hg : grB w l with
  | true =>
    rw [hg] at gr
    exact zflat_ok tab_ok mixed fun_ok (orK_ok (calC_ok av) (orK_ok (calC_ok gr) (calC_ok re))) (xlq0 _ w l []) (.cons (orK_left (calC_at _ rfl rfl)) (.cons (orK_right (calC_oth (by kernel_rfl)) (orK_left (calC_at _ rfl rfl))) .nil))
  | false =>
    rw [hg] at gr
    cases hc : chB w l with
    | false =>
      rw [hc, chM_f hc] at re
      exact zflat_ok tab_ok mixed fun_ok (orK_ok (calC_ok av) (orK_ok (calC_ok gr) (calC_ok re))) (xlq1 _ w l []) (.cons (orK_left (calC_at _ rfl rfl)) (.cons (orK_right (calC_oth (by kernel_rfl)) (orK_left (calC_at _ rfl rfl))) (.cons (orK_right (calC_oth (by kernel_rfl)) (orK_right (calC_oth (by kernel_rfl)) (calC_at _ rfl rfl))) .nil)))
    | true =>
      rw [hc, chM_t hc] at re
      have hrl : (reO w l [] l.length).1.length = l.length := out_len _ _ _ _
      have hes := ssR_length (reO w l [] l.length).1
      exact zflat_ok tab_ok mixed fun_ok (orK_ok (calC_ok av) (orK_ok (calC_ok gr) (calC_ok re))) (xlq2 _ w l (reO w l [] l.length).1) (.cons (orK_left (calC_at _ rfl rfl)) (.cons (orK_right (calC_oth (by kernel_rfl)) (orK_left (calC_at _ rfl rfl))) (.cons (orK_right (calC_oth (by kernel_rfl)) (orK_right (calC_oth (by kernel_rfl)) (calC_at _ rfl rfl))) (.cons (by rw [hes, hrl, e]; simp) (.cons (xlp_loop w ok l hc) .nil)))))
end
end Go.Proofs.Ytgjgihlfkpbdgaa
