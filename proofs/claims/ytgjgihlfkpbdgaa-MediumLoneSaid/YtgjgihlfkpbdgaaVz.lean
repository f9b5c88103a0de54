/- The law MediumOnce over data. -/
import Derived.Test.YtgjgihlfkpbdgaaVy
namespace Go.Proofs.Ytgjgihlfkpbdgaa
open Go.RowKit

noncomputable section
abbrev fO : FuncId := 6
abbrev kO : List (Nat × Nat) := ksF ftab fO
abbrev oL : Code := loopAt (bodyOf ftab fO) 0
abbrev oK : Code := loopAt oL 0
abbrev oM : Code := loopAt oK 0
abbrev oS (l : List Sn) (rs : List (List Int)) (i : Nat) : Slots := mkT 169 [(1, snL l), (3, .ptr 0 0), (7, .bool true), (8, .list 1 (ssR rs)), (10, iN i)]
abbrev oS2 (l : List Sn) (rs : List (List Int)) (i k : Nat) : Slots := mkT 169 [(1, snL l), (3, .ptr 0 0), (7, .bool true), (8, .list 1 (ssR rs)), (10, iN i), (11, iN k)]
abbrev oS3 (l : List Sn) (rs : List (List Int)) (i k : Nat) (j : Int) (m : Nat) : Slots := mkT 169 [(1, snL l), (3, .ptr 0 0), (7, .bool true), (8, .list 1 (ssR rs)), (10, iN i), (11, iN k), (12, iI j), (17, iN m)]
set_option maxRecDepth 1000000 in
theorem no0 (w : Wd) (l : List Sn) (rs : List (List Int)) (i k m : Nat) (j : Int) (s t : Sn) (rm : List Int) : zsee Try.prog tab ftab cOv kO [1, 3, 7, 8, 10, 11, 12, 17] oM (oS3 l rs i k j m) (hW w) [(134, .b true), (139, .b false), (136, .w (iN (m + 1)))] = some (Ex.normal, (oS3 l rs i k j (m + 1)), (hW w), ((decide ((↑m : Int) < (↑(List.length (snR l)) : Int))) = true) :: (((↑m : Int) != (↑i : Int)) = false) :: ((ar IntKind.i64 ((↑m : Int) + 1)) = (iN (m + 1))) :: []) := by kernel_rfl
set_option maxRecDepth 1000000 in
theorem no1 (w : Wd) (l : List Sn) (rs : List (List Int)) (i k m : Nat) (j : Int) (s t : Sn) (rm : List Int) : zsee Try.prog tab ftab cOv kO [1, 3, 7, 8, 10, 11, 12, 17] oM (oS3 l rs i k j m) (hW w) [(134, .b true), (139, .b true), (143, .n (.fptr (snC s))), (147, .n (.fptr (snC t))), (149, .b false), (136, .w (iN (m + 1)))] = some (Ex.normal, (oS3 l rs i k j (m + 1)), (hW w), ((decide ((↑m : Int) < (↑(List.length (snR l)) : Int))) = true) :: (((↑m : Int) != (↑i : Int)) = true) :: ((idxOk (↑i : Int) (List.length (snR l))) = true) :: ((nth (snR l) (Int.toNat (↑i : Int))) = (Option.some (snC s))) :: ((idxOk (↑m : Int) (List.length (snR l))) = true) :: ((nth (snR l) (Int.toNat (↑m : Int))) = (Option.some (snC t))) :: ((ovB s t) = false) :: ((ar IntKind.i64 ((↑m : Int) + 1)) = (iN (m + 1))) :: []) := by kernel_rfl
set_option maxRecDepth 1000000 in
theorem no2 (w : Wd) (l : List Sn) (rs : List (List Int)) (i k m : Nat) (j : Int) (s t : Sn) (rm : List Int) : zsee Try.prog tab ftab (orK cOv (calC fHa [.list 1 (i1 rm), iI j] (.bool false))) kO [1, 3, 7, 8, 10, 11, 12, 17] oM (oS3 l rs i k j m) (hW w) [(134, .b true), (139, .b true), (143, .n (.fptr (snC s))), (147, .n (.fptr (snC t))), (149, .b true), (154, .n (.fptr (snC t))), (158, .b false), (162, .n (.fptr [.list 1 (i1 rm)])), (165, .q (.bool false)), (136, .w (iN (m + 1)))] = some (Ex.normal, (oS3 l rs i k j (m + 1)), (hW w), ((decide ((↑m : Int) < (↑(List.length (snR l)) : Int))) = true) :: (((↑m : Int) != (↑i : Int)) = true) :: ((idxOk (↑i : Int) (List.length (snR l))) = true) :: ((nth (snR l) (Int.toNat (↑i : Int))) = (Option.some (snC s))) :: ((idxOk (↑m : Int) (List.length (snR l))) = true) :: ((nth (snR l) (Int.toNat (↑m : Int))) = (Option.some (snC t))) :: ((ovB s t) = true) :: ((idxOk (↑m : Int) (List.length (snR l))) = true) :: ((nth (snR l) (Int.toNat (↑m : Int))) = (Option.some (snC t))) :: ((t.n == j) = false) :: ((idxOk (↑m : Int) (List.length (ssR rs))) = true) :: ((nth (ssR rs) (Int.toNat (↑m : Int))) = (Option.some [(DV.list 1 (i1 rm))])) :: ((orK cOv (calC fHa [DV.list 1 (i1 rm), iI j] (DV.bool false)) 31 [(DV.list 1 (i1 rm)), (iI j)] (hW w)) = (Option.some ((DV.bool false), (hW w), Option.none))) :: ((ar IntKind.i64 ((↑m : Int) + 1)) = (iN (m + 1))) :: []) := by kernel_rfl
set_option maxRecDepth 1000000 in
theorem noO (w : Wd) (l : List Sn) (rs : List (List Int)) (i k m : Nat) (j : Int) : zsee Try.prog tab ftab noC kO [1, 3, 7, 8, 10, 11] oM (oS3 l rs i k j m) (hW w) [(134, .b false)] = some ((Ex.exit 4), (oS2 l rs i k), (hW w), ((decide ((↑m : Int) < (↑(List.length (snR l)) : Int))) = false) :: []) := by kernel_rfl
set_option maxRecDepth 1000000 in
theorem np0 (C : ConF) (w : Wd) (l : List Sn) (rs : List (List Int)) (i k : Nat) (j v j0 : Int) (s : Sn) (r : List Int) : zsee Try.prog tab ftab C kO [1, 3, 7, 8, 10, 11] oK (oS2 l rs i k) (hW w) [(61, .n (.fptr [.list 1 (i1 r)])), (64, .b true), (69, .n (.fptr [.list 1 (i1 r)])), (72, .n (.fptr [iI j])), (79, .n (.fptr (snC s))), (82, .q (.tuple [.bool true, iI 0])), (89, .n (.fptr (snC s))), (93, .q (.tuple [iI v, iI 0])), (110, .n (.fptr (snC s))), (113, .b false), (117, .b false), (0, .l [1, 3, 7, 8, 10, 11, 12, 17] (.exit 4) (oS2 l rs i k) (hW w)), (66, .w (iN (k + 1)))] = some (Ex.normal, (oS2 l rs i (k + 1)), (hW w), ((idxOk (↑i : Int) (List.length (ssR rs))) = true) :: ((nth (ssR rs) (Int.toNat (↑i : Int))) = (Option.some [(DV.list 1 (i1 r))])) :: ((decide ((↑k : Int) < (↑(List.length (i1 r)) : Int))) = true) :: ((idxOk (↑i : Int) (List.length (ssR rs))) = true) :: ((nth (ssR rs) (Int.toNat (↑i : Int))) = (Option.some [(DV.list 1 (i1 r))])) :: ((idxOk (↑k : Int) (List.length (i1 r))) = true) :: ((nth (i1 r) (Int.toNat (↑k : Int))) = (Option.some [(iI j)])) :: ((idxOk (↑i : Int) (List.length (snR l))) = true) :: ((nth (snR l) (Int.toNat (↑i : Int))) = (Option.some (snC s))) :: ((C 29 [(DV.agg (List.take 2 (List.drop 0 (wdC w)))), (iI j), (DV.int (IntKind.i64) (s.n))] (hW w)) = (Option.some ((DV.tuple [DV.bool true, iI 0]), (hW w), Option.none))) :: ((idxOk (↑i : Int) (List.length (snR l))) = true) :: ((nth (snR l) (Int.toNat (↑i : Int))) = (Option.some (snC s))) :: ((C 30 [(DV.agg (List.take 2 (List.drop 0 (wdC w)))), (DV.int (IntKind.i64) (s.n)), (iI j)] (hW w)) = (Option.some ((DV.tuple [iI v, iI 0]), (hW w), Option.none))) :: ((idxOk (↑i : Int) (List.length (snR l))) = true) :: ((nth (snR l) (Int.toNat (↑i : Int))) = (Option.some (snC s))) :: ((decide (v < s.d)) = false) :: ((decide ((↑k : Int) > 0)) = false) :: (Goes (Try.prog) tab (kO) (Go.Code.loop (oM)) (oS3 l rs i k j 0) (hW w) (Ex.exit 4) (oS2 l rs i k) (hW w)) :: ((ar IntKind.i64 ((↑k : Int) + 1)) = (iN (k + 1))) :: []) := by kernel_rfl
set_option maxRecDepth 1000000 in
theorem np1 (C : ConF) (w : Wd) (l : List Sn) (rs : List (List Int)) (i k : Nat) (j v j0 : Int) (s : Sn) (r : List Int) : zsee Try.prog tab ftab C kO [1, 3, 7, 8, 10, 11] oK (oS2 l rs i k) (hW w) [(61, .n (.fptr [.list 1 (i1 r)])), (64, .b true), (69, .n (.fptr [.list 1 (i1 r)])), (72, .n (.fptr [iI j])), (79, .n (.fptr (snC s))), (82, .q (.tuple [.bool true, iI 0])), (89, .n (.fptr (snC s))), (93, .q (.tuple [iI v, iI 0])), (110, .n (.fptr (snC s))), (113, .b false), (117, .b true), (121, .n (.fptr [.list 1 (i1 r)])), (124, .w (iN (k - 1))), (125, .n (.fptr [iI j0])), (128, .b false), (0, .l [1, 3, 7, 8, 10, 11, 12, 17] (.exit 4) (oS2 l rs i k) (hW w)), (66, .w (iN (k + 1)))] = some (Ex.normal, (oS2 l rs i (k + 1)), (hW w), ((idxOk (↑i : Int) (List.length (ssR rs))) = true) :: ((nth (ssR rs) (Int.toNat (↑i : Int))) = (Option.some [(DV.list 1 (i1 r))])) :: ((decide ((↑k : Int) < (↑(List.length (i1 r)) : Int))) = true) :: ((idxOk (↑i : Int) (List.length (ssR rs))) = true) :: ((nth (ssR rs) (Int.toNat (↑i : Int))) = (Option.some [(DV.list 1 (i1 r))])) :: ((idxOk (↑k : Int) (List.length (i1 r))) = true) :: ((nth (i1 r) (Int.toNat (↑k : Int))) = (Option.some [(iI j)])) :: ((idxOk (↑i : Int) (List.length (snR l))) = true) :: ((nth (snR l) (Int.toNat (↑i : Int))) = (Option.some (snC s))) :: ((C 29 [(DV.agg (List.take 2 (List.drop 0 (wdC w)))), (iI j), (DV.int (IntKind.i64) (s.n))] (hW w)) = (Option.some ((DV.tuple [DV.bool true, iI 0]), (hW w), Option.none))) :: ((idxOk (↑i : Int) (List.length (snR l))) = true) :: ((nth (snR l) (Int.toNat (↑i : Int))) = (Option.some (snC s))) :: ((C 30 [(DV.agg (List.take 2 (List.drop 0 (wdC w)))), (DV.int (IntKind.i64) (s.n)), (iI j)] (hW w)) = (Option.some ((DV.tuple [iI v, iI 0]), (hW w), Option.none))) :: ((idxOk (↑i : Int) (List.length (snR l))) = true) :: ((nth (snR l) (Int.toNat (↑i : Int))) = (Option.some (snC s))) :: ((decide (v < s.d)) = false) :: ((decide ((↑k : Int) > 0)) = true) :: ((idxOk (↑i : Int) (List.length (ssR rs))) = true) :: ((nth (ssR rs) (Int.toNat (↑i : Int))) = (Option.some [(DV.list 1 (i1 r))])) :: ((ar IntKind.i64 ((↑k : Int) - 1)) = (iN (k - 1))) :: ((idxOk (↑(k - 1) : Int) (List.length (i1 r))) = true) :: ((nth (i1 r) (Int.toNat (↑(k - 1) : Int))) = (Option.some [(iI j0)])) :: ((decide (j0 ≥ j)) = false) :: (Goes (Try.prog) tab (kO) (Go.Code.loop (oM)) (oS3 l rs i k j 0) (hW w) (Ex.exit 4) (oS2 l rs i k) (hW w)) :: ((ar IntKind.i64 ((↑k : Int) + 1)) = (iN (k + 1))) :: []) := by kernel_rfl
set_option maxRecDepth 1000000 in
theorem npO (w : Wd) (l : List Sn) (rs : List (List Int)) (i k : Nat) (r : List Int) : zsee Try.prog tab ftab noC kO [1, 3, 7, 8, 10] oK (oS2 l rs i k) (hW w) [(61, .n (.fptr [.list 1 (i1 r)])), (64, .b false)] = some ((Ex.exit 2), (oS l rs i), (hW w), ((idxOk (↑i : Int) (List.length (ssR rs))) = true) :: ((nth (ssR rs) (Int.toNat (↑i : Int))) = (Option.some [(DV.list 1 (i1 r))])) :: ((decide ((↑k : Int) < (↑(List.length (i1 r)) : Int))) = false) :: []) := by kernel_rfl
set_option maxRecDepth 1000000 in
theorem nq0 (w : Wd) (l : List Sn) (rs : List (List Int)) (i : Nat) : zsee Try.prog tab ftab noC kO [1, 3, 7, 8, 10] oL (oS l rs i) (hW w) [(55, .b true), (0, .l [1, 3, 7, 8, 10, 11] (.exit 2) (oS l rs i) (hW w)), (57, .w (iN (i + 1)))] = some (Ex.normal, (oS l rs (i + 1)), (hW w), ((decide ((↑i : Int) < (↑(List.length (snR l)) : Int))) = true) :: (Goes (Try.prog) tab (kO) (Go.Code.loop (oK)) (oS2 l rs i 0) (hW w) (Ex.exit 2) (oS l rs i) (hW w)) :: ((ar IntKind.i64 ((↑i : Int) + 1)) = (iN (i + 1))) :: []) := by kernel_rfl
set_option maxRecDepth 1000000 in
theorem nqO (w : Wd) (l : List Sn) (rs : List (List Int)) (i : Nat) : zsee Try.prog tab ftab noC kO [7] oL (oS l rs i) (hW w) [(55, .b false)] = some ((Ex.exit 0), (mkT 169 [(7, (DV.bool true))]), (hW w), ((decide ((↑i : Int) < (↑(List.length (snR l)) : Int))) = false) :: []) := by kernel_rfl
set_option maxRecDepth 1000000 in
theorem nr0 (C : ConF) (w : Wd) (l : List Sn) (ds : List Bool) (rs : List (List Int)) (e : Int) : zflat (zans Try.prog tab ftab C fO [wdD w, snL l, .list 1 (b1 ds)] [(18, .q (.bool true)), (21, .q (.bool true))]) = some ((DV.bool true), ((C 17 [] (Hp.mk 1 [(Ob.mk 0 0 25 (wdC w))] [])) = (Option.some ((DV.bool true), (Hp.mk 1 [(Ob.mk 0 0 25 (wdC w))] []), Option.none))) :: ((C 20 [(DV.agg (List.take 2 (List.drop 0 (wdC w)))), (snL l)] (Hp.mk 1 [(Ob.mk 0 0 25 (wdC w))] [])) = (Option.some ((DV.bool true), (Hp.mk 1 [(Ob.mk 0 0 25 (wdC w))] []), Option.none))) :: []) := by kernel_rfl
set_option maxRecDepth 1000000 in
theorem nr1 (C : ConF) (w : Wd) (l : List Sn) (ds : List Bool) (rs : List (List Int)) (e : Int) : zflat (zans Try.prog tab ftab C fO [wdD w, snL l, .list 1 (b1 ds)] [(18, .q (.bool true)), (21, .q (.bool false)), (25, .b true)]) = some ((DV.bool true), ((C 17 [] (Hp.mk 1 [(Ob.mk 0 0 25 (wdC w))] [])) = (Option.some ((DV.bool true), (Hp.mk 1 [(Ob.mk 0 0 25 (wdC w))] []), Option.none))) :: ((C 20 [(DV.agg (List.take 2 (List.drop 0 (wdC w)))), (snL l)] (Hp.mk 1 [(Ob.mk 0 0 25 (wdC w))] [])) = (Option.some ((DV.bool false), (Hp.mk 1 [(Ob.mk 0 0 25 (wdC w))] []), Option.none))) :: ((decide ((↑(List.length (b1 ds)) : Int) > 1000)) = true) :: []) := by kernel_rfl
set_option maxRecDepth 1000000 in
theorem nr2 (C : ConF) (w : Wd) (l : List Sn) (ds : List Bool) (rs : List (List Int)) (e : Int) : zflat (zans Try.prog tab ftab C fO [wdD w, snL l, .list 1 (b1 ds)] [(18, .q (.bool true)), (21, .q (.bool false)), (25, .b false), (36, .q (.tuple [.list 1 (ssR []), iI 8]))]) = some ((DV.bool ((↑(List.length (ssR [])) : Int) == 0)), ((C 17 [] (Hp.mk 1 [(Ob.mk 0 0 25 (wdC w))] [])) = (Option.some ((DV.bool true), (Hp.mk 1 [(Ob.mk 0 0 25 (wdC w))] []), Option.none))) :: ((C 20 [(DV.agg (List.take 2 (List.drop 0 (wdC w)))), (snL l)] (Hp.mk 1 [(Ob.mk 0 0 25 (wdC w))] [])) = (Option.some ((DV.bool false), (Hp.mk 1 [(Ob.mk 0 0 25 (wdC w))] []), Option.none))) :: ((decide ((↑(List.length (b1 ds)) : Int) > 1000)) = false) :: ((C 16 [(DV.agg (List.take 2 (List.drop 0 (wdC w)))), (snL l), (DV.list 1 (b1 ds))] (Hp.mk 1 [(Ob.mk 0 0 25 (wdC w))] [])) = (Option.some ((DV.tuple [DV.list 1 (ssR []), iI 8]), (Hp.mk 1 [(Ob.mk 0 0 25 (wdC w))] []), Option.none))) :: []) := by kernel_rfl
set_option maxRecDepth 1000000 in
theorem nr3 (C : ConF) (w : Wd) (l : List Sn) (ds : List Bool) (rs : List (List Int)) (e : Int) : zflat (zans Try.prog tab ftab C fO [wdD w, snL l, .list 1 (b1 ds)] [(18, .q (.bool true)), (21, .q (.bool false)), (25, .b false), (36, .q (.tuple [.list 1 (ssR rs), iI 0])), (51, .b false), (0, .l [1, 3, 7, 8, 10] (.exit 0) (mkT 169 [(7, .bool true)]) (hW w))]) = some ((DV.bool true), ((C 17 [] (hW w)) = (Option.some ((DV.bool true), (hW w), Option.none))) :: ((C 20 [(DV.agg (List.take 2 (List.drop 0 (wdC w)))), (snL l)] (hW w)) = (Option.some ((DV.bool false), (hW w), Option.none))) :: ((decide ((↑(List.length (b1 ds)) : Int) > 1000)) = false) :: ((C 16 [(DV.agg (List.take 2 (List.drop 0 (wdC w)))), (snL l), (DV.list 1 (b1 ds))] (hW w)) = (Option.some ((DV.tuple [DV.list 1 (ssR rs), iI 0]), (hW w), Option.none))) :: (((↑(List.length (ssR rs)) : Int) != (↑(List.length (snR l)) : Int)) = false) :: (Goes (Try.prog) tab (kO) (Go.Code.loop (oL)) (oS l rs 0) (hW w) (Ex.exit 0) (mkT 169 [(7, (DV.bool true))]) (hW w)) :: []) := by kernel_rfl
/-! ### Who receives -/
theorem inn_mem (f : Nat → Bool) (dr : List Bool) : ∀ n x, x ∈ (inn f dr n).1 → ∃ j : Nat, j < n ∧ x = (j : Int) ∧ f j = true
  | 0, x, h => by cases h
  | n + 1, x, h => by
    have ih := inn_mem f dr n
    have h : x ∈ (stp (f n) n (inn f dr n)).1 := h
    generalize inn f dr n = p at *
    have up : x ∈ p.1 → ∃ j : Nat, j < n + 1 ∧ x = (j : Int) ∧ f j = true := fun q => by
      obtain ⟨j, a, b⟩ := ih x q
      exact ⟨j, by omega, b⟩
    unfold stp at h
    cases hf : f n with
    | false => rw [hf] at h; exact up h
    | true =>
      have one : x ∈ p.1 ++ [(n : Int)] → ∃ j : Nat, j < n + 1 ∧ x = (j : Int) ∧ f j = true := fun q => by
        rcases List.mem_append.1 q with q | q
        · exact up q
        · exact ⟨n, by omega, List.mem_singleton.1 q, hf⟩
      rw [hf] at h
      dsimp only at h
      split at h
      · exact one h
      · exact up h
      · exact one h
theorem inn_inc (f : Nat → Bool) (dr : List Bool) : ∀ n, (inn f dr n).1.Pairwise (· < ·)
  | 0 => List.Pairwise.nil
  | n + 1 => by
    have ih := inn_inc f dr n
    have hm := inn_mem f dr n
    show (stp (f n) n (inn f dr n)).1.Pairwise (· < ·)
    generalize inn f dr n = p at *
    have one : (p.1 ++ [(n : Int)]).Pairwise (· < ·) := List.pairwise_append.2 ⟨ih, List.pairwise_singleton _ _, fun a ha b hb => by
      obtain ⟨j, h1, rfl, _⟩ := hm a ha
      rw [List.mem_singleton.1 hb]
      omega⟩
    unfold stp
    split
    · exact ih
    · split
      · exact one
      · exact ih
      · exact one
theorem out_get (F : Nat → Nat → Bool) (m : Nat) (dr : List Bool) : ∀ i k, k < i → ∃ d, (out F m dr i).1.getD k [] = (inn (F k) d m).1
  | 0, k, h => by omega
  | i + 1, k, h => by
    have hl := out_len F m dr i
    show ∃ d, ((out F m dr i).1 ++ [(inn (F i) (out F m dr i).2 m).1]).getD k [] = _
    by_cases q : k < i
    · obtain ⟨d, e⟩ := out_get F m dr i k q
      refine ⟨d, ?_⟩
      rw [← e, List.getD_eq_getElem?_getD, List.getD_eq_getElem?_getD, List.getElem?_append_left (by omega)]
    · obtain rfl : k = i := by omega
      refine ⟨(out F m dr k).2, ?_⟩
      rw [List.getD_eq_getElem?_getD, List.getElem?_append_right (by omega), hl, Nat.sub_self]
      rfl
structure Rcv (w : Wd) (l : List Sn) (s : Sn) (j : Int) : Prop where
  hr : hr w j s.n = true
  lv : s.d ≤ lv w s.n j
  no : ∀ k, k ∈ l → kbB w s j k = false
theorem rcv_iff (w : Wd) (l : List Sn) (s : Sn) (j : Int) : rcvB w l s j = true ↔ Rcv w l s j := by
  unfold rcvB
  constructor
  · intro h
    split at h
    · cases h
    · rename_i h1
      split at h
      · cases h
      · rename_i h2
        refine ⟨h1, by have := of_decide_eq_false h2; omega, fun k hk => ?_⟩
        cases q : kbB w s j k with
        | false => rfl
        | true =>
          have := (ifV_iff (kbB w s j) l).2 ⟨k, hk, q⟩
          rw [this] at h
          cases h
  · intro h
    rw [h.hr]
    dsimp only
    rw [decide_eq_false (show ¬ Go.Proofs.Ytgjgihlfkpbdgaa.lv w s.n j < s.d by have := h.lv; omega)]
    dsimp only
    cases q : decide (ifV (kbB w s j) l ≥ 0) with
    | false => rfl
    | true =>
      obtain ⟨k, hk, hb⟩ := (ifV_iff _ _).1 q
      rw [h.no k hk] at hb
      cases hb
theorem rcv_once {w : Wd} {l : List Sn} (hc : chB w l = true) {i m : Nat} (hi : i < l.length) (hm : m < l.length) (hne : i ≠ m) {j : Int} (h : Rcv w l (l.getD i sn0) j) (ho : ovB (l.getD i sn0) (l.getD m sn0) = true) : (l.getD m sn0).n ≠ j ∧ ¬ Rcv w l (l.getD m sn0) j := by
  have hn : (l.getD m sn0).n ≠ (l.getD i sn0).n := fun e => by
    have := same_apart hc hi hm hne e.symm
    rw [ho] at this
    cases this
  have k1 : ¬ kbB w (l.getD i sn0) j (l.getD m sn0) = true := by rw [h.no _ (getD_mem hm)]; intro q; cases q
  rw [kbB_iff] at k1
  have n1 : (l.getD m sn0).n ≠ j := fun e => k1 ⟨hn, ho, .inl e⟩
  refine ⟨n1, fun g => ?_⟩
  have k2 : ¬ kbB w (l.getD m sn0) j (l.getD i sn0) = true := by rw [g.no _ (getD_mem hi)]; intro q; cases q
  rw [kbB_iff] at k2
  have same : ∀ s : Sn, hr w j s.n = true → (rI w s.n).c = (rI w j).c := fun s q => by
    unfold hr at q
    split at q
    · split at q
      · rename_i q2
        exact beq_iff_eq.1 q2
      · cases q
    · cases q
  have c1 : ¬ (lv w (l.getD i sn0).n j < lv w (l.getD m sn0).n j + 100) := fun q => k1 ⟨hn, ho, .inr ⟨same _ g.hr, q⟩⟩
  have c2 : ¬ (lv w (l.getD m sn0).n j < lv w (l.getD i sn0).n j + 100) := fun q => k2 ⟨hn.symm, by rw [ovB_sym]; exact ho, .inr ⟨same _ h.hr, q⟩⟩
  omega
section
variable (w : Wd) (ok : OkW w) (l : List Sn) (hc : chB w l = true) (rs : List (List Int)) (hrs : rs.length = l.length)
  (hr1 : ∀ i, i < l.length → ∀ x, x ∈ rs.getD i [] → ∃ j : Nat, j < w.r.length ∧ x = (j : Int) ∧ rcvB w l (l.getD i sn0) x = true) (hr2 : ∀ i, i < l.length → (rs.getD i []).Pairwise (· < ·)) (hr3 : ∀ i, i < l.length → (rs.getD i []).length ≤ 1000)
include ok hc hrs hr1 hr2 hr3
theorem no_go (i : Nat) (hi : i < l.length) (k : Nat) (j : Int) (hR : Rcv w l (l.getD i sn0) j) (m : Nat) (hm : m < l.length) : Goes Try.prog tab kO oM (oS3 l rs i k j m) (hW w) .normal (oS3 l rs i k j (m + 1)) (hW w) := by
  have _ := ok
  have _ := hr2
  have e := snR_length l
  have es := ssR_length rs
  have n := chB_len hc
  by_cases h1 : m = i
  · exact zsee_ok tab_ok mixed fun_ok cOv_ok (no0 w l rs i k m j (l.getD i sn0) (l.getD m sn0) (rs.getD m [])) (.cons (decide_eq_true (by omega)) (.cons (by rw [h1]; simp) (.cons (wrK_at (by omega)) .nil)))
  · have hne : ((m : Int) != (i : Int)) = true := bne_iff_ne.2 (fun q => h1 (by omega))
    cases h2 : ovB (l.getD i sn0) (l.getD m sn0) with
    | false => exact zsee_ok tab_ok mixed fun_ok cOv_ok (no1 w l rs i k m j (l.getD i sn0) (l.getD m sn0) (rs.getD m [])) (.cons (decide_eq_true (by omega)) (.cons hne (.cons (idxOk_lt (by omega)) (.cons (snR_get (by omega)) (.cons (idxOk_lt (by omega)) (.cons (snR_get (by omega)) (.cons h2 (.cons (wrK_at (by omega)) .nil))))))))
    | true =>
      obtain ⟨n1, n2⟩ := rcv_once hc hi hm (fun q => h1 q.symm) hR h2
      have a := ha_ans (rs.getD m []) j (by have := hr3 m hm; omega)
      have hf : hsB (rs.getD m []) j = false := by
        cases q : hsB (rs.getD m []) j with
        | false => rfl
        | true =>
          obtain ⟨_, _, _, q2⟩ := hr1 m hm j ((hsB_iff _ _).1 q)
          exact absurd ((rcv_iff _ _ _ _).1 q2) n2
      rw [hf] at a
      exact zsee_ok tab_ok mixed fun_ok (orK_ok cOv_ok (calC_ok a)) (no2 w l rs i k m j (l.getD i sn0) (l.getD m sn0) (rs.getD m [])) (.cons (decide_eq_true (by omega)) (.cons hne (.cons (idxOk_lt (by omega)) (.cons (snR_get (by omega)) (.cons (idxOk_lt (by omega)) (.cons (snR_get (by omega)) (.cons h2 (.cons (idxOk_lt (by omega)) (.cons (snR_get (by omega)) (.cons (beq_eq_false_iff_ne.2 n1) (.cons (idxOk_lt (by omega)) (.cons (ssR_at (get_in _ (by omega))) (.cons (orK_right (lift_oth rfl) (calC_at _ rfl rfl)) (.cons (wrK_at (by omega)) .nil))))))))))))))
theorem np_go (i : Nat) (hi : i < l.length) (k : Nat) (hk : k < (rs.getD i []).length) : Goes Try.prog tab kO oK (oS2 l rs i k) (hW w) .normal (oS2 l rs i (k + 1)) (hW w) := by
  have e := snR_length l
  have es := ssR_length rs
  have ei := i1_length (rs.getD i [])
  have n := chB_len hc
  have h3 := hr3 i hi
  obtain ⟨r, hr⟩ : ∃ r, r = rs.getD i [] := ⟨_, rfl⟩
  rw [← hr] at hk ei h3
  obtain ⟨j, hj⟩ : ∃ j, j = r.getD k 0 := ⟨_, rfl⟩
  have hmem : j ∈ r := by
    rw [hj, List.getD_eq_getElem?_getD, List.getElem?_eq_getElem hk]
    exact List.getElem_mem hk
  obtain ⟨jn, hjn, hje, hrc⟩ := hr1 i hi j (by rw [← hr]; exact hmem)
  have hR := (rcv_iff _ _ _ _).1 hrc
  have nj : Nd w j := ⟨by omega, by omega⟩
  have hm := chB_in hc (getD_mem hi)
  have ni : Nd w (l.getD i sn0).n := ⟨hm.1.1, hm.1.2⟩
  have a := hs_ans w ok j (l.getD i sn0).n
  rw [hrD_t (chB_ok hc).1 nj ni, hR.hr] at a
  have b := le_ans w ok (l.getD i sn0).n j
  rw [lvD_t (chB_ok hc).1 ni nj] at b
  have g := Goes.loop (P := Try.prog) (T := tab) (ks := kO) l.length (fun m => oS3 l rs i k j m) (fun _ => hW w) (fun m hm => no_go w ok l hc rs hrs hr1 hr2 hr3 i hi k j hR m hm) (zsee_ok tab_ok mixed fun_ok noC_ok (noO w l rs i k l.length j) (.cons (decide_eq_false (by omega)) .nil)) (by intro h; cases h)
  have ga : nth (i1 r) ((k : Int).toNat) = some [iI j] := by rw [hj]; exact i1_at (get_in _ hk)
  have hlv := hR.lv
  by_cases hk0 : k = 0
  · exact zsee_ok tab_ok mixed fun_ok (orK_ok (calC_ok a) (calC_ok b)) (np0 _ w l rs i k j (lv w (l.getD i sn0).n j) 0 (l.getD i sn0) r) (.cons (idxOk_lt (by omega)) (.cons (by rw [hr]; exact ssR_at (get_in _ (by omega))) (.cons (decide_eq_true (by omega)) (.cons (idxOk_lt (by omega)) (.cons (by rw [hr]; exact ssR_at (get_in _ (by omega))) (.cons (idxOk_lt (by omega)) (.cons ga (.cons (idxOk_lt (by omega)) (.cons (snR_get (by omega)) (.cons (orK_left (calC_at _ rfl rfl)) (.cons (idxOk_lt (by omega)) (.cons (snR_get (by omega)) (.cons (orK_right (calC_oth (by kernel_rfl)) (calC_at _ rfl rfl)) (.cons (idxOk_lt (by omega)) (.cons (snR_get (by omega)) (.cons (decide_eq_false (by omega)) (.cons (decide_eq_false (by omega)) (.cons g (.cons (wrK_at (by omega)) .nil)))))))))))))))))))
  · have hlt : r.getD (k - 1) 0 < j := by
      have pw := hr2 i hi
      rw [← hr, List.pairwise_iff_getElem] at pw
      have := pw (k - 1) k (by omega) hk (by omega)
      rw [hj, List.getD_eq_getElem?_getD, List.getD_eq_getElem?_getD, List.getElem?_eq_getElem hk, List.getElem?_eq_getElem (show k - 1 < r.length by omega)]
      exact this
    exact zsee_ok tab_ok mixed fun_ok (orK_ok (calC_ok a) (calC_ok b)) (np1 _ w l rs i k j (lv w (l.getD i sn0).n j) (r.getD (k - 1) 0) (l.getD i sn0) r) (.cons (idxOk_lt (by omega)) (.cons (by rw [hr]; exact ssR_at (get_in _ (by omega))) (.cons (decide_eq_true (by omega)) (.cons (idxOk_lt (by omega)) (.cons (by rw [hr]; exact ssR_at (get_in _ (by omega))) (.cons (idxOk_lt (by omega)) (.cons ga (.cons (idxOk_lt (by omega)) (.cons (snR_get (by omega)) (.cons (orK_left (calC_at _ rfl rfl)) (.cons (idxOk_lt (by omega)) (.cons (snR_get (by omega)) (.cons (orK_right (calC_oth (by kernel_rfl)) (calC_at _ rfl rfl)) (.cons (idxOk_lt (by omega)) (.cons (snR_get (by omega)) (.cons (decide_eq_false (by omega)) (.cons (decide_eq_true (by omega)) (.cons (idxOk_lt (by omega)) (.cons (by rw [hr]; exact ssR_at (get_in _ (by omega))) (.cons (congrArg (DV.int .i64) (by rw [show ((k : Nat) : Int) - 1 = ((k - 1 : Nat) : Int) by omega]; exact wrapI (by omega))) (.cons (idxOk_lt (by omega)) (.cons (i1_at (get_in _ (by omega))) (.cons (decide_eq_false (by omega)) (.cons g (.cons (wrK_at (by omega)) .nil)))))))))))))))))))))))))
theorem nq_go (i : Nat) (hi : i < l.length) : Goes Try.prog tab kO oL (oS l rs i) (hW w) .normal (oS l rs (i + 1)) (hW w) := by
  have e := snR_length l
  have es := ssR_length rs
  have ei := i1_length (rs.getD i [])
  have n := chB_len hc
  have g := Goes.loop (P := Try.prog) (T := tab) (ks := kO) (rs.getD i []).length (fun k => oS2 l rs i k) (fun _ => hW w) (fun k hk => np_go w ok l hc rs hrs hr1 hr2 hr3 i hi k hk) (zsee_ok tab_ok mixed fun_ok noC_ok (npO w l rs i (rs.getD i []).length (rs.getD i [])) (.cons (idxOk_lt (by omega)) (.cons (ssR_at (get_in _ (by omega))) (.cons (decide_eq_false (by omega)) .nil)))) (by intro h; cases h)
  exact zsee_ok tab_ok mixed fun_ok noC_ok (nq0 w l rs i) (.cons (decide_eq_true (by omega)) (.cons g (.cons (wrK_at (by omega)) .nil)))
theorem nq_loop : Goes Try.prog tab kO (.loop oL) (oS l rs 0) (hW w) (.exit 0) (mkT 169 [(7, .bool true)]) (hW w) := by
  have e := snR_length l
  exact Goes.loop (P := Try.prog) (T := tab) (ks := kO) l.length (fun i => oS l rs i) (fun _ => hW w) (nq_go w ok l hc rs hrs hr1 hr2 hr3) (zsee_ok tab_ok mixed fun_ok noC_ok (nqO w l rs l.length) (.cons (decide_eq_false (by omega)) .nil)) (by intro h; cases h)
end
theorem reO_rows {w : Wd} {l : List Sn} (hc : chB w l = true) (ds : List Bool) (i : Nat) (hi : i < l.length) : ∃ d, (reO w l ds l.length).1.getD i [] = (inn (fun j => rcvB w l (l.getD i sn0) j) d w.r.length).1 := by
  have _ := hc
  exact out_get (fun i j => rcvB w l (l.getD i sn0) j) w.r.length ds l.length i hi
theorem once_all (w : Wd) (ok : OkW w) (l : List Sn) (hl : okN l) (ds : List Bool) (hds : okB ds) : Ans Try.prog fO [wdD w, snL l, bsL ds] (.bool true) ⟨0, [], []⟩ := by
  have _ := hds
  have av := av_ans
  have gr := gr_ans w ok l
  have re := re_ans w ok l hl ds
  have e := snR_length l
  have eb := b1_length ds
  unfold reD reV at re
  cases hg : grB w l with
  | true =>
    rw [hg] at gr
    exact zflat_ok tab_ok mixed fun_ok (orK_ok (calC_ok av) (orK_ok (calC_ok gr) (calC_ok re))) (nr0 _ w l ds [] 0) (.cons (orK_left (calC_at _ rfl rfl)) (.cons (orK_right (calC_oth (by kernel_rfl)) (orK_left (calC_at _ rfl rfl))) .nil))
  | false =>
    rw [hg] at gr
    by_cases hd : ds.length > 1000
    · exact zflat_ok tab_ok mixed fun_ok (orK_ok (calC_ok av) (orK_ok (calC_ok gr) (calC_ok re))) (nr1 _ w l ds [] 0) (.cons (orK_left (calC_at _ rfl rfl)) (.cons (orK_right (calC_oth (by kernel_rfl)) (orK_left (calC_at _ rfl rfl))) (.cons (decide_eq_true (by omega)) .nil)))
    · cases hc : chB w l with
      | false =>
        rw [hc, chM_f hc] at re
        exact zflat_ok tab_ok mixed fun_ok (orK_ok (calC_ok av) (orK_ok (calC_ok gr) (calC_ok re))) (nr2 _ w l ds [] 0) (.cons (orK_left (calC_at _ rfl rfl)) (.cons (orK_right (calC_oth (by kernel_rfl)) (orK_left (calC_at _ rfl rfl))) (.cons (decide_eq_false (by omega)) (.cons (orK_right (calC_oth (by kernel_rfl)) (orK_right (calC_oth (by kernel_rfl)) (calC_at _ rfl rfl))) .nil))))
      | true =>
        rw [hc, chM_t hc] at re
        have va := (va_iff w).1 (chB_ok hc).1
        have v2 := va.n2
        have hrl : (reO w l ds l.length).1.length = l.length := out_len _ _ _ _
        have hes := ssR_length (reO w l ds l.length).1
        have g := nq_loop w ok l hc (reO w l ds l.length).1 hrl (fun i hi x hx => by
          obtain ⟨d, q⟩ := reO_rows hc ds i hi
          rw [q] at hx
          obtain ⟨j, h1, rfl, h2⟩ := inn_mem _ _ _ _ hx
          exact ⟨j, h1, rfl, h2⟩) (fun i hi => by
          obtain ⟨d, q⟩ := reO_rows hc ds i hi
          rw [q]
          exact inn_inc _ _ _) (fun i hi => by
          obtain ⟨d, q⟩ := reO_rows hc ds i hi
          rw [q]
          have := inn_len (fun j : Nat => rcvB w l (l.getD i sn0) (j : Int)) d w.r.length
          omega)
        exact zflat_ok tab_ok mixed fun_ok (orK_ok (calC_ok av) (orK_ok (calC_ok gr) (calC_ok re))) (nr3 _ w l ds (reO w l ds l.length).1 0) (.cons (orK_left (calC_at _ rfl rfl)) (.cons (orK_right (calC_oth (by kernel_rfl)) (orK_left (calC_at _ rfl rfl))) (.cons (decide_eq_false (by omega)) (.cons (orK_right (calC_oth (by kernel_rfl)) (orK_right (calC_oth (by kernel_rfl)) (calC_at _ rfl rfl))) (.cons (by rw [hes, hrl, e]; simp) (.cons g .nil))))))
end
end Go.Proofs.Ytgjgihlfkpbdgaa
