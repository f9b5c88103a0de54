/- linksFrom, links: contracts. -/
import Derived.Test.YtgjgihlfkpbdgaaVi
namespace Go.Proofs.Ytgjgihlfkpbdgaa
open Go.RowKit

noncomputable section
/-! ### Rows of rows of a fixed length, as cells -/
theorem set_at {α : Type} (l : List α) (k : Nat) (d : α) (h : k < l.length) : l.take k ++ d :: l.drop (k + 1) = l.set k d := by
  rw [List.set_eq_take_append_cons_drop, if_pos h]
theorem layD_set (l : List DV) (k : Nat) (d : DV) (h : k < l.length) : layD l k [d] = l.set k d := by
  unfold layD
  rw [← set_at l k d h, List.append_assoc]
  rfl
theorem flat_set {s : Nat} : ∀ {xs : List (List DV)}, (∀ cs ∈ xs, cs.length = s) → ∀ {k c : Nat} {r : List DV} (d : DV), xs[k]? = some r → c < s → xs.flatten.set (k * s + c) d = (xs.set k (r.set c d)).flatten
  | [], _, k, c, r, _, h, _ => by simp at h
  | x :: xs, hl, 0, c, r, d, h, hc => by
    simp only [List.getElem?_cons_zero, Option.some.injEq] at h
    subst h
    have := hl x (List.mem_cons_self ..)
    rw [List.flatten_cons, Nat.zero_mul, Nat.zero_add, List.set_append_left _ _ (by omega), List.set_cons_zero, List.flatten_cons]
  | x :: xs, hl, k + 1, c, r, d, h, hc => by
    have hx := hl x (List.mem_cons_self ..)
    rw [List.flatten_cons, List.set_append_right _ _ (by rw [hx, Nat.succ_mul]; omega), hx, Nat.succ_mul, show k * s + s + c - s = k * s + c by omega, flat_set (fun cs h => hl cs (List.mem_cons_of_mem _ h)) d (by simpa using h) hc, List.set_cons_succ, List.flatten_cons]
theorem nlist_flat (n : Nat) (zs : List DV) : nlist n zs = (List.replicate n zs).flatten := by
  induction n with
  | zero => rfl
  | succ n ih => rw [nlist, ih, List.replicate_succ, List.flatten_cons]
/-- the first k are written, the others as they were -/
def rwK (f : Nat → List DV) (z : List DV) (n k : Nat) : List (List DV) := (List.range n).map fun j => if j < k then f j else z
theorem rwK_length (f : Nat → List DV) (z : List DV) (n k : Nat) : (rwK f z n k).length = n := by simp [rwK]
theorem rwK_zero (f : Nat → List DV) (z : List DV) (n : Nat) : rwK f z n 0 = List.replicate n z := by
  unfold rwK
  refine List.ext_getElem? fun i => ?_
  simp only [List.getElem?_map, List.getElem?_replicate, Nat.not_lt_zero, if_false]
  by_cases h : i < n
  · rw [List.getElem?_range h, if_pos h]; rfl
  · rw [if_neg h, List.getElem?_eq_none (by simp; omega)]; rfl
theorem rwK_get {f : Nat → List DV} {z : List DV} {n k j : Nat} (h : j < n) : (rwK f z n k)[j]? = some (if j < k then f j else z) := by
  unfold rwK
  rw [List.getElem?_map, List.getElem?_range h]
  rfl
theorem rwK_set {f : Nat → List DV} {z : List DV} {n k : Nat} (h : k < n) : (rwK f z n k).set k (f k) = rwK f z n (k + 1) := by
  refine List.ext_getElem? fun i => ?_
  by_cases hi : i < n
  · rw [rwK_get hi, List.getElem?_set]
    by_cases e : k = i
    · subst e
      rw [if_pos rfl, if_pos (by rw [rwK_length]; exact h), if_pos (by omega)]
    · rw [if_neg e, rwK_get hi]
      by_cases h1 : i < k
      · rw [if_pos h1, if_pos (by omega)]
      · rw [if_neg h1, if_neg (by omega)]
  · rw [List.getElem?_eq_none (by rw [List.length_set, rwK_length]; omega), List.getElem?_eq_none (by rw [rwK_length]; omega)]
theorem rwK_len {f : Nat → List DV} {z : List DV} {n k s : Nat} (hf : ∀ j, (f j).length = s) (hz : z.length = s) : ∀ cs ∈ rwK f z n k, cs.length = s := fun cs h => by
  obtain ⟨j, _, rfl⟩ := List.mem_map.1 h
  split
  · exact hf j
  · exact hz
theorem rwK_full {f : Nat → List DV} {z : List DV} {n : Nat} : rwK f z n n = (List.range n).map f := List.map_congr_left fun j hj => if_pos (List.mem_range.1 hj)
/-! ### linksFrom -/
def lkR (w : Wd) (i : Int) (j : Nat) : List DV := [.bool ((rI w i).c == (rI w j).c), .bool (hr w j i), iI (lv w i j)]
def lkL (w : Wd) (i : Int) : List (List DV) := (List.range w.r.length).map (lkR w i)
abbrev zLk : List DV := [.bool false, .bool false, iI 0]
abbrev tLk : TypeId := 94
abbrev oLk (l : List DV) : Ob := ⟨0, 0, tLk, l⟩
abbrev fLf : FuncId := 61
abbrev kLf : List (Nat × Nat) := ksF ftab fLf
abbrev lfL : Code := loopAt (bodyOf ftab fLf) 0
abbrev lfH (w : Wd) (X : List DV) : Hp := ⟨2, [oLk X, oW w], []⟩
abbrev lfS (i : Int) (n k : Nat) : Slots := mkT 57 [(1, iI i), (2, .ptr 0 0), (5, .sl 1 0 3 n n), (12, iN n), (13, iN k)]
abbrev lfE (n : Nat) : Slots := mkT 57 [(5, .sl 1 0 3 n n)]
set_option maxRecDepth 1000000 in
theorem lf1 (C : ConF) (w : Wd) (i v : Int) (n k : Nat) (a c : Rw) (X0 X1 X2 X3 : List DV) (b : Bool) : zsee Try.prog tab ftab C kLf [1, 2, 5, 12, 13] lfL (lfS i n k) (lfH w X0) [(14, .b true), (21, .n (.fptr (rC a))), (27, .n (.fptr (rC c))), (31, .n (.ptr 1 (k * 3))), (65535, .h (.tuple []) (lfH w X1) (some 1)), (39, .q (.tuple [.bool b, iI 0])), (42, .n (.ptr 1 (k * 3))), (65535, .h (.tuple []) (lfH w X2) (some 1)), (50, .q (.tuple [iI v, iI 0])), (53, .n (.ptr 1 (k * 3))), (65535, .h (.tuple []) (lfH w X3) (some 1)), (55, .w (iN (k + 1)))] = some (Ex.normal, (lfS i n (k + 1)), (lfH w X3), ((decide ((↑k : Int) < (↑n : Int))) = true) :: ((idxOk i (List.length (rsR w.r))) = true) :: ((nth (rsR w.r) (Int.toNat i)) = (Option.some (rC a))) :: ((idxOk (↑k : Int) (List.length (rsR w.r))) = true) :: ((nth (rsR w.r) (Int.toNat (↑k : Int))) = (Option.some (rC c))) :: ((idxOk (↑k : Int) n) = true) :: ((DV.ptr 1 (0 + Int.toNat (↑k : Int) * 3)) = (DV.ptr 1 (k * 3))) :: ((storeH (lfH w X0) 1 (k * 3 + 0) [(DV.bool (a.c == c.c))]) = (Option.some ((lfH w X1), (Option.some 1)))) :: ((C 29 [(DV.agg (List.take 2 (List.drop 0 (wdC w)))), (iN k), (iI i)] (lfH w X1)) = (Option.some ((DV.tuple [DV.bool b, iI 0]), (lfH w X1), Option.none))) :: ((idxOk (↑k : Int) n) = true) :: ((DV.ptr 1 (0 + Int.toNat (↑k : Int) * 3)) = (DV.ptr 1 (k * 3))) :: ((storeH (lfH w X1) 1 (k * 3 + 1) [(DV.bool b)]) = (Option.some ((lfH w X2), (Option.some 1)))) :: ((C 30 [(DV.agg (List.take 2 (List.drop 0 (wdC w)))), (iI i), (iN k)] (lfH w X2)) = (Option.some ((DV.tuple [iI v, iI 0]), (lfH w X2), Option.none))) :: ((idxOk (↑k : Int) n) = true) :: ((DV.ptr 1 (0 + Int.toNat (↑k : Int) * 3)) = (DV.ptr 1 (k * 3))) :: ((storeH (lfH w X2) 1 (k * 3 + 2) [(iI v)]) = (Option.some ((lfH w X3), (Option.some 1)))) :: ((ar IntKind.i64 ((↑k : Int) + 1)) = (iN (k + 1))) :: []) := by kernel_rfl
set_option maxRecDepth 1000000 in
theorem lfO (w : Wd) (i : Int) (n k : Nat) (X : List DV) : zsee Try.prog tab ftab noC kLf [5] lfL (lfS i n k) (lfH w X) [(14, .b false)] = some ((Ex.exit 0), (lfE n), (lfH w X), ((decide ((↑k : Int) < (↑n : Int))) = false) :: []) := by kernel_rfl
set_option maxRecDepth 1000000 in
theorem lfA (w : Wd) (i : Int) (n : Nat) (X Y : List DV) : zans Try.prog tab ftab noC fLf [wdD w, iI i] [(10, .h (.sl 1 0 3 n n) (lfH w X) none), (0, .l [1, 2, 5, 12, 13] (.exit 0) (lfE n) (lfH w Y))] = some ((DV.sl 1 0 3 n n), (lfH w Y), ((decide (0 ≤ (↑(List.length (rsR w.r)) : Int)) && decide ((↑(List.length (rsR w.r)) : Int) ≤ (↑(List.length (rsR w.r)) : Int)) && fitB (Int.toNat (↑(List.length (rsR w.r)) : Int)) 16) = true) :: ((mkRow (Hp.mk 1 [(Ob.mk 0 0 25 (wdC w))] []) 94 3 [(DV.bool false), (DV.bool false), (DV.int IntKind.i64 0)] (Int.toNat (↑(List.length (rsR w.r)) : Int)) (Int.toNat (↑(List.length (rsR w.r)) : Int))) = ((DV.sl 1 0 3 n n), (lfH w X), Option.none)) :: (Goes Try.prog tab (kLf) (Go.Code.loop (lfL)) (lfS i n 0) (lfH w X) (Ex.exit 0) (lfE n) (lfH w Y)) :: []) := by kernel_rfl
theorem sto {w : Wd} {X Y : List DV} {o : Nat} {d : DV} (h : o < X.length) (e : X.set o d = Y) : storeH (lfH w X) 1 o [d] = some (lfH w Y, some 1) := by
  have hb : Nat.ble (o + [d].length) X.length = true := bleT (show o + 1 ≤ _ by omega)
  have hg : (lfH w X).get 1 = some (oLk X) := rfl
  simp only [storeH, hg, hb]
  rw [layD_set _ _ _ h, e]
  rfl
theorem lkR_flat (w : Wd) (i : Int) (j : Nat) : ∀ d ∈ lkR w i j, flat0 d = true := fun d hd => by
  simp only [lkR, List.mem_cons, List.not_mem_nil, or_false] at hd
  rcases hd with rfl | rfl | rfl <;> rfl
theorem row_set {w : Wd} {i : Int} {n k c : Nat} {r r' : List DV} {d : DV} (hk : k < n) (hr : r.length = 3) (hc : c < 3) (e : r.set c d = r') (f : Nat → List DV) (hf : ∀ j, (f j).length = 3) : ((rwK f zLk n k).set k r).flatten.set (k * 3 + c) d = ((rwK f zLk n k).set k r').flatten ∧ k * 3 + c < ((rwK f zLk n k).set k r).flatten.length := by
  have _ := w
  have _ := i
  have hl : ∀ cs ∈ (rwK f zLk n k).set k r, cs.length = 3 := fun cs h => by
    rcases List.mem_or_eq_of_mem_set h with h | rfl
    · exact rwK_len hf rfl cs h
    · exact hr
  refine ⟨?_, ?_⟩
  · rw [flat_set hl (k := k) (c := c) (r := r) d (by rw [List.getElem?_set_self (by rw [rwK_length]; exact hk)]) hc, List.set_set, e]
  · rw [len_flat hl, List.length_set, rwK_length]
    omega
theorem ptr_at (k : Nat) : DV.ptr 1 (0 + ((k : Int).toNat) * 3) = .ptr 1 (k * 3) := by
  rw [Int.toNat_natCast, Nat.zero_add]
theorem lf_go (w : Wd) (ok : OkW w) (hc : chk w = true) (i : Int) (hi : Nd w i) (k : Nat) (hk : k < w.r.length) : Goes Try.prog tab kLf lfL (lfS i w.r.length k) (lfH w (rwK (lkR w i) zLk w.r.length k).flatten) .normal (lfS i w.r.length (k + 1)) (lfH w (rwK (lkR w i) zLk w.r.length (k + 1)).flatten) := by
  have va := (va_iff w).1 hc
  have e := rsR_length w.r
  have h2 := va.n2
  have hj : Nd w (k : Int) := ⟨by omega, by omega⟩
  have a := hs_ans w ok (k : Int) i
  rw [hrD_t hc hj hi] at a
  have b := le_ans w ok i (k : Int)
  rw [lvD_t hc hi hj] at b
  have ri := rI_at hi
  have rk := rI_at hj
  have hz : (rwK (lkR w i) zLk w.r.length k).set k zLk = rwK (lkR w i) zLk w.r.length k := by
    refine List.ext_getElem? fun j => ?_
    rw [List.getElem?_set]
    by_cases q : k = j
    · subst q
      rw [if_pos rfl, if_pos (by rw [rwK_length]; exact hk), rwK_get hk, if_neg (by omega)]
    · rw [if_neg q]
  have s1 := row_set (w := w) (i := i) (n := w.r.length) (k := k) (c := 0) (r := zLk) (d := .bool ((rI w i).c == (rI w (k : Int)).c)) hk rfl (by omega) rfl (lkR w i) (fun _ => rfl)
  rw [hz] at s1
  have s2 := row_set (w := w) (i := i) (n := w.r.length) (k := k) (c := 1) (r := zLk.set 0 (.bool ((rI w i).c == (rI w (k : Int)).c))) (d := .bool (hr w (k : Int) i)) hk rfl (by omega) rfl (lkR w i) (fun _ => rfl)
  have s3 := row_set (w := w) (i := i) (n := w.r.length) (k := k) (c := 2) (r := (zLk.set 0 (.bool ((rI w i).c == (rI w (k : Int)).c))).set 1 (.bool (hr w (k : Int) i))) (d := iI (lv w i (k : Int))) hk rfl (by omega) rfl (lkR w i) (fun _ => rfl)
  have f3 : (rwK (lkR w i) zLk w.r.length k).set k (((zLk.set 0 (.bool ((rI w i).c == (rI w (k : Int)).c))).set 1 (.bool (hr w (k : Int) i))).set 2 (iI (lv w i (k : Int)))) = rwK (lkR w i) zLk w.r.length (k + 1) := rwK_set hk
  rw [f3] at s3
  exact zsee_ok tab_ok mixed fun_ok (orK_ok (calC_ok a) (calC_ok b)) (lf1 _ w i (lv w i (k : Int)) w.r.length k (rI w i) (rI w (k : Int)) _ _ _ _ (hr w (k : Int) i)) (.cons (decide_eq_true (by omega)) (.cons ri.1 (.cons ri.2 (.cons rk.1 (.cons rk.2 (.cons (idxOk_lt (by omega)) (.cons (ptr_at k) (.cons (sto s1.2 s1.1) (.cons (orK_left (calC_at _ rfl rfl)) (.cons (idxOk_lt (by omega)) (.cons (ptr_at k) (.cons (sto s2.2 s2.1) (.cons (orK_right (calC_oth (by kernel_rfl)) (calC_at _ rfl rfl)) (.cons (idxOk_lt (by omega)) (.cons (ptr_at k) (.cons (sto s3.2 s3.1) (.cons (wrK_at (by omega)) .nil)))))))))))))))))
theorem lkL_length (w : Wd) (i : Int) : (lkL w i).length = w.r.length := by simp [lkL]
theorem lf_ans (w : Wd) (ok : OkW w) (hc : chk w = true) (i : Int) (hi : Nd w i) : Ans Try.prog fLf [wdD w, iI i] (.list 3 (lkL w i)) ⟨0, [], []⟩ := by
  have va := (va_iff w).1 hc
  have e := rsR_length w.r
  have h1 := va.n1
  have h2 := va.n2
  have g := Goes.loop w.r.length (lfS i w.r.length) (fun k => lfH w (rwK (lkR w i) zLk w.r.length k).flatten) (lf_go w ok hc i hi) (zsee_ok tab_ok mixed fun_ok noC_ok (lfO w i w.r.length w.r.length (rwK (lkR w i) zLk w.r.length w.r.length).flatten) (.cons (decide_eq_false (by omega)) .nil)) (by intro h; cases h)
  have hm : mkRow ⟨1, [oW w], []⟩ tLk 3 zLk (((rsR w.r).length : Int).toNat) (((rsR w.r).length : Int).toNat) = (.sl 1 0 3 w.r.length w.r.length, lfH w (rwK (lkR w i) zLk w.r.length 0).flatten, none) := by
    rw [Int.toNat_natCast, e, rwK_zero, ← nlist_flat]
    cases hn : w.r.length with
    | zero => omega
    | succ m => rfl
  have z := zans_ok tab_ok mixed fun_ok noC_ok (lfA w i w.r.length _ _) (.cons (by rw [Int.toNat_natCast, fit_at (by omega) (by omega)]; simp) (.cons hm (.cons g .nil)))
  refine AnsH.frz z rfl (frz_rows (L := []) (s := 3) (xs := lkL w i) rfl rfl (by show (0 : Nat) ≠ 2; decide) ?_ (lkL_length w i) ?_ ?_)
  · show (rwK (lkR w i) zLk w.r.length w.r.length).flatten = _
    rw [rwK_full]
    rfl
  · intro cs h
    obtain ⟨j, _, rfl⟩ := List.mem_map.1 h
    rfl
  · intro cs h
    obtain ⟨j, _, rfl⟩ := List.mem_map.1 h
    exact lkR_flat w i j
end
end Go.Proofs.Ytgjgihlfkpbdgaa
