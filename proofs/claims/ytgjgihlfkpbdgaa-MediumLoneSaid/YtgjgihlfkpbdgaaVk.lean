/- links, receivable: contracts. -/
import Derived.Test.YtgjgihlfkpbdgaaVj
namespace Go.Proofs.Ytgjgihlfkpbdgaa
open Go.RowKit

noncomputable section
abbrev tLr : TypeId := 90
abbrev fLk : FuncId := 42
abbrev kLk : List (Nat × Nat) := ksF ftab fLk
abbrev lkP : Code := loopAt (bodyOf ftab fLk) 0
def frC (w : Wd) (l : List Sn) (k : Nat) (i : Nat) : DV := match anyB k fun q => (l.getD q sn0).n == (i : Int) with
  | true => .list 3 (lkL w i)
  | false => .nil
def frX (w : Wd) (l : List Sn) (k : Nat) : List DV := (List.range w.r.length).map (frC w l k)
abbrev lkH (w : Wd) (X : List DV) : Hp := ⟨2, [⟨0, 0, tLr, X⟩, oW w], []⟩
abbrev lkS (l : List Sn) (n k : Nat) : Slots := mkT 34 [(2, .ptr 0 0), (5, .sl 1 0 1 n n), (12, snL l), (13, .int .i64 ((snR l).length : Int)), (14, iN k)]
abbrev lkE (n : Nat) : Slots := mkT 34 [(5, .sl 1 0 1 n n)]
set_option maxRecDepth 1000000 in
theorem lk1 (C : ConF) (w : Wd) (l : List Sn) (n k p : Nat) (s : Sn) (X X1 : List DV) (y : List DV) (ys : List (List DV)) : zgm [0, 1] [1] (zsee Try.prog tab ftab C kLk [2, 5, 12, 13, 14] lkP (lkS l n k) (lkH w X) [(15, .b true), (16, .n (.fptr (snC s))), (21, .n (.ptr 1 p)), (22, .n (.list 3 (y :: ys))), (32, .w (iN (k + 1)))]) = some (Ex.normal, (lkS l n (k + 1)), (lkH w X), (FlatIn [1] (Hp.mk 3 [(Ob.mk 0 0 32 (snC s)), (Ob.mk 0 0 90 (X)), (Ob.mk 0 0 25 (wdC w))] [])) :: ((decide ((↑k : Int) < (↑(List.length (snR l)) : Int))) = true) :: ((idxOk (↑k : Int) (List.length (snR l))) = true) :: ((nth (snR l) (Int.toNat (↑k : Int))) = (Option.some (snC s))) :: ((idxOk s.n n) = true) :: ((DV.ptr 1 (0 + Int.toNat s.n * 1)) = (DV.ptr 1 p)) :: ((nth X p) = (Option.some (DV.list 3 (y :: ys)))) :: ((ar IntKind.i64 ((↑k : Int) + 1)) = (iN (k + 1))) :: []) := by kernel_rfl
set_option maxRecDepth 1000000 in
theorem lk2 (C : ConF) (w : Wd) (l : List Sn) (n k p : Nat) (s : Sn) (X X1 : List DV) (y : List DV) (ys : List (List DV)) : zgm [0, 1] [1] (zsee Try.prog tab ftab C kLk [2, 5, 12, 13, 14] lkP (lkS l n k) (lkH w X) [(15, .b true), (16, .n (.fptr (snC s))), (21, .n (.ptr 1 p)), (22, .n .nil), (30, .q (.list 3 ys)), (31, .n (.ptr 1 p)), (65535, .h (.tuple []) ⟨3, [oSn s, ⟨0, 0, tLr, X1⟩, oW w], []⟩ (some 1)), (32, .w (iN (k + 1)))]) = some (Ex.normal, (lkS l n (k + 1)), (lkH w X1), (FlatIn [1] (Hp.mk 3 [(oSn s), (Ob.mk 0 0 90 (X1)), (oW w)] [])) :: ((decide ((↑k : Int) < (↑(List.length (snR l)) : Int))) = true) :: ((idxOk (↑k : Int) (List.length (snR l))) = true) :: ((nth (snR l) (Int.toNat (↑k : Int))) = (Option.some (snC s))) :: ((idxOk s.n n) = true) :: ((DV.ptr 1 (0 + Int.toNat s.n * 1)) = (DV.ptr 1 p)) :: ((nth X p) = (Option.some (DV.nil))) :: ((C 61 [(DV.agg (List.take 2 (List.drop 0 (wdC w)))), (DV.int (IntKind.i64) s.n)] (Hp.mk 3 [(Ob.mk 0 0 32 (snC s)), (Ob.mk 0 0 90 (X)), (oW w)] [])) = (Option.some ((DV.list 3 ys), (Hp.mk 3 [(Ob.mk 0 0 32 (snC s)), (Ob.mk 0 0 90 (X)), (oW w)] []), Option.none))) :: ((idxOk s.n n) = true) :: ((DV.ptr 1 (0 + Int.toNat s.n * 1)) = (DV.ptr 1 p)) :: ((storeH (Hp.mk 3 [(Ob.mk 0 0 32 (snC s)), (Ob.mk 0 0 90 (X)), (oW w)] []) 1 p [(DV.list 3 ys)]) = (Option.some ((Hp.mk 3 [(oSn s), (Ob.mk 0 0 90 (X1)), (oW w)] []), (Option.some 1)))) :: ((ar IntKind.i64 ((↑k : Int) + 1)) = (iN (k + 1))) :: []) := by kernel_rfl
set_option maxRecDepth 1000000 in
theorem lkO (w : Wd) (l : List Sn) (n k : Nat) (X : List DV) : zsee Try.prog tab ftab noC kLk [5] lkP (lkS l n k) (lkH w X) [(15, .b false)] = some ((Ex.exit 0), (lkE n), (lkH w X), ((decide ((↑k : Int) < (↑(List.length (snR l)) : Int))) = false) :: []) := by kernel_rfl
set_option maxRecDepth 1000000 in
theorem lkA (w : Wd) (l : List Sn) (n : Nat) (X Y : List DV) : zans Try.prog tab ftab noC fLk [wdD w, snL l] [(11, .h (.sl 1 0 1 n n) (lkH w X) none), (0, .l [2, 5, 12, 13, 14] (.exit 0) (lkE n) (lkH w Y))] = some ((DV.sl 1 0 1 n n), (lkH w Y), ((decide (0 ≤ (↑(List.length (rsR w.r)) : Int)) && decide ((↑(List.length (rsR w.r)) : Int) ≤ (↑(List.length (rsR w.r)) : Int)) && fitB (Int.toNat (↑(List.length (rsR w.r)) : Int)) 24) = true) :: ((mkRow (Hp.mk 1 [(Ob.mk 0 0 25 (wdC w))] []) 90 1 [(DV.nil)] (Int.toNat (↑(List.length (rsR w.r)) : Int)) (Int.toNat (↑(List.length (rsR w.r)) : Int))) = ((DV.sl 1 0 1 n n), (lkH w X), Option.none)) :: (Goes Try.prog tab (kLk) (Go.Code.loop (lkP)) (lkS l n 0) (lkH w X) (Ex.exit 0) (lkE n) (lkH w Y)) :: []) := by kernel_rfl
theorem anyB_succ {n : Nat} {f : Nat → Bool} : anyB (n + 1) f = (anyB n f || f n) := by
  unfold anyB
  rw [allB]
  cases allB n (fun k => !f k) <;> cases f n <;> rfl
theorem frX_length (w : Wd) (l : List Sn) (k : Nat) : (frX w l k).length = w.r.length := by simp [frX]
theorem frX_get {w : Wd} {l : List Sn} {k p : Nat} (h : p < w.r.length) : (frX w l k)[p]? = some (frC w l k p) := by
  unfold frX
  rw [List.getElem?_map, List.getElem?_range h]
  rfl
theorem frC_cases (w : Wd) (l : List Sn) (k i : Nat) : frC w l k i = .list 3 (lkL w i) ∨ frC w l k i = .nil := by
  unfold frC
  cases anyB k fun q => (l.getD q sn0).n == (i : Int)
  · exact .inr rfl
  · exact .inl rfl
theorem frX_flat (w : Wd) (l : List Sn) (k : Nat) : ∀ d ∈ frX w l k, flat0 d = true := fun d h => by
  obtain ⟨i, _, rfl⟩ := List.mem_map.1 h
  rcases frC_cases w l k i with e | e <;> rw [e] <;> rfl
theorem frX_set {w : Wd} {l : List Sn} {k p : Nat} (h : (l.getD k sn0).n = (p : Int)) (hp : p < w.r.length) : frX w l (k + 1) = (frX w l k).set p (.list 3 (lkL w (l.getD k sn0).n)) := by
  refine List.ext_getElem? fun i => ?_
  by_cases hi : i < w.r.length
  · rw [frX_get hi, List.getElem?_set]
    by_cases e : p = i
    · subst e
      rw [if_pos rfl, if_pos (by rw [frX_length]; exact hp)]
      unfold frC
      rw [anyB_succ, h, beq_self_eq_true, Bool.or_true]
    · rw [if_neg e, frX_get hi]
      unfold frC
      have : ((l.getD k sn0).n == (i : Int)) = false := by rw [h]; exact beq_eq_false_iff_ne.2 (fun q => e (by omega))
      rw [anyB_succ, this, Bool.or_false]
  · rw [List.getElem?_eq_none (by rw [frX_length]; omega), List.getElem?_eq_none (by rw [List.length_set, frX_length]; omega)]
theorem lkL_cons (w : Wd) (i : Int) (h : 0 < w.r.length) : lkL w i = lkR w i 0 :: ((List.range w.r.length).tail.map (lkR w i)) := by
  unfold lkL
  cases hn : w.r.length with
  | zero => omega
  | succ m => rw [List.range_succ_eq_map]; rfl
theorem set_same {l : List DV} {p : Nat} {d : DV} (h : l[p]? = some d) : l.set p d = l := by
  refine List.ext_getElem? fun i => ?_
  rw [List.getElem?_set]
  by_cases e : p = i
  · subst e
    obtain ⟨h1, _⟩ := List.getElem?_eq_some_iff.1 h
    rw [if_pos rfl, if_pos h1, h]
  · rw [if_neg e]
theorem ptr_at1 {i : Int} {p : Nat} (h : i = (p : Int)) : DV.ptr 1 (0 + i.toNat * 1) = .ptr 1 p := by
  rw [h, Int.toNat_natCast, Nat.zero_add, Nat.mul_one]
theorem lk_go (w : Wd) (ok : OkW w) (l : List Sn) (hc : chB w l = true) (k : Nat) (hk : k < l.length) : Goes Try.prog tab kLk lkP (lkS l w.r.length k) (lkH w (frX w l k)) .normal (lkS l w.r.length (k + 1)) (lkH w (frX w l (k + 1))) := by
  have e := snR_length l
  have n := chB_len hc
  have va := (va_iff w).1 (chB_ok hc).1
  have v1 := va.n1
  have hm := getD_mem hk
  have hi := (chB_in hc hm).1
  obtain ⟨p, hp⟩ := Int.eq_ofNat_of_zero_le hi.1
  have hpn : p < w.r.length := by omega
  have ix : idxOk (l.getD k sn0).n w.r.length = true := idxOk_in hi.1 hi.2
  rw [frX_set hp hpn]
  rcases frC_cases w l k p with q | q
  · have g := frX_get (w := w) (l := l) (k := k) hpn
    rw [q] at g
    rw [hp, set_same g]
    rw [lkL_cons w _ v1] at g
    exact zgm_ok tab_ok mixed fun_ok noC_ok (lk1 noC w l w.r.length k p (l.getD k sn0) (frX w l k) [] (lkR w p 0) ((List.range w.r.length).tail.map (lkR w p))) (.cons (flatOne rfl (frX_flat w l k)) (.cons (decide_eq_true (by omega)) (.cons (idxOk_lt (by omega)) (.cons (snR_get (by omega)) (.cons ix (.cons (ptr_at1 hp) (.cons ((nth_eq _ _).trans g) (.cons (wrK_at (by omega)) .nil))))))))
  · have g := frX_get (w := w) (l := l) (k := k) hpn
    rw [q] at g
    have a := lf_ans w ok (chB_ok hc).1 (l.getD k sn0).n ⟨hi.1, hi.2⟩
    have st : storeH ⟨3, [oSn (l.getD k sn0), ⟨0, 0, tLr, frX w l k⟩, oW w], []⟩ 1 p [.list 3 (lkL w (l.getD k sn0).n)] = some (⟨3, [oSn (l.getD k sn0), ⟨0, 0, tLr, (frX w l k).set p (.list 3 (lkL w (l.getD k sn0).n))⟩, oW w], []⟩, some 1) := by
      have hl : p < (frX w l k).length := by rw [frX_length]; exact hpn
      have hb : Nat.ble (p + [DV.list 3 (lkL w (l.getD k sn0).n)].length) (frX w l k).length = true := bleT (show p + 1 ≤ _ by omega)
      have hg : (⟨3, [oSn (l.getD k sn0), ⟨0, 0, tLr, frX w l k⟩, oW w], []⟩ : Hp).get 1 = some ⟨0, 0, tLr, frX w l k⟩ := rfl
      simp only [storeH, hg, hb]
      rw [layD_set _ _ _ hl]
      rfl
    exact zgm_ok tab_ok mixed fun_ok (calC_ok a) (lk2 _ w l w.r.length k p (l.getD k sn0) (frX w l k) _ [] (lkL w (l.getD k sn0).n)) (.cons (flatOne rfl (fun d hd => by
      rcases List.mem_or_eq_of_mem_set hd with hd | rfl
      · exact frX_flat w l k d hd
      · rfl)) (.cons (decide_eq_true (by omega)) (.cons (idxOk_lt (by omega)) (.cons (snR_get (by omega)) (.cons ix (.cons (ptr_at1 hp) (.cons ((nth_eq _ _).trans g) (.cons (calC_at _ rfl rfl) (.cons ix (.cons (ptr_at1 hp) (.cons st (.cons (wrK_at (by omega)) .nil))))))))))))
def frL (w : Wd) (l : List Sn) : List (List DV) := (List.range w.r.length).map fun i => [frC w l l.length i]
theorem frL_length (w : Wd) (l : List Sn) : (frL w l).length = w.r.length := by simp [frL]
theorem lk_ans (w : Wd) (ok : OkW w) (l : List Sn) (hc : chB w l = true) : Ans Try.prog fLk [wdD w, snL l] (.list 1 (frL w l)) ⟨0, [], []⟩ := by
  have va := (va_iff w).1 (chB_ok hc).1
  have e := rsR_length w.r
  have e2 := snR_length l
  have h1 := va.n1
  have h2 := va.n2
  have g := Goes.loop l.length (lkS l w.r.length) (fun k => lkH w (frX w l k)) (lk_go w ok l hc) (zsee_ok tab_ok mixed fun_ok noC_ok (lkO w l w.r.length l.length (frX w l l.length)) (.cons (decide_eq_false (by omega)) .nil)) (by intro h; cases h)
  have h0 : frX w l 0 = List.replicate w.r.length .nil := by
    unfold frX
    rw [show frC w l 0 = fun _ => .nil from rfl, List.map_const', List.length_range]
  have hm : mkRow ⟨1, [oW w], []⟩ tLr 1 [.nil] (((rsR w.r).length : Int).toNat) (((rsR w.r).length : Int).toNat) = (.sl 1 0 1 w.r.length w.r.length, lkH w (frX w l 0), none) := by
    have q : nlist w.r.length [DV.nil] = List.replicate w.r.length .nil := by
      rw [nlist_flat]
      induction w.r.length with
      | zero => rfl
      | succ n ih => rw [List.replicate_succ, List.flatten_cons, ih, List.replicate_succ]; rfl
    rw [Int.toNat_natCast, e, h0, ← q]
    cases hn : w.r.length with
    | zero => omega
    | succ m => rfl
  have z := zans_ok tab_ok mixed fun_ok noC_ok (lkA w l w.r.length _ _) (.cons (by rw [Int.toNat_natCast, fit_at (by omega) (by omega)]; simp) (.cons hm (.cons g .nil)))
  refine AnsH.frz z rfl (frz_rows (L := []) (s := 1) (xs := frL w l) rfl rfl (by show (0 : Nat) ≠ 2; decide) ?_ (frL_length w l) ?_ ?_)
  · show frX w l l.length = (frL w l).flatten
    unfold frX frL
    induction List.range w.r.length with
    | nil => rfl
    | cons x r ih => rw [List.map_cons, List.map_cons, List.flatten_cons, ih]; rfl
  · intro cs h
    obtain ⟨j, _, rfl⟩ := List.mem_map.1 h
    rfl
  · intro cs h d hd
    obtain ⟨j, _, rfl⟩ := List.mem_map.1 h
    obtain rfl := List.mem_singleton.1 hd
    rcases frC_cases w l l.length j with q | q <;> rw [q] <;> rfl
theorem frL_at {w : Wd} {l : List Sn} (hc : chB w l = true) {s : Sn} (hs : s ∈ l) : idxOk s.n (frL w l).length = true ∧ nth (frL w l) s.n.toNat = some [.list 3 (lkL w s.n)] := by
  have hi := (chB_in hc hs).1
  refine ⟨idxOk_in hi.1 (by rw [frL_length]; exact hi.2), ?_⟩
  obtain ⟨p, hp⟩ := Int.eq_ofNat_of_zero_le hi.1
  obtain ⟨k, hk, e⟩ := mem_getD hs
  rw [hp, Int.toNat_natCast, nth_eq]
  unfold frL
  rw [List.getElem?_map, List.getElem?_range (by omega)]
  show some [frC w l l.length p] = _
  have : (anyB l.length fun q => (l.getD q sn0).n == (p : Int)) = true := anyB_iff.2 ⟨k, hk, by rw [e, hp]; simp⟩
  unfold frC
  rw [this]
theorem lkL_at (w : Wd) (i : Int) {j : Int} (hj : Nd w j) : idxOk j (lkL w i).length = true ∧ nth (lkL w i) j.toNat = some [.bool ((rI w i).c == (rI w j).c), .bool (hr w j i), iI (lv w i j)] := by
  have h1 := hj.lo
  have h2 := hj.hi
  refine ⟨idxOk_in h1 (by rw [lkL_length]; exact h2), ?_⟩
  obtain ⟨p, rfl⟩ := Int.eq_ofNat_of_zero_le h1
  rw [Int.toNat_natCast, nth_eq]
  unfold lkL
  rw [List.getElem?_map, List.getElem?_range (by omega)]
  rfl
end
end Go.Proofs.Ytgjgihlfkpbdgaa
