/- Busy and Idle: contracts. -/
import Derived.Test.YtgjgihlfkpbdgaaVg
namespace Go.Proofs.Ytgjgihlfkpbdgaa
open Go.RowKit

noncomputable section
def chB (w : Wd) (l : List Sn) : Bool := match chk w with
  | true => valB l w.r.length
  | false => false
theorem chM_t {w : Wd} {l : List Sn} (h : chB w l = true) : chM w l = 0 := by
  unfold chB at h
  unfold chM
  split at h
  · rename_i h1
    rw [h1, h]
  · cases h
theorem chM_f {w : Wd} {l : List Sn} (h : chB w l = false) : chM w l = 8 := by
  unfold chB at h
  unfold chM
  split at h
  · rename_i h1
    rw [h1, h]
  · rename_i h1
    rw [h1]
def tmB (t : Int) : Bool := inB t 0 1099511627776
def tmO (t u : Int) : Bool := match tmB t with
  | true => tmB u
  | false => false
def asM (w : Wd) (l : List Sn) (j : Int) (b : Bool) : Int := match chB w l with
  | true => match inI w j with
    | true => match b with
      | true => 0
      | false => 2
    | false => 2
  | false => 8
theorem tmB_f {t : Int} (h : tmB t = false) : decide (t < 0) = true ∨ (decide (t < 0) = false ∧ decide (t > 1099511627776) = true) := by
  have : ¬ (0 ≤ t ∧ t ≤ 1099511627776) := fun q => by
    have := (inB_iff t 0 1099511627776).2 q
    unfold tmB at h
    rw [h] at this
    cases this
  by_cases h0 : t < 0
  · exact .inl (decide_eq_true h0)
  · exact .inr ⟨decide_eq_false h0, decide_eq_true (by omega)⟩
theorem tmB_t {t : Int} (h : tmB t = true) : decide (t < 0) = false ∧ decide (t > 1099511627776) = false := by
  have := (inB_iff _ _ _).1 h
  exact ⟨decide_eq_false (by omega), decide_eq_false (by omega)⟩
theorem inI_t' {w : Wd} {i : Int} (h : inI w i = true) : decide (i < 0) = false ∧ decide (i ≥ ((rsR w.r).length : Int)) = false := by
  have e := rsR_length w.r
  have := (nd_iff w i).1 h
  have h1 := this.lo
  have h2 := this.hi
  exact ⟨decide_eq_false (by omega), decide_eq_false (by omega)⟩
set_option maxRecDepth 1000000 in
theorem bu0 (w : Wd) (l : List Sn) (j t : Int) : zflat (zans Try.prog tab ftab (calC fMk [wdD w, snL l] (iI 8)) fBs [wdD w, snL l, iI j, iI t] [(16, .c [(14, .q (iI 8))])]) = some ((DV.tuple [(DV.bool false), (DV.int (IntKind.i64) 8)]), ((calC 12 [(wdD w), (snL l)] (iI 8) 12 [(DV.agg (List.take 2 (List.drop 0 (List.take 2 (List.drop 0 (wdC w)))))), (snL l)] (Hp.mk 4 [(Ob.mk 0 0 25 (wdC w)), (Ob.mk 0 0 3 [(iI t)]), (Ob.mk 0 0 3 [(iI t)]), (Ob.mk 0 0 25 (wdC w))] [])) = (Option.some ((iI 8), (Hp.mk 4 [(Ob.mk 0 0 25 (wdC w)), (Ob.mk 0 0 3 [(iI t)]), (Ob.mk 0 0 3 [(iI t)]), (Ob.mk 0 0 25 (wdC w))] []), Option.none))) :: []) := by kernel_rfl
set_option maxRecDepth 1000000 in
theorem bu1 (w : Wd) (l : List Sn) (j t : Int) : zflat (zans Try.prog tab ftab (calC fMk [wdD w, snL l] (iI 0)) fBs [wdD w, snL l, iI j, iI t] [(16, .c [(14, .q (iI 0)), (19, .b true)])]) = some ((DV.tuple [(DV.bool false), (DV.int (IntKind.i64) 2)]), ((calC 12 [(wdD w), (snL l)] (iI 0) 12 [(DV.agg (List.take 2 (List.drop 0 (List.take 2 (List.drop 0 (wdC w)))))), (snL l)] (Hp.mk 4 [(Ob.mk 0 0 25 (wdC w)), (Ob.mk 0 0 3 [(iI t)]), (Ob.mk 0 0 3 [(iI t)]), (Ob.mk 0 0 25 (wdC w))] [])) = (Option.some ((iI 0), (Hp.mk 4 [(Ob.mk 0 0 25 (wdC w)), (Ob.mk 0 0 3 [(iI t)]), (Ob.mk 0 0 3 [(iI t)]), (Ob.mk 0 0 25 (wdC w))] []), Option.none))) :: ((decide (j < 0)) = true) :: []) := by kernel_rfl
set_option maxRecDepth 1000000 in
theorem bu2 (w : Wd) (l : List Sn) (j t : Int) : zflat (zans Try.prog tab ftab (calC fMk [wdD w, snL l] (iI 0)) fBs [wdD w, snL l, iI j, iI t] [(16, .c [(14, .q (iI 0)), (19, .b false), (25, .b true)])]) = some ((DV.tuple [(DV.bool false), (DV.int (IntKind.i64) 2)]), ((calC 12 [(wdD w), (snL l)] (iI 0) 12 [(DV.agg (List.take 2 (List.drop 0 (List.take 2 (List.drop 0 (wdC w)))))), (snL l)] (Hp.mk 4 [(Ob.mk 0 0 25 (wdC w)), (Ob.mk 0 0 3 [(iI t)]), (Ob.mk 0 0 3 [(iI t)]), (Ob.mk 0 0 25 (wdC w))] [])) = (Option.some ((iI 0), (Hp.mk 4 [(Ob.mk 0 0 25 (wdC w)), (Ob.mk 0 0 3 [(iI t)]), (Ob.mk 0 0 3 [(iI t)]), (Ob.mk 0 0 25 (wdC w))] []), Option.none))) :: ((decide (j < 0)) = false) :: ((decide (j ≥ (↑(List.length (rsR w.r)) : Int))) = true) :: []) := by kernel_rfl
set_option maxRecDepth 1000000 in
theorem bu3 (w : Wd) (l : List Sn) (j t : Int) : zflat (zans Try.prog tab ftab (calC fMk [wdD w, snL l] (iI 0)) fBs [wdD w, snL l, iI j, iI t] [(16, .c [(14, .q (iI 0)), (19, .b false), (25, .b false), (34, .b true)])]) = some ((DV.tuple [(DV.bool false), (DV.int (IntKind.i64) 2)]), ((calC 12 [(wdD w), (snL l)] (iI 0) 12 [(DV.agg (List.take 2 (List.drop 0 (List.take 2 (List.drop 0 (wdC w)))))), (snL l)] (Hp.mk 4 [(Ob.mk 0 0 25 (wdC w)), (Ob.mk 0 0 3 [(iI t)]), (Ob.mk 0 0 3 [(iI t)]), (Ob.mk 0 0 25 (wdC w))] [])) = (Option.some ((iI 0), (Hp.mk 4 [(Ob.mk 0 0 25 (wdC w)), (Ob.mk 0 0 3 [(iI t)]), (Ob.mk 0 0 3 [(iI t)]), (Ob.mk 0 0 25 (wdC w))] []), Option.none))) :: ((decide (j < 0)) = false) :: ((decide (j ≥ (↑(List.length (rsR w.r)) : Int))) = false) :: ((decide (t < 0)) = true) :: []) := by kernel_rfl
set_option maxRecDepth 1000000 in
theorem bu4 (w : Wd) (l : List Sn) (j t : Int) : zflat (zans Try.prog tab ftab (calC fMk [wdD w, snL l] (iI 0)) fBs [wdD w, snL l, iI j, iI t] [(16, .c [(14, .q (iI 0)), (19, .b false), (25, .b false), (34, .b false), (37, .b true)])]) = some ((DV.tuple [(DV.bool false), (DV.int (IntKind.i64) 2)]), ((calC 12 [(wdD w), (snL l)] (iI 0) 12 [(DV.agg (List.take 2 (List.drop 0 (List.take 2 (List.drop 0 (wdC w)))))), (snL l)] (Hp.mk 4 [(Ob.mk 0 0 25 (wdC w)), (Ob.mk 0 0 3 [(iI t)]), (Ob.mk 0 0 3 [(iI t)]), (Ob.mk 0 0 25 (wdC w))] [])) = (Option.some ((iI 0), (Hp.mk 4 [(Ob.mk 0 0 25 (wdC w)), (Ob.mk 0 0 3 [(iI t)]), (Ob.mk 0 0 3 [(iI t)]), (Ob.mk 0 0 25 (wdC w))] []), Option.none))) :: ((decide (j < 0)) = false) :: ((decide (j ≥ (↑(List.length (rsR w.r)) : Int))) = false) :: ((decide (t < 0)) = false) :: ((decide (t > 1099511627776)) = true) :: []) := by kernel_rfl
set_option maxRecDepth 1000000 in
theorem bu5 (w : Wd) (l r : List Sn) (j t : Int) (b : Bool) : zflat (zans Try.prog tab ftab (orK (calC fMk [wdD w, snL l] (iI 0)) (calC fNt [wdD w, snL l, iI j] (snL r))) fBs [wdD w, snL l, iI j, iI t] [(16, .c [(14, .q (iI 0)), (19, .b false), (25, .b false), (34, .b false), (37, .b false)]), (60004, .t 5 [] (.bool b) (hBu w t)), (23, .q (snL r))]) = some ((DV.tuple [(DV.bool b), (DV.int IntKind.i64 0)]), ((orK (calC fMk [wdD w, snL l] (iI 0)) (calC fNt [wdD w, snL l, iI j] (snL r)) 12 [(DV.agg (List.take 2 (List.drop 0 (List.take 2 (List.drop 0 (wdC w)))))), (snL l)] (Hp.mk 4 [(Ob.mk 0 0 25 (wdC w)), (Ob.mk 0 0 3 [(iI t)]), (Ob.mk 0 0 3 [(iI t)]), (Ob.mk 0 0 25 (wdC w))] [])) = (Option.some ((iI 0), (Hp.mk 4 [(Ob.mk 0 0 25 (wdC w)), (Ob.mk 0 0 3 [(iI t)]), (Ob.mk 0 0 3 [(iI t)]), (Ob.mk 0 0 25 (wdC w))] []), Option.none))) :: ((decide (j < 0)) = false) :: ((decide (j ≥ (↑(List.length (rsR w.r)) : Int))) = false) :: ((decide (t < 0)) = false) :: ((decide (t > 1099511627776)) = false) :: ((orK (calC fMk [wdD w, snL l] (iI 0)) (calC fNt [wdD w, snL l, iI j] (snL r)) 38 [(DV.agg (List.take 2 (List.drop 0 (wdC w)))), (snL l), (iI j)] (hBu w t)) = (Option.some ((snL r), (hBu w t), Option.none))) :: (AnsH (Try.prog) 37 [(DV.list 4 (snR r)), (DV.fn 39 [] [(DV.ptr 1 0)])] (hBu w t) (DV.bool b) (hBu w t)) :: []) := by kernel_rfl
def buV (w : Wd) (l : List Sn) (j t : Int) : Bool := decide (ifV (atB t) (noL w j l) ≥ 0)
def buO (w : Wd) (l : List Sn) (j t : Int) : Bool := match asM w l j (tmB t) == 0 with
  | true => buV w l j t
  | false => false
def buD (w : Wd) (l : List Sn) (j t : Int) : DV := .tuple [.bool (buO w l j t), iI (asM w l j (tmB t))]
theorem noL_len (w : Wd) (j : Int) (l : List Sn) : (noL w j l).length ≤ l.length := filN_len _ _ _
theorem chB_len {w : Wd} {l : List Sn} (h : chB w l = true) : l.length ≤ 64 := by
  unfold chB valB at h
  split at h
  · split at h
    · cases h
    · rename_i h1
      have := of_decide_eq_false h1
      omega
  · cases h
theorem mk_t {w : Wd} {l : List Sn} (ok : OkW w) (hl : l.length < 2 ^ 63) (h : chB w l = true) : Ans Try.prog fMk [wdD w, snL l] (iI 0) ⟨0, [], []⟩ := by
  have := mk_ans w ok l hl
  rwa [chM_t h] at this
theorem mk_f {w : Wd} {l : List Sn} (ok : OkW w) (hl : l.length < 2 ^ 63) (h : chB w l = false) : Ans Try.prog fMk [wdD w, snL l] (iI 8) ⟨0, [], []⟩ := by
  have := mk_ans w ok l hl
  rwa [chM_f h] at this
theorem bu_ans (w : Wd) (ok : OkW w) (l : List Sn) (hl : l.length < 2 ^ 63) (j t : Int) : Ans Try.prog fBs [wdD w, snL l, iI j, iI t] (buD w l j t) ⟨0, [], []⟩ := by
  unfold buD buO asM
  cases h1 : chB w l with
  | false =>
    have a := calC_ok (mk_f ok hl h1)
    exact zflat_ok tab_ok mixed fun_ok a (bu0 w l j t) (.cons (calC_at _ rfl rfl) .nil)
  | true =>
    have m := mk_t ok hl h1
    have a := calC_ok m
    have n := chB_len h1
    cases h2 : inI w j with
    | false =>
      rcases inI_f h2 with q | ⟨q, q2⟩
      · exact zflat_ok tab_ok mixed fun_ok a (bu1 w l j t) (.cons (calC_at _ rfl rfl) (.cons (by assumption) .nil))
      · exact zflat_ok tab_ok mixed fun_ok a (bu2 w l j t) (.cons (calC_at _ rfl rfl) (.cons (by assumption) (.cons (by assumption) .nil)))
    | true =>
      obtain ⟨q1, q2⟩ := inI_t' h2
      cases h3 : tmB t with
      | false =>
        rcases tmB_f h3 with q | ⟨q, q3⟩
        · exact zflat_ok tab_ok mixed fun_ok a (bu3 w l j t) (.cons (calC_at _ rfl rfl) (.cons (by assumption) (.cons (by assumption) (.cons (by assumption) .nil))))
        · exact zflat_ok tab_ok mixed fun_ok a (bu4 w l j t) (.cons (calC_at _ rfl rfl) (.cons (by assumption) (.cons (by assumption) (.cons (by assumption) (.cons (by assumption) .nil)))))
      | true =>
        obtain ⟨q3, q4⟩ := tmB_t h3
        have b := no_ans w ok l j (by omega)
        have g := xu_cf w t (noL w j l) (by have := noL_len w j l; omega)
        exact zflat_ok tab_ok mixed fun_ok (orK_ok a (calC_ok b)) (bu5 w l (noL w j l) j t (buV w l j t)) (.cons (orK_left (calC_at _ rfl rfl)) (.cons (by assumption) (.cons (by assumption) (.cons (by assumption) (.cons (by assumption) (.cons (orK_right (calC_oth (by kernel_rfl)) (calC_at _ rfl rfl)) (.cons g .nil)))))))
end
end Go.Proofs.Ytgjgihlfkpbdgaa
