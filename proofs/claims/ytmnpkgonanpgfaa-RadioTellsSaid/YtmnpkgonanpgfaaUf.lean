/- Levels and hearing: contracts, of the program and of the reference. -/
import Derived.Test.YtmnpkgonanpgfaaUe
namespace Go.Proofs.Ytmnpkgonanpgfaa
open Go.RowKit

noncomputable section
/-! ### What is told -/
def rI (w : Wd) (i : Int) : Rw := w.r.getD i.toNat ⟨0, 0, 0, 0⟩
def sI (w : Wd) (i j : Int) : Int := (w.s.getD i.toNat []).getD j.toNat 0
def inI (w : Wd) (i : Int) : Bool := inB i 0 ((w.r.length : Int) - 1)
def okA (w : Wd) (i j : Int) : Bool := match chk w with
  | true => match inI w i with
    | true => inI w j
    | false => false
  | false => false
def asE (w : Wd) (i j : Int) : Int := match chk w with
  | true => match inI w i with
    | true => match inI w j with
      | true => 0
      | false => 2
    | false => 2
  | false => 8
def ds (w : Wd) (i j : Int) : Int := rt (sqs (rI w i).x (rI w i).y (rI w j).x (rI w j).y)
def l0 (w : Wd) (i j : Int) : Int := (rI w i).p - ls0 (ds w i j)
def lv (w : Wd) (i j : Int) : Int := match decide (w.s.length = 0) with
  | true => l0 w i j
  | false => l0 w i j - sI w i j
def hr (w : Wd) (j i : Int) : Bool := match i != j with
  | true => match (rI w i).c == (rI w j).c with
    | true => decide (lv w i j ≥ -820)
    | false => false
  | false => false
def lvV (w : Wd) (i j : Int) : Int := match okA w i j with
  | true => lv w i j
  | false => 0
def hrV (w : Wd) (j i : Int) : Bool := match okA w j i with
  | true => hr w j i
  | false => false
/-- a node -/
structure Nd (w : Wd) (i : Int) : Prop where
  lo : 0 ≤ i
  hi : i < (w.r.length : Int)
theorem nd_iff (w : Wd) (i : Int) : inI w i = true ↔ Nd w i := by
  unfold inI
  rw [inB_iff]
  exact ⟨fun h => ⟨h.1, by omega⟩, fun h => ⟨h.lo, by have := h.hi; omega⟩⟩
/-- a valid world -/
structure Va (w : Wd) : Prop where
  n1 : 1 ≤ w.r.length
  n2 : w.r.length ≤ 32
  r : ∀ k, k < w.r.length → vr (w.r.getD k ⟨0, 0, 0, 0⟩) = true
  s : w.s.length = 0 ∨ (w.s.length = w.r.length ∧ ∀ k, k < w.r.length → rowB w.r.length k (w.s.getD k []) = true)
theorem va_iff (w : Wd) : chk w = true ↔ Va w := by
  unfold chk shB okR
  constructor
  · intro h
    split at h
    · rename_i h1
      have h1 := (inB_iff _ _ _).1 h1
      split at h
      · rename_i h2
        refine ⟨by omega, by omega, allB_t.1 h2, ?_⟩
        split at h
        · rename_i h3
          exact .inl (of_decide_eq_true h3)
        · split at h
          · rename_i h4
            exact .inr ⟨of_decide_eq_true h4, allB_t.1 h⟩
          · cases h
      · cases h
    · cases h
  · intro h
    have h1 := h.n1
    have h2 := h.n2
    rw [(inB_iff _ _ _).2 ⟨by omega, by omega⟩]
    have h3 := h.r
    rw [allB_t.2 h3]
    dsimp only
    rcases h.s with h4 | ⟨h4, h5⟩
    · rw [decide_eq_true h4]
    · rw [decide_eq_false (by omega), decide_eq_true h4]
      exact allB_t.2 h5
section
variable {w : Wd} (va : Va w)
include va
theorem Va.rad {i : Int} (hi : Nd w i) : (-10000 ≤ (rI w i).x ∧ (rI w i).x ≤ 10000) ∧ (-10000 ≤ (rI w i).y ∧ (rI w i).y ≤ 10000) ∧ (0 ≤ (rI w i).p ∧ (rI w i).p ≤ 300) ∧ 1 ≤ (rI w i).c ∧ (rI w i).c ≤ 64 := by
  have h1 := hi.lo
  have h2 := hi.hi
  exact (vr_iff _).1 (va.r i.toNat (by omega))
theorem Va.dsB {i j : Int} (hi : Nd w i) (hj : Nd w j) : dsB (rI w i).x (rI w i).y (rI w j).x (rI w j).y = true := by
  have a := va.rad hi
  have b := va.rad hj
  exact (dsB_iff _ _ _ _).2 ⟨a.1, a.2.1, b.1, b.2.1⟩
theorem Va.ds_in {i j : Int} (hi : Nd w i) (hj : Nd w j) : 0 ≤ ds w i j ∧ ds w i j ≤ 28284 := by
  have := sqs_in (va.dsB hi hj)
  exact ⟨(rt_ok this.1).1, rt_le this.1 this.2⟩
theorem Va.row {k : Nat} (h0 : w.s.length ≠ 0) (hk : k < w.r.length) : (w.s.getD k []).length = w.r.length ∧ (w.s.getD k []).getD k 0 = 0 ∧ ∀ j, j < w.r.length → 0 ≤ (w.s.getD k []).getD j 0 ∧ (w.s.getD k []).getD j 0 ≤ 600 := by
  rcases va.s with h | ⟨_, h⟩
  · exact absurd h h0
  · have := h k hk
    unfold rowB at this
    split at this
    · rename_i h1
      split at this
      · rename_i h2
        exact ⟨of_decide_eq_true h1, of_decide_eq_true h2, fun j hj => (inB_iff _ _ _).1 (allB_t.1 this j hj)⟩
      · cases this
    · cases this
theorem Va.slen (h0 : w.s.length ≠ 0) : w.s.length = w.r.length := by
  rcases va.s with h | ⟨h, _⟩
  · exact absurd h h0
  · exact h
theorem Va.sI_in {i j : Int} (h0 : w.s.length ≠ 0) (hi : Nd w i) (hj : Nd w j) : 0 ≤ sI w i j ∧ sI w i j ≤ 600 := by
  have h1 := hi.lo
  have h2 := hi.hi
  have h3 := hj.lo
  have h4 := hj.hi
  exact (va.row h0 (k := i.toNat) (by omega)).2.2 j.toNat (by omega)
end
theorem ls0_in {d : Int} (h : d ≤ 30000) : 400 ≤ ls0 d ∧ ls0 d ≤ 1300 := by
  have := log_in h
  unfold ls0
  omega
theorem rI_at {w : Wd} {i : Int} (h : Nd w i) : idxOk i (rsR w.r).length = true ∧ nth (rsR w.r) i.toNat = some (rC (rI w i)) := by
  have h1 := h.lo
  have h2 := h.hi
  refine ⟨idxOk_in h1 (by rw [rsR_length]; exact h2), ?_⟩
  obtain ⟨k, rfl⟩ := Int.eq_ofNat_of_zero_le h1
  exact rsR_at (get_in _ (by omega))
theorem sI_at {w : Wd} (va : Va w) (h0 : w.s.length ≠ 0) {i j : Int} (hi : Nd w i) (hj : Nd w j) : idxOk i (ssR w.s).length = true ∧ nth (ssR w.s) i.toNat = some [.list 1 (i1 (w.s.getD i.toNat []))] ∧ idxOk j (i1 (w.s.getD i.toNat [])).length = true ∧ nth (i1 (w.s.getD i.toNat [])) j.toNat = some [iI (sI w i j)] := by
  have h1 := hi.lo
  have h2 := hi.hi
  have h3 := hj.lo
  have h4 := hj.hi
  have hl := va.slen h0
  have hr := (va.row h0 (k := i.toNat) (by omega)).1
  refine ⟨idxOk_in h1 (by rw [ssR_length]; omega), ?_, idxOk_in h3 (by rw [i1_length]; omega), ?_⟩
  · obtain ⟨k, rfl⟩ := Int.eq_ofNat_of_zero_le h1
    exact ssR_at (get_in _ (by omega))
  · obtain ⟨k, rfl⟩ := Int.eq_ofNat_of_zero_le h3
    exact i1_at (get_in _ (by omega))
/-! ### level -/
abbrev fLv : FuncId := 40
def cDL : ConF := orK cDs cLs
theorem cDL_ok : ConOk Try.prog cDL := orK_ok cDs_ok cLs_ok
set_option maxRecDepth 1000000 in
theorem lv1 (w : Wd) (i j v _u _z : Int) (a c : Rw) (_ys : List (List DV)) : zflat (zans Try.prog tab ftab cDL fLv [wdD w, iI i, iI j] [(17, .n (.fptr (rC a))), (22, .n (.fptr (rC c))), (44, .w (iI v)), (48, .b false)]) = some (iI v, ((idxOk i (rsR w.r).length) = true) :: (nth (rsR w.r) i.toNat = some (rC a)) :: ((idxOk j (rsR w.r).length) = true) :: (nth (rsR w.r) j.toNat = some (rC c)) :: (DV.int .i64 (IntKind.i64.wrap (a.p - lsV (dsV a.x a.y c.x c.y))) = iI v) :: ((decide (((ssR w.s).length : Int) > 0)) = false) :: []) := by kernel_rfl
set_option maxRecDepth 1000000 in
theorem lv2 (w : Wd) (i j v u z : Int) (a c : Rw) (ys : List (List DV)) : zflat (zans Try.prog tab ftab cDL fLv [wdD w, iI i, iI j] [(17, .n (.fptr (rC a))), (22, .n (.fptr (rC c))), (44, .w (iI v)), (48, .b true), (53, .n (.fptr [.list 1 ys])), (56, .n (.fptr [iI z])), (58, .w (iI u))]) = some (iI u, ((idxOk i (rsR w.r).length) = true) :: (nth (rsR w.r) i.toNat = some (rC a)) :: ((idxOk j (rsR w.r).length) = true) :: (nth (rsR w.r) j.toNat = some (rC c)) :: (DV.int .i64 (IntKind.i64.wrap (a.p - lsV (dsV a.x a.y c.x c.y))) = iI v) :: ((decide (((ssR w.s).length : Int) > 0)) = true) :: ((idxOk i (ssR w.s).length) = true) :: (nth (ssR w.s) i.toNat = some [.list 1 ys]) :: ((idxOk j ys.length) = true) :: (nth ys j.toNat = some [iI z]) :: (DV.int .i64 (IntKind.i64.wrap (v - z)) = iI u) :: []) := by kernel_rfl
theorem l0_at {w : Wd} (va : Va w) {i j : Int} (hi : Nd w i) (hj : Nd w j) : DV.int .i64 (IntKind.i64.wrap ((rI w i).p - lsV (dsV (rI w i).x (rI w i).y (rI w j).x (rI w j).y))) = iI (l0 w i j) := by
  have hd := va.ds_in hi hj
  have hl := ls0_in (d := ds w i j) (by omega)
  have hp := va.rad hi
  unfold dsV
  rw [va.dsB hi hj]
  have q : lsV (ds w i j) = ls0 (ds w i j) := by
    unfold lsV
    rw [(inB_iff _ _ _).2 ⟨hd.1, by omega⟩]
  show DV.int .i64 (IntKind.i64.wrap ((rI w i).p - lsV (ds w i j))) = _
  rw [q]
  exact congrArg (DV.int .i64) (wrapZ (x := (rI w i).p - ls0 (ds w i j)) (by omega) (by omega))
theorem l0_in {w : Wd} (va : Va w) {i j : Int} (hi : Nd w i) (hj : Nd w j) : -1300 ≤ l0 w i j ∧ l0 w i j ≤ 300 := by
  have hd := va.ds_in hi hj
  have hl := ls0_in (d := ds w i j) (by omega)
  have hp := va.rad hi
  unfold l0
  omega
theorem lv_ans (w : Wd) (va : Va w) (i j : Int) (hi : Nd w i) (hj : Nd w j) : Ans Try.prog fLv [wdD w, iI i, iI j] (iI (lv w i j)) ⟨0, [], []⟩ := by
  have ai := rI_at hi
  have aj := rI_at hj
  have hl := l0_in va hi hj
  have e := ssR_length w.s
  unfold lv
  by_cases h0 : w.s.length = 0
  · rw [decide_eq_true h0]
    exact zflat_ok tab_ok mixed fun_ok cDL_ok (lv1 w i j (l0 w i j) 0 0 (rI w i) (rI w j) []) (.cons ai.1 (.cons ai.2 (.cons aj.1 (.cons aj.2 (.cons (l0_at va hi hj) (.cons (decide_eq_false (by omega)) .nil))))))
  · rw [decide_eq_false h0]
    have sa := sI_at va h0 hi hj
    have si := va.sI_in h0 hi hj
    exact zflat_ok tab_ok mixed fun_ok cDL_ok (lv2 w i j (l0 w i j) (l0 w i j - sI w i j) (sI w i j) (rI w i) (rI w j) (i1 (w.s.getD i.toNat []))) (.cons ai.1 (.cons ai.2 (.cons aj.1 (.cons aj.2 (.cons (l0_at va hi hj) (.cons (decide_eq_true (by omega)) (.cons sa.1 (.cons sa.2.1 (.cons sa.2.2.1 (.cons sa.2.2.2 (.cons (congrArg (DV.int .i64) (wrapZ (by omega) (by omega))) .nil)))))))))))
/-! ### the reference's Leveled -/
abbrev fRv : FuncId := 49
set_option maxRecDepth 1000000 in
theorem rv1 (w : Wd) (i j v _u _z _d l : Int) (a c : Rw) (_ys : List (List DV)) : zflat (zans Try.prog tab ftab (orK cRd (calC fLo [iI (dsV a.x a.y c.x c.y)] (iI l))) fRv [wdD w, iI i, iI j] [(14, .n (.fptr (rC a))), (20, .n (.fptr (rC a))), (26, .n (.fptr (rC c))), (32, .n (.fptr (rC c))), (41, .n (.fptr (rC a))), (45, .q (iI l)), (46, .w (iI v)), (50, .b false)]) = some (iI v, ((idxOk i (rsR w.r).length) = true) :: (nth (rsR w.r) i.toNat = some (rC a)) :: ((idxOk i (rsR w.r).length) = true) :: (nth (rsR w.r) i.toNat = some (rC a)) :: ((idxOk j (rsR w.r).length) = true) :: (nth (rsR w.r) j.toNat = some (rC c)) :: ((idxOk j (rsR w.r).length) = true) :: (nth (rsR w.r) j.toNat = some (rC c)) :: ((idxOk i (rsR w.r).length) = true) :: (nth (rsR w.r) i.toNat = some (rC a)) :: ((orK cRd (calC fLo [iI (dsV a.x a.y c.x c.y)] (iI l))) fLo [iI (dsV a.x a.y c.x c.y)] (hW w) = some (iI l, hW w, none)) :: (DV.int .i64 (IntKind.i64.wrap (a.p - l)) = iI v) :: ((decide (((ssR w.s).length : Int) > 0)) = false) :: []) := by kernel_rfl
set_option maxRecDepth 1000000 in
theorem rv2 (w : Wd) (i j v u z _d l : Int) (a c : Rw) (ys : List (List DV)) : zflat (zans Try.prog tab ftab (orK cRd (calC fLo [iI (dsV a.x a.y c.x c.y)] (iI l))) fRv [wdD w, iI i, iI j] [(14, .n (.fptr (rC a))), (20, .n (.fptr (rC a))), (26, .n (.fptr (rC c))), (32, .n (.fptr (rC c))), (41, .n (.fptr (rC a))), (45, .q (iI l)), (46, .w (iI v)), (50, .b true), (55, .n (.fptr [.list 1 ys])), (58, .n (.fptr [iI z])), (60, .w (iI u))]) = some (iI u, ((idxOk i (rsR w.r).length) = true) :: (nth (rsR w.r) i.toNat = some (rC a)) :: ((idxOk i (rsR w.r).length) = true) :: (nth (rsR w.r) i.toNat = some (rC a)) :: ((idxOk j (rsR w.r).length) = true) :: (nth (rsR w.r) j.toNat = some (rC c)) :: ((idxOk j (rsR w.r).length) = true) :: (nth (rsR w.r) j.toNat = some (rC c)) :: ((idxOk i (rsR w.r).length) = true) :: (nth (rsR w.r) i.toNat = some (rC a)) :: ((orK cRd (calC fLo [iI (dsV a.x a.y c.x c.y)] (iI l))) fLo [iI (dsV a.x a.y c.x c.y)] (hW w) = some (iI l, hW w, none)) :: (DV.int .i64 (IntKind.i64.wrap (a.p - l)) = iI v) :: ((decide (((ssR w.s).length : Int) > 0)) = true) :: ((idxOk i (ssR w.s).length) = true) :: (nth (ssR w.s) i.toNat = some [.list 1 ys]) :: ((idxOk j ys.length) = true) :: (nth ys j.toNat = some [iI z]) :: (DV.int .i64 (IntKind.i64.wrap (v - z)) = iI u) :: []) := by kernel_rfl
theorem rv_ans (w : Wd) (va : Va w) (i j : Int) (hi : Nd w i) (hj : Nd w j) : Ans Try.prog fRv [wdD w, iI i, iI j] (iI (lv w i j)) ⟨0, [], []⟩ := by
  have ai := rI_at hi
  have aj := rI_at hj
  have hl := l0_in va hi hj
  have e := ssR_length w.s
  have hd := va.ds_in hi hj
  have ed : dsV (rI w i).x (rI w i).y (rI w j).x (rI w j).y = ds w i j := by
    unfold dsV
    rw [va.dsB hi hj]
    rfl
  have ha := lo_ans (ds w i j) (by omega)
  have hw : DV.int .i64 (IntKind.i64.wrap ((rI w i).p - ls0 (ds w i j))) = iI (l0 w i j) := congrArg (DV.int .i64) (wrapZ (x := (rI w i).p - ls0 (ds w i j)) (by unfold l0 at hl; omega) (by unfold l0 at hl; omega))
  rw [← ed] at ha
  unfold lv
  by_cases h0 : w.s.length = 0
  · rw [decide_eq_true h0]
    exact zflat_ok tab_ok mixed fun_ok (orK_ok cRd_ok (calC_ok ha)) (rv1 w i j (l0 w i j) 0 0 0 _ (rI w i) (rI w j) []) (.cons ai.1 (.cons ai.2 (.cons ai.1 (.cons ai.2 (.cons aj.1 (.cons aj.2 (.cons aj.1 (.cons aj.2 (.cons ai.1 (.cons ai.2 (.cons (orK_right (lift_oth rfl) (calC_at _ rfl rfl)) (.cons (by rw [ed]; exact hw) (.cons (decide_eq_false (by omega)) .nil)))))))))))))
  · rw [decide_eq_false h0]
    have sa := sI_at va h0 hi hj
    have si := va.sI_in h0 hi hj
    exact zflat_ok tab_ok mixed fun_ok (orK_ok cRd_ok (calC_ok ha)) (rv2 w i j (l0 w i j) (l0 w i j - sI w i j) (sI w i j) 0 _ (rI w i) (rI w j) (i1 (w.s.getD i.toNat []))) (.cons ai.1 (.cons ai.2 (.cons ai.1 (.cons ai.2 (.cons aj.1 (.cons aj.2 (.cons aj.1 (.cons aj.2 (.cons ai.1 (.cons ai.2 (.cons (orK_right (lift_oth rfl) (calC_at _ rfl rfl)) (.cons (by rw [ed]; exact hw) (.cons (decide_eq_true (by omega)) (.cons sa.1 (.cons sa.2.1 (.cons sa.2.2.1 (.cons sa.2.2.2 (.cons (congrArg (DV.int .i64) (wrapZ (by omega) (by omega))) .nil))))))))))))))))))
/-! ### hears, Heard -/
abbrev fHe : FuncId := 39
abbrev fRh : FuncId := 50
set_option maxRecDepth 1000000 in
theorem he1 (w : Wd) (i j l : Int) (_a _c : Rw) : zflat (zans Try.prog tab ftab (calC fLv [wdD w, iI i, iI j] (iI l)) fHe [wdD w, iI j, iI i] [(9, .b false)]) = some (.bool false, (((i != j)) = false) :: []) := by kernel_rfl
set_option maxRecDepth 1000000 in
theorem he2 (w : Wd) (i j l : Int) (a c : Rw) : zflat (zans Try.prog tab ftab (calC fLv [wdD w, iI i, iI j] (iI l)) fHe [wdD w, iI j, iI i] [(9, .b true), (14, .n (.fptr (rC a))), (20, .n (.fptr (rC c))), (23, .b false)]) = some (.bool false, (((i != j)) = true) :: ((idxOk i (rsR w.r).length) = true) :: (nth (rsR w.r) i.toNat = some (rC a)) :: ((idxOk j (rsR w.r).length) = true) :: (nth (rsR w.r) j.toNat = some (rC c)) :: (((a.c == c.c)) = false) :: []) := by kernel_rfl
set_option maxRecDepth 1000000 in
theorem he3 (w : Wd) (i j l : Int) (a c : Rw) : zflat (zans Try.prog tab ftab (calC fLv [wdD w, iI i, iI j] (iI l)) fHe [wdD w, iI j, iI i] [(9, .b true), (14, .n (.fptr (rC a))), (20, .n (.fptr (rC c))), (23, .b true), (29, .q (iI l))]) = some (.bool (decide (l ≥ -820)), (((i != j)) = true) :: ((idxOk i (rsR w.r).length) = true) :: (nth (rsR w.r) i.toNat = some (rC a)) :: ((idxOk j (rsR w.r).length) = true) :: (nth (rsR w.r) j.toNat = some (rC c)) :: (((a.c == c.c)) = true) :: ((calC fLv [wdD w, iI i, iI j] (iI l)) fLv [wdD w, iI i, iI j] (hW w) = some (iI l, hW w, none)) :: []) := by kernel_rfl
theorem he_ans (w : Wd) (va : Va w) (j i : Int) (hj : Nd w j) (hi : Nd w i) : Ans Try.prog fHe [wdD w, iI j, iI i] (.bool (hr w j i)) ⟨0, [], []⟩ := by
  have ai := rI_at hi
  have aj := rI_at hj
  have hk := calC_ok (lv_ans w va i j hi hj)
  unfold hr
  cases h1 : i != j with
  | false => exact zflat_ok tab_ok mixed fun_ok hk (he1 w i j _ (rI w i) (rI w j)) (.cons h1 .nil)
  | true =>
    cases h2 : (rI w i).c == (rI w j).c with
    | false => exact zflat_ok tab_ok mixed fun_ok hk (he2 w i j _ (rI w i) (rI w j)) (.cons h1 (.cons ai.1 (.cons ai.2 (.cons aj.1 (.cons aj.2 (.cons h2 .nil))))))
    | true => exact zflat_ok tab_ok mixed fun_ok hk (he3 w i j _ (rI w i) (rI w j)) (.cons h1 (.cons ai.1 (.cons ai.2 (.cons aj.1 (.cons aj.2 (.cons h2 (.cons (calC_at _ rfl rfl) .nil)))))))
set_option maxRecDepth 1000000 in
theorem rh1 (w : Wd) (i j l : Int) (_a _c : Rw) : zflat (zans Try.prog tab ftab (calC fRv [wdD w, iI i, iI j] (iI l)) fRh [wdD w, iI j, iI i] [(9, .b false)]) = some (.bool false, (((i != j)) = false) :: []) := by kernel_rfl
set_option maxRecDepth 1000000 in
theorem rh2 (w : Wd) (i j l : Int) (a c : Rw) : zflat (zans Try.prog tab ftab (calC fRv [wdD w, iI i, iI j] (iI l)) fRh [wdD w, iI j, iI i] [(9, .b true), (14, .n (.fptr (rC a))), (20, .n (.fptr (rC c))), (23, .b false)]) = some (.bool false, (((i != j)) = true) :: ((idxOk i (rsR w.r).length) = true) :: (nth (rsR w.r) i.toNat = some (rC a)) :: ((idxOk j (rsR w.r).length) = true) :: (nth (rsR w.r) j.toNat = some (rC c)) :: (((a.c == c.c)) = false) :: []) := by kernel_rfl
set_option maxRecDepth 1000000 in
theorem rh3 (w : Wd) (i j l : Int) (a c : Rw) : zflat (zans Try.prog tab ftab (calC fRv [wdD w, iI i, iI j] (iI l)) fRh [wdD w, iI j, iI i] [(9, .b true), (14, .n (.fptr (rC a))), (20, .n (.fptr (rC c))), (23, .b true), (29, .q (iI l))]) = some (.bool (decide (l ≥ -820)), (((i != j)) = true) :: ((idxOk i (rsR w.r).length) = true) :: (nth (rsR w.r) i.toNat = some (rC a)) :: ((idxOk j (rsR w.r).length) = true) :: (nth (rsR w.r) j.toNat = some (rC c)) :: (((a.c == c.c)) = true) :: ((calC fRv [wdD w, iI i, iI j] (iI l)) fRv [wdD w, iI i, iI j] (hW w) = some (iI l, hW w, none)) :: []) := by kernel_rfl
theorem rh_ans (w : Wd) (va : Va w) (j i : Int) (hj : Nd w j) (hi : Nd w i) : Ans Try.prog fRh [wdD w, iI j, iI i] (.bool (hr w j i)) ⟨0, [], []⟩ := by
  have ai := rI_at hi
  have aj := rI_at hj
  have hk := calC_ok (rv_ans w va i j hi hj)
  unfold hr
  cases h1 : i != j with
  | false => exact zflat_ok tab_ok mixed fun_ok hk (rh1 w i j _ (rI w i) (rI w j)) (.cons h1 .nil)
  | true =>
    cases h2 : (rI w i).c == (rI w j).c with
    | false => exact zflat_ok tab_ok mixed fun_ok hk (rh2 w i j _ (rI w i) (rI w j)) (.cons h1 (.cons ai.1 (.cons ai.2 (.cons aj.1 (.cons aj.2 (.cons h2 .nil))))))
    | true => exact zflat_ok tab_ok mixed fun_ok hk (rh3 w i j _ (rI w i) (rI w j)) (.cons h1 (.cons ai.1 (.cons ai.2 (.cons aj.1 (.cons aj.2 (.cons h2 (.cons (calC_at _ rfl rfl) .nil)))))))
/-! ### Asked -/
abbrev fAs : FuncId := 48
def cAk (w : Wd) : ConF := orK cIn (calC fRk [wdD w] (iI (chE w)))
theorem cAk_ok {w : Wd} (ok : OkW w) : ConOk Try.prog (cAk w) := orK_ok cIn_ok (calC_ok (rk_ans w ok))
theorem cAk_at (w : Wd) (hp : Hp) {e : Int} (h : chE w = e) : cAk w fRk [wdD w] hp = some (iI e, hp, none) := by
  subst h
  exact orK_right (lift_oth rfl) (calC_at _ rfl rfl)
set_option maxRecDepth 1000000 in
theorem as1 (w : Wd) (i j _m : Int) : zflat (zans Try.prog tab ftab (cAk w) fAs [wdD w, iI i, iI j] [(9, .q (iI 8))]) = some (iI 8, (cAk w fRk [wdD w] (hW w) = some (iI 8, hW w, none)) :: []) := by kernel_rfl
set_option maxRecDepth 1000000 in
theorem as2 (w : Wd) (i j m : Int) : zflat (zans Try.prog tab ftab (cAk w) fAs [wdD w, iI i, iI j] [(9, .q (iI 0)), (17, .w (iI m)), (19, .b true)]) = some (iI 2, (cAk w fRk [wdD w] (hW w) = some (iI 0, hW w, none)) :: (DV.int .i64 (IntKind.i64.wrap (((rsR w.r).length : Int) - 1)) = iI m) :: (((!inB i 0 m)) = true) :: []) := by kernel_rfl
set_option maxRecDepth 1000000 in
theorem as3 (w : Wd) (i j m : Int) : zflat (zans Try.prog tab ftab (cAk w) fAs [wdD w, iI i, iI j] [(9, .q (iI 0)), (17, .w (iI m)), (19, .b false), (25, .w (iI m)), (27, .b true)]) = some (iI 2, (cAk w fRk [wdD w] (hW w) = some (iI 0, hW w, none)) :: (DV.int .i64 (IntKind.i64.wrap (((rsR w.r).length : Int) - 1)) = iI m) :: (((!inB i 0 m)) = false) :: (DV.int .i64 (IntKind.i64.wrap (((rsR w.r).length : Int) - 1)) = iI m) :: (((!inB j 0 m)) = true) :: []) := by kernel_rfl
set_option maxRecDepth 1000000 in
theorem as4 (w : Wd) (i j m : Int) : zflat (zans Try.prog tab ftab (cAk w) fAs [wdD w, iI i, iI j] [(9, .q (iI 0)), (17, .w (iI m)), (19, .b false), (25, .w (iI m)), (27, .b false)]) = some (iI 0, (cAk w fRk [wdD w] (hW w) = some (iI 0, hW w, none)) :: (DV.int .i64 (IntKind.i64.wrap (((rsR w.r).length : Int) - 1)) = iI m) :: (((!inB i 0 m)) = false) :: (DV.int .i64 (IntKind.i64.wrap (((rsR w.r).length : Int) - 1)) = iI m) :: (((!inB j 0 m)) = false) :: []) := by kernel_rfl
theorem chE_t {w : Wd} (h : chk w = true) : chE w = 0 := by unfold chE; rw [h]
theorem chE_f {w : Wd} (h : chk w = false) : chE w = 8 := by unfold chE; rw [h]
theorem as_ans (w : Wd) (ok : OkW w) (i j : Int) : Ans Try.prog fAs [wdD w, iI i, iI j] (iI (asE w i j)) ⟨0, [], []⟩ := by
  have hl := ok.r
  have e := rsR_length w.r
  have hm : DV.int .i64 (IntKind.i64.wrap (((rsR w.r).length : Int) - 1)) = iI ((w.r.length : Int) - 1) := by rw [e, wrapZ (by omega) (by omega)]
  unfold asE
  cases hc : chk w with
  | false => exact zflat_ok tab_ok mixed fun_ok (cAk_ok ok) (as1 w i j 0) (.cons (cAk_at w _ (chE_f hc)) .nil)
  | true =>
    have k0 := cAk_at w (hW w) (chE_t hc)
    cases h1 : inI w i with
    | false => exact zflat_ok tab_ok mixed fun_ok (cAk_ok ok) (as2 w i j _) (.cons k0 (.cons hm (.cons (by unfold inI at h1; rw [h1]; rfl) .nil)))
    | true =>
      have n1 : (!inB i 0 ((w.r.length : Int) - 1)) = false := by unfold inI at h1; rw [h1]; rfl
      cases h2 : inI w j with
      | false => exact zflat_ok tab_ok mixed fun_ok (cAk_ok ok) (as3 w i j _) (.cons k0 (.cons hm (.cons n1 (.cons hm (.cons (by unfold inI at h2; rw [h2]; rfl) .nil)))))
      | true => exact zflat_ok tab_ok mixed fun_ok (cAk_ok ok) (as4 w i j _) (.cons k0 (.cons hm (.cons n1 (.cons hm (.cons (by unfold inI at h2; rw [h2]; rfl) .nil)))))
/-! ### Level, Hears -/
abbrev fLe : FuncId := 15
abbrev fHs : FuncId := 14
abbrev fRLe : FuncId := 26
abbrev fRHs : FuncId := 27
abbrev oI (k : Nat) (l : List DV) : Ob := ⟨k, 0, 3, l⟩
def lvD (w : Wd) (i j : Int) : DV := .tuple [iI (lvV w i j), iI (asE w i j)]
def hrD (w : Wd) (j i : Int) : DV := .tuple [.bool (hrV w j i), iI (asE w j i)]
abbrev hN (w : Wd) (l : List DV) : Hp := ⟨2, [oI 0 l, oW w], []⟩
abbrev hNi (w : Wd) (l : List DV) : Hp := ⟨3, [oW w, oI 0 l, oW w], []⟩
theorem inI_f {w : Wd} {i : Int} (h : inI w i = false) : (decide (i < 0) = true) ∨ (decide (i < 0) = false ∧ decide (i ≥ ((rsR w.r).length : Int)) = true) := by
  have e := rsR_length w.r
  have hn : ¬ Nd w i := fun q => by rw [(nd_iff w i).2 q] at h; cases h
  by_cases h1 : i < 0
  · exact .inl (decide_eq_true h1)
  · refine .inr ⟨decide_eq_false h1, decide_eq_true ?_⟩
    rw [e]
    by_cases h2 : i ≥ (w.r.length : Int)
    · exact h2
    · exact absurd ⟨by omega, by omega⟩ hn
theorem inI_t {w : Wd} {i : Int} (h : inI w i = true) : decide (i < 0) = false ∧ decide (i ≥ ((rsR w.r).length : Int)) = false := by
  have e := rsR_length w.r
  have q := (nd_iff w i).1 h
  have := q.lo
  have := q.hi
  exact ⟨decide_eq_false (by omega), decide_eq_false (by omega)⟩
set_option maxRecDepth 1000000 in
theorem le0 (w : Wd) (i j : Int) : zflat (zans Try.prog tab ftab (calC fCk [wdD w] (iI 8)) fLe [wdD w, iI i, iI j] [(13, .c [(9, .q (iI 8))])]) = some (.tuple [iI 0, iI 8], ((calC fCk [wdD w] (iI 8)) fCk [wdD w] (hNi w [iI i, iI j]) = some (iI 8, (hNi w [iI i, iI j]), none)) :: []) := by kernel_rfl
set_option maxRecDepth 1000000 in
theorem le1 (w : Wd) (i j : Int) : zflat (zans Try.prog tab ftab (calC fCk [wdD w] (iI 0)) fLe [wdD w, iI i, iI j] [(13, .c [(9, .q (iI 0)), (20, .b true)])]) = some (.tuple [iI 0, iI 2], ((calC fCk [wdD w] (iI 0)) fCk [wdD w] (hNi w [iI i, iI j]) = some (iI 0, (hNi w [iI i, iI j]), none)) :: ((decide (i < 0)) = true) :: []) := by kernel_rfl
set_option maxRecDepth 1000000 in
theorem le2 (w : Wd) (i j : Int) : zflat (zans Try.prog tab ftab (calC fCk [wdD w] (iI 0)) fLe [wdD w, iI i, iI j] [(13, .c [(9, .q (iI 0)), (20, .b false), (26, .b true)])]) = some (.tuple [iI 0, iI 2], ((calC fCk [wdD w] (iI 0)) fCk [wdD w] (hNi w [iI i, iI j]) = some (iI 0, (hNi w [iI i, iI j]), none)) :: ((decide (i < 0)) = false) :: ((decide (i ≥ ((rsR w.r).length : Int))) = true) :: []) := by kernel_rfl
set_option maxRecDepth 1000000 in
theorem le3 (w : Wd) (i j : Int) : zflat (zans Try.prog tab ftab (calC fCk [wdD w] (iI 0)) fLe [wdD w, iI i, iI j] [(13, .c [(9, .q (iI 0)), (20, .b false), (26, .b false), (20, .b true)])]) = some (.tuple [iI 0, iI 2], ((calC fCk [wdD w] (iI 0)) fCk [wdD w] (hNi w [iI i, iI j]) = some (iI 0, (hNi w [iI i, iI j]), none)) :: ((decide (i < 0)) = false) :: ((decide (i ≥ ((rsR w.r).length : Int))) = false) :: ((decide (j < 0)) = true) :: []) := by kernel_rfl
set_option maxRecDepth 1000000 in
theorem le4 (w : Wd) (i j : Int) : zflat (zans Try.prog tab ftab (calC fCk [wdD w] (iI 0)) fLe [wdD w, iI i, iI j] [(13, .c [(9, .q (iI 0)), (20, .b false), (26, .b false), (20, .b false), (26, .b true)])]) = some (.tuple [iI 0, iI 2], ((calC fCk [wdD w] (iI 0)) fCk [wdD w] (hNi w [iI i, iI j]) = some (iI 0, (hNi w [iI i, iI j]), none)) :: ((decide (i < 0)) = false) :: ((decide (i ≥ ((rsR w.r).length : Int))) = false) :: ((decide (j < 0)) = false) :: ((decide (j ≥ ((rsR w.r).length : Int))) = true) :: []) := by kernel_rfl
set_option maxRecDepth 1000000 in
theorem le5 (w : Wd) (i j l : Int) : zflat (zans Try.prog tab ftab (orK (calC fCk [wdD w] (iI 0)) (calC fLv [wdD w, iI i, iI j] (iI l))) fLe [wdD w, iI i, iI j] [(13, .c [(9, .q (iI 0)), (20, .b false), (26, .b false), (20, .b false), (26, .b false)]), (20, .q (iI l))]) = some (.tuple [iI l, iI 0], ((orK (calC fCk [wdD w] (iI 0)) (calC fLv [wdD w, iI i, iI j] (iI l))) fCk [wdD w] (hNi w [iI i, iI j]) = some (iI 0, (hNi w [iI i, iI j]), none)) :: ((decide (i < 0)) = false) :: ((decide (i ≥ ((rsR w.r).length : Int))) = false) :: ((decide (j < 0)) = false) :: ((decide (j ≥ ((rsR w.r).length : Int))) = false) :: ((orK (calC fCk [wdD w] (iI 0)) (calC fLv [wdD w, iI i, iI j] (iI l))) fLv [wdD w, iI i, iI j] (hN w [iI i, iI j]) = some (iI l, (hN w [iI i, iI j]), none)) :: []) := by kernel_rfl
theorem le_ans (w : Wd) (ok : OkW w) (i j : Int) : Ans Try.prog fLe [wdD w, iI i, iI j] (lvD w i j) ⟨0, [], []⟩ := by
  have hk := ck_ans w ok
  unfold lvD lvV okA asE
  cases hc : chk w with
  | false =>
    rw [chE_f hc] at hk
    exact zflat_ok tab_ok mixed fun_ok (calC_ok hk) (le0 w i j) (.cons (calC_at _ rfl rfl) .nil)
  | true =>
    rw [chE_t hc] at hk
    have va := (va_iff w).1 hc
    have c0 : ∀ hp, calC fCk [wdD w] (iI 0) fCk [wdD w] hp = some (iI 0, hp, none) := fun hp => calC_at hp rfl rfl
    cases h1 : inI w i with
    | false =>
      rcases inI_f h1 with q | ⟨q1, q2⟩
      · exact zflat_ok tab_ok mixed fun_ok (calC_ok hk) (le1 w i j) (.cons (c0 _) (.cons q .nil))
      · exact zflat_ok tab_ok mixed fun_ok (calC_ok hk) (le2 w i j) (.cons (c0 _) (.cons q1 (.cons q2 .nil)))
    | true =>
      obtain ⟨p1, p2⟩ := inI_t h1
      cases h2 : inI w j with
      | false =>
        rcases inI_f h2 with q | ⟨q1, q2⟩
        · exact zflat_ok tab_ok mixed fun_ok (calC_ok hk) (le3 w i j) (.cons (c0 _) (.cons p1 (.cons p2 (.cons q .nil))))
        · exact zflat_ok tab_ok mixed fun_ok (calC_ok hk) (le4 w i j) (.cons (c0 _) (.cons p1 (.cons p2 (.cons q1 (.cons q2 .nil)))))
      | true =>
        obtain ⟨p3, p4⟩ := inI_t h2
        have n1 := (nd_iff w _).1 h1
        have n2 := (nd_iff w _).1 h2
        have hL := lv_ans w va i j n1 n2
        exact zflat_ok tab_ok mixed fun_ok (orK_ok (calC_ok hk) (calC_ok hL)) (le5 w i j _) (.cons (orK_left (c0 _)) (.cons p1 (.cons p2 (.cons p3 (.cons p4 (.cons (orK_right (calC_oth (by kernel_rfl)) (calC_at _ rfl rfl)) .nil))))))
set_option maxRecDepth 1000000 in
theorem hs0 (w : Wd) (i j : Int) : zflat (zans Try.prog tab ftab (calC fCk [wdD w] (iI 8)) fHs [wdD w, iI j, iI i] [(13, .c [(9, .q (iI 8))])]) = some (.tuple [.bool false, iI 8], ((calC fCk [wdD w] (iI 8)) fCk [wdD w] (hNi w [iI j, iI i]) = some (iI 8, (hNi w [iI j, iI i]), none)) :: []) := by kernel_rfl
set_option maxRecDepth 1000000 in
theorem hs1 (w : Wd) (i j : Int) : zflat (zans Try.prog tab ftab (calC fCk [wdD w] (iI 0)) fHs [wdD w, iI j, iI i] [(13, .c [(9, .q (iI 0)), (20, .b true)])]) = some (.tuple [.bool false, iI 2], ((calC fCk [wdD w] (iI 0)) fCk [wdD w] (hNi w [iI j, iI i]) = some (iI 0, (hNi w [iI j, iI i]), none)) :: ((decide (j < 0)) = true) :: []) := by kernel_rfl
set_option maxRecDepth 1000000 in
theorem hs2 (w : Wd) (i j : Int) : zflat (zans Try.prog tab ftab (calC fCk [wdD w] (iI 0)) fHs [wdD w, iI j, iI i] [(13, .c [(9, .q (iI 0)), (20, .b false), (26, .b true)])]) = some (.tuple [.bool false, iI 2], ((calC fCk [wdD w] (iI 0)) fCk [wdD w] (hNi w [iI j, iI i]) = some (iI 0, (hNi w [iI j, iI i]), none)) :: ((decide (j < 0)) = false) :: ((decide (j ≥ ((rsR w.r).length : Int))) = true) :: []) := by kernel_rfl
set_option maxRecDepth 1000000 in
theorem hs3 (w : Wd) (i j : Int) : zflat (zans Try.prog tab ftab (calC fCk [wdD w] (iI 0)) fHs [wdD w, iI j, iI i] [(13, .c [(9, .q (iI 0)), (20, .b false), (26, .b false), (20, .b true)])]) = some (.tuple [.bool false, iI 2], ((calC fCk [wdD w] (iI 0)) fCk [wdD w] (hNi w [iI j, iI i]) = some (iI 0, (hNi w [iI j, iI i]), none)) :: ((decide (j < 0)) = false) :: ((decide (j ≥ ((rsR w.r).length : Int))) = false) :: ((decide (i < 0)) = true) :: []) := by kernel_rfl
set_option maxRecDepth 1000000 in
theorem hs4 (w : Wd) (i j : Int) : zflat (zans Try.prog tab ftab (calC fCk [wdD w] (iI 0)) fHs [wdD w, iI j, iI i] [(13, .c [(9, .q (iI 0)), (20, .b false), (26, .b false), (20, .b false), (26, .b true)])]) = some (.tuple [.bool false, iI 2], ((calC fCk [wdD w] (iI 0)) fCk [wdD w] (hNi w [iI j, iI i]) = some (iI 0, (hNi w [iI j, iI i]), none)) :: ((decide (j < 0)) = false) :: ((decide (j ≥ ((rsR w.r).length : Int))) = false) :: ((decide (i < 0)) = false) :: ((decide (i ≥ ((rsR w.r).length : Int))) = true) :: []) := by kernel_rfl
set_option maxRecDepth 1000000 in
theorem hs5 (w : Wd) (i j : Int) (l : Bool) : zflat (zans Try.prog tab ftab (orK (calC fCk [wdD w] (iI 0)) (calC fHe [wdD w, iI j, iI i] (.bool l))) fHs [wdD w, iI j, iI i] [(13, .c [(9, .q (iI 0)), (20, .b false), (26, .b false), (20, .b false), (26, .b false)]), (20, .q (.bool l))]) = some (.tuple [.bool l, iI 0], ((orK (calC fCk [wdD w] (iI 0)) (calC fHe [wdD w, iI j, iI i] (.bool l))) fCk [wdD w] (hNi w [iI j, iI i]) = some (iI 0, (hNi w [iI j, iI i]), none)) :: ((decide (j < 0)) = false) :: ((decide (j ≥ ((rsR w.r).length : Int))) = false) :: ((decide (i < 0)) = false) :: ((decide (i ≥ ((rsR w.r).length : Int))) = false) :: ((orK (calC fCk [wdD w] (iI 0)) (calC fHe [wdD w, iI j, iI i] (.bool l))) fHe [wdD w, iI j, iI i] (hN w [iI j, iI i]) = some (.bool l, (hN w [iI j, iI i]), none)) :: []) := by kernel_rfl
theorem hs_ans (w : Wd) (ok : OkW w) (j i : Int) : Ans Try.prog fHs [wdD w, iI j, iI i] (hrD w j i) ⟨0, [], []⟩ := by
  have hk := ck_ans w ok
  unfold hrD hrV okA asE
  cases hc : chk w with
  | false =>
    rw [chE_f hc] at hk
    exact zflat_ok tab_ok mixed fun_ok (calC_ok hk) (hs0 w i j) (.cons (calC_at _ rfl rfl) .nil)
  | true =>
    rw [chE_t hc] at hk
    have va := (va_iff w).1 hc
    have c0 : ∀ hp, calC fCk [wdD w] (iI 0) fCk [wdD w] hp = some (iI 0, hp, none) := fun hp => calC_at hp rfl rfl
    cases h1 : inI w j with
    | false =>
      rcases inI_f h1 with q | ⟨q1, q2⟩
      · exact zflat_ok tab_ok mixed fun_ok (calC_ok hk) (hs1 w i j) (.cons (c0 _) (.cons q .nil))
      · exact zflat_ok tab_ok mixed fun_ok (calC_ok hk) (hs2 w i j) (.cons (c0 _) (.cons q1 (.cons q2 .nil)))
    | true =>
      obtain ⟨p1, p2⟩ := inI_t h1
      cases h2 : inI w i with
      | false =>
        rcases inI_f h2 with q | ⟨q1, q2⟩
        · exact zflat_ok tab_ok mixed fun_ok (calC_ok hk) (hs3 w i j) (.cons (c0 _) (.cons p1 (.cons p2 (.cons q .nil))))
        · exact zflat_ok tab_ok mixed fun_ok (calC_ok hk) (hs4 w i j) (.cons (c0 _) (.cons p1 (.cons p2 (.cons q1 (.cons q2 .nil)))))
      | true =>
        obtain ⟨p3, p4⟩ := inI_t h2
        have n1 := (nd_iff w _).1 h1
        have n2 := (nd_iff w _).1 h2
        have hL := he_ans w va j i n1 n2
        exact zflat_ok tab_ok mixed fun_ok (orK_ok (calC_ok hk) (calC_ok hL)) (hs5 w i j _) (.cons (orK_left (c0 _)) (.cons p1 (.cons p2 (.cons p3 (.cons p4 (.cons (orK_right (calC_oth (by kernel_rfl)) (calC_at _ rfl rfl)) .nil))))))
set_option maxRecDepth 1000000 in
theorem rle2 (w : Wd) (i j : Int) : zflat (zans Try.prog tab ftab (calC fAs [wdD w, iI i, iI j] (iI 2)) fRLe [wdD w, iI i, iI j] [(12, .q (iI 2))]) = some (.tuple [iI 0, iI 2], ((calC fAs [wdD w, iI i, iI j] (iI 2)) fAs [wdD w, iI i, iI j] (hW w) = some (iI 2, hW w, none)) :: []) := by kernel_rfl
set_option maxRecDepth 1000000 in
theorem rle8 (w : Wd) (i j : Int) : zflat (zans Try.prog tab ftab (calC fAs [wdD w, iI i, iI j] (iI 8)) fRLe [wdD w, iI i, iI j] [(12, .q (iI 8))]) = some (.tuple [iI 0, iI 8], ((calC fAs [wdD w, iI i, iI j] (iI 8)) fAs [wdD w, iI i, iI j] (hW w) = some (iI 8, hW w, none)) :: []) := by kernel_rfl
set_option maxRecDepth 1000000 in
theorem rle0 (w : Wd) (i j l : Int) : zflat (zans Try.prog tab ftab (orK (calC fAs [wdD w, iI i, iI j] (iI 0)) (calC fRv [wdD w, iI i, iI j] (iI l))) fRLe [wdD w, iI i, iI j] [(12, .q (iI 0)), (19, .q (iI l))]) = some (.tuple [iI l, iI 0], ((orK (calC fAs [wdD w, iI i, iI j] (iI 0)) (calC fRv [wdD w, iI i, iI j] (iI l))) fAs [wdD w, iI i, iI j] (hW w) = some (iI 0, hW w, none)) :: ((orK (calC fAs [wdD w, iI i, iI j] (iI 0)) (calC fRv [wdD w, iI i, iI j] (iI l))) fRv [wdD w, iI i, iI j] (hW w) = some (iI l, hW w, none)) :: []) := by kernel_rfl
theorem rle_ans (w : Wd) (ok : OkW w) (i j : Int) : Ans Try.prog fRLe [wdD w, iI i, iI j] (lvD w i j) ⟨0, [], []⟩ := by
  have hk := as_ans w ok i j
  unfold lvD lvV okA
  unfold asE at hk ⊢
  cases hc : chk w with
  | false =>
    rw [hc] at hk
    exact zflat_ok tab_ok mixed fun_ok (calC_ok hk) (rle8 w i j) (.cons (calC_at _ rfl rfl) .nil)
  | true =>
    have va := (va_iff w).1 hc
    rw [hc] at hk
    cases h1 : inI w i <;> cases h2 : inI w j <;> rw [h1, h2] at hk
    · exact zflat_ok tab_ok mixed fun_ok (calC_ok hk) (rle2 w i j) (.cons (calC_at _ rfl rfl) .nil)
    · exact zflat_ok tab_ok mixed fun_ok (calC_ok hk) (rle2 w i j) (.cons (calC_at _ rfl rfl) .nil)
    · exact zflat_ok tab_ok mixed fun_ok (calC_ok hk) (rle2 w i j) (.cons (calC_at _ rfl rfl) .nil)
    · have hL := rv_ans w va i j ((nd_iff w _).1 (by assumption)) ((nd_iff w _).1 (by assumption))
      exact zflat_ok tab_ok mixed fun_ok (orK_ok (calC_ok hk) (calC_ok hL)) (rle0 w i j _) (.cons (orK_left (calC_at _ rfl rfl)) (.cons (orK_right (calC_oth (by kernel_rfl)) (calC_at _ rfl rfl)) .nil))
set_option maxRecDepth 1000000 in
theorem rhs2 (w : Wd) (i j : Int) : zflat (zans Try.prog tab ftab (calC fAs [wdD w, iI i, iI j] (iI 2)) fRHs [wdD w, iI j, iI i] [(12, .q (iI 2))]) = some (.tuple [.bool false, iI 2], ((calC fAs [wdD w, iI i, iI j] (iI 2)) fAs [wdD w, iI i, iI j] (hW w) = some (iI 2, hW w, none)) :: []) := by kernel_rfl
set_option maxRecDepth 1000000 in
theorem rhs8 (w : Wd) (i j : Int) : zflat (zans Try.prog tab ftab (calC fAs [wdD w, iI i, iI j] (iI 8)) fRHs [wdD w, iI j, iI i] [(12, .q (iI 8))]) = some (.tuple [.bool false, iI 8], ((calC fAs [wdD w, iI i, iI j] (iI 8)) fAs [wdD w, iI i, iI j] (hW w) = some (iI 8, hW w, none)) :: []) := by kernel_rfl
set_option maxRecDepth 1000000 in
theorem rhs0 (w : Wd) (i j : Int) (l : Bool) : zflat (zans Try.prog tab ftab (orK (calC fAs [wdD w, iI i, iI j] (iI 0)) (calC fRh [wdD w, iI j, iI i] (.bool l))) fRHs [wdD w, iI j, iI i] [(12, .q (iI 0)), (19, .q (.bool l))]) = some (.tuple [.bool l, iI 0], ((orK (calC fAs [wdD w, iI i, iI j] (iI 0)) (calC fRh [wdD w, iI j, iI i] (.bool l))) fAs [wdD w, iI i, iI j] (hW w) = some (iI 0, hW w, none)) :: ((orK (calC fAs [wdD w, iI i, iI j] (iI 0)) (calC fRh [wdD w, iI j, iI i] (.bool l))) fRh [wdD w, iI j, iI i] (hW w) = some (.bool l, hW w, none)) :: []) := by kernel_rfl
theorem rhs_ans (w : Wd) (ok : OkW w) (j i : Int) : Ans Try.prog fRHs [wdD w, iI j, iI i] (hrD w j i) ⟨0, [], []⟩ := by
  have hk := as_ans w ok i j
  unfold hrD hrV okA
  unfold asE at hk ⊢
  cases hc : chk w with
  | false =>
    rw [hc] at hk
    exact zflat_ok tab_ok mixed fun_ok (calC_ok hk) (rhs8 w i j) (.cons (calC_at _ rfl rfl) .nil)
  | true =>
    have va := (va_iff w).1 hc
    rw [hc] at hk
    cases h1 : inI w i <;> cases h2 : inI w j <;> rw [h1, h2] at hk
    · exact zflat_ok tab_ok mixed fun_ok (calC_ok hk) (rhs2 w i j) (.cons (calC_at _ rfl rfl) .nil)
    · exact zflat_ok tab_ok mixed fun_ok (calC_ok hk) (rhs2 w i j) (.cons (calC_at _ rfl rfl) .nil)
    · exact zflat_ok tab_ok mixed fun_ok (calC_ok hk) (rhs2 w i j) (.cons (calC_at _ rfl rfl) .nil)
    · have hL := rh_ans w va j i ((nd_iff w _).1 (by assumption)) ((nd_iff w _).1 (by assumption))
      exact zflat_ok tab_ok mixed fun_ok (orK_ok (calC_ok hk) (calC_ok hL)) (rhs0 w i j _) (.cons (orK_left (calC_at _ rfl rfl)) (.cons (orK_right (calC_oth (by kernel_rfl)) (calC_at _ rfl rfl)) .nil))
end
end Go.Proofs.Ytmnpkgonanpgfaa
