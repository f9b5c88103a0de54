/- Transmissions as data; Overlap, validSending: contracts. -/
import Derived.Test.YtgjgihlfkpbdgaaUz
namespace Go.Proofs.Ytgjgihlfkpbdgaa
open Go.RowKit

noncomputable section
/-! ### Transmissions -/
structure Sn where
  n : Int
  a : Int
  b : Int
  d : Int
def snC (s : Sn) : List DV := [iI s.n, iI s.a, iI s.b, iI s.d]
abbrev snD (s : Sn) : DV := .agg (snC s)
def snR (l : List Sn) : List (List DV) := l.map snC
abbrev sn0 : Sn := ⟨0, 0, 0, 0⟩
abbrev snL (l : List Sn) : DV := .list 4 (snR l)
theorem snR_length (l : List Sn) : (snR l).length = l.length := by simp [snR]
theorem snR_at {l : List Sn} {k : Nat} {s : Sn} (h : l[k]? = some s) : nth (snR l) ((k : Int).toNat) = some (snC s) := nth_of (by simp [snR, h])
theorem snR_get {l : List Sn} {k : Nat} (h : k < l.length) : nth (snR l) ((k : Int).toNat) = some (snC (l.getD k sn0)) := snR_at (get_in _ h)
def gSS (D : Sn → Sn → DV) : List DV → Option DV
  | [.agg [.int .i64 x, .int .i64 y, .int .i64 p, .int .i64 c], .agg [.int .i64 x', .int .i64 y', .int .i64 p', .int .i64 c']] => some (D ⟨x, y, p, c⟩ ⟨x', y', p', c'⟩)
  | _ => none
theorem gSS_ok {f : FuncId} {D : Sn → Sn → DV} (h : ∀ a b, Ans Try.prog f [snD a, snD b] (D a b) ⟨0, [], []⟩) : ConOk Try.prog (liftC (comC f (gSS D))) := liftC_ok (comC_ok fun args d hh => by
  unfold gSS at hh
  split at hh
  · cases hh
    exact h ⟨_, _, _, _⟩ ⟨_, _, _, _⟩
  · cases hh)
def gSI (D : Sn → Int → DV) : List DV → Option DV
  | [.agg [.int .i64 x, .int .i64 y, .int .i64 p, .int .i64 c], .int .i64 n] => some (D ⟨x, y, p, c⟩ n)
  | _ => none
theorem gSI_ok {f : FuncId} {D : Sn → Int → DV} (h : ∀ a n, Ans Try.prog f [snD a, iI n] (D a n) ⟨0, [], []⟩) : ConOk Try.prog (liftC (comC f (gSI D))) := liftC_ok (comC_ok fun args d hh => by
  unfold gSI at hh
  split at hh
  · cases hh
    exact h ⟨_, _, _, _⟩ _
  · cases hh)
/-! ### Overlap -/
def ovB (a b : Sn) : Bool := match decide (a.a < b.b) with
  | true => decide (b.a < a.b)
  | false => false
theorem ovB_iff (a b : Sn) : ovB a b = true ↔ a.a < b.b ∧ b.a < a.b := by
  unfold ovB
  cases h : decide (a.a < b.b) with
  | true => simp only [decide_eq_true_eq] at h ⊢; exact ⟨fun q => ⟨h, q⟩, fun q => q.2⟩
  | false => simp only [decide_eq_false_iff_not] at h; exact ⟨fun q => (by cases q), fun q => absurd q.1 h⟩
abbrev fOv : FuncId := 27
abbrev fRo2 : FuncId := 28
set_option maxRecDepth 1000000 in
theorem ov0 (x y : Sn) : zflat (zans Try.prog tab ftab noC fOv [snD x, snD y] [(9, .b false)]) = some ((DV.bool false), ((decide (x.a < y.b)) = false) :: []) := by kernel_rfl
set_option maxRecDepth 1000000 in
theorem ov1 (x y : Sn) : zflat (zans Try.prog tab ftab noC fOv [snD x, snD y] [(9, .b true)]) = some ((DV.bool (decide (y.a < x.b))), ((decide (x.a < y.b)) = true) :: []) := by kernel_rfl
theorem ov_ans (x y : Sn) : Ans Try.prog fOv [snD x, snD y] (.bool (ovB x y)) ⟨0, [], []⟩ := by
  unfold ovB
  cases h0 : (decide (x.a < y.b)) with
  | false => exact zflat_ok tab_ok mixed fun_ok noC_ok (ov0 x y) (.cons h0 .nil)
  | true =>
    exact zflat_ok tab_ok mixed fun_ok noC_ok (ov1 x y) (.cons h0 .nil)
set_option maxRecDepth 1000000 in
theorem rov0 (x y : Sn) : zflat (zans Try.prog tab ftab noC fRo2 [snD x, snD y] [(9, .b false)]) = some ((DV.bool false), ((decide (x.a < y.b)) = false) :: []) := by kernel_rfl
set_option maxRecDepth 1000000 in
theorem rov1 (x y : Sn) : zflat (zans Try.prog tab ftab noC fRo2 [snD x, snD y] [(9, .b true)]) = some ((DV.bool (decide (y.a < x.b))), ((decide (x.a < y.b)) = true) :: []) := by kernel_rfl
theorem rov_ans (x y : Sn) : Ans Try.prog fRo2 [snD x, snD y] (.bool (ovB x y)) ⟨0, [], []⟩ := by
  unfold ovB
  cases h0 : (decide (x.a < y.b)) with
  | false => exact zflat_ok tab_ok mixed fun_ok noC_ok (rov0 x y) (.cons h0 .nil)
  | true =>
    exact zflat_ok tab_ok mixed fun_ok noC_ok (rov1 x y) (.cons h0 .nil)
def cOv : ConF := liftC (comC fOv (gSS fun a b => .bool (ovB a b)))
theorem cOv_ok : ConOk Try.prog cOv := gSS_ok ov_ans
def cRov : ConF := liftC (comC fRo2 (gSS fun a b => .bool (ovB a b)))
theorem cRov_ok : ConOk Try.prog cRov := gSS_ok rov_ans
/-! ### validSending -/
def okS (s : Sn) (n : Int) : Bool := match decide (s.n ≥ 0) with
  | true => match decide (s.n < n) with
    | true => match decide (s.a ≥ 0) with
      | true => match decide (s.b > s.a) with
        | true => match decide (s.b ≤ 1099511627776) with
          | true => match decide (s.d ≥ -2000) with
            | true => decide (s.d ≤ 2000)
            | false => false
          | false => false
        | false => false
      | false => false
    | false => false
  | false => false
abbrev fVn : FuncId := 58
set_option maxRecDepth 1000000 in
theorem vn0 (x : Sn) (n : Int) : zflat (zans Try.prog tab ftab noC fVn [snD x, iI n] [(7, .b false)]) = some ((DV.bool false), ((decide (x.n ≥ 0)) = false) :: []) := by kernel_rfl
set_option maxRecDepth 1000000 in
theorem vn1 (x : Sn) (n : Int) : zflat (zans Try.prog tab ftab noC fVn [snD x, iI n] [(7, .b true), (12, .b false)]) = some ((DV.bool false), ((decide (x.n ≥ 0)) = true) :: ((decide (x.n < n)) = false) :: []) := by kernel_rfl
set_option maxRecDepth 1000000 in
theorem vn2 (x : Sn) (n : Int) : zflat (zans Try.prog tab ftab noC fVn [snD x, iI n] [(7, .b true), (12, .b true), (17, .b false)]) = some ((DV.bool false), ((decide (x.n ≥ 0)) = true) :: ((decide (x.n < n)) = true) :: ((decide (x.a ≥ 0)) = false) :: []) := by kernel_rfl
set_option maxRecDepth 1000000 in
theorem vn3 (x : Sn) (n : Int) : zflat (zans Try.prog tab ftab noC fVn [snD x, iI n] [(7, .b true), (12, .b true), (17, .b true), (24, .b false)]) = some ((DV.bool false), ((decide (x.n ≥ 0)) = true) :: ((decide (x.n < n)) = true) :: ((decide (x.a ≥ 0)) = true) :: ((decide (x.b > x.a)) = false) :: []) := by kernel_rfl
set_option maxRecDepth 1000000 in
theorem vn4 (x : Sn) (n : Int) : zflat (zans Try.prog tab ftab noC fVn [snD x, iI n] [(7, .b true), (12, .b true), (17, .b true), (24, .b true), (29, .b false)]) = some ((DV.bool false), ((decide (x.n ≥ 0)) = true) :: ((decide (x.n < n)) = true) :: ((decide (x.a ≥ 0)) = true) :: ((decide (x.b > x.a)) = true) :: ((decide (x.b ≤ 1099511627776)) = false) :: []) := by kernel_rfl
set_option maxRecDepth 1000000 in
theorem vn5 (x : Sn) (n : Int) : zflat (zans Try.prog tab ftab noC fVn [snD x, iI n] [(7, .b true), (12, .b true), (17, .b true), (24, .b true), (29, .b true), (34, .b false)]) = some ((DV.bool false), ((decide (x.n ≥ 0)) = true) :: ((decide (x.n < n)) = true) :: ((decide (x.a ≥ 0)) = true) :: ((decide (x.b > x.a)) = true) :: ((decide (x.b ≤ 1099511627776)) = true) :: ((decide (x.d ≥ -2000)) = false) :: []) := by kernel_rfl
set_option maxRecDepth 1000000 in
theorem vn6 (x : Sn) (n : Int) : zflat (zans Try.prog tab ftab noC fVn [snD x, iI n] [(7, .b true), (12, .b true), (17, .b true), (24, .b true), (29, .b true), (34, .b true)]) = some ((DV.bool (decide (x.d ≤ 2000))), ((decide (x.n ≥ 0)) = true) :: ((decide (x.n < n)) = true) :: ((decide (x.a ≥ 0)) = true) :: ((decide (x.b > x.a)) = true) :: ((decide (x.b ≤ 1099511627776)) = true) :: ((decide (x.d ≥ -2000)) = true) :: []) := by kernel_rfl
theorem vn_ans (x : Sn) (n : Int) : Ans Try.prog fVn [snD x, iI n] (.bool (okS x n)) ⟨0, [], []⟩ := by
  unfold okS
  cases h0 : (decide (x.n ≥ 0)) with
  | false => exact zflat_ok tab_ok mixed fun_ok noC_ok (vn0 x n) (.cons h0 .nil)
  | true =>
    cases h1 : (decide (x.n < n)) with
    | false => exact zflat_ok tab_ok mixed fun_ok noC_ok (vn1 x n) (.cons h0 (.cons h1 .nil))
    | true =>
      cases h2 : (decide (x.a ≥ 0)) with
      | false => exact zflat_ok tab_ok mixed fun_ok noC_ok (vn2 x n) (.cons h0 (.cons h1 (.cons h2 .nil)))
      | true =>
        cases h3 : (decide (x.b > x.a)) with
        | false => exact zflat_ok tab_ok mixed fun_ok noC_ok (vn3 x n) (.cons h0 (.cons h1 (.cons h2 (.cons h3 .nil))))
        | true =>
          cases h4 : (decide (x.b ≤ 1099511627776)) with
          | false => exact zflat_ok tab_ok mixed fun_ok noC_ok (vn4 x n) (.cons h0 (.cons h1 (.cons h2 (.cons h3 (.cons h4 .nil)))))
          | true =>
            cases h5 : (decide (x.d ≥ -2000)) with
            | false => exact zflat_ok tab_ok mixed fun_ok noC_ok (vn5 x n) (.cons h0 (.cons h1 (.cons h2 (.cons h3 (.cons h4 (.cons h5 .nil))))))
            | true =>
              exact zflat_ok tab_ok mixed fun_ok noC_ok (vn6 x n) (.cons h0 (.cons h1 (.cons h2 (.cons h3 (.cons h4 (.cons h5 .nil))))))
def cVn : ConF := liftC (comC fVn (gSI fun a n => .bool (okS a n)))
theorem cVn_ok : ConOk Try.prog cVn := gSI_ok vn_ans
theorem okS_iff (s : Sn) (n : Int) : okS s n = true ↔ (0 ≤ s.n ∧ s.n < n) ∧ (0 ≤ s.a ∧ s.a < s.b ∧ s.b ≤ 1099511627776) ∧ -2000 ≤ s.d ∧ s.d ≤ 2000 := by
  unfold okS
  by_cases h1 : s.n ≥ 0 <;> by_cases h2 : s.n < n <;> by_cases h3 : s.a ≥ 0 <;> by_cases h4 : s.b > s.a <;> by_cases h5 : s.b ≤ 1099511627776 <;> by_cases h6 : s.d ≥ -2000 <;> simp [h1, h2, h3, h4, h5, h6] <;> omega
end
end Go.Proofs.Ytgjgihlfkpbdgaa
