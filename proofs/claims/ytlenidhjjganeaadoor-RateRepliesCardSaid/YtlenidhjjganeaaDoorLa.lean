/- The table of rates as numbers; at, Air: contracts. -/
import Derived.Test.YtlenidhjjganeaaDoorGl
import Derived.Test.YtlenidhjjganeaaDoorTab
namespace Go.Proofs.YtlenidhjjganeaaDoor
open Go.RowKit

noncomputable section
abbrev iI (n : Int) : DV := .int .i64 n
theorem wrapZ {x : Int} (h1 : -9223372036854775808 ≤ x) (h2 : x < 9223372036854775808) : IntKind.i64.wrap x = x := by
  simp only [IntKind.wrap, IntKind.bits, IntKind.signed, Bool.true_and, decide_eq_true_eq, ge_iff_le]
  split <;> omega
def inr (i : Int) : Bool := decide (0 ≤ i) && decide (i < 12)
def rbL : List Int := [24, 36, 48, 72, 100, 148, 196, 220, 264, 316, 396, 476]
def rnL : List Int := [-820, -808, -788, -768, -738, -702, -664, -652, -640, -590, -568, -538]
def rqL : List Bool := [true, false, true, false, true, false, false, false, false, false, false, false]
def rb (i : Int) : Int := match inr i with
  | true => rbL.getD i.toNat 0
  | false => 0
def rn (i : Int) : Int := match inr i with
  | true => rnL.getD i.toNat 0
  | false => 0
def rq (i : Int) : Bool := match inr i with
  | true => rqL.getD i.toNat false
  | false => false
def er (i : Int) : Int := match inr i with
  | true => 0
  | false => 2
theorem inr_t {i : Int} (h : inr i = true) : i = 0 ∨ i = 1 ∨ i = 2 ∨ i = 3 ∨ i = 4 ∨ i = 5 ∨ i = 6 ∨ i = 7 ∨ i = 8 ∨ i = 9 ∨ i = 10 ∨ i = 11 := by
  simp only [inr, Bool.and_eq_true, decide_eq_true_eq] at h
  omega
theorem inr_f {i : Int} (h : inr i = false) : i < 0 ∨ 12 ≤ i := by
  simp only [inr, Bool.and_eq_false_iff, decide_eq_false_iff_not] at h
  omega
theorem rb_in {i : Int} (h : inr i = true) : 24 ≤ rb i ∧ rb i ≤ 476 := by
  rcases inr_t h with rfl | rfl | rfl | rfl | rfl | rfl | rfl | rfl | rfl | rfl | rfl | rfl <;> decide
theorem er_t {i : Int} (h : inr i = true) : er i = 0 := by rw [er, h]
theorem er_f {i : Int} (h : inr i = false) : er i = 2 := by rw [er, h]
theorem er_nt {i : Int} (h : inr i = true) : (er i != 0) = false := by rw [er_t h]; rfl
theorem er_nf {i : Int} (h : inr i = false) : (er i != 0) = true := by rw [er_f h]; rfl
/-! ### at -/
abbrev fAt : FuncId := 29
def entD (i : Int) : DV := .agg [iI (rb i), iI (rn i), .bool (rq i)]
def atD (i : Int) : DV := .tuple [entD i, iI (er i)]
def ent0 : DV := .agg [iI 0, iI 0, .bool false]
set_option maxRecDepth 1000000 in
theorem at1 (i : Int) : zflat (zans Tryd.prog tab ftab noC fAt [iI i] [(5, .b true)]) = some (.tuple [ent0, iI 2], (decide (i < 0) = true) :: []) := by kernel_rfl
set_option maxRecDepth 1000000 in
theorem at2 (i : Int) : zflat (zans Tryd.prog tab ftab noC fAt [iI i] [(5, .b false), (8, .b true)]) = some (.tuple [ent0, iI 2], (decide (i < 0) = false) :: (decide (i ≥ 12) = true) :: []) := by kernel_rfl
theorem ent_f {i : Int} (h : inr i = false) : entD i = ent0 := by
  rw [entD, rb, rn, rq, h]
  rfl
set_option maxRecDepth 1000000 in
theorem at_ans (i : Int) : Ans Tryd.prog fAt [iI i] (atD i) ⟨0, [], []⟩ := by
  cases h : inr i with
  | true => rcases inr_t h with rfl | rfl | rfl | rfl | rfl | rfl | rfl | rfl | rfl | rfl | rfl | rfl <;> exact zflat_ok (p := []) tab_ok mixed fun_ok noC_ok (by kernel_rfl) .nil
  | false =>
    rw [atD, ent_f h, er_f h]
    rcases inr_f h with h1 | h1
    · exact zflat_ok tab_ok mixed fun_ok noC_ok (at1 i) (.cons (decide_eq_true h1) .nil)
    · exact zflat_ok tab_ok mixed fun_ok noC_ok (at2 i) (.cons (decide_eq_false (by omega)) (.cons (decide_eq_true h1) .nil))
def g1 (D : Int → DV) : List DV → Option DV
  | [.int .i64 i] => some (D i)
  | _ => none
def g2 (D : Int → Int → DV) : List DV → Option DV
  | [.int .i64 i, .int .i64 b] => some (D i b)
  | _ => none
theorem g1_ok {f : FuncId} {D : Int → DV} (h : ∀ i, Ans Tryd.prog f [iI i] (D i) ⟨0, [], []⟩) : ConOk Tryd.prog (liftC (comC f (g1 D))) := liftC_ok (comC_ok fun args d hh => by
  unfold g1 at hh
  split at hh
  · cases hh
    exact h _
  · cases hh)
theorem g2_ok {f : FuncId} {D : Int → Int → DV} (h : ∀ i b, Ans Tryd.prog f [iI i, iI b] (D i b) ⟨0, [], []⟩) : ConOk Tryd.prog (liftC (comC f (g2 D))) := liftC_ok (comC_ok fun args d hh => by
  unfold g2 at hh
  split at hh
  · cases hh
    exact h _ _
  · cases hh)
def cAt : ConF := liftC (comC fAt (g1 atD))
theorem cAt_ok : ConOk Tryd.prog cAt := g1_ok at_ans
/-! ### Air -/
abbrev fAi : FuncId := 11
def air (i b : Int) : Int := 20 + 4 * ((8 * b + 22 + rb i - 1) / rb i)
def okB (i b : Int) : Bool := inr i && (decide (0 ≤ b) && decide (b ≤ 65535))
def aiV (i b : Int) : Int := match okB i b with
  | true => air i b
  | false => 0
def aiE (i b : Int) : Int := match okB i b with
  | true => 0
  | false => 2
def aiD (i b : Int) : DV := .tuple [iI (aiV i b), iI (aiE i b)]
abbrev airX (B b : Int) : Int := IntKind.i64.wrap (IntKind.i64.wrap (IntKind.i64.wrap (22 + IntKind.i64.wrap (8 * b)) + B) - 1)
abbrev airA (i b v : Int) : Prop := binD tab .quo 3 (iI (airX (rb i) b)) (iI (rb i)) = some (iI v)
abbrev airW (v : Int) : Int := IntKind.i64.wrap (20 + IntKind.i64.wrap (4 * v))
section
variable (i b v : Int)
set_option maxRecDepth 1000000 in
theorem ai1 : zflat (zans Tryd.prog tab ftab cAt fAi [iI i, iI b] [(14, .b true)]) = some (.tuple [iI 0, iI (er i)], ((er i != 0) = true) :: []) := by kernel_rfl
set_option maxRecDepth 1000000 in
theorem ai2 : zflat (zans Tryd.prog tab ftab cAt fAi [iI i, iI b] [(14, .b false), (17, .b true)]) = some (.tuple [iI 0, iI 2], ((er i != 0) = false) :: (decide (b < 0) = true) :: []) := by kernel_rfl
set_option maxRecDepth 1000000 in
theorem ai3 : zflat (zans Tryd.prog tab ftab cAt fAi [iI i, iI b] [(14, .b false), (17, .b false), (20, .b true)]) = some (.tuple [iI 0, iI 2], ((er i != 0) = false) :: (decide (b < 0) = false) :: (decide (b > 65535) = true) :: []) := by kernel_rfl
set_option maxRecDepth 1000000 in
theorem ai4 : zflat (zans Tryd.prog tab ftab cAt fAi [iI i, iI b] [(14, .b false), (17, .b false), (20, .b false), (24, .c [(15, .n (iI v))])]) = some (.tuple [iI (airW v), iI 0], ((er i != 0) = false) :: (decide (b < 0) = false) :: (decide (b > 65535) = false) :: airA i b v :: []) := by kernel_rfl
end
theorem airX_eq {B b : Int} (hB : 24 ≤ B ∧ B ≤ 476) (hb : 0 ≤ b ∧ b ≤ 65535) : airX B b = 8 * b + 22 + B - 1 := by
  unfold airX
  rw [wrapZ (x := 8 * b) (by omega) (by omega), wrapZ (x := 22 + 8 * b) (by omega) (by omega), wrapZ (x := 22 + 8 * b + B) (by omega) (by omega), wrapZ (by omega) (by omega)]
  omega
theorem quo_at {x B : Int} (hB : 24 ≤ B) (hx : 0 ≤ x ∧ x < 9223372036854775808) : binD tab .quo 3 (iI x) (iI B) = some (iI (x / B)) := by
  have h0 : (B != 0) = true := by simp; omega
  have h1 : 0 ≤ x / B := Int.ediv_nonneg hx.1 (by omega)
  have h2 : x / B ≤ x := Int.ediv_le_self _ hx.1
  show guardO (B != 0) (.int .i64 (quoD .i64 x B)) = _
  rw [h0, quoD, Int.tdiv_eq_ediv_of_nonneg hx.1, wrapZ (by omega) (by omega)]
  rfl
theorem div_b {x B : Int} (hB : 24 ≤ B) (hx : 0 ≤ x) : 0 ≤ x / B ∧ x / B ≤ x := ⟨Int.ediv_nonneg hx (by omega), Int.ediv_le_self _ hx⟩
theorem airA_at {i b : Int} (h : okB i b = true) : airA i b ((8 * b + 22 + rb i - 1) / rb i) := by
  simp only [okB, Bool.and_eq_true, decide_eq_true_eq] at h
  have hB := rb_in h.1
  unfold airA
  rw [airX_eq hB h.2]
  exact quo_at hB.1 (by omega)
theorem airW_at {i b : Int} (h : okB i b = true) : airW ((8 * b + 22 + rb i - 1) / rb i) = air i b := by
  simp only [okB, Bool.and_eq_true, decide_eq_true_eq] at h
  have hB := rb_in h.1
  have := div_b (x := 8 * b + 22 + rb i - 1) hB.1 (by omega)
  unfold airW air
  rw [wrapZ (x := 4 * _) (by omega) (by omega), wrapZ (by omega) (by omega)]
theorem okB_n {i b : Int} (h : inr i = false ∨ b < 0 ∨ 65535 < b) : okB i b = false := by
  unfold okB
  rcases h with h | h | h
  · rw [h]; rfl
  · rw [decide_eq_false (show ¬ 0 ≤ b by omega), Bool.false_and, Bool.and_false]
  · rw [decide_eq_false (show ¬ b ≤ 65535 by omega), Bool.and_false, Bool.and_false]
theorem okB_y {i b : Int} (h : inr i = true) (h1 : 0 ≤ b) (h2 : b ≤ 65535) : okB i b = true := by
  unfold okB
  rw [h, decide_eq_true h1, decide_eq_true h2]
  rfl
theorem ai_ans (i b : Int) : Ans Tryd.prog fAi [iI i, iI b] (aiD i b) ⟨0, [], []⟩ := by
  unfold aiD aiV aiE
  cases h : inr i with
  | false =>
    rw [okB_n (.inl h)]
    have := ai1 i b
    rw [er_f h] at this
    exact zflat_ok tab_ok mixed fun_ok cAt_ok this (.cons rfl .nil)
  | true =>
    by_cases h1 : b < 0
    · rw [okB_n (.inr (.inl h1))]
      exact zflat_ok tab_ok mixed fun_ok cAt_ok (ai2 i b) (.cons (er_nt h) (.cons (decide_eq_true h1) .nil))
    · by_cases h2 : b > 65535
      · rw [okB_n (.inr (.inr h2))]
        exact zflat_ok tab_ok mixed fun_ok cAt_ok (ai3 i b) (.cons (er_nt h) (.cons (decide_eq_false h1) (.cons (decide_eq_true h2) .nil)))
      · have hk := okB_y h (by omega : 0 ≤ b) (by omega : b ≤ 65535)
        rw [hk]
        have := ai4 i b ((8 * b + 22 + rb i - 1) / rb i)
        rw [airW_at hk] at this
        exact zflat_ok tab_ok mixed fun_ok cAt_ok this (.cons (er_nt h) (.cons (decide_eq_false h1) (.cons (decide_eq_false h2) (.cons (airA_at hk) .nil))))
def cAi : ConF := liftC (comC fAi (g2 aiD))
theorem cAi_ok : ConOk Tryd.prog cAi := g2_ok ai_ans
end
end Go.Proofs.YtlenidhjjganeaaDoor
