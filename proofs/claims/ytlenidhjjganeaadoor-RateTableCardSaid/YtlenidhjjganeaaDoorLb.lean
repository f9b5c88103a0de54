/- Length, Best, Response, the responses' airtimes, Total, Count; the example: contracts. -/
import Derived.Test.YtlenidhjjganeaaDoorLa
namespace Go.Proofs.YtlenidhjjganeaaDoor
open Go.RowKit

noncomputable section
/-! ### Length -/
abbrev fLe : FuncId := 12
def okM (i m : Int) : Bool := inr i && decide (air i 0 ≤ m)
def len (i m : Int) : Int := min 65535 ((((min m (air i 65535)) - 20) / 4 * rb i - 22) / 8)
def leV (i m : Int) : Int := match okM i m with
  | true => len i m
  | false => 0
def leE (i m : Int) : Int := match inr i with
  | true => match decide (air i 0 ≤ m) with
    | true => 0
    | false => 40
  | false => 2
def leD (i m : Int) : DV := .tuple [iI (leV i m), iI (leE i m)]
abbrev lnX (B m A : Int) : Int := quoD .i64 (IntKind.i64.wrap (IntKind.i64.wrap (quoD .i64 (IntKind.i64.wrap ((if A < m then A else m) - 20)) 4 * B) - 22)) 8
abbrev lnQ (B m A n : Int) : Prop := DV.int .i64 (if 65535 < lnX B m A then 65535 else lnX B m A) = iI n
section
variable (i m u v n : Int)
set_option maxRecDepth 1000000 in
theorem le1 : zflat (zans Tryd.prog tab ftab cAt fLe [iI i, iI m] [(14, .b true)]) = some (.tuple [iI 0, iI (er i)], ((er i != 0) = true) :: []) := by kernel_rfl
set_option maxRecDepth 1000000 in
theorem le2 : zflat (zans Tryd.prog tab ftab cAt fLe [iI i, iI m] [(14, .b false), (18, .c [(15, .n (iI v))]), (19, .b true)]) = some (.tuple [iI 0, iI 40], ((er i != 0) = false) :: airA i 0 v :: (decide (m < airW v) = true) :: []) := by kernel_rfl
set_option maxRecDepth 1000000 in
theorem le3 : zflat (zans Tryd.prog tab ftab cAt fLe [iI i, iI m] [(14, .b false), (18, .c [(15, .n (iI v))]), (19, .b false), (22, .c [(8, .c [(15, .n (iI u))]), (19, .w (iI n))])]) = some (.tuple [iI n, iI 0], ((er i != 0) = false) :: airA i 0 v :: (decide (m < airW v) = false) :: airA i 65535 u :: lnQ (rb i) m (airW u) n :: []) := by kernel_rfl
end
theorem air_in {i b : Int} (h : okB i b = true) : 24 ≤ air i b ∧ air i b ≤ 100000 := by
  simp only [okB, Bool.and_eq_true, decide_eq_true_eq] at h
  obtain ⟨h, h1, h2⟩ := h
  unfold air
  rcases inr_t h with rfl | rfl | rfl | rfl | rfl | rfl | rfl | rfl | rfl | rfl | rfl | rfl <;> simp only [show rb 0 = 24 from rfl, show rb 1 = 36 from rfl, show rb 2 = 48 from rfl, show rb 3 = 72 from rfl, show rb 4 = 100 from rfl, show rb 5 = 148 from rfl, show rb 6 = 196 from rfl, show rb 7 = 220 from rfl, show rb 8 = 264 from rfl, show rb 9 = 316 from rfl, show rb 10 = 396 from rfl, show rb 11 = 476 from rfl] <;> omega
theorem quo_eq {x B : Int} (hB : 1 ≤ B) (hx : 0 ≤ x ∧ x < 9223372036854775808) : quoD .i64 x B = x / B := by
  have h1 : 0 ≤ x / B := Int.ediv_nonneg hx.1 (by omega)
  have h2 : x / B ≤ x := Int.ediv_le_self _ hx.1
  rw [quoD, Int.tdiv_eq_ediv_of_nonneg hx.1, wrapZ (by omega) (by omega)]
theorem lnQ_at {i m : Int} (h : inr i = true) (hm : air i 0 ≤ m) : lnQ (rb i) m (air i 65535) (len i m) := by
  have a0 := air_in (okB_y h (by decide : (0 : Int) ≤ 0) (by decide))
  have a1 := air_in (okB_y h (by decide : (0 : Int) ≤ 65535) (by decide))
  have hB := rb_in h
  have e1 : (if air i 65535 < m then air i 65535 else m) = min m (air i 65535) := by
    split <;> omega
  obtain ⟨z, hz⟩ : ∃ z, z = min m (air i 65535) := ⟨_, rfl⟩
  have b1 : 24 ≤ z ∧ z ≤ 100000 := by
    rw [hz]
    omega
  obtain ⟨s, hs⟩ : ∃ s, s = (z - 20) / 4 := ⟨_, rfl⟩
  have b2 : 1 ≤ s ∧ s ≤ 100000 := by omega
  have b3 : 24 ≤ s * rb i := by
    have := Int.mul_le_mul b2.1 hB.1 (by decide) (by omega)
    omega
  have b4 : s * rb i ≤ 100000 * 476 := Int.mul_le_mul b2.2 hB.2 (by omega) (by decide)
  have e2 : lnX (rb i) m (air i 65535) = (s * rb i - 22) / 8 := by
    unfold lnX
    rw [e1, ← hz, wrapZ (x := z - 20) (by omega) (by omega), quo_eq (x := z - 20) (by decide) (by omega), ← hs, wrapZ (x := s * rb i) (by omega) (by omega), wrapZ (x := s * rb i - 22) (by omega) (by omega), quo_eq (by decide) (by omega)]
  unfold lnQ len
  rw [e2, ← hz, ← hs]
  congr 1
  split <;> omega
theorem le_ans (i m : Int) : Ans Tryd.prog fLe [iI i, iI m] (leD i m) ⟨0, [], []⟩ := by
  unfold leD leV leE okM
  cases h : inr i with
  | false =>
    have := le1 i m
    rw [er_f h] at this
    exact zflat_ok tab_ok mixed fun_ok cAt_ok this (.cons rfl .nil)
  | true =>
    have h0 : okB i 0 = true := okB_y h (by decide) (by decide)
    have h6 : okB i 65535 = true := okB_y h (by decide) (by decide)
    by_cases h1 : air i 0 ≤ m
    · rw [decide_eq_true h1]
      have := le3 i m ((8 * 65535 + 22 + rb i - 1) / rb i) ((8 * 0 + 22 + rb i - 1) / rb i) (len i m)
      rw [airW_at h6, airW_at h0] at this
      exact zflat_ok tab_ok mixed fun_ok cAt_ok this (.cons (er_nt h) (.cons (airA_at h0) (.cons (decide_eq_false (by omega)) (.cons (airA_at h6) (.cons (lnQ_at h h1) .nil)))))
    · rw [decide_eq_false h1]
      have := le2 i m ((8 * 0 + 22 + rb i - 1) / rb i)
      rw [airW_at h0] at this
      exact zflat_ok tab_ok mixed fun_ok cAt_ok this (.cons (er_nt h) (.cons (airA_at h0) (.cons (decide_eq_true (by omega)) .nil)))
def cLe : ConF := liftC (comC fLe (g2 leD))
theorem cLe_ok : ConOk Tryd.prog cLe := g2_ok le_ans
/-! ### Best -/
abbrev fBs : FuncId := 13
def bsV (l : Int) : Int := if (-538 : Int) ≤ l then 11 else if (-568 : Int) ≤ l then 10 else if (-590 : Int) ≤ l then 9 else if (-640 : Int) ≤ l then 8 else if (-652 : Int) ≤ l then 7 else if (-664 : Int) ≤ l then 6 else if (-702 : Int) ≤ l then 5 else if (-738 : Int) ≤ l then 4 else if (-768 : Int) ≤ l then 3 else if (-788 : Int) ≤ l then 2 else if (-808 : Int) ≤ l then 1 else if (-820 : Int) ≤ l then 0 else 0
def bsI (l : Int) : Bool := decide ((-820 : Int) ≤ l)
def bsD (l : Int) : DV := .tuple [iI (bsV l), .bool (bsI l)]
set_option maxRecDepth 1000000 in
theorem bs11 (l : Int) : zflat (zans Tryd.prog tab ftab noC fBs [iI l] [(14, .b true)]) = some (.tuple [iI 11, .bool true], (decide ((-538 : Int) ≤ l) = true) :: []) := by kernel_rfl
set_option maxRecDepth 1000000 in
theorem bs10 (l : Int) : zflat (zans Tryd.prog tab ftab noC fBs [iI l] [(14, .b false), (14, .b true)]) = some (.tuple [iI 10, .bool true], (decide ((-538 : Int) ≤ l) = false) :: (decide ((-568 : Int) ≤ l) = true) :: []) := by kernel_rfl
set_option maxRecDepth 1000000 in
theorem bs9 (l : Int) : zflat (zans Tryd.prog tab ftab noC fBs [iI l] [(14, .b false), (14, .b false), (14, .b true)]) = some (.tuple [iI 9, .bool true], (decide ((-538 : Int) ≤ l) = false) :: (decide ((-568 : Int) ≤ l) = false) :: (decide ((-590 : Int) ≤ l) = true) :: []) := by kernel_rfl
set_option maxRecDepth 1000000 in
theorem bs8 (l : Int) : zflat (zans Tryd.prog tab ftab noC fBs [iI l] [(14, .b false), (14, .b false), (14, .b false), (14, .b true)]) = some (.tuple [iI 8, .bool true], (decide ((-538 : Int) ≤ l) = false) :: (decide ((-568 : Int) ≤ l) = false) :: (decide ((-590 : Int) ≤ l) = false) :: (decide ((-640 : Int) ≤ l) = true) :: []) := by kernel_rfl
set_option maxRecDepth 1000000 in
theorem bs7 (l : Int) : zflat (zans Tryd.prog tab ftab noC fBs [iI l] [(14, .b false), (14, .b false), (14, .b false), (14, .b false), (14, .b true)]) = some (.tuple [iI 7, .bool true], (decide ((-538 : Int) ≤ l) = false) :: (decide ((-568 : Int) ≤ l) = false) :: (decide ((-590 : Int) ≤ l) = false) :: (decide ((-640 : Int) ≤ l) = false) :: (decide ((-652 : Int) ≤ l) = true) :: []) := by kernel_rfl
set_option maxRecDepth 1000000 in
theorem bs6 (l : Int) : zflat (zans Tryd.prog tab ftab noC fBs [iI l] [(14, .b false), (14, .b false), (14, .b false), (14, .b false), (14, .b false), (14, .b true)]) = some (.tuple [iI 6, .bool true], (decide ((-538 : Int) ≤ l) = false) :: (decide ((-568 : Int) ≤ l) = false) :: (decide ((-590 : Int) ≤ l) = false) :: (decide ((-640 : Int) ≤ l) = false) :: (decide ((-652 : Int) ≤ l) = false) :: (decide ((-664 : Int) ≤ l) = true) :: []) := by kernel_rfl
set_option maxRecDepth 1000000 in
theorem bs5 (l : Int) : zflat (zans Tryd.prog tab ftab noC fBs [iI l] [(14, .b false), (14, .b false), (14, .b false), (14, .b false), (14, .b false), (14, .b false), (14, .b true)]) = some (.tuple [iI 5, .bool true], (decide ((-538 : Int) ≤ l) = false) :: (decide ((-568 : Int) ≤ l) = false) :: (decide ((-590 : Int) ≤ l) = false) :: (decide ((-640 : Int) ≤ l) = false) :: (decide ((-652 : Int) ≤ l) = false) :: (decide ((-664 : Int) ≤ l) = false) :: (decide ((-702 : Int) ≤ l) = true) :: []) := by kernel_rfl
set_option maxRecDepth 1000000 in
theorem bs4 (l : Int) : zflat (zans Tryd.prog tab ftab noC fBs [iI l] [(14, .b false), (14, .b false), (14, .b false), (14, .b false), (14, .b false), (14, .b false), (14, .b false), (14, .b true)]) = some (.tuple [iI 4, .bool true], (decide ((-538 : Int) ≤ l) = false) :: (decide ((-568 : Int) ≤ l) = false) :: (decide ((-590 : Int) ≤ l) = false) :: (decide ((-640 : Int) ≤ l) = false) :: (decide ((-652 : Int) ≤ l) = false) :: (decide ((-664 : Int) ≤ l) = false) :: (decide ((-702 : Int) ≤ l) = false) :: (decide ((-738 : Int) ≤ l) = true) :: []) := by kernel_rfl
set_option maxRecDepth 1000000 in
theorem bs3 (l : Int) : zflat (zans Tryd.prog tab ftab noC fBs [iI l] [(14, .b false), (14, .b false), (14, .b false), (14, .b false), (14, .b false), (14, .b false), (14, .b false), (14, .b false), (14, .b true)]) = some (.tuple [iI 3, .bool true], (decide ((-538 : Int) ≤ l) = false) :: (decide ((-568 : Int) ≤ l) = false) :: (decide ((-590 : Int) ≤ l) = false) :: (decide ((-640 : Int) ≤ l) = false) :: (decide ((-652 : Int) ≤ l) = false) :: (decide ((-664 : Int) ≤ l) = false) :: (decide ((-702 : Int) ≤ l) = false) :: (decide ((-738 : Int) ≤ l) = false) :: (decide ((-768 : Int) ≤ l) = true) :: []) := by kernel_rfl
set_option maxRecDepth 1000000 in
theorem bs2 (l : Int) : zflat (zans Tryd.prog tab ftab noC fBs [iI l] [(14, .b false), (14, .b false), (14, .b false), (14, .b false), (14, .b false), (14, .b false), (14, .b false), (14, .b false), (14, .b false), (14, .b true)]) = some (.tuple [iI 2, .bool true], (decide ((-538 : Int) ≤ l) = false) :: (decide ((-568 : Int) ≤ l) = false) :: (decide ((-590 : Int) ≤ l) = false) :: (decide ((-640 : Int) ≤ l) = false) :: (decide ((-652 : Int) ≤ l) = false) :: (decide ((-664 : Int) ≤ l) = false) :: (decide ((-702 : Int) ≤ l) = false) :: (decide ((-738 : Int) ≤ l) = false) :: (decide ((-768 : Int) ≤ l) = false) :: (decide ((-788 : Int) ≤ l) = true) :: []) := by kernel_rfl
set_option maxRecDepth 1000000 in
theorem bs1 (l : Int) : zflat (zans Tryd.prog tab ftab noC fBs [iI l] [(14, .b false), (14, .b false), (14, .b false), (14, .b false), (14, .b false), (14, .b false), (14, .b false), (14, .b false), (14, .b false), (14, .b false), (14, .b true)]) = some (.tuple [iI 1, .bool true], (decide ((-538 : Int) ≤ l) = false) :: (decide ((-568 : Int) ≤ l) = false) :: (decide ((-590 : Int) ≤ l) = false) :: (decide ((-640 : Int) ≤ l) = false) :: (decide ((-652 : Int) ≤ l) = false) :: (decide ((-664 : Int) ≤ l) = false) :: (decide ((-702 : Int) ≤ l) = false) :: (decide ((-738 : Int) ≤ l) = false) :: (decide ((-768 : Int) ≤ l) = false) :: (decide ((-788 : Int) ≤ l) = false) :: (decide ((-808 : Int) ≤ l) = true) :: []) := by kernel_rfl
set_option maxRecDepth 1000000 in
theorem bs0 (l : Int) : zflat (zans Tryd.prog tab ftab noC fBs [iI l] [(14, .b false), (14, .b false), (14, .b false), (14, .b false), (14, .b false), (14, .b false), (14, .b false), (14, .b false), (14, .b false), (14, .b false), (14, .b false), (14, .b true)]) = some (.tuple [iI 0, .bool true], (decide ((-538 : Int) ≤ l) = false) :: (decide ((-568 : Int) ≤ l) = false) :: (decide ((-590 : Int) ≤ l) = false) :: (decide ((-640 : Int) ≤ l) = false) :: (decide ((-652 : Int) ≤ l) = false) :: (decide ((-664 : Int) ≤ l) = false) :: (decide ((-702 : Int) ≤ l) = false) :: (decide ((-738 : Int) ≤ l) = false) :: (decide ((-768 : Int) ≤ l) = false) :: (decide ((-788 : Int) ≤ l) = false) :: (decide ((-808 : Int) ≤ l) = false) :: (decide ((-820 : Int) ≤ l) = true) :: []) := by kernel_rfl
set_option maxRecDepth 1000000 in
theorem bsn (l : Int) : zflat (zans Tryd.prog tab ftab noC fBs [iI l] [(14, .b false), (14, .b false), (14, .b false), (14, .b false), (14, .b false), (14, .b false), (14, .b false), (14, .b false), (14, .b false), (14, .b false), (14, .b false), (14, .b false)]) = some (.tuple [iI 0, .bool false], (decide ((-538 : Int) ≤ l) = false) :: (decide ((-568 : Int) ≤ l) = false) :: (decide ((-590 : Int) ≤ l) = false) :: (decide ((-640 : Int) ≤ l) = false) :: (decide ((-652 : Int) ≤ l) = false) :: (decide ((-664 : Int) ≤ l) = false) :: (decide ((-702 : Int) ≤ l) = false) :: (decide ((-738 : Int) ≤ l) = false) :: (decide ((-768 : Int) ≤ l) = false) :: (decide ((-788 : Int) ≤ l) = false) :: (decide ((-808 : Int) ≤ l) = false) :: (decide ((-820 : Int) ≤ l) = false) :: []) := by kernel_rfl
theorem bs_ans (l : Int) : Ans Tryd.prog fBs [iI l] (bsD l) ⟨0, [], []⟩ := by
  unfold bsD bsV bsI
  by_cases h11 : (-538 : Int) ≤ l
  · rw [if_pos h11, decide_eq_true (show (-820 : Int) ≤ l by omega)]
    exact zflat_ok tab_ok mixed fun_ok noC_ok (bs11 l) (.cons (decide_eq_true h11) .nil)
  · skip
    by_cases h10 : (-568 : Int) ≤ l
    · rw [if_neg h11, if_pos h10, decide_eq_true (show (-820 : Int) ≤ l by omega)]
      exact zflat_ok tab_ok mixed fun_ok noC_ok (bs10 l) (.cons (decide_eq_false h11) (.cons (decide_eq_true h10) .nil))
    · skip
      by_cases h9 : (-590 : Int) ≤ l
      · rw [if_neg h11, if_neg h10, if_pos h9, decide_eq_true (show (-820 : Int) ≤ l by omega)]
        exact zflat_ok tab_ok mixed fun_ok noC_ok (bs9 l) (.cons (decide_eq_false h11) (.cons (decide_eq_false h10) (.cons (decide_eq_true h9) .nil)))
      · skip
        by_cases h8 : (-640 : Int) ≤ l
        · rw [if_neg h11, if_neg h10, if_neg h9, if_pos h8, decide_eq_true (show (-820 : Int) ≤ l by omega)]
          exact zflat_ok tab_ok mixed fun_ok noC_ok (bs8 l) (.cons (decide_eq_false h11) (.cons (decide_eq_false h10) (.cons (decide_eq_false h9) (.cons (decide_eq_true h8) .nil))))
        · skip
          by_cases h7 : (-652 : Int) ≤ l
          · rw [if_neg h11, if_neg h10, if_neg h9, if_neg h8, if_pos h7, decide_eq_true (show (-820 : Int) ≤ l by omega)]
            exact zflat_ok tab_ok mixed fun_ok noC_ok (bs7 l) (.cons (decide_eq_false h11) (.cons (decide_eq_false h10) (.cons (decide_eq_false h9) (.cons (decide_eq_false h8) (.cons (decide_eq_true h7) .nil)))))
          · skip
            by_cases h6 : (-664 : Int) ≤ l
            · rw [if_neg h11, if_neg h10, if_neg h9, if_neg h8, if_neg h7, if_pos h6, decide_eq_true (show (-820 : Int) ≤ l by omega)]
              exact zflat_ok tab_ok mixed fun_ok noC_ok (bs6 l) (.cons (decide_eq_false h11) (.cons (decide_eq_false h10) (.cons (decide_eq_false h9) (.cons (decide_eq_false h8) (.cons (decide_eq_false h7) (.cons (decide_eq_true h6) .nil))))))
            · skip
              by_cases h5 : (-702 : Int) ≤ l
              · rw [if_neg h11, if_neg h10, if_neg h9, if_neg h8, if_neg h7, if_neg h6, if_pos h5, decide_eq_true (show (-820 : Int) ≤ l by omega)]
                exact zflat_ok tab_ok mixed fun_ok noC_ok (bs5 l) (.cons (decide_eq_false h11) (.cons (decide_eq_false h10) (.cons (decide_eq_false h9) (.cons (decide_eq_false h8) (.cons (decide_eq_false h7) (.cons (decide_eq_false h6) (.cons (decide_eq_true h5) .nil)))))))
              · skip
                by_cases h4 : (-738 : Int) ≤ l
                · rw [if_neg h11, if_neg h10, if_neg h9, if_neg h8, if_neg h7, if_neg h6, if_neg h5, if_pos h4, decide_eq_true (show (-820 : Int) ≤ l by omega)]
                  exact zflat_ok tab_ok mixed fun_ok noC_ok (bs4 l) (.cons (decide_eq_false h11) (.cons (decide_eq_false h10) (.cons (decide_eq_false h9) (.cons (decide_eq_false h8) (.cons (decide_eq_false h7) (.cons (decide_eq_false h6) (.cons (decide_eq_false h5) (.cons (decide_eq_true h4) .nil))))))))
                · skip
                  by_cases h3 : (-768 : Int) ≤ l
                  · rw [if_neg h11, if_neg h10, if_neg h9, if_neg h8, if_neg h7, if_neg h6, if_neg h5, if_neg h4, if_pos h3, decide_eq_true (show (-820 : Int) ≤ l by omega)]
                    exact zflat_ok tab_ok mixed fun_ok noC_ok (bs3 l) (.cons (decide_eq_false h11) (.cons (decide_eq_false h10) (.cons (decide_eq_false h9) (.cons (decide_eq_false h8) (.cons (decide_eq_false h7) (.cons (decide_eq_false h6) (.cons (decide_eq_false h5) (.cons (decide_eq_false h4) (.cons (decide_eq_true h3) .nil)))))))))
                  · skip
                    by_cases h2 : (-788 : Int) ≤ l
                    · rw [if_neg h11, if_neg h10, if_neg h9, if_neg h8, if_neg h7, if_neg h6, if_neg h5, if_neg h4, if_neg h3, if_pos h2, decide_eq_true (show (-820 : Int) ≤ l by omega)]
                      exact zflat_ok tab_ok mixed fun_ok noC_ok (bs2 l) (.cons (decide_eq_false h11) (.cons (decide_eq_false h10) (.cons (decide_eq_false h9) (.cons (decide_eq_false h8) (.cons (decide_eq_false h7) (.cons (decide_eq_false h6) (.cons (decide_eq_false h5) (.cons (decide_eq_false h4) (.cons (decide_eq_false h3) (.cons (decide_eq_true h2) .nil))))))))))
                    · skip
                      by_cases h1 : (-808 : Int) ≤ l
                      · rw [if_neg h11, if_neg h10, if_neg h9, if_neg h8, if_neg h7, if_neg h6, if_neg h5, if_neg h4, if_neg h3, if_neg h2, if_pos h1, decide_eq_true (show (-820 : Int) ≤ l by omega)]
                        exact zflat_ok tab_ok mixed fun_ok noC_ok (bs1 l) (.cons (decide_eq_false h11) (.cons (decide_eq_false h10) (.cons (decide_eq_false h9) (.cons (decide_eq_false h8) (.cons (decide_eq_false h7) (.cons (decide_eq_false h6) (.cons (decide_eq_false h5) (.cons (decide_eq_false h4) (.cons (decide_eq_false h3) (.cons (decide_eq_false h2) (.cons (decide_eq_true h1) .nil)))))))))))
                      · skip
                        by_cases h0 : (-820 : Int) ≤ l
                        · rw [if_neg h11, if_neg h10, if_neg h9, if_neg h8, if_neg h7, if_neg h6, if_neg h5, if_neg h4, if_neg h3, if_neg h2, if_neg h1, if_pos h0, decide_eq_true (show (-820 : Int) ≤ l by omega)]
                          exact zflat_ok tab_ok mixed fun_ok noC_ok (bs0 l) (.cons (decide_eq_false h11) (.cons (decide_eq_false h10) (.cons (decide_eq_false h9) (.cons (decide_eq_false h8) (.cons (decide_eq_false h7) (.cons (decide_eq_false h6) (.cons (decide_eq_false h5) (.cons (decide_eq_false h4) (.cons (decide_eq_false h3) (.cons (decide_eq_false h2) (.cons (decide_eq_false h1) (.cons (decide_eq_true h0) .nil))))))))))))
                        · skip
                          rw [if_neg h11, if_neg h10, if_neg h9, if_neg h8, if_neg h7, if_neg h6, if_neg h5, if_neg h4, if_neg h3, if_neg h2, if_neg h1, if_neg h0, decide_eq_false h0]
                          exact zflat_ok tab_ok mixed fun_ok noC_ok (bsn l) (.cons (decide_eq_false h11) (.cons (decide_eq_false h10) (.cons (decide_eq_false h9) (.cons (decide_eq_false h8) (.cons (decide_eq_false h7) (.cons (decide_eq_false h6) (.cons (decide_eq_false h5) (.cons (decide_eq_false h4) (.cons (decide_eq_false h3) (.cons (decide_eq_false h2) (.cons (decide_eq_false h1) (.cons (decide_eq_false h0) .nil))))))))))))
def cBs : ConF := liftC (comC fBs (g1 bsD))
theorem cBs_ok : ConOk Tryd.prog cBs := g1_ok bs_ans
/-! ### Response -/
abbrev fRs : FuncId := 14
def rsV (i : Int) : Int := match inr i with
  | true => [0, 0, 2, 2, 4, 4, 4, 4, 4, 4, 4, 4].getD i.toNat 0
  | false => 0
def rsD (i : Int) : DV := .tuple [iI (rsV i), iI (er i)]
set_option maxRecDepth 1000000 in
theorem rs1 (i : Int) : zflat (zans Tryd.prog tab ftab cAt fRs [iI i] [(12, .b true)]) = some (.tuple [iI 0, iI (er i)], ((er i != 0) = true) :: []) := by kernel_rfl
set_option maxRecDepth 1000000 in
theorem rs_ans (i : Int) : Ans Tryd.prog fRs [iI i] (rsD i) ⟨0, [], []⟩ := by
  cases h : inr i with
  | true => rcases inr_t h with rfl | rfl | rfl | rfl | rfl | rfl | rfl | rfl | rfl | rfl | rfl | rfl <;> exact zflat_ok (p := []) tab_ok mixed fun_ok cAt_ok (by kernel_rfl) .nil
  | false =>
    have := rs1 i
    rw [rsD, rsV, h]
    exact zflat_ok tab_ok mixed fun_ok cAt_ok this (.cons (er_nf h) .nil)
def cRs : ConF := liftC (comC fRs (g1 rsD))
theorem cRs_ok : ConOk Tryd.prog cRs := g1_ok rs_ans
/-! ### AckAir -/
abbrev f_ak : FuncId := 24
def akV (i : Int) : Int := match inr i with
  | true => [44, 44, 32, 32, 28, 28, 28, 28, 28, 28, 28, 28].getD i.toNat 0
  | false => 0
def akD (i : Int) : DV := .tuple [iI (akV i), iI (er i)]
set_option maxRecDepth 1000000 in
theorem ak1 (i : Int) : zflat (zans Tryd.prog tab ftab cRs f_ak [iI i] [(5, .c [(13, .b true)])]) = some (.tuple [iI 0, iI (er i)], ((er i != 0) = true) :: []) := by kernel_rfl
set_option maxRecDepth 1000000 in
theorem ak_ans (i : Int) : Ans Tryd.prog f_ak [iI i] (akD i) ⟨0, [], []⟩ := by
  cases h : inr i with
  | true => rcases inr_t h with rfl | rfl | rfl | rfl | rfl | rfl | rfl | rfl | rfl | rfl | rfl | rfl <;> exact zflat_ok (p := []) tab_ok mixed fun_ok cRs_ok (by kernel_rfl) .nil
  | false =>
    have := ak1 i
    rw [akD, akV, h]
    exact zflat_ok tab_ok mixed fun_ok cRs_ok this (.cons (er_nf h) .nil)
def c_ak : ConF := liftC (comC f_ak (g1 akD))
theorem c_ak_ok : ConOk Tryd.prog c_ak := g1_ok ak_ans
/-! ### RtsAir -/
abbrev f_rt : FuncId := 26
def rtV (i : Int) : Int := match inr i with
  | true => [52, 52, 36, 36, 28, 28, 28, 28, 28, 28, 28, 28].getD i.toNat 0
  | false => 0
def rtD (i : Int) : DV := .tuple [iI (rtV i), iI (er i)]
set_option maxRecDepth 1000000 in
theorem rt1 (i : Int) : zflat (zans Tryd.prog tab ftab cRs f_rt [iI i] [(5, .c [(13, .b true)])]) = some (.tuple [iI 0, iI (er i)], ((er i != 0) = true) :: []) := by kernel_rfl
set_option maxRecDepth 1000000 in
theorem rt_ans (i : Int) : Ans Tryd.prog f_rt [iI i] (rtD i) ⟨0, [], []⟩ := by
  cases h : inr i with
  | true => rcases inr_t h with rfl | rfl | rfl | rfl | rfl | rfl | rfl | rfl | rfl | rfl | rfl | rfl <;> exact zflat_ok (p := []) tab_ok mixed fun_ok cRs_ok (by kernel_rfl) .nil
  | false =>
    have := rt1 i
    rw [rtD, rtV, h]
    exact zflat_ok tab_ok mixed fun_ok cRs_ok this (.cons (er_nf h) .nil)
def c_rt : ConF := liftC (comC f_rt (g1 rtD))
theorem c_rt_ok : ConOk Tryd.prog c_rt := g1_ok rt_ans
/-! ### BackAir -/
abbrev f_bk : FuncId := 27
def bkV (i : Int) : Int := match inr i with
  | true => [64, 64, 44, 44, 32, 32, 32, 32, 32, 32, 32, 32].getD i.toNat 0
  | false => 0
def bkD (i : Int) : DV := .tuple [iI (bkV i), iI (er i)]
set_option maxRecDepth 1000000 in
theorem bk1 (i : Int) : zflat (zans Tryd.prog tab ftab cRs f_bk [iI i] [(5, .c [(13, .b true)])]) = some (.tuple [iI 0, iI (er i)], ((er i != 0) = true) :: []) := by kernel_rfl
set_option maxRecDepth 1000000 in
theorem bk_ans (i : Int) : Ans Tryd.prog f_bk [iI i] (bkD i) ⟨0, [], []⟩ := by
  cases h : inr i with
  | true => rcases inr_t h with rfl | rfl | rfl | rfl | rfl | rfl | rfl | rfl | rfl | rfl | rfl | rfl <;> exact zflat_ok (p := []) tab_ok mixed fun_ok cRs_ok (by kernel_rfl) .nil
  | false =>
    have := bk1 i
    rw [bkD, bkV, h]
    exact zflat_ok tab_ok mixed fun_ok cRs_ok this (.cons (er_nf h) .nil)
def c_bk : ConF := liftC (comC f_bk (g1 bkD))
theorem c_bk_ok : ConOk Tryd.prog c_bk := g1_ok bk_ans
/-! ### Total, Count, the example -/
abbrev fTo : FuncId := 15
def toV (i b : Int) : Int := match okB i b with
  | true => air i b + 16 + akV i
  | false => 0
def toD (i b : Int) : DV := .tuple [iI (toV i b), iI (aiE i b)]
def cTo0 : ConF := orK cAi c_ak
theorem cTo0_ok : ConOk Tryd.prog cTo0 := orK_ok cAi_ok c_ak_ok
set_option maxRecDepth 1000000 in
theorem to1 (i b : Int) : zflat (zans Tryd.prog tab ftab cTo0 fTo [iI i, iI b] [(16, .b true)]) = some (.tuple [iI 0, iI (aiE i b)], ((aiE i b != 0) = true) :: []) := by kernel_rfl
set_option maxRecDepth 1000000 in
theorem to2 (i b v : Int) : zflat (zans Tryd.prog tab ftab cTo0 fTo [iI i, iI b] [(16, .b false), (26, .w (iI v))]) = some (.tuple [iI v, iI (er i)], ((aiE i b != 0) = false) :: (DV.int .i64 (IntKind.i64.wrap (IntKind.i64.wrap (aiV i b + 16) + akV i)) = iI v) :: []) := by kernel_rfl
theorem ak_in {i : Int} (h : inr i = true) : 24 ≤ akV i ∧ akV i ≤ 100 := by
  rcases inr_t h with rfl | rfl | rfl | rfl | rfl | rfl | rfl | rfl | rfl | rfl | rfl | rfl <;> decide
theorem to_ans (i b : Int) : Ans Tryd.prog fTo [iI i, iI b] (toD i b) ⟨0, [], []⟩ := by
  cases h : okB i b with
  | false =>
    have := to1 i b
    rw [toD, toV, h]
    refine zflat_ok tab_ok mixed fun_ok cTo0_ok this (.cons ?_ .nil)
    rw [aiE, h]
    rfl
  | true =>
    have h' := h
    simp only [okB, Bool.and_eq_true] at h'
    have a1 := air_in h
    have a2 := ak_in h'.1
    have := to2 i b (air i b + 16 + akV i)
    rw [er_t h'.1] at this
    rw [toD, toV, aiE, h]
    refine zflat_ok tab_ok mixed fun_ok cTo0_ok this (.cons ?_ (.cons ?_ .nil))
    · rw [aiE, h]
      rfl
    · rw [aiV, h]
      show DV.int .i64 (IntKind.i64.wrap (IntKind.i64.wrap (air i b + 16) + akV i)) = _
      rw [wrapZ (x := air i b + 16) (by omega) (by omega), wrapZ (by omega) (by omega)]
def cTo : ConF := liftC (comC fTo (g2 toD))
theorem cTo_ok : ConOk Tryd.prog cTo := g2_ok to_ans
abbrev fCo : FuncId := 17
def cCo : ConF := fixC fCo (iI 12)
set_option maxRecDepth 1000000 in
theorem cCo_ok : ConOk Tryd.prog cCo := fixC_ok (zflat_ok (p := []) tab_ok mixed fun_ok noC_ok (by kernel_rfl) .nil) rfl
abbrev fAv : FuncId := 16
def cAv : ConF := fixC fAv (.bool true)
set_option maxRecDepth 1000000 in
theorem cAv_ok : ConOk Tryd.prog cAv := fixC_ok (zflat_ok (p := []) tab_ok mixed fun_ok noC_ok (by kernel_rfl) .nil) rfl
end
end Go.Proofs.YtlenidhjjganeaaDoor
