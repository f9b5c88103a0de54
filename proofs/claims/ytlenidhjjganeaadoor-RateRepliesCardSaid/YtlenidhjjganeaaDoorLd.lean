/- The laws of layer 9 over data. -/
import Derived.Test.YtlenidhjjganeaaDoorLc
namespace Go.Proofs.YtlenidhjjganeaaDoor
open Go.RowKit

noncomputable section
theorem ieq (x : Int) : (x == x) = true := beq_iff_eq.2 rfl
theorem beq' (x : Bool) : (x == x) = true := beq_iff_eq.2 rfl
/-! ### RateTable -/
def cT1 : ConF := orK cGe (orK cGr (orK cBs (orK cBr (orK cRs (orK cSr (orK cCo cTb))))))
theorem cT1_ok : ConOk Tryd.prog cT1 := orK_ok cGe_ok (orK_ok cGr_ok (orK_ok cBs_ok (orK_ok cBr_ok (orK_ok cRs_ok (orK_ok cSr_ok (orK_ok cCo_ok cTb_ok))))))
set_option maxRecDepth 1000000 in
theorem table_run (i l : Int) : zflat (zans Tryd.prog tab ftab cT1 4 [iI i, iI l] [(54, .b true), (59, .b true), (64, .b true), (69, .b true), (74, .b true), (79, .b true)]) = some (.bool true, (((rb i == rb i) && ((rn i == rn i) && ((rq i == rq i) && true))) = true) :: ((er i == er i) = true) :: ((bsV l == bsV l) = true) :: ((bsI l == bsI l) = true) :: ((rsV i == rsV i) = true) :: ((er i == er i) = true) :: []) := by kernel_rfl
theorem table_all (i l : Int) : Ans Tryd.prog 4 [iI i, iI l] (.bool true) ⟨0, [], []⟩ :=
  zflat_ok tab_ok mixed fun_ok cT1_ok (table_run i l) (.cons (by rw [ieq, ieq, beq']; rfl) (.cons (ieq _) (.cons (ieq _) (.cons (beq' _) (.cons (ieq _) (.cons (ieq _) .nil))))))
/-! ### RateTimes -/
def cT2 : ConF := orK cAi (orK cAr (orK cLe (orK cLr (orK c_ak (orK c_rt (orK c_bk (orK cRp (orK cTo cTr))))))))
theorem cT2_ok : ConOk Tryd.prog cT2 := orK_ok cAi_ok (orK_ok cAr_ok (orK_ok cLe_ok (orK_ok cLr_ok (orK_ok c_ak_ok (orK_ok c_rt_ok (orK_ok c_bk_ok (orK_ok cRp_ok (orK_ok cTo_ok cTr_ok))))))))
set_option maxRecDepth 1000000 in
theorem times_run (i b m : Int) : zflat (zans Tryd.prog tab ftab cT2 5 [iI i, iI b, iI m] [(99, .b true), (103, .b true), (108, .b true), (113, .b true), (118, .b true), (123, .b true), (128, .b true), (133, .b true), (138, .b true), (143, .b true), (148, .b true), (153, .b true)]) = some (.bool true, ((aiV i b == aiV i b) = true) :: ((aiE i b == aiE i b) = true) :: ((leV i m == leV i m) = true) :: ((leE i m == leE i m) = true) :: ((akV i == akV i) = true) :: ((er i == er i) = true) :: ((rtV i == rtV i) = true) :: ((er i == er i) = true) :: ((bkV i == bkV i) = true) :: ((er i == er i) = true) :: ((toV i b == toV i b) = true) :: ((aiE i b == aiE i b) = true) :: []) := by kernel_rfl
theorem times_all (i b m : Int) : Ans Tryd.prog 5 [iI i, iI b, iI m] (.bool true) ⟨0, [], []⟩ :=
  zflat_ok tab_ok mixed fun_ok cT2_ok (times_run i b m) (.cons (ieq _) (.cons (ieq _) (.cons (ieq _) (.cons (ieq _) (.cons (ieq _) (.cons (ieq _) (.cons (ieq _) (.cons (ieq _) (.cons (ieq _) (.cons (ieq _) (.cons (ieq _) (.cons (ieq _) .nil))))))))))))
/-! ### RateReplies -/
def cT3 : ConF := orK cAv (orK cRs (orK cGe (orK cCo (orK c_ak (orK c_rt (orK c_bk (orK cAi cTo)))))))
theorem cT3_ok : ConOk Tryd.prog cT3 := orK_ok cAv_ok (orK_ok cRs_ok (orK_ok cGe_ok (orK_ok cCo_ok (orK_ok c_ak_ok (orK_ok c_rt_ok (orK_ok c_bk_ok (orK_ok cAi_ok cTo_ok)))))))
set_option maxRecDepth 1000000 in
theorem rep1 (i : Int) : zflat (zans Tryd.prog tab ftab cT3 9 [iI i] [(30, .b true), (34, .b true)]) = some (.bool true, ((er i != 0) = true) :: (decide (i < 0) = true) :: []) := by kernel_rfl
set_option maxRecDepth 1000000 in
theorem rep2 (i : Int) : zflat (zans Tryd.prog tab ftab cT3 9 [iI i] [(30, .b true), (34, .b false), (38, .b true)]) = some (.bool true, ((er i != 0) = true) :: (decide (i < 0) = false) :: (decide (i ≥ 12) = true) :: []) := by kernel_rfl
set_option maxRecDepth 1000000 in
theorem replies_all (i : Int) : Ans Tryd.prog 9 [iI i] (.bool true) ⟨0, [], []⟩ := by
  cases h : inr i with
  | true => rcases inr_t h with rfl | rfl | rfl | rfl | rfl | rfl | rfl | rfl | rfl | rfl | rfl | rfl <;> exact zflat_ok (p := []) tab_ok mixed fun_ok cT3_ok (by kernel_rfl) .nil
  | false =>
    rcases inr_f h with h1 | h1
    · exact zflat_ok tab_ok mixed fun_ok cT3_ok (rep1 i) (.cons (er_nf h) (.cons (decide_eq_true h1) .nil))
    · exact zflat_ok tab_ok mixed fun_ok cT3_ok (rep2 i) (.cons (er_nf h) (.cons (decide_eq_false (by omega)) (.cons (decide_eq_true h1) .nil)))
/-! ### RateLevels -/
def cT4 : ConF := orK cAv (orK cBs (orK cGe cCo))
theorem cT4_ok : ConOk Tryd.prog cT4 := orK_ok cAv_ok (orK_ok cBs_ok (orK_ok cGe_ok cCo_ok))
theorem bs_call (l : Int) (d : DV) (h : bsD l = d) : cT4 fBs [iI l] ⟨0, [], []⟩ = some (d, ⟨0, [], []⟩, none) := by
  subst h
  rfl
theorem bsI_at {l : Int} (h : (-820 : Int) ≤ l) : bsI l = true := decide_eq_true h
theorem bs_ge0 {l : Int} (h : (-820 : Int) ≤ l) : 0 ≤ bsV l := by
  unfold bsV
  repeat' split
  all_goals omega
theorem bs_ge1 {l : Int} (h : (-808 : Int) ≤ l) : 1 ≤ bsV l := by
  unfold bsV
  repeat' split
  all_goals omega
theorem bs_ge2 {l : Int} (h : (-788 : Int) ≤ l) : 2 ≤ bsV l := by
  unfold bsV
  repeat' split
  all_goals omega
theorem bs_ge3 {l : Int} (h : (-768 : Int) ≤ l) : 3 ≤ bsV l := by
  unfold bsV
  repeat' split
  all_goals omega
theorem bs_ge4 {l : Int} (h : (-738 : Int) ≤ l) : 4 ≤ bsV l := by
  unfold bsV
  repeat' split
  all_goals omega
theorem bs_ge5 {l : Int} (h : (-702 : Int) ≤ l) : 5 ≤ bsV l := by
  unfold bsV
  repeat' split
  all_goals omega
theorem bs_ge6 {l : Int} (h : (-664 : Int) ≤ l) : 6 ≤ bsV l := by
  unfold bsV
  repeat' split
  all_goals omega
theorem bs_ge7 {l : Int} (h : (-652 : Int) ≤ l) : 7 ≤ bsV l := by
  unfold bsV
  repeat' split
  all_goals omega
theorem bs_ge8 {l : Int} (h : (-640 : Int) ≤ l) : 8 ≤ bsV l := by
  unfold bsV
  repeat' split
  all_goals omega
theorem bs_ge9 {l : Int} (h : (-590 : Int) ≤ l) : 9 ≤ bsV l := by
  unfold bsV
  repeat' split
  all_goals omega
theorem bs_ge10 {l : Int} (h : (-568 : Int) ≤ l) : 10 ≤ bsV l := by
  unfold bsV
  repeat' split
  all_goals omega
theorem bs_ge11 {l : Int} (h : (-538 : Int) ≤ l) : 11 ≤ bsV l := by
  unfold bsV
  repeat' split
  all_goals omega
set_option maxRecDepth 1000000 in
theorem lev11t (one two : Int) : zflat (zans Tryd.prog tab ftab cT4 8 [iI one, iI two] [(16, .q (.tuple [iI 11, .bool true])), (26, .b true), (31, .b false), (36, .b true), (41, .b false), (61, .b true), (61, .b true), (61, .b true), (61, .b true), (61, .b true), (61, .b true), (61, .b true), (61, .b true), (61, .b true), (61, .b true), (61, .b true), (61, .b true), (83, .b false)]) = some (.bool true, (cT4 fBs [iI one] ⟨0, [], []⟩ = some (.tuple [iI 11, .bool true], ⟨0, [], []⟩, none)) :: (decide (one ≤ two) = true) :: ((!bsI two) = false) :: (bsI two = true) :: (decide ((11 : Int) > bsV two) = false) :: (decide ((-820 : Int) ≤ one) = true) :: (decide ((-808 : Int) ≤ one) = true) :: (decide ((-788 : Int) ≤ one) = true) :: (decide ((-768 : Int) ≤ one) = true) :: (decide ((-738 : Int) ≤ one) = true) :: (decide ((-702 : Int) ≤ one) = true) :: (decide ((-664 : Int) ≤ one) = true) :: (decide ((-652 : Int) ≤ one) = true) :: (decide ((-640 : Int) ≤ one) = true) :: (decide ((-590 : Int) ≤ one) = true) :: (decide ((-568 : Int) ≤ one) = true) :: (decide ((-538 : Int) ≤ one) = true) :: (decide ((-538 : Int) > one) = false) :: []) := by kernel_rfl
set_option maxRecDepth 1000000 in
theorem lev11f (one two : Int) : zflat (zans Tryd.prog tab ftab cT4 8 [iI one, iI two] [(16, .q (.tuple [iI 11, .bool true])), (26, .b false), (61, .b true), (61, .b true), (61, .b true), (61, .b true), (61, .b true), (61, .b true), (61, .b true), (61, .b true), (61, .b true), (61, .b true), (61, .b true), (61, .b true), (83, .b false)]) = some (.bool true, (cT4 fBs [iI one] ⟨0, [], []⟩ = some (.tuple [iI 11, .bool true], ⟨0, [], []⟩, none)) :: (decide (one ≤ two) = false) :: (decide ((-820 : Int) ≤ one) = true) :: (decide ((-808 : Int) ≤ one) = true) :: (decide ((-788 : Int) ≤ one) = true) :: (decide ((-768 : Int) ≤ one) = true) :: (decide ((-738 : Int) ≤ one) = true) :: (decide ((-702 : Int) ≤ one) = true) :: (decide ((-664 : Int) ≤ one) = true) :: (decide ((-652 : Int) ≤ one) = true) :: (decide ((-640 : Int) ≤ one) = true) :: (decide ((-590 : Int) ≤ one) = true) :: (decide ((-568 : Int) ≤ one) = true) :: (decide ((-538 : Int) ≤ one) = true) :: (decide ((-538 : Int) > one) = false) :: []) := by kernel_rfl
set_option maxRecDepth 1000000 in
theorem lev10t (one two : Int) : zflat (zans Tryd.prog tab ftab cT4 8 [iI one, iI two] [(16, .q (.tuple [iI 10, .bool true])), (26, .b true), (31, .b false), (36, .b true), (41, .b false), (61, .b true), (61, .b true), (61, .b true), (61, .b true), (61, .b true), (61, .b true), (61, .b true), (61, .b true), (61, .b true), (61, .b true), (61, .b true), (83, .b false), (61, .b false)]) = some (.bool true, (cT4 fBs [iI one] ⟨0, [], []⟩ = some (.tuple [iI 10, .bool true], ⟨0, [], []⟩, none)) :: (decide (one ≤ two) = true) :: ((!bsI two) = false) :: (bsI two = true) :: (decide ((10 : Int) > bsV two) = false) :: (decide ((-820 : Int) ≤ one) = true) :: (decide ((-808 : Int) ≤ one) = true) :: (decide ((-788 : Int) ≤ one) = true) :: (decide ((-768 : Int) ≤ one) = true) :: (decide ((-738 : Int) ≤ one) = true) :: (decide ((-702 : Int) ≤ one) = true) :: (decide ((-664 : Int) ≤ one) = true) :: (decide ((-652 : Int) ≤ one) = true) :: (decide ((-640 : Int) ≤ one) = true) :: (decide ((-590 : Int) ≤ one) = true) :: (decide ((-568 : Int) ≤ one) = true) :: (decide ((-568 : Int) > one) = false) :: (decide ((-538 : Int) ≤ one) = false) :: []) := by kernel_rfl
set_option maxRecDepth 1000000 in
theorem lev10f (one two : Int) : zflat (zans Tryd.prog tab ftab cT4 8 [iI one, iI two] [(16, .q (.tuple [iI 10, .bool true])), (26, .b false), (61, .b true), (61, .b true), (61, .b true), (61, .b true), (61, .b true), (61, .b true), (61, .b true), (61, .b true), (61, .b true), (61, .b true), (61, .b true), (83, .b false), (61, .b false)]) = some (.bool true, (cT4 fBs [iI one] ⟨0, [], []⟩ = some (.tuple [iI 10, .bool true], ⟨0, [], []⟩, none)) :: (decide (one ≤ two) = false) :: (decide ((-820 : Int) ≤ one) = true) :: (decide ((-808 : Int) ≤ one) = true) :: (decide ((-788 : Int) ≤ one) = true) :: (decide ((-768 : Int) ≤ one) = true) :: (decide ((-738 : Int) ≤ one) = true) :: (decide ((-702 : Int) ≤ one) = true) :: (decide ((-664 : Int) ≤ one) = true) :: (decide ((-652 : Int) ≤ one) = true) :: (decide ((-640 : Int) ≤ one) = true) :: (decide ((-590 : Int) ≤ one) = true) :: (decide ((-568 : Int) ≤ one) = true) :: (decide ((-568 : Int) > one) = false) :: (decide ((-538 : Int) ≤ one) = false) :: []) := by kernel_rfl
set_option maxRecDepth 1000000 in
theorem lev9t (one two : Int) : zflat (zans Tryd.prog tab ftab cT4 8 [iI one, iI two] [(16, .q (.tuple [iI 9, .bool true])), (26, .b true), (31, .b false), (36, .b true), (41, .b false), (61, .b true), (61, .b true), (61, .b true), (61, .b true), (61, .b true), (61, .b true), (61, .b true), (61, .b true), (61, .b true), (61, .b true), (83, .b false), (61, .b false), (61, .b false)]) = some (.bool true, (cT4 fBs [iI one] ⟨0, [], []⟩ = some (.tuple [iI 9, .bool true], ⟨0, [], []⟩, none)) :: (decide (one ≤ two) = true) :: ((!bsI two) = false) :: (bsI two = true) :: (decide ((9 : Int) > bsV two) = false) :: (decide ((-820 : Int) ≤ one) = true) :: (decide ((-808 : Int) ≤ one) = true) :: (decide ((-788 : Int) ≤ one) = true) :: (decide ((-768 : Int) ≤ one) = true) :: (decide ((-738 : Int) ≤ one) = true) :: (decide ((-702 : Int) ≤ one) = true) :: (decide ((-664 : Int) ≤ one) = true) :: (decide ((-652 : Int) ≤ one) = true) :: (decide ((-640 : Int) ≤ one) = true) :: (decide ((-590 : Int) ≤ one) = true) :: (decide ((-590 : Int) > one) = false) :: (decide ((-568 : Int) ≤ one) = false) :: (decide ((-538 : Int) ≤ one) = false) :: []) := by kernel_rfl
set_option maxRecDepth 1000000 in
theorem lev9f (one two : Int) : zflat (zans Tryd.prog tab ftab cT4 8 [iI one, iI two] [(16, .q (.tuple [iI 9, .bool true])), (26, .b false), (61, .b true), (61, .b true), (61, .b true), (61, .b true), (61, .b true), (61, .b true), (61, .b true), (61, .b true), (61, .b true), (61, .b true), (83, .b false), (61, .b false), (61, .b false)]) = some (.bool true, (cT4 fBs [iI one] ⟨0, [], []⟩ = some (.tuple [iI 9, .bool true], ⟨0, [], []⟩, none)) :: (decide (one ≤ two) = false) :: (decide ((-820 : Int) ≤ one) = true) :: (decide ((-808 : Int) ≤ one) = true) :: (decide ((-788 : Int) ≤ one) = true) :: (decide ((-768 : Int) ≤ one) = true) :: (decide ((-738 : Int) ≤ one) = true) :: (decide ((-702 : Int) ≤ one) = true) :: (decide ((-664 : Int) ≤ one) = true) :: (decide ((-652 : Int) ≤ one) = true) :: (decide ((-640 : Int) ≤ one) = true) :: (decide ((-590 : Int) ≤ one) = true) :: (decide ((-590 : Int) > one) = false) :: (decide ((-568 : Int) ≤ one) = false) :: (decide ((-538 : Int) ≤ one) = false) :: []) := by kernel_rfl
set_option maxRecDepth 1000000 in
theorem lev8t (one two : Int) : zflat (zans Tryd.prog tab ftab cT4 8 [iI one, iI two] [(16, .q (.tuple [iI 8, .bool true])), (26, .b true), (31, .b false), (36, .b true), (41, .b false), (61, .b true), (61, .b true), (61, .b true), (61, .b true), (61, .b true), (61, .b true), (61, .b true), (61, .b true), (61, .b true), (83, .b false), (61, .b false), (61, .b false), (61, .b false)]) = some (.bool true, (cT4 fBs [iI one] ⟨0, [], []⟩ = some (.tuple [iI 8, .bool true], ⟨0, [], []⟩, none)) :: (decide (one ≤ two) = true) :: ((!bsI two) = false) :: (bsI two = true) :: (decide ((8 : Int) > bsV two) = false) :: (decide ((-820 : Int) ≤ one) = true) :: (decide ((-808 : Int) ≤ one) = true) :: (decide ((-788 : Int) ≤ one) = true) :: (decide ((-768 : Int) ≤ one) = true) :: (decide ((-738 : Int) ≤ one) = true) :: (decide ((-702 : Int) ≤ one) = true) :: (decide ((-664 : Int) ≤ one) = true) :: (decide ((-652 : Int) ≤ one) = true) :: (decide ((-640 : Int) ≤ one) = true) :: (decide ((-640 : Int) > one) = false) :: (decide ((-590 : Int) ≤ one) = false) :: (decide ((-568 : Int) ≤ one) = false) :: (decide ((-538 : Int) ≤ one) = false) :: []) := by kernel_rfl
set_option maxRecDepth 1000000 in
theorem lev8f (one two : Int) : zflat (zans Tryd.prog tab ftab cT4 8 [iI one, iI two] [(16, .q (.tuple [iI 8, .bool true])), (26, .b false), (61, .b true), (61, .b true), (61, .b true), (61, .b true), (61, .b true), (61, .b true), (61, .b true), (61, .b true), (61, .b true), (83, .b false), (61, .b false), (61, .b false), (61, .b false)]) = some (.bool true, (cT4 fBs [iI one] ⟨0, [], []⟩ = some (.tuple [iI 8, .bool true], ⟨0, [], []⟩, none)) :: (decide (one ≤ two) = false) :: (decide ((-820 : Int) ≤ one) = true) :: (decide ((-808 : Int) ≤ one) = true) :: (decide ((-788 : Int) ≤ one) = true) :: (decide ((-768 : Int) ≤ one) = true) :: (decide ((-738 : Int) ≤ one) = true) :: (decide ((-702 : Int) ≤ one) = true) :: (decide ((-664 : Int) ≤ one) = true) :: (decide ((-652 : Int) ≤ one) = true) :: (decide ((-640 : Int) ≤ one) = true) :: (decide ((-640 : Int) > one) = false) :: (decide ((-590 : Int) ≤ one) = false) :: (decide ((-568 : Int) ≤ one) = false) :: (decide ((-538 : Int) ≤ one) = false) :: []) := by kernel_rfl
set_option maxRecDepth 1000000 in
theorem lev7t (one two : Int) : zflat (zans Tryd.prog tab ftab cT4 8 [iI one, iI two] [(16, .q (.tuple [iI 7, .bool true])), (26, .b true), (31, .b false), (36, .b true), (41, .b false), (61, .b true), (61, .b true), (61, .b true), (61, .b true), (61, .b true), (61, .b true), (61, .b true), (61, .b true), (83, .b false), (61, .b false), (61, .b false), (61, .b false), (61, .b false)]) = some (.bool true, (cT4 fBs [iI one] ⟨0, [], []⟩ = some (.tuple [iI 7, .bool true], ⟨0, [], []⟩, none)) :: (decide (one ≤ two) = true) :: ((!bsI two) = false) :: (bsI two = true) :: (decide ((7 : Int) > bsV two) = false) :: (decide ((-820 : Int) ≤ one) = true) :: (decide ((-808 : Int) ≤ one) = true) :: (decide ((-788 : Int) ≤ one) = true) :: (decide ((-768 : Int) ≤ one) = true) :: (decide ((-738 : Int) ≤ one) = true) :: (decide ((-702 : Int) ≤ one) = true) :: (decide ((-664 : Int) ≤ one) = true) :: (decide ((-652 : Int) ≤ one) = true) :: (decide ((-652 : Int) > one) = false) :: (decide ((-640 : Int) ≤ one) = false) :: (decide ((-590 : Int) ≤ one) = false) :: (decide ((-568 : Int) ≤ one) = false) :: (decide ((-538 : Int) ≤ one) = false) :: []) := by kernel_rfl
set_option maxRecDepth 1000000 in
theorem lev7f (one two : Int) : zflat (zans Tryd.prog tab ftab cT4 8 [iI one, iI two] [(16, .q (.tuple [iI 7, .bool true])), (26, .b false), (61, .b true), (61, .b true), (61, .b true), (61, .b true), (61, .b true), (61, .b true), (61, .b true), (61, .b true), (83, .b false), (61, .b false), (61, .b false), (61, .b false), (61, .b false)]) = some (.bool true, (cT4 fBs [iI one] ⟨0, [], []⟩ = some (.tuple [iI 7, .bool true], ⟨0, [], []⟩, none)) :: (decide (one ≤ two) = false) :: (decide ((-820 : Int) ≤ one) = true) :: (decide ((-808 : Int) ≤ one) = true) :: (decide ((-788 : Int) ≤ one) = true) :: (decide ((-768 : Int) ≤ one) = true) :: (decide ((-738 : Int) ≤ one) = true) :: (decide ((-702 : Int) ≤ one) = true) :: (decide ((-664 : Int) ≤ one) = true) :: (decide ((-652 : Int) ≤ one) = true) :: (decide ((-652 : Int) > one) = false) :: (decide ((-640 : Int) ≤ one) = false) :: (decide ((-590 : Int) ≤ one) = false) :: (decide ((-568 : Int) ≤ one) = false) :: (decide ((-538 : Int) ≤ one) = false) :: []) := by kernel_rfl
set_option maxRecDepth 1000000 in
theorem lev6t (one two : Int) : zflat (zans Tryd.prog tab ftab cT4 8 [iI one, iI two] [(16, .q (.tuple [iI 6, .bool true])), (26, .b true), (31, .b false), (36, .b true), (41, .b false), (61, .b true), (61, .b true), (61, .b true), (61, .b true), (61, .b true), (61, .b true), (61, .b true), (83, .b false), (61, .b false), (61, .b false), (61, .b false), (61, .b false), (61, .b false)]) = some (.bool true, (cT4 fBs [iI one] ⟨0, [], []⟩ = some (.tuple [iI 6, .bool true], ⟨0, [], []⟩, none)) :: (decide (one ≤ two) = true) :: ((!bsI two) = false) :: (bsI two = true) :: (decide ((6 : Int) > bsV two) = false) :: (decide ((-820 : Int) ≤ one) = true) :: (decide ((-808 : Int) ≤ one) = true) :: (decide ((-788 : Int) ≤ one) = true) :: (decide ((-768 : Int) ≤ one) = true) :: (decide ((-738 : Int) ≤ one) = true) :: (decide ((-702 : Int) ≤ one) = true) :: (decide ((-664 : Int) ≤ one) = true) :: (decide ((-664 : Int) > one) = false) :: (decide ((-652 : Int) ≤ one) = false) :: (decide ((-640 : Int) ≤ one) = false) :: (decide ((-590 : Int) ≤ one) = false) :: (decide ((-568 : Int) ≤ one) = false) :: (decide ((-538 : Int) ≤ one) = false) :: []) := by kernel_rfl
set_option maxRecDepth 1000000 in
theorem lev6f (one two : Int) : zflat (zans Tryd.prog tab ftab cT4 8 [iI one, iI two] [(16, .q (.tuple [iI 6, .bool true])), (26, .b false), (61, .b true), (61, .b true), (61, .b true), (61, .b true), (61, .b true), (61, .b true), (61, .b true), (83, .b false), (61, .b false), (61, .b false), (61, .b false), (61, .b false), (61, .b false)]) = some (.bool true, (cT4 fBs [iI one] ⟨0, [], []⟩ = some (.tuple [iI 6, .bool true], ⟨0, [], []⟩, none)) :: (decide (one ≤ two) = false) :: (decide ((-820 : Int) ≤ one) = true) :: (decide ((-808 : Int) ≤ one) = true) :: (decide ((-788 : Int) ≤ one) = true) :: (decide ((-768 : Int) ≤ one) = true) :: (decide ((-738 : Int) ≤ one) = true) :: (decide ((-702 : Int) ≤ one) = true) :: (decide ((-664 : Int) ≤ one) = true) :: (decide ((-664 : Int) > one) = false) :: (decide ((-652 : Int) ≤ one) = false) :: (decide ((-640 : Int) ≤ one) = false) :: (decide ((-590 : Int) ≤ one) = false) :: (decide ((-568 : Int) ≤ one) = false) :: (decide ((-538 : Int) ≤ one) = false) :: []) := by kernel_rfl
set_option maxRecDepth 1000000 in
theorem lev5t (one two : Int) : zflat (zans Tryd.prog tab ftab cT4 8 [iI one, iI two] [(16, .q (.tuple [iI 5, .bool true])), (26, .b true), (31, .b false), (36, .b true), (41, .b false), (61, .b true), (61, .b true), (61, .b true), (61, .b true), (61, .b true), (61, .b true), (83, .b false), (61, .b false), (61, .b false), (61, .b false), (61, .b false), (61, .b false), (61, .b false)]) = some (.bool true, (cT4 fBs [iI one] ⟨0, [], []⟩ = some (.tuple [iI 5, .bool true], ⟨0, [], []⟩, none)) :: (decide (one ≤ two) = true) :: ((!bsI two) = false) :: (bsI two = true) :: (decide ((5 : Int) > bsV two) = false) :: (decide ((-820 : Int) ≤ one) = true) :: (decide ((-808 : Int) ≤ one) = true) :: (decide ((-788 : Int) ≤ one) = true) :: (decide ((-768 : Int) ≤ one) = true) :: (decide ((-738 : Int) ≤ one) = true) :: (decide ((-702 : Int) ≤ one) = true) :: (decide ((-702 : Int) > one) = false) :: (decide ((-664 : Int) ≤ one) = false) :: (decide ((-652 : Int) ≤ one) = false) :: (decide ((-640 : Int) ≤ one) = false) :: (decide ((-590 : Int) ≤ one) = false) :: (decide ((-568 : Int) ≤ one) = false) :: (decide ((-538 : Int) ≤ one) = false) :: []) := by kernel_rfl
set_option maxRecDepth 1000000 in
theorem lev5f (one two : Int) : zflat (zans Tryd.prog tab ftab cT4 8 [iI one, iI two] [(16, .q (.tuple [iI 5, .bool true])), (26, .b false), (61, .b true), (61, .b true), (61, .b true), (61, .b true), (61, .b true), (61, .b true), (83, .b false), (61, .b false), (61, .b false), (61, .b false), (61, .b false), (61, .b false), (61, .b false)]) = some (.bool true, (cT4 fBs [iI one] ⟨0, [], []⟩ = some (.tuple [iI 5, .bool true], ⟨0, [], []⟩, none)) :: (decide (one ≤ two) = false) :: (decide ((-820 : Int) ≤ one) = true) :: (decide ((-808 : Int) ≤ one) = true) :: (decide ((-788 : Int) ≤ one) = true) :: (decide ((-768 : Int) ≤ one) = true) :: (decide ((-738 : Int) ≤ one) = true) :: (decide ((-702 : Int) ≤ one) = true) :: (decide ((-702 : Int) > one) = false) :: (decide ((-664 : Int) ≤ one) = false) :: (decide ((-652 : Int) ≤ one) = false) :: (decide ((-640 : Int) ≤ one) = false) :: (decide ((-590 : Int) ≤ one) = false) :: (decide ((-568 : Int) ≤ one) = false) :: (decide ((-538 : Int) ≤ one) = false) :: []) := by kernel_rfl
set_option maxRecDepth 1000000 in
theorem lev4t (one two : Int) : zflat (zans Tryd.prog tab ftab cT4 8 [iI one, iI two] [(16, .q (.tuple [iI 4, .bool true])), (26, .b true), (31, .b false), (36, .b true), (41, .b false), (61, .b true), (61, .b true), (61, .b true), (61, .b true), (61, .b true), (83, .b false), (61, .b false), (61, .b false), (61, .b false), (61, .b false), (61, .b false), (61, .b false), (61, .b false)]) = some (.bool true, (cT4 fBs [iI one] ⟨0, [], []⟩ = some (.tuple [iI 4, .bool true], ⟨0, [], []⟩, none)) :: (decide (one ≤ two) = true) :: ((!bsI two) = false) :: (bsI two = true) :: (decide ((4 : Int) > bsV two) = false) :: (decide ((-820 : Int) ≤ one) = true) :: (decide ((-808 : Int) ≤ one) = true) :: (decide ((-788 : Int) ≤ one) = true) :: (decide ((-768 : Int) ≤ one) = true) :: (decide ((-738 : Int) ≤ one) = true) :: (decide ((-738 : Int) > one) = false) :: (decide ((-702 : Int) ≤ one) = false) :: (decide ((-664 : Int) ≤ one) = false) :: (decide ((-652 : Int) ≤ one) = false) :: (decide ((-640 : Int) ≤ one) = false) :: (decide ((-590 : Int) ≤ one) = false) :: (decide ((-568 : Int) ≤ one) = false) :: (decide ((-538 : Int) ≤ one) = false) :: []) := by kernel_rfl
set_option maxRecDepth 1000000 in
theorem lev4f (one two : Int) : zflat (zans Tryd.prog tab ftab cT4 8 [iI one, iI two] [(16, .q (.tuple [iI 4, .bool true])), (26, .b false), (61, .b true), (61, .b true), (61, .b true), (61, .b true), (61, .b true), (83, .b false), (61, .b false), (61, .b false), (61, .b false), (61, .b false), (61, .b false), (61, .b false), (61, .b false)]) = some (.bool true, (cT4 fBs [iI one] ⟨0, [], []⟩ = some (.tuple [iI 4, .bool true], ⟨0, [], []⟩, none)) :: (decide (one ≤ two) = false) :: (decide ((-820 : Int) ≤ one) = true) :: (decide ((-808 : Int) ≤ one) = true) :: (decide ((-788 : Int) ≤ one) = true) :: (decide ((-768 : Int) ≤ one) = true) :: (decide ((-738 : Int) ≤ one) = true) :: (decide ((-738 : Int) > one) = false) :: (decide ((-702 : Int) ≤ one) = false) :: (decide ((-664 : Int) ≤ one) = false) :: (decide ((-652 : Int) ≤ one) = false) :: (decide ((-640 : Int) ≤ one) = false) :: (decide ((-590 : Int) ≤ one) = false) :: (decide ((-568 : Int) ≤ one) = false) :: (decide ((-538 : Int) ≤ one) = false) :: []) := by kernel_rfl
set_option maxRecDepth 1000000 in
theorem lev3t (one two : Int) : zflat (zans Tryd.prog tab ftab cT4 8 [iI one, iI two] [(16, .q (.tuple [iI 3, .bool true])), (26, .b true), (31, .b false), (36, .b true), (41, .b false), (61, .b true), (61, .b true), (61, .b true), (61, .b true), (83, .b false), (61, .b false), (61, .b false), (61, .b false), (61, .b false), (61, .b false), (61, .b false), (61, .b false), (61, .b false)]) = some (.bool true, (cT4 fBs [iI one] ⟨0, [], []⟩ = some (.tuple [iI 3, .bool true], ⟨0, [], []⟩, none)) :: (decide (one ≤ two) = true) :: ((!bsI two) = false) :: (bsI two = true) :: (decide ((3 : Int) > bsV two) = false) :: (decide ((-820 : Int) ≤ one) = true) :: (decide ((-808 : Int) ≤ one) = true) :: (decide ((-788 : Int) ≤ one) = true) :: (decide ((-768 : Int) ≤ one) = true) :: (decide ((-768 : Int) > one) = false) :: (decide ((-738 : Int) ≤ one) = false) :: (decide ((-702 : Int) ≤ one) = false) :: (decide ((-664 : Int) ≤ one) = false) :: (decide ((-652 : Int) ≤ one) = false) :: (decide ((-640 : Int) ≤ one) = false) :: (decide ((-590 : Int) ≤ one) = false) :: (decide ((-568 : Int) ≤ one) = false) :: (decide ((-538 : Int) ≤ one) = false) :: []) := by kernel_rfl
set_option maxRecDepth 1000000 in
theorem lev3f (one two : Int) : zflat (zans Tryd.prog tab ftab cT4 8 [iI one, iI two] [(16, .q (.tuple [iI 3, .bool true])), (26, .b false), (61, .b true), (61, .b true), (61, .b true), (61, .b true), (83, .b false), (61, .b false), (61, .b false), (61, .b false), (61, .b false), (61, .b false), (61, .b false), (61, .b false), (61, .b false)]) = some (.bool true, (cT4 fBs [iI one] ⟨0, [], []⟩ = some (.tuple [iI 3, .bool true], ⟨0, [], []⟩, none)) :: (decide (one ≤ two) = false) :: (decide ((-820 : Int) ≤ one) = true) :: (decide ((-808 : Int) ≤ one) = true) :: (decide ((-788 : Int) ≤ one) = true) :: (decide ((-768 : Int) ≤ one) = true) :: (decide ((-768 : Int) > one) = false) :: (decide ((-738 : Int) ≤ one) = false) :: (decide ((-702 : Int) ≤ one) = false) :: (decide ((-664 : Int) ≤ one) = false) :: (decide ((-652 : Int) ≤ one) = false) :: (decide ((-640 : Int) ≤ one) = false) :: (decide ((-590 : Int) ≤ one) = false) :: (decide ((-568 : Int) ≤ one) = false) :: (decide ((-538 : Int) ≤ one) = false) :: []) := by kernel_rfl
set_option maxRecDepth 1000000 in
theorem lev2t (one two : Int) : zflat (zans Tryd.prog tab ftab cT4 8 [iI one, iI two] [(16, .q (.tuple [iI 2, .bool true])), (26, .b true), (31, .b false), (36, .b true), (41, .b false), (61, .b true), (61, .b true), (61, .b true), (83, .b false), (61, .b false), (61, .b false), (61, .b false), (61, .b false), (61, .b false), (61, .b false), (61, .b false), (61, .b false), (61, .b false)]) = some (.bool true, (cT4 fBs [iI one] ⟨0, [], []⟩ = some (.tuple [iI 2, .bool true], ⟨0, [], []⟩, none)) :: (decide (one ≤ two) = true) :: ((!bsI two) = false) :: (bsI two = true) :: (decide ((2 : Int) > bsV two) = false) :: (decide ((-820 : Int) ≤ one) = true) :: (decide ((-808 : Int) ≤ one) = true) :: (decide ((-788 : Int) ≤ one) = true) :: (decide ((-788 : Int) > one) = false) :: (decide ((-768 : Int) ≤ one) = false) :: (decide ((-738 : Int) ≤ one) = false) :: (decide ((-702 : Int) ≤ one) = false) :: (decide ((-664 : Int) ≤ one) = false) :: (decide ((-652 : Int) ≤ one) = false) :: (decide ((-640 : Int) ≤ one) = false) :: (decide ((-590 : Int) ≤ one) = false) :: (decide ((-568 : Int) ≤ one) = false) :: (decide ((-538 : Int) ≤ one) = false) :: []) := by kernel_rfl
set_option maxRecDepth 1000000 in
theorem lev2f (one two : Int) : zflat (zans Tryd.prog tab ftab cT4 8 [iI one, iI two] [(16, .q (.tuple [iI 2, .bool true])), (26, .b false), (61, .b true), (61, .b true), (61, .b true), (83, .b false), (61, .b false), (61, .b false), (61, .b false), (61, .b false), (61, .b false), (61, .b false), (61, .b false), (61, .b false), (61, .b false)]) = some (.bool true, (cT4 fBs [iI one] ⟨0, [], []⟩ = some (.tuple [iI 2, .bool true], ⟨0, [], []⟩, none)) :: (decide (one ≤ two) = false) :: (decide ((-820 : Int) ≤ one) = true) :: (decide ((-808 : Int) ≤ one) = true) :: (decide ((-788 : Int) ≤ one) = true) :: (decide ((-788 : Int) > one) = false) :: (decide ((-768 : Int) ≤ one) = false) :: (decide ((-738 : Int) ≤ one) = false) :: (decide ((-702 : Int) ≤ one) = false) :: (decide ((-664 : Int) ≤ one) = false) :: (decide ((-652 : Int) ≤ one) = false) :: (decide ((-640 : Int) ≤ one) = false) :: (decide ((-590 : Int) ≤ one) = false) :: (decide ((-568 : Int) ≤ one) = false) :: (decide ((-538 : Int) ≤ one) = false) :: []) := by kernel_rfl
set_option maxRecDepth 1000000 in
theorem lev1t (one two : Int) : zflat (zans Tryd.prog tab ftab cT4 8 [iI one, iI two] [(16, .q (.tuple [iI 1, .bool true])), (26, .b true), (31, .b false), (36, .b true), (41, .b false), (61, .b true), (61, .b true), (83, .b false), (61, .b false), (61, .b false), (61, .b false), (61, .b false), (61, .b false), (61, .b false), (61, .b false), (61, .b false), (61, .b false), (61, .b false)]) = some (.bool true, (cT4 fBs [iI one] ⟨0, [], []⟩ = some (.tuple [iI 1, .bool true], ⟨0, [], []⟩, none)) :: (decide (one ≤ two) = true) :: ((!bsI two) = false) :: (bsI two = true) :: (decide ((1 : Int) > bsV two) = false) :: (decide ((-820 : Int) ≤ one) = true) :: (decide ((-808 : Int) ≤ one) = true) :: (decide ((-808 : Int) > one) = false) :: (decide ((-788 : Int) ≤ one) = false) :: (decide ((-768 : Int) ≤ one) = false) :: (decide ((-738 : Int) ≤ one) = false) :: (decide ((-702 : Int) ≤ one) = false) :: (decide ((-664 : Int) ≤ one) = false) :: (decide ((-652 : Int) ≤ one) = false) :: (decide ((-640 : Int) ≤ one) = false) :: (decide ((-590 : Int) ≤ one) = false) :: (decide ((-568 : Int) ≤ one) = false) :: (decide ((-538 : Int) ≤ one) = false) :: []) := by kernel_rfl
set_option maxRecDepth 1000000 in
theorem lev1f (one two : Int) : zflat (zans Tryd.prog tab ftab cT4 8 [iI one, iI two] [(16, .q (.tuple [iI 1, .bool true])), (26, .b false), (61, .b true), (61, .b true), (83, .b false), (61, .b false), (61, .b false), (61, .b false), (61, .b false), (61, .b false), (61, .b false), (61, .b false), (61, .b false), (61, .b false), (61, .b false)]) = some (.bool true, (cT4 fBs [iI one] ⟨0, [], []⟩ = some (.tuple [iI 1, .bool true], ⟨0, [], []⟩, none)) :: (decide (one ≤ two) = false) :: (decide ((-820 : Int) ≤ one) = true) :: (decide ((-808 : Int) ≤ one) = true) :: (decide ((-808 : Int) > one) = false) :: (decide ((-788 : Int) ≤ one) = false) :: (decide ((-768 : Int) ≤ one) = false) :: (decide ((-738 : Int) ≤ one) = false) :: (decide ((-702 : Int) ≤ one) = false) :: (decide ((-664 : Int) ≤ one) = false) :: (decide ((-652 : Int) ≤ one) = false) :: (decide ((-640 : Int) ≤ one) = false) :: (decide ((-590 : Int) ≤ one) = false) :: (decide ((-568 : Int) ≤ one) = false) :: (decide ((-538 : Int) ≤ one) = false) :: []) := by kernel_rfl
set_option maxRecDepth 1000000 in
theorem lev0t (one two : Int) : zflat (zans Tryd.prog tab ftab cT4 8 [iI one, iI two] [(16, .q (.tuple [iI 0, .bool true])), (26, .b true), (31, .b false), (36, .b true), (41, .b false), (61, .b true), (83, .b false), (61, .b false), (61, .b false), (61, .b false), (61, .b false), (61, .b false), (61, .b false), (61, .b false), (61, .b false), (61, .b false), (61, .b false), (61, .b false)]) = some (.bool true, (cT4 fBs [iI one] ⟨0, [], []⟩ = some (.tuple [iI 0, .bool true], ⟨0, [], []⟩, none)) :: (decide (one ≤ two) = true) :: ((!bsI two) = false) :: (bsI two = true) :: (decide ((0 : Int) > bsV two) = false) :: (decide ((-820 : Int) ≤ one) = true) :: (decide ((-820 : Int) > one) = false) :: (decide ((-808 : Int) ≤ one) = false) :: (decide ((-788 : Int) ≤ one) = false) :: (decide ((-768 : Int) ≤ one) = false) :: (decide ((-738 : Int) ≤ one) = false) :: (decide ((-702 : Int) ≤ one) = false) :: (decide ((-664 : Int) ≤ one) = false) :: (decide ((-652 : Int) ≤ one) = false) :: (decide ((-640 : Int) ≤ one) = false) :: (decide ((-590 : Int) ≤ one) = false) :: (decide ((-568 : Int) ≤ one) = false) :: (decide ((-538 : Int) ≤ one) = false) :: []) := by kernel_rfl
set_option maxRecDepth 1000000 in
theorem lev0f (one two : Int) : zflat (zans Tryd.prog tab ftab cT4 8 [iI one, iI two] [(16, .q (.tuple [iI 0, .bool true])), (26, .b false), (61, .b true), (83, .b false), (61, .b false), (61, .b false), (61, .b false), (61, .b false), (61, .b false), (61, .b false), (61, .b false), (61, .b false), (61, .b false), (61, .b false), (61, .b false)]) = some (.bool true, (cT4 fBs [iI one] ⟨0, [], []⟩ = some (.tuple [iI 0, .bool true], ⟨0, [], []⟩, none)) :: (decide (one ≤ two) = false) :: (decide ((-820 : Int) ≤ one) = true) :: (decide ((-820 : Int) > one) = false) :: (decide ((-808 : Int) ≤ one) = false) :: (decide ((-788 : Int) ≤ one) = false) :: (decide ((-768 : Int) ≤ one) = false) :: (decide ((-738 : Int) ≤ one) = false) :: (decide ((-702 : Int) ≤ one) = false) :: (decide ((-664 : Int) ≤ one) = false) :: (decide ((-652 : Int) ≤ one) = false) :: (decide ((-640 : Int) ≤ one) = false) :: (decide ((-590 : Int) ≤ one) = false) :: (decide ((-568 : Int) ≤ one) = false) :: (decide ((-538 : Int) ≤ one) = false) :: []) := by kernel_rfl
set_option maxRecDepth 1000000 in
theorem levnt (one two : Int) : zflat (zans Tryd.prog tab ftab cT4 8 [iI one, iI two] [(16, .q (.tuple [iI 0, .bool false])), (26, .b true), (61, .b false), (61, .b false), (61, .b false), (61, .b false), (61, .b false), (61, .b false), (61, .b false), (61, .b false), (61, .b false), (61, .b false), (61, .b false), (61, .b false)]) = some (.bool true, (cT4 fBs [iI one] ⟨0, [], []⟩ = some (.tuple [iI 0, .bool false], ⟨0, [], []⟩, none)) :: (decide (one ≤ two) = true) :: (decide ((-820 : Int) ≤ one) = false) :: (decide ((-808 : Int) ≤ one) = false) :: (decide ((-788 : Int) ≤ one) = false) :: (decide ((-768 : Int) ≤ one) = false) :: (decide ((-738 : Int) ≤ one) = false) :: (decide ((-702 : Int) ≤ one) = false) :: (decide ((-664 : Int) ≤ one) = false) :: (decide ((-652 : Int) ≤ one) = false) :: (decide ((-640 : Int) ≤ one) = false) :: (decide ((-590 : Int) ≤ one) = false) :: (decide ((-568 : Int) ≤ one) = false) :: (decide ((-538 : Int) ≤ one) = false) :: []) := by kernel_rfl
set_option maxRecDepth 1000000 in
theorem levnf (one two : Int) : zflat (zans Tryd.prog tab ftab cT4 8 [iI one, iI two] [(16, .q (.tuple [iI 0, .bool false])), (26, .b false), (61, .b false), (61, .b false), (61, .b false), (61, .b false), (61, .b false), (61, .b false), (61, .b false), (61, .b false), (61, .b false), (61, .b false), (61, .b false), (61, .b false)]) = some (.bool true, (cT4 fBs [iI one] ⟨0, [], []⟩ = some (.tuple [iI 0, .bool false], ⟨0, [], []⟩, none)) :: (decide (one ≤ two) = false) :: (decide ((-820 : Int) ≤ one) = false) :: (decide ((-808 : Int) ≤ one) = false) :: (decide ((-788 : Int) ≤ one) = false) :: (decide ((-768 : Int) ≤ one) = false) :: (decide ((-738 : Int) ≤ one) = false) :: (decide ((-702 : Int) ≤ one) = false) :: (decide ((-664 : Int) ≤ one) = false) :: (decide ((-652 : Int) ≤ one) = false) :: (decide ((-640 : Int) ≤ one) = false) :: (decide ((-590 : Int) ≤ one) = false) :: (decide ((-568 : Int) ≤ one) = false) :: (decide ((-538 : Int) ≤ one) = false) :: []) := by kernel_rfl
theorem levels_all (one two : Int) : Ans Tryd.prog 8 [iI one, iI two] (.bool true) ⟨0, [], []⟩ := by
  by_cases h11 : (-538 : Int) ≤ one
  · have e := bs_call one (.tuple [iI 11, .bool true]) (by unfold bsD bsV bsI; rw [if_pos h11, decide_eq_true (show (-820 : Int) ≤ one by omega)])
    by_cases hl : one ≤ two
    · exact zflat_ok tab_ok mixed fun_ok cT4_ok (lev11t one two) (.cons e (.cons (decide_eq_true hl) (.cons (by rw [bsI_at (show (-820 : Int) ≤ two by omega)]; rfl) (.cons (bsI_at (by omega)) (.cons (decide_eq_false (by have := bs_ge11 (l := two) (by omega); omega)) (.cons (decide_eq_true (by omega)) (.cons (decide_eq_true (by omega)) (.cons (decide_eq_true (by omega)) (.cons (decide_eq_true (by omega)) (.cons (decide_eq_true (by omega)) (.cons (decide_eq_true (by omega)) (.cons (decide_eq_true (by omega)) (.cons (decide_eq_true (by omega)) (.cons (decide_eq_true (by omega)) (.cons (decide_eq_true (by omega)) (.cons (decide_eq_true (by omega)) (.cons (decide_eq_true (by omega)) (.cons (decide_eq_false (by omega)) .nil))))))))))))))))))
    · exact zflat_ok tab_ok mixed fun_ok cT4_ok (lev11f one two) (.cons e (.cons (decide_eq_false hl) (.cons (decide_eq_true (by omega)) (.cons (decide_eq_true (by omega)) (.cons (decide_eq_true (by omega)) (.cons (decide_eq_true (by omega)) (.cons (decide_eq_true (by omega)) (.cons (decide_eq_true (by omega)) (.cons (decide_eq_true (by omega)) (.cons (decide_eq_true (by omega)) (.cons (decide_eq_true (by omega)) (.cons (decide_eq_true (by omega)) (.cons (decide_eq_true (by omega)) (.cons (decide_eq_true (by omega)) (.cons (decide_eq_false (by omega)) .nil)))))))))))))))
  · skip
    by_cases h10 : (-568 : Int) ≤ one
    · have e := bs_call one (.tuple [iI 10, .bool true]) (by unfold bsD bsV bsI; rw [if_neg h11, if_pos h10, decide_eq_true (show (-820 : Int) ≤ one by omega)])
      by_cases hl : one ≤ two
      · exact zflat_ok tab_ok mixed fun_ok cT4_ok (lev10t one two) (.cons e (.cons (decide_eq_true hl) (.cons (by rw [bsI_at (show (-820 : Int) ≤ two by omega)]; rfl) (.cons (bsI_at (by omega)) (.cons (decide_eq_false (by have := bs_ge10 (l := two) (by omega); omega)) (.cons (decide_eq_true (by omega)) (.cons (decide_eq_true (by omega)) (.cons (decide_eq_true (by omega)) (.cons (decide_eq_true (by omega)) (.cons (decide_eq_true (by omega)) (.cons (decide_eq_true (by omega)) (.cons (decide_eq_true (by omega)) (.cons (decide_eq_true (by omega)) (.cons (decide_eq_true (by omega)) (.cons (decide_eq_true (by omega)) (.cons (decide_eq_true (by omega)) (.cons (decide_eq_false (by omega)) (.cons (decide_eq_false (by omega)) .nil))))))))))))))))))
      · exact zflat_ok tab_ok mixed fun_ok cT4_ok (lev10f one two) (.cons e (.cons (decide_eq_false hl) (.cons (decide_eq_true (by omega)) (.cons (decide_eq_true (by omega)) (.cons (decide_eq_true (by omega)) (.cons (decide_eq_true (by omega)) (.cons (decide_eq_true (by omega)) (.cons (decide_eq_true (by omega)) (.cons (decide_eq_true (by omega)) (.cons (decide_eq_true (by omega)) (.cons (decide_eq_true (by omega)) (.cons (decide_eq_true (by omega)) (.cons (decide_eq_true (by omega)) (.cons (decide_eq_false (by omega)) (.cons (decide_eq_false (by omega)) .nil)))))))))))))))
    · skip
      by_cases h9 : (-590 : Int) ≤ one
      · have e := bs_call one (.tuple [iI 9, .bool true]) (by unfold bsD bsV bsI; rw [if_neg h11, if_neg h10, if_pos h9, decide_eq_true (show (-820 : Int) ≤ one by omega)])
        by_cases hl : one ≤ two
        · exact zflat_ok tab_ok mixed fun_ok cT4_ok (lev9t one two) (.cons e (.cons (decide_eq_true hl) (.cons (by rw [bsI_at (show (-820 : Int) ≤ two by omega)]; rfl) (.cons (bsI_at (by omega)) (.cons (decide_eq_false (by have := bs_ge9 (l := two) (by omega); omega)) (.cons (decide_eq_true (by omega)) (.cons (decide_eq_true (by omega)) (.cons (decide_eq_true (by omega)) (.cons (decide_eq_true (by omega)) (.cons (decide_eq_true (by omega)) (.cons (decide_eq_true (by omega)) (.cons (decide_eq_true (by omega)) (.cons (decide_eq_true (by omega)) (.cons (decide_eq_true (by omega)) (.cons (decide_eq_true (by omega)) (.cons (decide_eq_false (by omega)) (.cons (decide_eq_false (by omega)) (.cons (decide_eq_false (by omega)) .nil))))))))))))))))))
        · exact zflat_ok tab_ok mixed fun_ok cT4_ok (lev9f one two) (.cons e (.cons (decide_eq_false hl) (.cons (decide_eq_true (by omega)) (.cons (decide_eq_true (by omega)) (.cons (decide_eq_true (by omega)) (.cons (decide_eq_true (by omega)) (.cons (decide_eq_true (by omega)) (.cons (decide_eq_true (by omega)) (.cons (decide_eq_true (by omega)) (.cons (decide_eq_true (by omega)) (.cons (decide_eq_true (by omega)) (.cons (decide_eq_true (by omega)) (.cons (decide_eq_false (by omega)) (.cons (decide_eq_false (by omega)) (.cons (decide_eq_false (by omega)) .nil)))))))))))))))
      · skip
        by_cases h8 : (-640 : Int) ≤ one
        · have e := bs_call one (.tuple [iI 8, .bool true]) (by unfold bsD bsV bsI; rw [if_neg h11, if_neg h10, if_neg h9, if_pos h8, decide_eq_true (show (-820 : Int) ≤ one by omega)])
          by_cases hl : one ≤ two
          · exact zflat_ok tab_ok mixed fun_ok cT4_ok (lev8t one two) (.cons e (.cons (decide_eq_true hl) (.cons (by rw [bsI_at (show (-820 : Int) ≤ two by omega)]; rfl) (.cons (bsI_at (by omega)) (.cons (decide_eq_false (by have := bs_ge8 (l := two) (by omega); omega)) (.cons (decide_eq_true (by omega)) (.cons (decide_eq_true (by omega)) (.cons (decide_eq_true (by omega)) (.cons (decide_eq_true (by omega)) (.cons (decide_eq_true (by omega)) (.cons (decide_eq_true (by omega)) (.cons (decide_eq_true (by omega)) (.cons (decide_eq_true (by omega)) (.cons (decide_eq_true (by omega)) (.cons (decide_eq_false (by omega)) (.cons (decide_eq_false (by omega)) (.cons (decide_eq_false (by omega)) (.cons (decide_eq_false (by omega)) .nil))))))))))))))))))
          · exact zflat_ok tab_ok mixed fun_ok cT4_ok (lev8f one two) (.cons e (.cons (decide_eq_false hl) (.cons (decide_eq_true (by omega)) (.cons (decide_eq_true (by omega)) (.cons (decide_eq_true (by omega)) (.cons (decide_eq_true (by omega)) (.cons (decide_eq_true (by omega)) (.cons (decide_eq_true (by omega)) (.cons (decide_eq_true (by omega)) (.cons (decide_eq_true (by omega)) (.cons (decide_eq_true (by omega)) (.cons (decide_eq_false (by omega)) (.cons (decide_eq_false (by omega)) (.cons (decide_eq_false (by omega)) (.cons (decide_eq_false (by omega)) .nil)))))))))))))))
        · skip
          by_cases h7 : (-652 : Int) ≤ one
          · have e := bs_call one (.tuple [iI 7, .bool true]) (by unfold bsD bsV bsI; rw [if_neg h11, if_neg h10, if_neg h9, if_neg h8, if_pos h7, decide_eq_true (show (-820 : Int) ≤ one by omega)])
            by_cases hl : one ≤ two
            · exact zflat_ok tab_ok mixed fun_ok cT4_ok (lev7t one two) (.cons e (.cons (decide_eq_true hl) (.cons (by rw [bsI_at (show (-820 : Int) ≤ two by omega)]; rfl) (.cons (bsI_at (by omega)) (.cons (decide_eq_false (by have := bs_ge7 (l := two) (by omega); omega)) (.cons (decide_eq_true (by omega)) (.cons (decide_eq_true (by omega)) (.cons (decide_eq_true (by omega)) (.cons (decide_eq_true (by omega)) (.cons (decide_eq_true (by omega)) (.cons (decide_eq_true (by omega)) (.cons (decide_eq_true (by omega)) (.cons (decide_eq_true (by omega)) (.cons (decide_eq_false (by omega)) (.cons (decide_eq_false (by omega)) (.cons (decide_eq_false (by omega)) (.cons (decide_eq_false (by omega)) (.cons (decide_eq_false (by omega)) .nil))))))))))))))))))
            · exact zflat_ok tab_ok mixed fun_ok cT4_ok (lev7f one two) (.cons e (.cons (decide_eq_false hl) (.cons (decide_eq_true (by omega)) (.cons (decide_eq_true (by omega)) (.cons (decide_eq_true (by omega)) (.cons (decide_eq_true (by omega)) (.cons (decide_eq_true (by omega)) (.cons (decide_eq_true (by omega)) (.cons (decide_eq_true (by omega)) (.cons (decide_eq_true (by omega)) (.cons (decide_eq_false (by omega)) (.cons (decide_eq_false (by omega)) (.cons (decide_eq_false (by omega)) (.cons (decide_eq_false (by omega)) (.cons (decide_eq_false (by omega)) .nil)))))))))))))))
          · skip
            by_cases h6 : (-664 : Int) ≤ one
            · have e := bs_call one (.tuple [iI 6, .bool true]) (by unfold bsD bsV bsI; rw [if_neg h11, if_neg h10, if_neg h9, if_neg h8, if_neg h7, if_pos h6, decide_eq_true (show (-820 : Int) ≤ one by omega)])
              by_cases hl : one ≤ two
              · exact zflat_ok tab_ok mixed fun_ok cT4_ok (lev6t one two) (.cons e (.cons (decide_eq_true hl) (.cons (by rw [bsI_at (show (-820 : Int) ≤ two by omega)]; rfl) (.cons (bsI_at (by omega)) (.cons (decide_eq_false (by have := bs_ge6 (l := two) (by omega); omega)) (.cons (decide_eq_true (by omega)) (.cons (decide_eq_true (by omega)) (.cons (decide_eq_true (by omega)) (.cons (decide_eq_true (by omega)) (.cons (decide_eq_true (by omega)) (.cons (decide_eq_true (by omega)) (.cons (decide_eq_true (by omega)) (.cons (decide_eq_false (by omega)) (.cons (decide_eq_false (by omega)) (.cons (decide_eq_false (by omega)) (.cons (decide_eq_false (by omega)) (.cons (decide_eq_false (by omega)) (.cons (decide_eq_false (by omega)) .nil))))))))))))))))))
              · exact zflat_ok tab_ok mixed fun_ok cT4_ok (lev6f one two) (.cons e (.cons (decide_eq_false hl) (.cons (decide_eq_true (by omega)) (.cons (decide_eq_true (by omega)) (.cons (decide_eq_true (by omega)) (.cons (decide_eq_true (by omega)) (.cons (decide_eq_true (by omega)) (.cons (decide_eq_true (by omega)) (.cons (decide_eq_true (by omega)) (.cons (decide_eq_false (by omega)) (.cons (decide_eq_false (by omega)) (.cons (decide_eq_false (by omega)) (.cons (decide_eq_false (by omega)) (.cons (decide_eq_false (by omega)) (.cons (decide_eq_false (by omega)) .nil)))))))))))))))
            · skip
              by_cases h5 : (-702 : Int) ≤ one
              · have e := bs_call one (.tuple [iI 5, .bool true]) (by unfold bsD bsV bsI; rw [if_neg h11, if_neg h10, if_neg h9, if_neg h8, if_neg h7, if_neg h6, if_pos h5, decide_eq_true (show (-820 : Int) ≤ one by omega)])
                by_cases hl : one ≤ two
                · exact zflat_ok tab_ok mixed fun_ok cT4_ok (lev5t one two) (.cons e (.cons (decide_eq_true hl) (.cons (by rw [bsI_at (show (-820 : Int) ≤ two by omega)]; rfl) (.cons (bsI_at (by omega)) (.cons (decide_eq_false (by have := bs_ge5 (l := two) (by omega); omega)) (.cons (decide_eq_true (by omega)) (.cons (decide_eq_true (by omega)) (.cons (decide_eq_true (by omega)) (.cons (decide_eq_true (by omega)) (.cons (decide_eq_true (by omega)) (.cons (decide_eq_true (by omega)) (.cons (decide_eq_false (by omega)) (.cons (decide_eq_false (by omega)) (.cons (decide_eq_false (by omega)) (.cons (decide_eq_false (by omega)) (.cons (decide_eq_false (by omega)) (.cons (decide_eq_false (by omega)) (.cons (decide_eq_false (by omega)) .nil))))))))))))))))))
                · exact zflat_ok tab_ok mixed fun_ok cT4_ok (lev5f one two) (.cons e (.cons (decide_eq_false hl) (.cons (decide_eq_true (by omega)) (.cons (decide_eq_true (by omega)) (.cons (decide_eq_true (by omega)) (.cons (decide_eq_true (by omega)) (.cons (decide_eq_true (by omega)) (.cons (decide_eq_true (by omega)) (.cons (decide_eq_false (by omega)) (.cons (decide_eq_false (by omega)) (.cons (decide_eq_false (by omega)) (.cons (decide_eq_false (by omega)) (.cons (decide_eq_false (by omega)) (.cons (decide_eq_false (by omega)) (.cons (decide_eq_false (by omega)) .nil)))))))))))))))
              · skip
                by_cases h4 : (-738 : Int) ≤ one
                · have e := bs_call one (.tuple [iI 4, .bool true]) (by unfold bsD bsV bsI; rw [if_neg h11, if_neg h10, if_neg h9, if_neg h8, if_neg h7, if_neg h6, if_neg h5, if_pos h4, decide_eq_true (show (-820 : Int) ≤ one by omega)])
                  by_cases hl : one ≤ two
                  · exact zflat_ok tab_ok mixed fun_ok cT4_ok (lev4t one two) (.cons e (.cons (decide_eq_true hl) (.cons (by rw [bsI_at (show (-820 : Int) ≤ two by omega)]; rfl) (.cons (bsI_at (by omega)) (.cons (decide_eq_false (by have := bs_ge4 (l := two) (by omega); omega)) (.cons (decide_eq_true (by omega)) (.cons (decide_eq_true (by omega)) (.cons (decide_eq_true (by omega)) (.cons (decide_eq_true (by omega)) (.cons (decide_eq_true (by omega)) (.cons (decide_eq_false (by omega)) (.cons (decide_eq_false (by omega)) (.cons (decide_eq_false (by omega)) (.cons (decide_eq_false (by omega)) (.cons (decide_eq_false (by omega)) (.cons (decide_eq_false (by omega)) (.cons (decide_eq_false (by omega)) (.cons (decide_eq_false (by omega)) .nil))))))))))))))))))
                  · exact zflat_ok tab_ok mixed fun_ok cT4_ok (lev4f one two) (.cons e (.cons (decide_eq_false hl) (.cons (decide_eq_true (by omega)) (.cons (decide_eq_true (by omega)) (.cons (decide_eq_true (by omega)) (.cons (decide_eq_true (by omega)) (.cons (decide_eq_true (by omega)) (.cons (decide_eq_false (by omega)) (.cons (decide_eq_false (by omega)) (.cons (decide_eq_false (by omega)) (.cons (decide_eq_false (by omega)) (.cons (decide_eq_false (by omega)) (.cons (decide_eq_false (by omega)) (.cons (decide_eq_false (by omega)) (.cons (decide_eq_false (by omega)) .nil)))))))))))))))
                · skip
                  by_cases h3 : (-768 : Int) ≤ one
                  · have e := bs_call one (.tuple [iI 3, .bool true]) (by unfold bsD bsV bsI; rw [if_neg h11, if_neg h10, if_neg h9, if_neg h8, if_neg h7, if_neg h6, if_neg h5, if_neg h4, if_pos h3, decide_eq_true (show (-820 : Int) ≤ one by omega)])
                    by_cases hl : one ≤ two
                    · exact zflat_ok tab_ok mixed fun_ok cT4_ok (lev3t one two) (.cons e (.cons (decide_eq_true hl) (.cons (by rw [bsI_at (show (-820 : Int) ≤ two by omega)]; rfl) (.cons (bsI_at (by omega)) (.cons (decide_eq_false (by have := bs_ge3 (l := two) (by omega); omega)) (.cons (decide_eq_true (by omega)) (.cons (decide_eq_true (by omega)) (.cons (decide_eq_true (by omega)) (.cons (decide_eq_true (by omega)) (.cons (decide_eq_false (by omega)) (.cons (decide_eq_false (by omega)) (.cons (decide_eq_false (by omega)) (.cons (decide_eq_false (by omega)) (.cons (decide_eq_false (by omega)) (.cons (decide_eq_false (by omega)) (.cons (decide_eq_false (by omega)) (.cons (decide_eq_false (by omega)) (.cons (decide_eq_false (by omega)) .nil))))))))))))))))))
                    · exact zflat_ok tab_ok mixed fun_ok cT4_ok (lev3f one two) (.cons e (.cons (decide_eq_false hl) (.cons (decide_eq_true (by omega)) (.cons (decide_eq_true (by omega)) (.cons (decide_eq_true (by omega)) (.cons (decide_eq_true (by omega)) (.cons (decide_eq_false (by omega)) (.cons (decide_eq_false (by omega)) (.cons (decide_eq_false (by omega)) (.cons (decide_eq_false (by omega)) (.cons (decide_eq_false (by omega)) (.cons (decide_eq_false (by omega)) (.cons (decide_eq_false (by omega)) (.cons (decide_eq_false (by omega)) (.cons (decide_eq_false (by omega)) .nil)))))))))))))))
                  · skip
                    by_cases h2 : (-788 : Int) ≤ one
                    · have e := bs_call one (.tuple [iI 2, .bool true]) (by unfold bsD bsV bsI; rw [if_neg h11, if_neg h10, if_neg h9, if_neg h8, if_neg h7, if_neg h6, if_neg h5, if_neg h4, if_neg h3, if_pos h2, decide_eq_true (show (-820 : Int) ≤ one by omega)])
                      by_cases hl : one ≤ two
                      · exact zflat_ok tab_ok mixed fun_ok cT4_ok (lev2t one two) (.cons e (.cons (decide_eq_true hl) (.cons (by rw [bsI_at (show (-820 : Int) ≤ two by omega)]; rfl) (.cons (bsI_at (by omega)) (.cons (decide_eq_false (by have := bs_ge2 (l := two) (by omega); omega)) (.cons (decide_eq_true (by omega)) (.cons (decide_eq_true (by omega)) (.cons (decide_eq_true (by omega)) (.cons (decide_eq_false (by omega)) (.cons (decide_eq_false (by omega)) (.cons (decide_eq_false (by omega)) (.cons (decide_eq_false (by omega)) (.cons (decide_eq_false (by omega)) (.cons (decide_eq_false (by omega)) (.cons (decide_eq_false (by omega)) (.cons (decide_eq_false (by omega)) (.cons (decide_eq_false (by omega)) (.cons (decide_eq_false (by omega)) .nil))))))))))))))))))
                      · exact zflat_ok tab_ok mixed fun_ok cT4_ok (lev2f one two) (.cons e (.cons (decide_eq_false hl) (.cons (decide_eq_true (by omega)) (.cons (decide_eq_true (by omega)) (.cons (decide_eq_true (by omega)) (.cons (decide_eq_false (by omega)) (.cons (decide_eq_false (by omega)) (.cons (decide_eq_false (by omega)) (.cons (decide_eq_false (by omega)) (.cons (decide_eq_false (by omega)) (.cons (decide_eq_false (by omega)) (.cons (decide_eq_false (by omega)) (.cons (decide_eq_false (by omega)) (.cons (decide_eq_false (by omega)) (.cons (decide_eq_false (by omega)) .nil)))))))))))))))
                    · skip
                      by_cases h1 : (-808 : Int) ≤ one
                      · have e := bs_call one (.tuple [iI 1, .bool true]) (by unfold bsD bsV bsI; rw [if_neg h11, if_neg h10, if_neg h9, if_neg h8, if_neg h7, if_neg h6, if_neg h5, if_neg h4, if_neg h3, if_neg h2, if_pos h1, decide_eq_true (show (-820 : Int) ≤ one by omega)])
                        by_cases hl : one ≤ two
                        · exact zflat_ok tab_ok mixed fun_ok cT4_ok (lev1t one two) (.cons e (.cons (decide_eq_true hl) (.cons (by rw [bsI_at (show (-820 : Int) ≤ two by omega)]; rfl) (.cons (bsI_at (by omega)) (.cons (decide_eq_false (by have := bs_ge1 (l := two) (by omega); omega)) (.cons (decide_eq_true (by omega)) (.cons (decide_eq_true (by omega)) (.cons (decide_eq_false (by omega)) (.cons (decide_eq_false (by omega)) (.cons (decide_eq_false (by omega)) (.cons (decide_eq_false (by omega)) (.cons (decide_eq_false (by omega)) (.cons (decide_eq_false (by omega)) (.cons (decide_eq_false (by omega)) (.cons (decide_eq_false (by omega)) (.cons (decide_eq_false (by omega)) (.cons (decide_eq_false (by omega)) (.cons (decide_eq_false (by omega)) .nil))))))))))))))))))
                        · exact zflat_ok tab_ok mixed fun_ok cT4_ok (lev1f one two) (.cons e (.cons (decide_eq_false hl) (.cons (decide_eq_true (by omega)) (.cons (decide_eq_true (by omega)) (.cons (decide_eq_false (by omega)) (.cons (decide_eq_false (by omega)) (.cons (decide_eq_false (by omega)) (.cons (decide_eq_false (by omega)) (.cons (decide_eq_false (by omega)) (.cons (decide_eq_false (by omega)) (.cons (decide_eq_false (by omega)) (.cons (decide_eq_false (by omega)) (.cons (decide_eq_false (by omega)) (.cons (decide_eq_false (by omega)) (.cons (decide_eq_false (by omega)) .nil)))))))))))))))
                      · skip
                        by_cases h0 : (-820 : Int) ≤ one
                        · have e := bs_call one (.tuple [iI 0, .bool true]) (by unfold bsD bsV bsI; rw [if_neg h11, if_neg h10, if_neg h9, if_neg h8, if_neg h7, if_neg h6, if_neg h5, if_neg h4, if_neg h3, if_neg h2, if_neg h1, if_pos h0, decide_eq_true (show (-820 : Int) ≤ one by omega)])
                          by_cases hl : one ≤ two
                          · exact zflat_ok tab_ok mixed fun_ok cT4_ok (lev0t one two) (.cons e (.cons (decide_eq_true hl) (.cons (by rw [bsI_at (show (-820 : Int) ≤ two by omega)]; rfl) (.cons (bsI_at (by omega)) (.cons (decide_eq_false (by have := bs_ge0 (l := two) (by omega); omega)) (.cons (decide_eq_true (by omega)) (.cons (decide_eq_false (by omega)) (.cons (decide_eq_false (by omega)) (.cons (decide_eq_false (by omega)) (.cons (decide_eq_false (by omega)) (.cons (decide_eq_false (by omega)) (.cons (decide_eq_false (by omega)) (.cons (decide_eq_false (by omega)) (.cons (decide_eq_false (by omega)) (.cons (decide_eq_false (by omega)) (.cons (decide_eq_false (by omega)) (.cons (decide_eq_false (by omega)) (.cons (decide_eq_false (by omega)) .nil))))))))))))))))))
                          · exact zflat_ok tab_ok mixed fun_ok cT4_ok (lev0f one two) (.cons e (.cons (decide_eq_false hl) (.cons (decide_eq_true (by omega)) (.cons (decide_eq_false (by omega)) (.cons (decide_eq_false (by omega)) (.cons (decide_eq_false (by omega)) (.cons (decide_eq_false (by omega)) (.cons (decide_eq_false (by omega)) (.cons (decide_eq_false (by omega)) (.cons (decide_eq_false (by omega)) (.cons (decide_eq_false (by omega)) (.cons (decide_eq_false (by omega)) (.cons (decide_eq_false (by omega)) (.cons (decide_eq_false (by omega)) (.cons (decide_eq_false (by omega)) .nil)))))))))))))))
                        · skip
                          have e := bs_call one (.tuple [iI 0, .bool false]) (by unfold bsD bsV bsI; rw [if_neg h11, if_neg h10, if_neg h9, if_neg h8, if_neg h7, if_neg h6, if_neg h5, if_neg h4, if_neg h3, if_neg h2, if_neg h1, if_neg h0, decide_eq_false h0])
                          by_cases hl : one ≤ two
                          · exact zflat_ok tab_ok mixed fun_ok cT4_ok (levnt one two) (.cons e (.cons (decide_eq_true hl) (.cons (decide_eq_false (by omega)) (.cons (decide_eq_false (by omega)) (.cons (decide_eq_false (by omega)) (.cons (decide_eq_false (by omega)) (.cons (decide_eq_false (by omega)) (.cons (decide_eq_false (by omega)) (.cons (decide_eq_false (by omega)) (.cons (decide_eq_false (by omega)) (.cons (decide_eq_false (by omega)) (.cons (decide_eq_false (by omega)) (.cons (decide_eq_false (by omega)) (.cons (decide_eq_false (by omega)) .nil))))))))))))))
                          · exact zflat_ok tab_ok mixed fun_ok cT4_ok (levnf one two) (.cons e (.cons (decide_eq_false hl) (.cons (decide_eq_false (by omega)) (.cons (decide_eq_false (by omega)) (.cons (decide_eq_false (by omega)) (.cons (decide_eq_false (by omega)) (.cons (decide_eq_false (by omega)) (.cons (decide_eq_false (by omega)) (.cons (decide_eq_false (by omega)) (.cons (decide_eq_false (by omega)) (.cons (decide_eq_false (by omega)) (.cons (decide_eq_false (by omega)) (.cons (decide_eq_false (by omega)) (.cons (decide_eq_false (by omega)) .nil))))))))))))))
/-! ### RateMonotone -/
def cT5 : ConF := orK cAv cAi
theorem cT5_ok : ConOk Tryd.prog cT5 := orK_ok cAv_ok cAi_ok
abbrev X1 (i a b : Int) : Prop := DV.int .i64 (IntKind.i64.wrap (a + b)) = iI (a + b)
set_option maxRecDepth 1000000 in
theorem mo1 (i k a b : Int) : zflat (zans Tryd.prog tab ftab cT5 6 [iI i, iI k, iI a, iI b] [(38, .b true)]) = some (.bool true, ((aiE i a != 0) = true) :: []) := by kernel_rfl
set_option maxRecDepth 1000000 in
theorem mo2 (i k a b : Int) : zflat (zans Tryd.prog tab ftab cT5 6 [iI i, iI k, iI a, iI b] [(38, .b false), (41, .b true)]) = some (.bool true, ((aiE i a != 0) = false) :: ((aiE i b != 0) = true) :: []) := by kernel_rfl
set_option maxRecDepth 1000000 in
theorem mo3 (i k a b : Int) : zflat (zans Tryd.prog tab ftab cT5 6 [iI i, iI k, iI a, iI b] [(38, .b false), (41, .b false), (45, .b true)]) = some (.bool true, ((aiE i a != 0) = false) :: ((aiE i b != 0) = false) :: ((aiE k a != 0) = true) :: []) := by kernel_rfl
set_option maxRecDepth 1000000 in
theorem mo_111 (i k a b : Int) : zflat (zans Tryd.prog tab ftab cT5 6 [iI i, iI k, iI a, iI b] [(38, .b false), (41, .b false), (45, .b false), (50, .b true), (54, .b false), (59, .b true), (63, .b false), (70, .w (iI (a + b))), (77, .b true), (81, .w (iI (a + b))), (82, .b true), (99, .b true), (103, .b true)]) = some (.bool true, ((aiE i a != 0) = false) :: ((aiE i b != 0) = false) :: ((aiE k a != 0) = false) :: (decide (a ≤ b) = true) :: (decide (aiV i a > aiV i b) = false) :: (decide (i ≤ k) = true) :: (decide (aiV i a < aiV k a) = false) :: (X1 i a b) :: ((aiE i (a + b) == 2) = true) :: (X1 i a b) :: (decide (a + b > 65535) = true) :: (((aiV i a).tmod 4 == 0) = true) :: (decide (aiV i a ≥ 24) = true) :: []) := by kernel_rfl
set_option maxRecDepth 1000000 in
theorem mo_110 (i k a b : Int) : zflat (zans Tryd.prog tab ftab cT5 6 [iI i, iI k, iI a, iI b] [(38, .b false), (41, .b false), (45, .b false), (50, .b true), (54, .b false), (59, .b true), (63, .b false), (70, .w (iI (a + b))), (77, .b false), (86, .b true), (91, .w (iI (aiV i a + aiV i b))), (92, .b true), (99, .b true), (103, .b true)]) = some (.bool true, ((aiE i a != 0) = false) :: ((aiE i b != 0) = false) :: ((aiE k a != 0) = false) :: (decide (a ≤ b) = true) :: (decide (aiV i a > aiV i b) = false) :: (decide (i ≤ k) = true) :: (decide (aiV i a < aiV k a) = false) :: (X1 i a b) :: ((aiE i (a + b) == 2) = false) :: ((aiE i (a + b) == 0) = true) :: (DV.int .i64 (IntKind.i64.wrap (aiV i a + aiV i b)) = iI (aiV i a + aiV i b)) :: (decide (aiV i (a + b) ≤ aiV i a + aiV i b) = true) :: (((aiV i a).tmod 4 == 0) = true) :: (decide (aiV i a ≥ 24) = true) :: []) := by kernel_rfl
set_option maxRecDepth 1000000 in
theorem mo_101 (i k a b : Int) : zflat (zans Tryd.prog tab ftab cT5 6 [iI i, iI k, iI a, iI b] [(38, .b false), (41, .b false), (45, .b false), (50, .b true), (54, .b false), (59, .b false), (70, .w (iI (a + b))), (77, .b true), (81, .w (iI (a + b))), (82, .b true), (99, .b true), (103, .b true)]) = some (.bool true, ((aiE i a != 0) = false) :: ((aiE i b != 0) = false) :: ((aiE k a != 0) = false) :: (decide (a ≤ b) = true) :: (decide (aiV i a > aiV i b) = false) :: (decide (i ≤ k) = false) :: (X1 i a b) :: ((aiE i (a + b) == 2) = true) :: (X1 i a b) :: (decide (a + b > 65535) = true) :: (((aiV i a).tmod 4 == 0) = true) :: (decide (aiV i a ≥ 24) = true) :: []) := by kernel_rfl
set_option maxRecDepth 1000000 in
theorem mo_100 (i k a b : Int) : zflat (zans Tryd.prog tab ftab cT5 6 [iI i, iI k, iI a, iI b] [(38, .b false), (41, .b false), (45, .b false), (50, .b true), (54, .b false), (59, .b false), (70, .w (iI (a + b))), (77, .b false), (86, .b true), (91, .w (iI (aiV i a + aiV i b))), (92, .b true), (99, .b true), (103, .b true)]) = some (.bool true, ((aiE i a != 0) = false) :: ((aiE i b != 0) = false) :: ((aiE k a != 0) = false) :: (decide (a ≤ b) = true) :: (decide (aiV i a > aiV i b) = false) :: (decide (i ≤ k) = false) :: (X1 i a b) :: ((aiE i (a + b) == 2) = false) :: ((aiE i (a + b) == 0) = true) :: (DV.int .i64 (IntKind.i64.wrap (aiV i a + aiV i b)) = iI (aiV i a + aiV i b)) :: (decide (aiV i (a + b) ≤ aiV i a + aiV i b) = true) :: (((aiV i a).tmod 4 == 0) = true) :: (decide (aiV i a ≥ 24) = true) :: []) := by kernel_rfl
set_option maxRecDepth 1000000 in
theorem mo_011 (i k a b : Int) : zflat (zans Tryd.prog tab ftab cT5 6 [iI i, iI k, iI a, iI b] [(38, .b false), (41, .b false), (45, .b false), (50, .b false), (59, .b true), (63, .b false), (70, .w (iI (a + b))), (77, .b true), (81, .w (iI (a + b))), (82, .b true), (99, .b true), (103, .b true)]) = some (.bool true, ((aiE i a != 0) = false) :: ((aiE i b != 0) = false) :: ((aiE k a != 0) = false) :: (decide (a ≤ b) = false) :: (decide (i ≤ k) = true) :: (decide (aiV i a < aiV k a) = false) :: (X1 i a b) :: ((aiE i (a + b) == 2) = true) :: (X1 i a b) :: (decide (a + b > 65535) = true) :: (((aiV i a).tmod 4 == 0) = true) :: (decide (aiV i a ≥ 24) = true) :: []) := by kernel_rfl
set_option maxRecDepth 1000000 in
theorem mo_010 (i k a b : Int) : zflat (zans Tryd.prog tab ftab cT5 6 [iI i, iI k, iI a, iI b] [(38, .b false), (41, .b false), (45, .b false), (50, .b false), (59, .b true), (63, .b false), (70, .w (iI (a + b))), (77, .b false), (86, .b true), (91, .w (iI (aiV i a + aiV i b))), (92, .b true), (99, .b true), (103, .b true)]) = some (.bool true, ((aiE i a != 0) = false) :: ((aiE i b != 0) = false) :: ((aiE k a != 0) = false) :: (decide (a ≤ b) = false) :: (decide (i ≤ k) = true) :: (decide (aiV i a < aiV k a) = false) :: (X1 i a b) :: ((aiE i (a + b) == 2) = false) :: ((aiE i (a + b) == 0) = true) :: (DV.int .i64 (IntKind.i64.wrap (aiV i a + aiV i b)) = iI (aiV i a + aiV i b)) :: (decide (aiV i (a + b) ≤ aiV i a + aiV i b) = true) :: (((aiV i a).tmod 4 == 0) = true) :: (decide (aiV i a ≥ 24) = true) :: []) := by kernel_rfl
set_option maxRecDepth 1000000 in
theorem mo_001 (i k a b : Int) : zflat (zans Tryd.prog tab ftab cT5 6 [iI i, iI k, iI a, iI b] [(38, .b false), (41, .b false), (45, .b false), (50, .b false), (59, .b false), (70, .w (iI (a + b))), (77, .b true), (81, .w (iI (a + b))), (82, .b true), (99, .b true), (103, .b true)]) = some (.bool true, ((aiE i a != 0) = false) :: ((aiE i b != 0) = false) :: ((aiE k a != 0) = false) :: (decide (a ≤ b) = false) :: (decide (i ≤ k) = false) :: (X1 i a b) :: ((aiE i (a + b) == 2) = true) :: (X1 i a b) :: (decide (a + b > 65535) = true) :: (((aiV i a).tmod 4 == 0) = true) :: (decide (aiV i a ≥ 24) = true) :: []) := by kernel_rfl
set_option maxRecDepth 1000000 in
theorem mo_000 (i k a b : Int) : zflat (zans Tryd.prog tab ftab cT5 6 [iI i, iI k, iI a, iI b] [(38, .b false), (41, .b false), (45, .b false), (50, .b false), (59, .b false), (70, .w (iI (a + b))), (77, .b false), (86, .b true), (91, .w (iI (aiV i a + aiV i b))), (92, .b true), (99, .b true), (103, .b true)]) = some (.bool true, ((aiE i a != 0) = false) :: ((aiE i b != 0) = false) :: ((aiE k a != 0) = false) :: (decide (a ≤ b) = false) :: (decide (i ≤ k) = false) :: (X1 i a b) :: ((aiE i (a + b) == 2) = false) :: ((aiE i (a + b) == 0) = true) :: (DV.int .i64 (IntKind.i64.wrap (aiV i a + aiV i b)) = iI (aiV i a + aiV i b)) :: (decide (aiV i (a + b) ≤ aiV i a + aiV i b) = true) :: (((aiV i a).tmod 4 == 0) = true) :: (decide (aiV i a ≥ 24) = true) :: []) := by kernel_rfl
theorem rb_mono {i k : Int} (hi : inr i = true) (hk : inr k = true) (h : i ≤ k) : rb i ≤ rb k := by
  rcases inr_t hi with rfl | rfl | rfl | rfl | rfl | rfl | rfl | rfl | rfl | rfl | rfl | rfl <;> rcases inr_t hk with rfl | rfl | rfl | rfl | rfl | rfl | rfl | rfl | rfl | rfl | rfl | rfl <;> first | decide | omega
theorem ceil_1 {n B : Int} (hB : 24 ≤ B) : (n + B - 1) / B = (n - 1) / B + 1 := by
  rw [show n + B - 1 = (n - 1) + B * 1 by omega, Int.add_mul_ediv_left _ _ (by omega)]
theorem div_anti {n B C : Int} (hB : 24 ≤ B) (hC : B ≤ C) (hn : 0 ≤ n) : n / C ≤ n / B := by
  rw [Int.le_ediv_iff_mul_le (by omega)]
  have h1 : n / C * B ≤ n / C * C := Int.mul_le_mul_of_nonneg_left hC (Int.ediv_nonneg hn (by omega))
  have h2 : n / C * C ≤ n := Int.ediv_mul_le _ (by omega)
  omega
theorem okB_parts {i b : Int} (h : okB i b = true) : inr i = true ∧ 0 ≤ b ∧ b ≤ 65535 := by
  simpa only [okB, Bool.and_eq_true, decide_eq_true_eq] using h
theorem air_mono {i a b : Int} (h : okB i a = true) (hab : a ≤ b) : air i a ≤ air i b := by
  obtain ⟨h1, h2, h3⟩ := okB_parts h
  have hB := rb_in h1
  have : (8 * a + 22 + rb i - 1) / rb i ≤ (8 * b + 22 + rb i - 1) / rb i := Int.ediv_le_ediv (by omega) (by omega)
  unfold air
  omega
theorem air_anti {i k a : Int} (h : okB i a = true) (hk : okB k a = true) (hik : i ≤ k) : air k a ≤ air i a := by
  obtain ⟨h1, h2, h3⟩ := okB_parts h
  obtain ⟨k1, _⟩ := okB_parts hk
  have hB := rb_in h1
  have hC := rb_in k1
  have := div_anti (n := 8 * a + 22 - 1) hB.1 (rb_mono h1 k1 hik) (by omega)
  unfold air
  rw [ceil_1 hB.1, ceil_1 hC.1]
  omega
theorem air_sum {i a b : Int} (h : okB i a = true) (hb : okB i b = true) : air i (a + b) ≤ air i a + air i b := by
  obtain ⟨h1, h2, h3⟩ := okB_parts h
  obtain ⟨_, h4, h5⟩ := okB_parts hb
  unfold air
  rcases inr_t h1 with rfl | rfl | rfl | rfl | rfl | rfl | rfl | rfl | rfl | rfl | rfl | rfl <;> simp only [show rb 0 = 24 from rfl, show rb 1 = 36 from rfl, show rb 2 = 48 from rfl, show rb 3 = 72 from rfl, show rb 4 = 100 from rfl, show rb 5 = 148 from rfl, show rb 6 = 196 from rfl, show rb 7 = 220 from rfl, show rb 8 = 264 from rfl, show rb 9 = 316 from rfl, show rb 10 = 396 from rfl, show rb 11 = 476 from rfl] <;> omega
theorem air_mod {i a : Int} (h : okB i a = true) : (air i a).tmod 4 = 0 := by
  have := air_in h
  rw [Int.tmod_eq_emod_of_nonneg (by omega)]
  unfold air
  omega
theorem aiE_t {i b : Int} (h : okB i b = true) : (aiE i b != 0) = false := by rw [aiE, h]; rfl
theorem aiE_f {i b : Int} (h : okB i b = false) : (aiE i b != 0) = true := by rw [aiE, h]; rfl
theorem mono_all (i k a b : Int) : Ans Tryd.prog 6 [iI i, iI k, iI a, iI b] (.bool true) ⟨0, [], []⟩ := by
  cases h1 : okB i a with
  | false => exact zflat_ok tab_ok mixed fun_ok cT5_ok (mo1 i k a b) (.cons (aiE_f h1) .nil)
  | true =>
  cases h2 : okB i b with
  | false => exact zflat_ok tab_ok mixed fun_ok cT5_ok (mo2 i k a b) (.cons (aiE_t h1) (.cons (aiE_f h2) .nil))
  | true =>
  cases h3 : okB k a with
  | false => exact zflat_ok tab_ok mixed fun_ok cT5_ok (mo3 i k a b) (.cons (aiE_t h1) (.cons (aiE_t h2) (.cons (aiE_f h3) .nil)))
  | true =>
  have p1 := okB_parts h1
  have p2 := okB_parts h2
  have v1 := aiV_at h1
  have v2 := aiV_at h2
  have v3 := aiV_at h3
  have a1 := air_in h1
  have a2 := air_in h2
  have xs : X1 i a b := by
    show DV.int .i64 _ = _
    rw [wrapZ (by omega) (by omega)]
  have ys : DV.int .i64 (IntKind.i64.wrap (aiV i a + aiV i b)) = iI (aiV i a + aiV i b) := by
    rw [v1, v2, wrapZ (by omega) (by omega)]
  have mo : ((aiV i a).tmod 4 == 0) = true := by rw [v1, air_mod h1]; rfl
  have lo : decide (aiV i a ≥ 24) = true := by rw [v1]; exact decide_eq_true a1.1
  have xab : a ≤ b → decide (aiV i a > aiV i b) = false := fun h => by
    have := air_mono h1 h
    rw [v1, v2]
    exact decide_eq_false (by omega)
  have xik : i ≤ k → decide (aiV i a < aiV k a) = false := fun h => by
    have := air_anti h1 h3 h
    rw [v1, v3]
    exact decide_eq_false (by omega)
  have sb : ¬ a + b ≤ 65535 → (aiE i (a + b) == 2) = true := fun h => by rw [aiE, okB_n (.inr (.inr (by omega)))]; rfl
  have ss : a + b ≤ 65535 → (aiE i (a + b) == 2) = false ∧ (aiE i (a + b) == 0) = true ∧ decide (aiV i (a + b) ≤ aiV i a + aiV i b) = true := fun h => by
    have hk := okB_y p1.1 (show 0 ≤ a + b by omega) h
    refine ⟨by rw [aiE, hk]; rfl, by rw [aiE, hk]; rfl, ?_⟩
    rw [aiV_at hk, v1, v2]
    exact decide_eq_true (air_sum h1 h2)
  by_cases hab : a ≤ b
  · by_cases hik : i ≤ k
    · by_cases hs : a + b ≤ 65535
      · exact zflat_ok tab_ok mixed fun_ok cT5_ok (mo_110 i k a b) (.cons (aiE_t h1) (.cons (aiE_t h2) (.cons (aiE_t h3) (.cons (decide_eq_true hab) (.cons (xab hab) (.cons (decide_eq_true hik) (.cons (xik hik) (.cons xs (.cons (ss hs).1 (.cons (ss hs).2.1 (.cons ys (.cons (ss hs).2.2 (.cons mo (.cons lo .nil))))))))))))))
      · exact zflat_ok tab_ok mixed fun_ok cT5_ok (mo_111 i k a b) (.cons (aiE_t h1) (.cons (aiE_t h2) (.cons (aiE_t h3) (.cons (decide_eq_true hab) (.cons (xab hab) (.cons (decide_eq_true hik) (.cons (xik hik) (.cons xs (.cons (sb hs) (.cons xs (.cons (decide_eq_true (by omega)) (.cons mo (.cons lo .nil)))))))))))))
    · by_cases hs : a + b ≤ 65535
      · exact zflat_ok tab_ok mixed fun_ok cT5_ok (mo_100 i k a b) (.cons (aiE_t h1) (.cons (aiE_t h2) (.cons (aiE_t h3) (.cons (decide_eq_true hab) (.cons (xab hab) (.cons (decide_eq_false hik) (.cons xs (.cons (ss hs).1 (.cons (ss hs).2.1 (.cons ys (.cons (ss hs).2.2 (.cons mo (.cons lo .nil)))))))))))))
      · exact zflat_ok tab_ok mixed fun_ok cT5_ok (mo_101 i k a b) (.cons (aiE_t h1) (.cons (aiE_t h2) (.cons (aiE_t h3) (.cons (decide_eq_true hab) (.cons (xab hab) (.cons (decide_eq_false hik) (.cons xs (.cons (sb hs) (.cons xs (.cons (decide_eq_true (by omega)) (.cons mo (.cons lo .nil))))))))))))
  · by_cases hik : i ≤ k
    · by_cases hs : a + b ≤ 65535
      · exact zflat_ok tab_ok mixed fun_ok cT5_ok (mo_010 i k a b) (.cons (aiE_t h1) (.cons (aiE_t h2) (.cons (aiE_t h3) (.cons (decide_eq_false hab) (.cons (decide_eq_true hik) (.cons (xik hik) (.cons xs (.cons (ss hs).1 (.cons (ss hs).2.1 (.cons ys (.cons (ss hs).2.2 (.cons mo (.cons lo .nil)))))))))))))
      · exact zflat_ok tab_ok mixed fun_ok cT5_ok (mo_011 i k a b) (.cons (aiE_t h1) (.cons (aiE_t h2) (.cons (aiE_t h3) (.cons (decide_eq_false hab) (.cons (decide_eq_true hik) (.cons (xik hik) (.cons xs (.cons (sb hs) (.cons xs (.cons (decide_eq_true (by omega)) (.cons mo (.cons lo .nil))))))))))))
    · by_cases hs : a + b ≤ 65535
      · exact zflat_ok tab_ok mixed fun_ok cT5_ok (mo_000 i k a b) (.cons (aiE_t h1) (.cons (aiE_t h2) (.cons (aiE_t h3) (.cons (decide_eq_false hab) (.cons (decide_eq_false hik) (.cons xs (.cons (ss hs).1 (.cons (ss hs).2.1 (.cons ys (.cons (ss hs).2.2 (.cons mo (.cons lo .nil))))))))))))
      · exact zflat_ok tab_ok mixed fun_ok cT5_ok (mo_001 i k a b) (.cons (aiE_t h1) (.cons (aiE_t h2) (.cons (aiE_t h3) (.cons (decide_eq_false hab) (.cons (decide_eq_false hik) (.cons xs (.cons (sb hs) (.cons xs (.cons (decide_eq_true (by omega)) (.cons mo (.cons lo .nil)))))))))))
/-! ### RateFits -/
def cT6 : ConF := orK cAv (orK cLe cAi)
theorem cT6_ok : ConOk Tryd.prog cT6 := orK_ok cAv_ok (orK_ok cLe_ok cAi_ok)
set_option maxRecDepth 1000000 in
theorem fi1 (i m b : Int) : zflat (zans Tryd.prog tab ftab cT6 7 [iI i, iI m, iI b] [(30, .b true), (34, .b true)]) = some (.bool true, ((leE i m == 40) = true) :: ((aiE i b != 0) = true) :: []) := by kernel_rfl
set_option maxRecDepth 1000000 in
theorem fi2 (i m b : Int) : zflat (zans Tryd.prog tab ftab cT6 7 [iI i, iI m, iI b] [(30, .b true), (34, .b false), (38, .b true)]) = some (.bool true, ((leE i m == 40) = true) :: ((aiE i b != 0) = false) :: (decide (aiV i b > m) = true) :: []) := by kernel_rfl
set_option maxRecDepth 1000000 in
theorem fi3 (i m b : Int) : zflat (zans Tryd.prog tab ftab cT6 7 [iI i, iI m, iI b] [(30, .b false), (42, .b true), (46, .b true)]) = some (.bool true, ((leE i m == 40) = false) :: ((leE i m != 0) = true) :: ((aiE i b == 2) = true) :: []) := by kernel_rfl
set_option maxRecDepth 1000000 in
theorem fi_11 (i m b : Int) : zflat (zans Tryd.prog tab ftab cT6 7 [iI i, iI m, iI b] [(30, .b false), (42, .b false), (57, .w (iI (leV i m + 1))), (62, .b false), (66, .b false), (70, .b true), (74, .b false), (79, .b false), (88, .b true)]) = some (.bool true, ((leE i m == 40) = false) :: ((leE i m != 0) = false) :: (DV.int .i64 (IntKind.i64.wrap (leV i m + 1)) = iI (leV i m + 1)) :: ((aiE i (leV i m) != 0) = false) :: (decide (aiV i (leV i m) > m) = false) :: ((aiE i (leV i m + 1) == 0) = true) :: (decide (aiV i (leV i m + 1) ≤ m) = false) :: ((aiE i (leV i m + 1) != 0) = false) :: ((aiE i b != 0) = true) :: []) := by kernel_rfl
set_option maxRecDepth 1000000 in
theorem fi_10 (i m b : Int) : zflat (zans Tryd.prog tab ftab cT6 7 [iI i, iI m, iI b] [(30, .b false), (42, .b false), (57, .w (iI (leV i m + 1))), (62, .b false), (66, .b false), (70, .b true), (74, .b false), (79, .b false), (88, .b false), (96, .b true)]) = some (.bool true, ((leE i m == 40) = false) :: ((leE i m != 0) = false) :: (DV.int .i64 (IntKind.i64.wrap (leV i m + 1)) = iI (leV i m + 1)) :: ((aiE i (leV i m) != 0) = false) :: (decide (aiV i (leV i m) > m) = false) :: ((aiE i (leV i m + 1) == 0) = true) :: (decide (aiV i (leV i m + 1) ≤ m) = false) :: ((aiE i (leV i m + 1) != 0) = false) :: ((aiE i b != 0) = false) :: ((decide (aiV i b ≤ m) == decide (b ≤ leV i m)) = true) :: []) := by kernel_rfl
set_option maxRecDepth 1000000 in
theorem fi_01 (i m b : Int) : zflat (zans Tryd.prog tab ftab cT6 7 [iI i, iI m, iI b] [(30, .b false), (42, .b false), (57, .w (iI (leV i m + 1))), (62, .b false), (66, .b false), (70, .b false), (79, .b true), (82, .b false), (88, .b true)]) = some (.bool true, ((leE i m == 40) = false) :: ((leE i m != 0) = false) :: (DV.int .i64 (IntKind.i64.wrap (leV i m + 1)) = iI (leV i m + 1)) :: ((aiE i (leV i m) != 0) = false) :: (decide (aiV i (leV i m) > m) = false) :: ((aiE i (leV i m + 1) == 0) = false) :: ((aiE i (leV i m + 1) != 0) = true) :: ((leV i m != 65535) = false) :: ((aiE i b != 0) = true) :: []) := by kernel_rfl
set_option maxRecDepth 1000000 in
theorem fi_00 (i m b : Int) : zflat (zans Tryd.prog tab ftab cT6 7 [iI i, iI m, iI b] [(30, .b false), (42, .b false), (57, .w (iI (leV i m + 1))), (62, .b false), (66, .b false), (70, .b false), (79, .b true), (82, .b false), (88, .b false), (96, .b true)]) = some (.bool true, ((leE i m == 40) = false) :: ((leE i m != 0) = false) :: (DV.int .i64 (IntKind.i64.wrap (leV i m + 1)) = iI (leV i m + 1)) :: ((aiE i (leV i m) != 0) = false) :: (decide (aiV i (leV i m) > m) = false) :: ((aiE i (leV i m + 1) == 0) = false) :: ((aiE i (leV i m + 1) != 0) = true) :: ((leV i m != 65535) = false) :: ((aiE i b != 0) = false) :: ((decide (aiV i b ≤ m) == decide (b ≤ leV i m)) = true) :: []) := by kernel_rfl
theorem len_in {i m : Int} (h : inr i = true) (hm : air i 0 ≤ m) : 0 ≤ len i m ∧ len i m ≤ 65535 := by
  unfold len
  unfold air at hm ⊢
  rcases inr_t h with rfl | rfl | rfl | rfl | rfl | rfl | rfl | rfl | rfl | rfl | rfl | rfl <;> (simp only [show rb 0 = 24 from rfl, show rb 1 = 36 from rfl, show rb 2 = 48 from rfl, show rb 3 = 72 from rfl, show rb 4 = 100 from rfl, show rb 5 = 148 from rfl, show rb 6 = 196 from rfl, show rb 7 = 220 from rfl, show rb 8 = 264 from rfl, show rb 9 = 316 from rfl, show rb 10 = 396 from rfl, show rb 11 = 476 from rfl] at hm ⊢; omega)
theorem len_fits {i m b : Int} (h : inr i = true) (hm : air i 0 ≤ m) (h0 : 0 ≤ b) (h1 : b ≤ 65535) : air i b ≤ m ↔ b ≤ len i m := by
  unfold len
  unfold air at hm ⊢
  rcases inr_t h with rfl | rfl | rfl | rfl | rfl | rfl | rfl | rfl | rfl | rfl | rfl | rfl <;> (simp only [show rb 0 = 24 from rfl, show rb 1 = 36 from rfl, show rb 2 = 48 from rfl, show rb 3 = 72 from rfl, show rb 4 = 100 from rfl, show rb 5 = 148 from rfl, show rb 6 = 196 from rfl, show rb 7 = 220 from rfl, show rb 8 = 264 from rfl, show rb 9 = 316 from rfl, show rb 10 = 396 from rfl, show rb 11 = 476 from rfl] at hm ⊢; omega)
theorem fits_all (i m b : Int) : Ans Tryd.prog 7 [iI i, iI m, iI b] (.bool true) ⟨0, [], []⟩ := by
  cases h : inr i with
  | false =>
    have e : leE i m = 2 := by rw [leE, h]
    exact zflat_ok tab_ok mixed fun_ok cT6_ok (fi3 i m b) (.cons (by rw [e]; rfl) (.cons (by rw [e]; rfl) (.cons (by rw [aiE, okB_n (.inl h)]; rfl) .nil)))
  | true =>
  by_cases hm : air i 0 ≤ m
  · have e : leE i m = 0 := by rw [leE, h, decide_eq_true hm]
    have n : leV i m = len i m := by rw [leV, okM, h, decide_eq_true hm]; rfl
    obtain ⟨n1, n2⟩ := len_in h hm
    have kn := okB_y h n1 n2
    have c1 : (leE i m == 40) = false := by rw [e]; rfl
    have c2 : (leE i m != 0) = false := by rw [e]; rfl
    have c3 : DV.int .i64 (IntKind.i64.wrap (leV i m + 1)) = iI (leV i m + 1) := by rw [n, wrapZ (by omega) (by omega)]
    have c4 : (aiE i (leV i m) != 0) = false := by rw [n]; exact aiE_t kn
    have c5 : decide (aiV i (leV i m) > m) = false := by
      rw [n, aiV_at kn]
      have := (len_fits h hm n1 n2).2 (Int.le_refl _)
      exact decide_eq_false (by omega)
    by_cases hl : len i m + 1 ≤ 65535
    · have k1 := okB_y h (show 0 ≤ len i m + 1 by omega) hl
      have d1 : (aiE i (leV i m + 1) == 0) = true := by rw [n, aiE, k1]; rfl
      have d2 : decide (aiV i (leV i m + 1) ≤ m) = false := by
        rw [n, aiV_at k1]
        refine decide_eq_false fun hc => ?_
        have := (len_fits h hm (by omega) hl).1 hc
        omega
      have d3 : (aiE i (leV i m + 1) != 0) = false := by rw [n]; exact aiE_t k1
      cases hb : okB i b with
      | false => exact zflat_ok tab_ok mixed fun_ok cT6_ok (fi_11 i m b) (.cons c1 (.cons c2 (.cons c3 (.cons c4 (.cons c5 (.cons d1 (.cons d2 (.cons d3 (.cons (aiE_f hb) .nil)))))))))
      | true =>
        have pb := okB_parts hb
        refine zflat_ok tab_ok mixed fun_ok cT6_ok (fi_10 i m b) (.cons c1 (.cons c2 (.cons c3 (.cons c4 (.cons c5 (.cons d1 (.cons d2 (.cons d3 (.cons (aiE_t hb) (.cons ?_ .nil))))))))))
        rw [n, aiV_at hb, decide_eq_decide.2 (len_fits h hm pb.2.1 pb.2.2)]
        exact beq' _
    · have k1 : okB i (len i m + 1) = false := okB_n (.inr (.inr (by omega)))
      have d1 : (aiE i (leV i m + 1) == 0) = false := by rw [n, aiE, k1]; rfl
      have d2 : (aiE i (leV i m + 1) != 0) = true := by rw [n]; exact aiE_f k1
      have d3 : (leV i m != 65535) = false := by
        rw [n, show len i m = 65535 by omega]
        rfl
      cases hb : okB i b with
      | false => exact zflat_ok tab_ok mixed fun_ok cT6_ok (fi_01 i m b) (.cons c1 (.cons c2 (.cons c3 (.cons c4 (.cons c5 (.cons d1 (.cons d2 (.cons d3 (.cons (aiE_f hb) .nil)))))))))
      | true =>
        have pb := okB_parts hb
        refine zflat_ok tab_ok mixed fun_ok cT6_ok (fi_00 i m b) (.cons c1 (.cons c2 (.cons c3 (.cons c4 (.cons c5 (.cons d1 (.cons d2 (.cons d3 (.cons (aiE_t hb) (.cons ?_ .nil))))))))))
        rw [n, aiV_at hb, decide_eq_decide.2 (len_fits h hm pb.2.1 pb.2.2)]
        exact beq' _
  · have e : leE i m = 40 := by rw [leE, h, decide_eq_false hm]
    cases hb : okB i b with
    | false => exact zflat_ok tab_ok mixed fun_ok cT6_ok (fi1 i m b) (.cons (by rw [e]; rfl) (.cons (aiE_f hb) .nil))
    | true =>
      have pb := okB_parts hb
      refine zflat_ok tab_ok mixed fun_ok cT6_ok (fi2 i m b) (.cons (by rw [e]; rfl) (.cons (aiE_t hb) (.cons ?_ .nil)))
      have := air_mono (okB_y h (show (0 : Int) ≤ 0 by decide) (by decide)) pb.2.1
      rw [aiV_at hb]
      exact decide_eq_true (by omega)
end
end Go.Proofs.YtlenidhjjganeaaDoor
