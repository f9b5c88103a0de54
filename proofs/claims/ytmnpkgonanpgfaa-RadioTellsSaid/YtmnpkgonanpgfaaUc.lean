/- The reference's Check: a contract. -/
import Derived.Test.YtmnpkgonanpgfaaUb
namespace Go.Proofs.Ytmnpkgonanpgfaa
open Go.RowKit

noncomputable section
abbrev fRk : FuncId := 29
abbrev kRk : List (Nat × Nat) := ksF ftab fRk
abbrev rkA : Code := loopAt (bodyOf ftab fRk) 0
abbrev rkB : Code := loopAt (bodyOf ftab fRk) 1
abbrev rkC : Code := loopAt rkB 0
def cIV : ConF := orK cIn cVl
theorem cIV_ok : ConOk Try.prog cIV := orK_ok cIn_ok cVl_ok
abbrev raS (n k : Nat) : Slots := mkT 73 [(1, .ptr 0 0), (3, iN n), (4, iN k)]
abbrev rbS (n k : Nat) : Slots := mkT 73 [(1, .ptr 0 0), (3, iN n), (5, iN k)]
abbrev rcS (n k j : Nat) : Slots := mkT 73 [(1, .ptr 0 0), (3, iN n), (5, iN k), (6, iN j)]
abbrev rE : Slots := mkT 73 [(2, iI 8)]
set_option maxRecDepth 1000000 in
theorem ra1 (w : Wd) (r : Rw) (n k : Nat) : zsee Try.prog tab ftab cIV kRk [1, 3, 4] rkA (raS n k) (hW w) [(15, .b true), (21, .n (.fptr (rC r))), (24, .b false), (17, .w (iN (k + 1)))] = some (.normal, raS n (k + 1), hW w, ((decide ((k : Int) < (n : Int))) = true) :: ((idxOk (k : Int) (rsR w.r).length) = true) :: (nth (rsR w.r) ((k : Int).toNat) = some (rC r)) :: (((!vr r)) = false) :: wrK k :: []) := by kernel_rfl
set_option maxRecDepth 1000000 in
theorem ra2 (w : Wd) (r : Rw) (n k : Nat) : zsee Try.prog tab ftab cIV kRk [2] rkA (raS n k) (hW w) [(15, .b true), (21, .n (.fptr (rC r))), (24, .b true)] = some (.ret, rE, hW w, ((decide ((k : Int) < (n : Int))) = true) :: ((idxOk (k : Int) (rsR w.r).length) = true) :: (nth (rsR w.r) ((k : Int).toNat) = some (rC r)) :: (((!vr r)) = true) :: []) := by kernel_rfl
set_option maxRecDepth 1000000 in
theorem raO (w : Wd) (n k : Nat) : zsee Try.prog tab ftab cIV kRk [1, 3] rkA (raS n k) (hW w) [(15, .b false)] = some (.exit 0, mkT 73 [(1, .ptr 0 0), (3, iN n)], hW w, ((decide ((k : Int) < (n : Int))) = false) :: []) := by kernel_rfl
set_option maxRecDepth 1000000 in
theorem rc1 (w : Wd) (ys : List (List DV)) (n k j : Nat) (v : Int) : zsee Try.prog tab ftab cIV kRk [1, 3, 5, 6] rkC (rcS n k j) (hW w) [(60, .b true), (66, .n (.fptr [.list 1 ys])), (69, .n (.fptr [iI v])), (72, .b false), (62, .w (iN (j + 1)))] = some (.normal, rcS n k (j + 1), hW w, ((decide ((j : Int) < (n : Int))) = true) :: ((idxOk (k : Int) (ssR w.s).length) = true) :: (nth (ssR w.s) ((k : Int).toNat) = some [.list 1 ys]) :: ((idxOk (j : Int) ys.length) = true) :: (nth ys ((j : Int).toNat) = some [iI v]) :: (((!inB v 0 600)) = false) :: wrK j :: []) := by kernel_rfl
set_option maxRecDepth 1000000 in
theorem rc2 (w : Wd) (ys : List (List DV)) (n k j : Nat) (v : Int) : zsee Try.prog tab ftab cIV kRk [2] rkC (rcS n k j) (hW w) [(60, .b true), (66, .n (.fptr [.list 1 ys])), (69, .n (.fptr [iI v])), (72, .b true)] = some (.ret, rE, hW w, ((decide ((j : Int) < (n : Int))) = true) :: ((idxOk (k : Int) (ssR w.s).length) = true) :: (nth (ssR w.s) ((k : Int).toNat) = some [.list 1 ys]) :: ((idxOk (j : Int) ys.length) = true) :: (nth ys ((j : Int).toNat) = some [iI v]) :: (((!inB v 0 600)) = true) :: []) := by kernel_rfl
set_option maxRecDepth 1000000 in
theorem rcO (w : Wd) (n k j : Nat) : zsee Try.prog tab ftab cIV kRk [1, 3, 5] rkC (rcS n k j) (hW w) [(60, .b false)] = some (.exit 4, rbS n k, hW w, ((decide ((j : Int) < (n : Int))) = false) :: []) := by kernel_rfl
set_option maxRecDepth 1000000 in
theorem rb1 (w : Wd) (ys : List (List DV)) (n k : Nat) (_v : Int) : zsee Try.prog tab ftab cIV kRk [2] rkB (rbS n k) (hW w) [(36, .b true), (42, .n (.fptr [.list 1 ys])), (46, .b true)] = some (.ret, rE, hW w, ((decide ((k : Int) < (n : Int))) = true) :: ((idxOk (k : Int) (ssR w.s).length) = true) :: (nth (ssR w.s) ((k : Int).toNat) = some [.list 1 ys]) :: ((((ys.length : Int) != (n : Int))) = true) :: []) := by kernel_rfl
set_option maxRecDepth 1000000 in
theorem rb2 (w : Wd) (ys : List (List DV)) (n k : Nat) (v : Int) : zsee Try.prog tab ftab cIV kRk [2] rkB (rbS n k) (hW w) [(36, .b true), (42, .n (.fptr [.list 1 ys])), (46, .b false), (51, .n (.fptr [.list 1 ys])), (54, .n (.fptr [iI v])), (56, .b true)] = some (.ret, rE, hW w, ((decide ((k : Int) < (n : Int))) = true) :: ((idxOk (k : Int) (ssR w.s).length) = true) :: (nth (ssR w.s) ((k : Int).toNat) = some [.list 1 ys]) :: ((((ys.length : Int) != (n : Int))) = false) :: ((idxOk (k : Int) (ssR w.s).length) = true) :: (nth (ssR w.s) ((k : Int).toNat) = some [.list 1 ys]) :: ((idxOk (k : Int) ys.length) = true) :: (nth ys ((k : Int).toNat) = some [iI v]) :: (((v != 0)) = true) :: []) := by kernel_rfl
set_option maxRecDepth 1000000 in
theorem rb3 (w : Wd) (ys : List (List DV)) (n k : Nat) (v : Int) : zsee Try.prog tab ftab cIV kRk [2] rkB (rbS n k) (hW w) [(36, .b true), (42, .n (.fptr [.list 1 ys])), (46, .b false), (51, .n (.fptr [.list 1 ys])), (54, .n (.fptr [iI v])), (56, .b false), (0, .l [1, 3, 5, 6] .ret rE (hW w))] = some (.ret, rE, hW w, ((decide ((k : Int) < (n : Int))) = true) :: ((idxOk (k : Int) (ssR w.s).length) = true) :: (nth (ssR w.s) ((k : Int).toNat) = some [.list 1 ys]) :: ((((ys.length : Int) != (n : Int))) = false) :: ((idxOk (k : Int) (ssR w.s).length) = true) :: (nth (ssR w.s) ((k : Int).toNat) = some [.list 1 ys]) :: ((idxOk (k : Int) ys.length) = true) :: (nth ys ((k : Int).toNat) = some [iI v]) :: (((v != 0)) = false) :: (Goes Try.prog tab kRk (.loop rkC) (rcS n k 0) (hW w) .ret rE (hW w)) :: []) := by kernel_rfl
set_option maxRecDepth 1000000 in
theorem rb4 (w : Wd) (ys : List (List DV)) (n k : Nat) (v : Int) : zsee Try.prog tab ftab cIV kRk [1, 3, 5] rkB (rbS n k) (hW w) [(36, .b true), (42, .n (.fptr [.list 1 ys])), (46, .b false), (51, .n (.fptr [.list 1 ys])), (54, .n (.fptr [iI v])), (56, .b false), (0, .l [1, 3, 5, 6] (.exit 4) (rbS n k) (hW w)), (38, .w (iN (k + 1)))] = some (.normal, rbS n (k + 1), hW w, ((decide ((k : Int) < (n : Int))) = true) :: ((idxOk (k : Int) (ssR w.s).length) = true) :: (nth (ssR w.s) ((k : Int).toNat) = some [.list 1 ys]) :: ((((ys.length : Int) != (n : Int))) = false) :: ((idxOk (k : Int) (ssR w.s).length) = true) :: (nth (ssR w.s) ((k : Int).toNat) = some [.list 1 ys]) :: ((idxOk (k : Int) ys.length) = true) :: (nth ys ((k : Int).toNat) = some [iI v]) :: (((v != 0)) = false) :: (Goes Try.prog tab kRk (.loop rkC) (rcS n k 0) (hW w) (.exit 4) (rbS n k) (hW w)) :: wrK k :: []) := by kernel_rfl
set_option maxRecDepth 1000000 in
theorem rbO (w : Wd) (n k : Nat) : zsee Try.prog tab ftab cIV kRk [] rkB (rbS n k) (hW w) [(36, .b false)] = some (.exit 2, mkT 73 [], hW w, ((decide ((k : Int) < (n : Int))) = false) :: []) := by kernel_rfl
set_option maxRecDepth 1000000 in
theorem rkP1 (w : Wd) : zflat (zans Try.prog tab ftab cIV fRk [wdD w] [(12, .b true)]) = some (iI 8, (((!inB ((rsR w.r).length : Int) 1 32)) = true) :: []) := by kernel_rfl
set_option maxRecDepth 1000000 in
theorem rkP2 (w : Wd) : zflat (zans Try.prog tab ftab cIV fRk [wdD w] [(12, .b false), (0, .l [1, 3, 4] .ret rE (hW w))]) = some (iI 8, (((!inB ((rsR w.r).length : Int) 1 32)) = false) :: (Goes Try.prog tab kRk (.loop rkA) (raS (rsR w.r).length 0) (hW w) .ret rE (hW w)) :: []) := by kernel_rfl
set_option maxRecDepth 1000000 in
theorem rkP3 (w : Wd) : zflat (zans Try.prog tab ftab cIV fRk [wdD w] [(12, .b false), (0, .l [1, 3, 4] (.exit 0) (mkT 73 [(1, .ptr 0 0), (3, iN (rsR w.r).length)]) (hW w)), (28, .b true)]) = some (iI 0, (((!inB ((rsR w.r).length : Int) 1 32)) = false) :: (Goes Try.prog tab kRk (.loop rkA) (raS (rsR w.r).length 0) (hW w) (.exit 0) (mkT 73 [(1, .ptr 0 0), (3, iN (rsR w.r).length)]) (hW w)) :: (((((ssR w.s).length : Int) == 0)) = true) :: []) := by kernel_rfl
set_option maxRecDepth 1000000 in
theorem rkP4 (w : Wd) : zflat (zans Try.prog tab ftab cIV fRk [wdD w] [(12, .b false), (0, .l [1, 3, 4] (.exit 0) (mkT 73 [(1, .ptr 0 0), (3, iN (rsR w.r).length)]) (hW w)), (28, .b false), (33, .b true)]) = some (iI 8, (((!inB ((rsR w.r).length : Int) 1 32)) = false) :: (Goes Try.prog tab kRk (.loop rkA) (raS (rsR w.r).length 0) (hW w) (.exit 0) (mkT 73 [(1, .ptr 0 0), (3, iN (rsR w.r).length)]) (hW w)) :: (((((ssR w.s).length : Int) == 0)) = false) :: (((((ssR w.s).length : Int) != ((rsR w.r).length : Int))) = true) :: []) := by kernel_rfl
set_option maxRecDepth 1000000 in
theorem rkP5 (w : Wd) : zflat (zans Try.prog tab ftab cIV fRk [wdD w] [(12, .b false), (0, .l [1, 3, 4] (.exit 0) (mkT 73 [(1, .ptr 0 0), (3, iN (rsR w.r).length)]) (hW w)), (28, .b false), (33, .b false), (0, .l [1, 3, 5] .ret rE (hW w))]) = some (iI 8, (((!inB ((rsR w.r).length : Int) 1 32)) = false) :: (Goes Try.prog tab kRk (.loop rkA) (raS (rsR w.r).length 0) (hW w) (.exit 0) (mkT 73 [(1, .ptr 0 0), (3, iN (rsR w.r).length)]) (hW w)) :: (((((ssR w.s).length : Int) == 0)) = false) :: (((((ssR w.s).length : Int) != ((rsR w.r).length : Int))) = false) :: (Goes Try.prog tab kRk (.loop rkB) (rbS (rsR w.r).length 0) (hW w) .ret rE (hW w)) :: []) := by kernel_rfl
set_option maxRecDepth 1000000 in
theorem rkP6 (w : Wd) : zflat (zans Try.prog tab ftab cIV fRk [wdD w] [(12, .b false), (0, .l [1, 3, 4] (.exit 0) (mkT 73 [(1, .ptr 0 0), (3, iN (rsR w.r).length)]) (hW w)), (28, .b false), (33, .b false), (0, .l [1, 3, 5] (.exit 2) (mkT 73 []) (hW w))]) = some (iI 0, (((!inB ((rsR w.r).length : Int) 1 32)) = false) :: (Goes Try.prog tab kRk (.loop rkA) (raS (rsR w.r).length 0) (hW w) (.exit 0) (mkT 73 [(1, .ptr 0 0), (3, iN (rsR w.r).length)]) (hW w)) :: (((((ssR w.s).length : Int) == 0)) = false) :: (((((ssR w.s).length : Int) != ((rsR w.r).length : Int))) = false) :: (Goes Try.prog tab kRk (.loop rkB) (rbS (rsR w.r).length 0) (hW w) (.exit 2) (mkT 73 []) (hW w)) :: []) := by kernel_rfl
theorem ra_go (w : Wd) (hl : w.r.length < 2 ^ 63) (k : Nat) (hk : k < w.r.length) (h : vr (w.r.getD k ⟨0, 0, 0, 0⟩) = true) : Goes Try.prog tab kRk rkA (raS w.r.length k) (hW w) .normal (raS w.r.length (k + 1)) (hW w) := by
  have e := rsR_length w.r
  exact zsee_ok tab_ok mixed fun_ok cIV_ok (ra1 w (w.r.getD k ⟨0, 0, 0, 0⟩) w.r.length k) (.cons (decide_eq_true (by omega)) (.cons (idxOk_lt (by omega)) (.cons (rsR_at (get_in _ hk)) (.cons (by rw [h]; rfl) (.cons (wrK_at (by omega)) .nil)))))
theorem ra_bad (w : Wd) (k : Nat) (hk : k < w.r.length) (h : vr (w.r.getD k ⟨0, 0, 0, 0⟩) = false) : Goes Try.prog tab kRk rkA (raS w.r.length k) (hW w) .ret rE (hW w) := by
  have e := rsR_length w.r
  exact zsee_ok tab_ok mixed fun_ok cIV_ok (ra2 w (w.r.getD k ⟨0, 0, 0, 0⟩) w.r.length k) (.cons (decide_eq_true (by omega)) (.cons (idxOk_lt (by omega)) (.cons (rsR_at (get_in _ hk)) (.cons (by rw [h]; rfl) .nil))))
section
variable (w : Wd) (n : Nat) (hn : w.s.length = n) (hl : n < 2 ^ 63)
include hn hl
theorem rc_go (k : Nat) (hk : k < n) (row : List Int) (hg : w.s[k]? = some row) (hrl : row.length = n) (j : Nat) (hj : j < n) (h : inB (row.getD j 0) 0 600 = true) : Goes Try.prog tab kRk rkC (rcS n k j) (hW w) .normal (rcS n k (j + 1)) (hW w) := by
  have e := ssR_length w.s
  have e1 := i1_length row
  exact zsee_ok tab_ok mixed fun_ok cIV_ok (rc1 w (i1 row) n k j (row.getD j 0)) (.cons (decide_eq_true (by omega)) (.cons (idxOk_lt (by omega)) (.cons (ssR_at hg) (.cons (idxOk_lt (by omega)) (.cons (i1_at (get_in 0 (by omega))) (.cons (by rw [h]; rfl) (.cons (wrK_at (by omega)) .nil)))))))
theorem rc_bad (k : Nat) (hk : k < n) (row : List Int) (hg : w.s[k]? = some row) (hrl : row.length = n) (j : Nat) (hj : j < n) (h : inB (row.getD j 0) 0 600 = false) : Goes Try.prog tab kRk rkC (rcS n k j) (hW w) .ret rE (hW w) := by
  have _ := hl
  have e := ssR_length w.s
  have e1 := i1_length row
  exact zsee_ok tab_ok mixed fun_ok cIV_ok (rc2 w (i1 row) n k j (row.getD j 0)) (.cons (decide_eq_true (by omega)) (.cons (idxOk_lt (by omega)) (.cons (ssR_at hg) (.cons (idxOk_lt (by omega)) (.cons (i1_at (get_in 0 (by omega))) (.cons (by rw [h]; rfl) .nil))))))
theorem rb_go (k : Nat) (hk : k < n) (h : rowB n k (w.s.getD k []) = true) : Goes Try.prog tab kRk rkB (rbS n k) (hW w) .normal (rbS n (k + 1)) (hW w) := by
  have e := ssR_length w.s
  have hg := get_in (l := w.s) (k := k) ([] : List Int) (by omega)
  generalize w.s.getD k [] = row at h hg
  have e1 := i1_length row
  unfold rowB at h
  split at h
  · rename_i h1
    have h1 := of_decide_eq_true h1
    split at h
    · rename_i h2
      have h2 := of_decide_eq_true h2
      have hv := i1_at (get_in (0 : Int) (show k < row.length by omega))
      rw [h2] at hv
      have g : Goes Try.prog tab kRk (.loop rkC) (rcS n k 0) (hW w) (.exit 4) (rbS n k) (hW w) := scan_t (S := fun j => rcS n k j) (by intro h; cases h) (fun j hj hh => rc_go w n hn hl k hk row hg h1 j hj hh) (zsee_ok tab_ok mixed fun_ok cIV_ok (rcO w n k n) (.cons (decide_eq_false (by omega)) .nil)) h
      have ix : idxOk (k : Int) (ssR w.s).length = true := idxOk_lt (by omega)
      exact zsee_ok tab_ok mixed fun_ok cIV_ok (rb4 w (i1 row) n k 0) (.cons (decide_eq_true (by omega)) (.cons ix (.cons (ssR_at hg) (.cons (neF (by omega)) (.cons ix (.cons (ssR_at hg) (.cons (idxOk_lt (by omega)) (.cons hv (.cons rfl (.cons g (.cons (wrK_at (by omega)) .nil)))))))))))
    · cases h
  · cases h
theorem rb_bad (k : Nat) (hk : k < n) (h : rowB n k (w.s.getD k []) = false) : Goes Try.prog tab kRk rkB (rbS n k) (hW w) .ret rE (hW w) := by
  have e := ssR_length w.s
  have hg := get_in (l := w.s) (k := k) ([] : List Int) (by omega)
  generalize w.s.getD k [] = row at h hg
  have e1 := i1_length row
  have ix : idxOk (k : Int) (ssR w.s).length = true := idxOk_lt (by omega)
  have lt : decide ((k : Int) < (n : Int)) = true := decide_eq_true (by omega)
  unfold rowB at h
  split at h
  · rename_i h1
    have h1 := of_decide_eq_true h1
    have hv := i1_at (get_in (0 : Int) (show k < row.length by omega))
    have ix2 : idxOk (k : Int) (i1 row).length = true := idxOk_lt (by omega)
    split at h
    · rename_i h2
      have h2 := of_decide_eq_true h2
      have g : Goes Try.prog tab kRk (.loop rkC) (rcS n k 0) (hW w) .ret rE (hW w) := scan_f (S := fun j => rcS n k j) (by intro h; cases h) (fun j hj hh => rc_go w n hn hl k hk row hg h1 j hj hh) (fun j hj hh => rc_bad w n hn hl k hk row hg h1 j hj hh) h
      rw [h2] at hv
      exact zsee_ok tab_ok mixed fun_ok cIV_ok (rb3 w (i1 row) n k 0) (.cons lt (.cons ix (.cons (ssR_at hg) (.cons (neF (by omega)) (.cons ix (.cons (ssR_at hg) (.cons ix2 (.cons hv (.cons rfl (.cons g .nil))))))))))
    · rename_i h2
      have h2 := of_decide_eq_false h2
      exact zsee_ok tab_ok mixed fun_ok cIV_ok (rb2 w (i1 row) n k (row.getD k 0)) (.cons lt (.cons ix (.cons (ssR_at hg) (.cons (neF (by omega)) (.cons ix (.cons (ssR_at hg) (.cons ix2 (.cons hv (.cons (bne_iff_ne.2 h2) .nil)))))))))
  · rename_i h1
    have h1 := of_decide_eq_false h1
    exact zsee_ok tab_ok mixed fun_ok cIV_ok (rb1 w (i1 row) n k 0) (.cons lt (.cons ix (.cons (ssR_at hg) (.cons (neT (by omega)) .nil))))
end
theorem rk_ans (w : Wd) (ok : OkW w) : Ans Try.prog fRk [wdD w] (iI (chE w)) ⟨0, [], []⟩ := by
  have e := rsR_length w.r
  have e2 := ssR_length w.s
  have hl := ok.r
  unfold chE chk
  cases h1 : inB (w.r.length : Int) 1 32 with
  | false => exact zflat_ok tab_ok mixed fun_ok cIV_ok (rkP1 w) (.cons (by rw [e, h1]; rfl) .nil)
  | true =>
    have a0 : (!inB ((rsR w.r).length : Int) 1 32) = false := by rw [e, h1]; rfl
    cases hb : okR w.r with
    | false =>
      have g : Goes Try.prog tab kRk (.loop rkA) (raS w.r.length 0) (hW w) .ret rE (hW w) := scan_f (S := fun k => raS w.r.length k) (by intro h; cases h) (ra_go w hl) (ra_bad w) hb
      rw [← e] at g
      exact zflat_ok tab_ok mixed fun_ok cIV_ok (rkP2 w) (.cons a0 (.cons g .nil))
    | true =>
      have g : Goes Try.prog tab kRk (.loop rkA) (raS w.r.length 0) (hW w) (.exit 0) (mkT 73 [(1, .ptr 0 0), (3, iN w.r.length)]) (hW w) := scan_t (S := fun k => raS w.r.length k) (by intro h; cases h) (ra_go w hl) (zsee_ok tab_ok mixed fun_ok cIV_ok (raO w w.r.length w.r.length) (.cons (decide_eq_false (by omega)) .nil)) hb
      rw [← e] at g
      unfold shB
      by_cases h0 : w.s.length = 0
      · rw [decide_eq_true h0]
        exact zflat_ok tab_ok mixed fun_ok cIV_ok (rkP3 w) (.cons a0 (.cons g (.cons (eqT (b := 0) (by omega)) .nil)))
      · rw [decide_eq_false h0]
        have z : (((ssR w.s).length : Int) == 0) = false := eqF (b := 0) (by omega)
        by_cases hn : w.s.length = w.r.length
        · rw [decide_eq_true hn]
          have z1 : (((ssR w.s).length : Int) != ((rsR w.r).length : Int)) = false := neF (by omega)
          dsimp only
          cases hs : allB w.r.length fun i => rowB w.r.length i (w.s.getD i []) with
          | true =>
            have g2 : Goes Try.prog tab kRk (.loop rkB) (rbS w.r.length 0) (hW w) (.exit 2) (mkT 73 []) (hW w) := scan_t (S := fun k => rbS w.r.length k) (by intro h; cases h) (rb_go w _ hn hl) (zsee_ok tab_ok mixed fun_ok cIV_ok (rbO w w.r.length w.r.length) (.cons (decide_eq_false (by omega)) .nil)) hs
            rw [← e] at g2
            exact zflat_ok tab_ok mixed fun_ok cIV_ok (rkP6 w) (.cons a0 (.cons g (.cons z (.cons z1 (.cons g2 .nil)))))
          | false =>
            have g2 : Goes Try.prog tab kRk (.loop rkB) (rbS w.r.length 0) (hW w) .ret rE (hW w) := scan_f (S := fun k => rbS w.r.length k) (by intro h; cases h) (rb_go w _ hn hl) (rb_bad w _ hn hl) hs
            rw [← e] at g2
            exact zflat_ok tab_ok mixed fun_ok cIV_ok (rkP5 w) (.cons a0 (.cons g (.cons z (.cons z1 (.cons g2 .nil)))))
        · rw [decide_eq_false hn]
          exact zflat_ok tab_ok mixed fun_ok cIV_ok (rkP4 w) (.cons a0 (.cons g (.cons z (.cons (neT (by omega)) .nil))))
end
end Go.Proofs.Ytmnpkgonanpgfaa
