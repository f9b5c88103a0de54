/- Same, of one world; the law RadioLocal over data. -/
import Derived.Test.YtmnpkgonanpgfaaUj
namespace Go.Proofs.Ytmnpkgonanpgfaa
open Go.RowKit

noncomputable section
/-! ### SameInts, Same -/
abbrev fSi : FuncId := 22
abbrev kSi : List (Nat × Nat) := ksF ftab fSi
abbrev siL : Code := loopAt (bodyOf ftab fSi) 0
abbrev siT (xs : List (List DV)) (k : Nat) : Slots := mkT 26 [(0, .list 1 xs), (1, .list 1 xs), (5, iN k)]
set_option maxRecDepth 1000000 in
theorem sn1 (xs : List (List DV)) (k : Nat) (v : Int) : zsee Try.prog tab ftab noC kSi [0, 1, 5] siL (siT xs k) h00 [(14, .b true), (19, .n (.fptr [iI v])), (23, .n (.fptr [iI v])), (25, .b false), (16, .w (iN (k + 1)))] = some (.normal, siT xs (k + 1), h00, ((decide ((k : Int) < (xs.length : Int))) = true) :: ((idxOk (k : Int) xs.length) = true) :: (nth xs ((k : Int).toNat) = some [iI v]) :: ((idxOk (k : Int) xs.length) = true) :: (nth xs ((k : Int).toNat) = some [iI v]) :: ((v != v) = false) :: wrK k :: []) := by kernel_rfl
set_option maxRecDepth 1000000 in
theorem snO (xs : List (List DV)) (k : Nat) : zsee Try.prog tab ftab noC kSi [] siL (siT xs k) h00 [(14, .b false)] = some (.exit 0, mkT 26 [], h00, ((decide ((k : Int) < (xs.length : Int))) = false) :: []) := by kernel_rfl
set_option maxRecDepth 1000000 in
theorem snA (xs : List (List DV)) : zflat (zans Try.prog tab ftab noC fSi [.list 1 xs, .list 1 xs] [(10, .b false), (0, .l [0, 1, 5] (.exit 0) (mkT 26 []) h00)]) = some (.bool true, (((xs.length : Int) != (xs.length : Int)) = false) :: (Goes Try.prog tab kSi (.loop siL) (siT xs 0) h00 (.exit 0) (mkT 26 []) h00) :: []) := by kernel_rfl
theorem sn_ans (l : List Int) (h : l.length < 2 ^ 63) : Ans Try.prog fSi [.list 1 (i1 l), .list 1 (i1 l)] (.bool true) ⟨0, [], []⟩ := by
  have e := i1_length l
  refine zflat_ok tab_ok mixed fun_ok noC_ok (snA (i1 l)) (.cons (by simp) (.cons ?_ .nil))
  refine Goes.loop l.length (fun k => siT (i1 l) k) (fun _ => h00) (fun k hk => ?_) (zsee_ok tab_ok mixed fun_ok noC_ok (snO (i1 l) l.length) (.cons (decide_eq_false (by omega)) .nil)) (by intro h; cases h)
  have a := i1_at (get_in (0 : Int) hk)
  have i := idxOk_lt (k := k) (n := (i1 l).length) (by omega)
  exact zsee_ok tab_ok mixed fun_ok noC_ok (sn1 (i1 l) k (l.getD k 0)) (.cons (decide_eq_true (by omega)) (.cons i (.cons a (.cons i (.cons a (.cons (by simp) (.cons (wrK_at (by omega)) .nil)))))))
abbrev fSm : FuncId := 31
abbrev kSm : List (Nat × Nat) := ksF ftab fSm
abbrev smL : Code := loopAt (bodyOf ftab fSm) 0
abbrev smM : Code := loopAt (bodyOf ftab fSm) 1
abbrev hWW (w : Wd) : Hp := ⟨2, [oW w, oW w], []⟩
abbrev sm5 (k : Nat) : Slots := mkT 60 [(2, .ptr 0 0), (3, .ptr 1 0), (5, iN k)]
abbrev sm6 (k : Nat) : Slots := mkT 60 [(2, .ptr 0 0), (3, .ptr 1 0), (6, iN k)]
set_option maxRecDepth 1000000 in
theorem sm1 (w : Wd) (r : Rw) (k : Nat) : zsee Try.prog tab ftab noC kSm [2, 3, 5] smL (sm5 k) (hWW w) [(27, .b true), (33, .n (.fptr (rC r))), (38, .n (.fptr (rC r))), (40, .b false), (29, .w (iN (k + 1)))] = some (.normal, sm5 (k + 1), hWW w, ((decide ((k : Int) < ((rsR w.r).length : Int))) = true) :: ((idxOk (k : Int) (rsR w.r).length) = true) :: (nth (rsR w.r) ((k : Int).toNat) = some (rC r)) :: ((idxOk (k : Int) (rsR w.r).length) = true) :: (nth (rsR w.r) ((k : Int).toNat) = some (rC r)) :: ((!((r.x == r.x) && ((r.y == r.y) && ((r.p == r.p) && ((r.c == r.c) && true))))) = false) :: wrK k :: []) := by kernel_rfl
set_option maxRecDepth 1000000 in
theorem smO (w : Wd) (k : Nat) : zsee Try.prog tab ftab noC kSm [2, 3] smL (sm5 k) (hWW w) [(27, .b false)] = some (.exit 0, mkT 60 [(2, .ptr 0 0), (3, .ptr 1 0)], hWW w, ((decide ((k : Int) < ((rsR w.r).length : Int))) = false) :: []) := by kernel_rfl
set_option maxRecDepth 1000000 in
theorem sm2 (C : ConF) (w : Wd) (ys : List (List DV)) (k : Nat) : zsee Try.prog tab ftab C kSm [2, 3, 6] smM (sm6 k) (hWW w) [(45, .b true), (51, .n (.fptr [.list 1 ys])), (56, .n (.fptr [.list 1 ys])), (58, .q (.bool true)), (47, .w (iN (k + 1)))] = some (.normal, sm6 (k + 1), hWW w, ((decide ((k : Int) < ((ssR w.s).length : Int))) = true) :: ((idxOk (k : Int) (ssR w.s).length) = true) :: (nth (ssR w.s) ((k : Int).toNat) = some [.list 1 ys]) :: ((idxOk (k : Int) (ssR w.s).length) = true) :: (nth (ssR w.s) ((k : Int).toNat) = some [.list 1 ys]) :: (C fSi [.list 1 ys, .list 1 ys] (hWW w) = some (.bool true, hWW w, none)) :: wrK k :: []) := by kernel_rfl
set_option maxRecDepth 1000000 in
theorem smP (w : Wd) (k : Nat) : zsee Try.prog tab ftab noC kSm [] smM (sm6 k) (hWW w) [(45, .b false)] = some (.exit 2, mkT 60 [], hWW w, ((decide ((k : Int) < ((ssR w.s).length : Int))) = false) :: []) := by kernel_rfl
set_option maxRecDepth 1000000 in
theorem smA (w : Wd) : zflat (zans Try.prog tab ftab noC fSm [wdD w, wdD w] [(13, .b false), (21, .b false), (0, .l [2, 3, 5] (.exit 0) (mkT 60 [(2, .ptr 0 0), (3, .ptr 1 0)]) (hWW w)), (0, .l [2, 3, 6] (.exit 2) (mkT 60 []) (hWW w))]) = some (.bool true, ((((rsR w.r).length : Int) != ((rsR w.r).length : Int)) = false) :: ((((ssR w.s).length : Int) != ((ssR w.s).length : Int)) = false) :: (Goes Try.prog tab kSm (.loop smL) (sm5 0) (hWW w) (.exit 0) (mkT 60 [(2, .ptr 0 0), (3, .ptr 1 0)]) (hWW w)) :: (Goes Try.prog tab kSm (.loop smM) (sm6 0) (hWW w) (.exit 2) (mkT 60 []) (hWW w)) :: []) := by kernel_rfl
theorem sm_ans (w : Wd) (ok : OkW w) : Ans Try.prog fSm [wdD w, wdD w] (.bool true) ⟨0, [], []⟩ := by
  have e := rsR_length w.r
  have e2 := ssR_length w.s
  have h1 := ok.r
  have h2 := ok.s
  refine zflat_ok tab_ok mixed fun_ok noC_ok (smA w) (.cons (by simp) (.cons (by simp) (.cons ?_ (.cons ?_ .nil))))
  · refine Goes.loop w.r.length (fun k => sm5 k) (fun _ => hWW w) (fun k hk => ?_) (zsee_ok tab_ok mixed fun_ok noC_ok (smO w w.r.length) (.cons (decide_eq_false (by omega)) .nil)) (by intro h; cases h)
    have a := rsR_at (get_in (⟨0, 0, 0, 0⟩ : Rw) hk)
    have i := idxOk_lt (k := k) (n := (rsR w.r).length) (by omega)
    exact zsee_ok tab_ok mixed fun_ok noC_ok (sm1 w _ k) (.cons (decide_eq_true (by omega)) (.cons i (.cons a (.cons i (.cons a (.cons (by simp) (.cons (wrK_at (by omega)) .nil)))))))
  · refine Goes.loop w.s.length (fun k => sm6 k) (fun _ => hWW w) (fun k hk => ?_) (zsee_ok tab_ok mixed fun_ok noC_ok (smP w w.s.length) (.cons (decide_eq_false (by omega)) .nil)) (by intro h; cases h)
    have g := get_in ([] : List Int) hk
    have a := ssR_at g
    have i := idxOk_lt (k := k) (n := (ssR w.s).length) (by omega)
    have hC := calC_ok (sn_ans _ (ok.row _ (List.mem_of_getElem? g)))
    exact zsee_ok tab_ok mixed fun_ok hC (sm2 _ w (i1 (w.s.getD k [])) k) (.cons (decide_eq_true (by omega)) (.cons i (.cons a (.cons i (.cons a (.cons (calC_at _ rfl rfl) (.cons (wrK_at (by omega)) .nil)))))))
def cSm : ConF := liftC (eqC fSm (fun x : WO => [wdD x.1, wdD x.1]) fun _ => (.bool true, ⟨0, [], []⟩))
theorem cSm_ok : ConOk Try.prog cSm := liftC_ok (eqC_ok (fun x => sm_ans x.1 x.2) fun _ => rfl)
theorem cSm_at (hp : Hp) {w : Wd} (ok : OkW w) : cSm fSm [wdD w, wdD w] hp = some (.bool true, hp, none) :=
  lift_at (A := fun x : WO => [wdD x.1, wdD x.1]) (D := fun _ => .bool true) (fun _ _ _ => rfl) hp ⟨w, ok⟩ rfl rfl
/-! ### A world with another radio -/
section
variable {w : Wd} {i : Int} (hi : Nd w i)
include hi
theorem set_len (r : Rw) : (setW w i r).r.length = w.r.length := by
  have := hi.lo
  simp [setW]
theorem set_nd (r : Rw) {j : Int} (hj : Nd w j) : Nd (setW w i r) j := ⟨hj.lo, by rw [set_len hi r]; exact hj.hi⟩
theorem set_self (r : Rw) : rI (setW w i r) i = r := by
  have h1 := hi.lo
  have h2 := hi.hi
  unfold rI setW
  rw [List.getD_eq_getElem?_getD, List.getElem?_set_self (by omega)]
  rfl
theorem set_other (r : Rw) {j : Int} (hj : Nd w j) (h : j ≠ i) : rI (setW w i r) j = rI w j := by
  have h1 := hi.lo
  have h3 := hj.lo
  unfold rI setW
  rw [List.getD_eq_getElem?_getD, List.getElem?_set_ne (by omega), ← List.getD_eq_getElem?_getD]
theorem set_set (r q : Rw) : setW (setW w i r) i q = setW w i q := by
  have := hi.lo
  simp [setW]
theorem set_back : setW w i (rI w i) = w := by
  have h1 := hi.lo
  have h2 := hi.hi
  have hlt : i.toNat < w.r.length := by omega
  have : w.r.set i.toNat (rI w i) = w.r := by
    refine List.ext_getElem? fun k => ?_
    by_cases h : i.toNat = k
    · subst h
      rw [List.getElem?_set_self hlt, get_in ⟨0, 0, 0, 0⟩ hlt]
      rfl
    · rw [List.getElem?_set_ne h]
  unfold setW
  rw [this]
theorem set_va (va : Va w) {r : Rw} (hr : vr r = true) : Va (setW w i r) := by
  have hl := set_len hi r
  have h1 := hi.lo
  refine ⟨by rw [hl]; exact va.n1, by rw [hl]; exact va.n2, fun k hk => ?_, ?_⟩
  · rw [hl] at hk
    have hj : Nd w (k : Int) := ⟨by omega, by omega⟩
    by_cases h : (k : Int) = i
    · have := set_self hi r
      rw [← h] at this
      show vr (rI (setW w i r) (k : Int)) = true
      rw [h, set_self hi r]
      exact hr
    · show vr (rI (setW w i r) (k : Int)) = true
      rw [set_other hi r hj h]
      exact va.r k hk
  · rw [hl]
    exact va.s
theorem set_ok (ok : OkW w) (r : Rw) : OkW (setW w i r) := ⟨by rw [set_len hi r]; exact ok.r, ok.s, ok.row⟩
end
theorem OkW.w0 : OkW w0 := ⟨by show 0 < _; decide, by show 0 < _; decide, fun l h => by cases h⟩
theorem asE_set {w : Wd} {i j k : Int} {r : Rw} (hc : chk w = true) (hi : Nd w i) (hr : vr r = true) (h : asE w j k = 0) : asE (setW w i r) j k = 0 := by
  obtain ⟨_, hj, hk⟩ := asE_z h
  exact asE_t ((va_iff _).2 (set_va hi ((va_iff w).1 hc) hr)) (set_nd hi r hj) (set_nd hi r hk)
theorem lv_set {w : Wd} {i j k : Int} {r : Rw} (h1 : (rI (setW w i r) j).x = (rI w j).x ∧ (rI (setW w i r) j).y = (rI w j).y ∧ (rI (setW w i r) j).p = (rI w j).p) (h2 : (rI (setW w i r) k).x = (rI w k).x ∧ (rI (setW w i r) k).y = (rI w k).y) : lv (setW w i r) j k = lv w j k := by
  have e : ds (setW w i r) j k = ds w j k := by
    unfold ds
    rw [h1.1, h1.2.1, h2.1, h2.2]
  have e2 : l0 (setW w i r) j k = l0 w j k := by
    unfold l0
    rw [e, h1.2.2]
  unfold lv
  rw [e2]
  rfl
theorem hr_set {w : Wd} {i j k : Int} {r : Rw} (h1 : rI (setW w i r) j = rI w j) (h2 : rI (setW w i r) k = rI w k) : hr (setW w i r) k j = hr w k j := by
  unfold hr
  rw [lv_set ⟨by rw [h1], by rw [h1], by rw [h1]⟩ ⟨by rw [h2], by rw [h2]⟩, h1, h2]
theorem mv_no {w : Wd} {i : Int} {r : Rw} (h : chE' w i r ≠ 0) : chW w i r = w0 := by
  unfold chE' at h
  unfold chW
  split at h
  · rename_i h1
    split at h
    · exact absurd rfl h
    · rename_i h2
      first | rfl | rw [h1, h2]
  · rename_i h1
    first | rfl | rw [h1]
theorem mv_yes {w : Wd} {i : Int} {r : Rw} (h : chE' w i r = 0) : chk w = true ∧ Nd w i ∧ vr r = true ∧ chW w i r = setW w i r := by
  unfold chE' at h
  split at h
  · rename_i h1
    split at h
    · rename_i h2
      have h3 : chk w = true ∧ Nd w i := by
        unfold okA at h1
        split at h1
        · rename_i hc
          split at h1
          · rename_i hi
            exact ⟨hc, (nd_iff w i).1 hi⟩
          · cases h1
        · cases h1
      refine ⟨h3.1, h3.2, h2, ?_⟩
      unfold chW
      rw [h1, h2]
    · cases h
  · rename_i h1
    have := asE_z h
    rw [okA_t this.1 this.2.1 this.2.2] at h1
    cases h1
/-! ### RadioLocal -/
def mvD (w : Wd) (i x y : Int) : DV := chD w i (mvR w i x y)
def tuD (w : Wd) (i c : Int) : DV := chD w i (tuR w i c)
def cT5 : ConF := orK cAl (orK (cW1 fGt fun w => .bool (gtB w)) (orK (cW4 fMv mvD) (orK (cW3 fTu tuD) (orK cSm (orK (cW1 fCk fun w => iI (chE w)) (orK (cW3 fLe lvD) (cW3 fHs hrD)))))))
theorem cT5_ok : ConOk Try.prog cT5 := orK_ok cAl_ok (orK_ok (cW1_ok gt_ans) (orK_ok (cW4_ok mv_ans) (orK_ok (cW3_ok tu_ans) (orK_ok cSm_ok (orK_ok (cW1_ok ck_ans) (orK_ok (cW3_ok le_ans) (cW3_ok hs_ans)))))))
theorem cT5_gt (hp : Hp) {w : Wd} (ok : OkW w) : cT5 fGt [wdD w] hp = some (.bool (gtB w), hp, none) := orK_right rfl (orK_left (cW1_at hp ok rfl))
theorem cT5_mv (hp : Hp) {w : Wd} (ok : OkW w) (i x y : Int) : cT5 fMv [wdD w, iI i, iI x, iI y] hp = some (mvD w i x y, hp, none) := orK_right rfl (orK_right (cW1_oth (by kernel_rfl)) (orK_left (cW4_at hp ok i x y rfl)))
theorem cT5_tu (hp : Hp) {w : Wd} (ok : OkW w) (i c : Int) : cT5 fTu [wdD w, iI i, iI c] hp = some (tuD w i c, hp, none) := orK_right rfl (orK_right (cW1_oth (by kernel_rfl)) (orK_right (cW4_oth (by kernel_rfl)) (orK_left (cW3_at hp ok i c rfl))))
theorem cT5_sm (hp : Hp) {w : Wd} (ok : OkW w) : cT5 fSm [wdD w, wdD w] hp = some (.bool true, hp, none) := orK_right rfl (orK_right (cW1_oth (by kernel_rfl)) (orK_right (cW4_oth (by kernel_rfl)) (orK_right (cW3_oth (by kernel_rfl)) (orK_left (cSm_at hp ok)))))
theorem cSm_oth {g : FuncId} {args : List DV} {hp : Hp} (h : Nat.beq g fSm = false) : cSm g args hp = none := lift_oth (eqC_other h)
theorem cT5_ck (hp : Hp) {w : Wd} (ok : OkW w) : cT5 fCk [wdD w] hp = some (iI (chE w), hp, none) := orK_right rfl (orK_right (cW1_oth (by kernel_rfl)) (orK_right (cW4_oth (by kernel_rfl)) (orK_right (cW3_oth (by kernel_rfl)) (orK_right (cSm_oth (by kernel_rfl)) (orK_left (cW1_at hp ok rfl))))))
theorem cT5_le (hp : Hp) {w : Wd} (ok : OkW w) (i j : Int) : cT5 fLe [wdD w, iI i, iI j] hp = some (lvD w i j, hp, none) := orK_right rfl (orK_right (cW1_oth (by kernel_rfl)) (orK_right (cW4_oth (by kernel_rfl)) (orK_right (cW3_oth (by kernel_rfl)) (orK_right (cSm_oth (by kernel_rfl)) (orK_right (cW1_oth (by kernel_rfl)) (orK_left (cW3_at hp ok i j rfl)))))))
theorem cT5_hs (hp : Hp) {w : Wd} (ok : OkW w) (i j : Int) : cT5 fHs [wdD w, iI i, iI j] hp = some (hrD w i j, hp, none) := orK_right rfl (orK_right (cW1_oth (by kernel_rfl)) (orK_right (cW4_oth (by kernel_rfl)) (orK_right (cW3_oth (by kernel_rfl)) (orK_right (cSm_oth (by kernel_rfl)) (orK_right (cW1_oth (by kernel_rfl)) (orK_right (cW3_oth (by kernel_rfl)) (cW3_at hp ok i j rfl)))))))
set_option maxRecDepth 1000000 in
theorem loc0 (C : ConF) (w : Wd) (i x y c j k : Int) : zflat (zans Try.prog tab ftab C 10 [wdD w, iI i, iI x, iI y, iI c, iI j, iI k] [(32, .q (.bool true)), (34, .q (.bool true))]) = some (.bool true, (C fAl [] (hW w) = some (.bool true, (hW w), none)) :: (C fGt [wdD w] (hW w) = some (.bool true, (hW w), none)) :: []) := by kernel_rfl
set_option maxRecDepth 1000000 in
theorem loc1 (C : ConF) (w a bb : Wd) (i x y c j k e f : Int) : zflat (zans Try.prog tab ftab C 10 [wdD w, iI i, iI x, iI y, iI c, iI j, iI k] [(32, .q (.bool true)), (34, .q (.bool false)), (45, .q (.tuple [wdD a, iI e])), (52, .q (.tuple [wdD bb, iI f])), (56, .b true), (64, .b false), (69, .b true), (74, .b true)]) = some (.bool true, (C fAl [] (hW w) = some (.bool true, (hW w), none)) :: (C fGt [wdD w] (hW w) = some (.bool false, (hW w), none)) :: (C fMv [wdD w, iI i, iI x, iI y] (hW w) = some (.tuple [wdD a, iI e], (hW w), none)) :: (C fTu [wdD w, iI i, iI c] ⟨2, [oW a, oW w], []⟩ = some (.tuple [wdD bb, iI f], ⟨2, [oW a, oW w], []⟩, none)) :: ((e != 0) = true) :: ((e == 0) = false) :: ((((rsR a.r).length : Int) == 0) = true) :: ((f == 0) = true) :: []) := by kernel_rfl
set_option maxRecDepth 1000000 in
theorem loc2 (C : ConF) (w a bb : Wd) (i x y c j k e f : Int) : zflat (zans Try.prog tab ftab C 10 [wdD w, iI i, iI x, iI y, iI c, iI j, iI k] [(32, .q (.bool true)), (34, .q (.bool false)), (45, .q (.tuple [wdD a, iI e])), (52, .q (.tuple [wdD bb, iI f])), (56, .b true), (64, .b false), (69, .b true), (74, .b false), (79, .b true)]) = some (.bool true, (C fAl [] (hW w) = some (.bool true, (hW w), none)) :: (C fGt [wdD w] (hW w) = some (.bool false, (hW w), none)) :: (C fMv [wdD w, iI i, iI x, iI y] (hW w) = some (.tuple [wdD a, iI e], (hW w), none)) :: (C fTu [wdD w, iI i, iI c] ⟨2, [oW a, oW w], []⟩ = some (.tuple [wdD bb, iI f], ⟨2, [oW a, oW w], []⟩, none)) :: ((e != 0) = true) :: ((e == 0) = false) :: ((((rsR a.r).length : Int) == 0) = true) :: ((f == 0) = false) :: ((((rsR bb.r).length : Int) == 0) = true) :: []) := by kernel_rfl
set_option maxRecDepth 1000000 in
theorem loc3 (C : ConF) (w a bb : Wd) (i x y c j k e f : Int) : zflat (zans Try.prog tab ftab C 10 [wdD w, iI i, iI x, iI y, iI c, iI j, iI k] [(32, .q (.bool true)), (34, .q (.bool false)), (45, .q (.tuple [wdD a, iI e])), (52, .q (.tuple [wdD bb, iI f])), (56, .b false), (59, .b true), (64, .b true), (74, .b false), (79, .b true)]) = some (.bool true, (C fAl [] (hW w) = some (.bool true, (hW w), none)) :: (C fGt [wdD w] (hW w) = some (.bool false, (hW w), none)) :: (C fMv [wdD w, iI i, iI x, iI y] (hW w) = some (.tuple [wdD a, iI e], (hW w), none)) :: (C fTu [wdD w, iI i, iI c] ⟨2, [oW a, oW w], []⟩ = some (.tuple [wdD bb, iI f], ⟨2, [oW a, oW w], []⟩, none)) :: ((e != 0) = false) :: ((f != 0) = true) :: ((e == 0) = true) :: ((f == 0) = false) :: ((((rsR bb.r).length : Int) == 0) = true) :: []) := by kernel_rfl
set_option maxRecDepth 1000000 in
theorem loc4 (C : ConF) (w a bb : Wd) (r : Rw) (i x y c j k l h : Int) : zflat (zans Try.prog tab ftab C 10 [wdD w, iI i, iI x, iI y, iI c, iI j, iI k] [(32, .q (.bool true)), (34, .q (.bool false)), (45, .q (.tuple [wdD a, iI 0])), (52, .q (.tuple [wdD bb, iI 0])), (88, .n (.fptr (rC r))), (94, .n (.fptr (rC r))), (97, .q (.tuple [wdD w, iI 0])), (105, .q (.bool true)), (110, .q (iI 0)), (115, .q (iI 0)), (122, .q (.tuple [iI l, iI h])), (126, .b true)]) = some (.bool true, (C fAl [] (hW w) = some (.bool true, (hW w), none)) :: (C fGt [wdD w] (hW w) = some (.bool false, (hW w), none)) :: (C fMv [wdD w, iI i, iI x, iI y] (hW w) = some (.tuple [wdD a, iI 0], (hW w), none)) :: (C fTu [wdD w, iI i, iI c] ⟨2, [oW a, oW w], []⟩ = some (.tuple [wdD bb, iI 0], ⟨2, [oW a, oW w], []⟩, none)) :: (idxOk i (rsR w.r).length = true) :: (nth (rsR w.r) i.toNat = some (rC r)) :: (idxOk i (rsR w.r).length = true) :: (nth (rsR w.r) i.toNat = some (rC r)) :: (C fMv [wdD a, iI i, iI r.x, iI r.y] ⟨3, [oW bb, oW a, oW w], []⟩ = some (.tuple [wdD w, iI 0], ⟨3, [oW bb, oW a, oW w], []⟩, none)) :: (C fSm [wdD w, wdD w] ⟨4, [oW w, oW bb, oW a, oW w], []⟩ = some (.bool true, ⟨4, [oW w, oW bb, oW a, oW w], []⟩, none)) :: (C fCk [wdD a] ⟨4, [oW w, oW bb, oW a, oW w], []⟩ = some (iI 0, ⟨4, [oW w, oW bb, oW a, oW w], []⟩, none)) :: (C fCk [wdD bb] ⟨4, [oW w, oW bb, oW a, oW w], []⟩ = some (iI 0, ⟨4, [oW w, oW bb, oW a, oW w], []⟩, none)) :: (C fLe [wdD w, iI j, iI k] ⟨4, [oW w, oW bb, oW a, oW w], []⟩ = some (.tuple [iI l, iI h], ⟨4, [oW w, oW bb, oW a, oW w], []⟩, none)) :: ((h != 0) = true) :: []) := by kernel_rfl
set_option maxRecDepth 1000000 in
theorem loc5 (C : ConF) (w a bb : Wd) (r : Rw) (i x y c j k l m _n : Int) (_u _v : Bool) : zflat (zans Try.prog tab ftab C 10 [wdD w, iI i, iI x, iI y, iI c, iI j, iI k] [(32, .q (.bool true)), (34, .q (.bool false)), (45, .q (.tuple [wdD a, iI 0])), (52, .q (.tuple [wdD bb, iI 0])), (88, .n (.fptr (rC r))), (94, .n (.fptr (rC r))), (97, .q (.tuple [wdD w, iI 0])), (105, .q (.bool true)), (110, .q (iI 0)), (115, .q (iI 0)), (122, .q (.tuple [iI l, iI 0])), (132, .q (.tuple [iI m, iI 0])), (140, .b false), (144, .b true)]) = some (.bool true, (C fAl [] (hW w) = some (.bool true, (hW w), none)) :: (C fGt [wdD w] (hW w) = some (.bool false, (hW w), none)) :: (C fMv [wdD w, iI i, iI x, iI y] (hW w) = some (.tuple [wdD a, iI 0], (hW w), none)) :: (C fTu [wdD w, iI i, iI c] ⟨2, [oW a, oW w], []⟩ = some (.tuple [wdD bb, iI 0], ⟨2, [oW a, oW w], []⟩, none)) :: (idxOk i (rsR w.r).length = true) :: (nth (rsR w.r) i.toNat = some (rC r)) :: (idxOk i (rsR w.r).length = true) :: (nth (rsR w.r) i.toNat = some (rC r)) :: (C fMv [wdD a, iI i, iI r.x, iI r.y] ⟨3, [oW bb, oW a, oW w], []⟩ = some (.tuple [wdD w, iI 0], ⟨3, [oW bb, oW a, oW w], []⟩, none)) :: (C fSm [wdD w, wdD w] ⟨4, [oW w, oW bb, oW a, oW w], []⟩ = some (.bool true, ⟨4, [oW w, oW bb, oW a, oW w], []⟩, none)) :: (C fCk [wdD a] ⟨4, [oW w, oW bb, oW a, oW w], []⟩ = some (iI 0, ⟨4, [oW w, oW bb, oW a, oW w], []⟩, none)) :: (C fCk [wdD bb] ⟨4, [oW w, oW bb, oW a, oW w], []⟩ = some (iI 0, ⟨4, [oW w, oW bb, oW a, oW w], []⟩, none)) :: (C fLe [wdD w, iI j, iI k] ⟨4, [oW w, oW bb, oW a, oW w], []⟩ = some (.tuple [iI l, iI 0], ⟨4, [oW w, oW bb, oW a, oW w], []⟩, none)) :: (C fLe [wdD bb, iI j, iI k] ⟨4, [oW w, oW bb, oW a, oW w], []⟩ = some (.tuple [iI m, iI 0], ⟨4, [oW w, oW bb, oW a, oW w], []⟩, none)) :: ((m != l) = false) :: ((j == i) = true) :: []) := by kernel_rfl
set_option maxRecDepth 1000000 in
theorem loc6 (C : ConF) (w a bb : Wd) (r : Rw) (i x y c j k l m _n : Int) (_u _v : Bool) : zflat (zans Try.prog tab ftab C 10 [wdD w, iI i, iI x, iI y, iI c, iI j, iI k] [(32, .q (.bool true)), (34, .q (.bool false)), (45, .q (.tuple [wdD a, iI 0])), (52, .q (.tuple [wdD bb, iI 0])), (88, .n (.fptr (rC r))), (94, .n (.fptr (rC r))), (97, .q (.tuple [wdD w, iI 0])), (105, .q (.bool true)), (110, .q (iI 0)), (115, .q (iI 0)), (122, .q (.tuple [iI l, iI 0])), (132, .q (.tuple [iI m, iI 0])), (140, .b false), (144, .b false), (148, .b true)]) = some (.bool true, (C fAl [] (hW w) = some (.bool true, (hW w), none)) :: (C fGt [wdD w] (hW w) = some (.bool false, (hW w), none)) :: (C fMv [wdD w, iI i, iI x, iI y] (hW w) = some (.tuple [wdD a, iI 0], (hW w), none)) :: (C fTu [wdD w, iI i, iI c] ⟨2, [oW a, oW w], []⟩ = some (.tuple [wdD bb, iI 0], ⟨2, [oW a, oW w], []⟩, none)) :: (idxOk i (rsR w.r).length = true) :: (nth (rsR w.r) i.toNat = some (rC r)) :: (idxOk i (rsR w.r).length = true) :: (nth (rsR w.r) i.toNat = some (rC r)) :: (C fMv [wdD a, iI i, iI r.x, iI r.y] ⟨3, [oW bb, oW a, oW w], []⟩ = some (.tuple [wdD w, iI 0], ⟨3, [oW bb, oW a, oW w], []⟩, none)) :: (C fSm [wdD w, wdD w] ⟨4, [oW w, oW bb, oW a, oW w], []⟩ = some (.bool true, ⟨4, [oW w, oW bb, oW a, oW w], []⟩, none)) :: (C fCk [wdD a] ⟨4, [oW w, oW bb, oW a, oW w], []⟩ = some (iI 0, ⟨4, [oW w, oW bb, oW a, oW w], []⟩, none)) :: (C fCk [wdD bb] ⟨4, [oW w, oW bb, oW a, oW w], []⟩ = some (iI 0, ⟨4, [oW w, oW bb, oW a, oW w], []⟩, none)) :: (C fLe [wdD w, iI j, iI k] ⟨4, [oW w, oW bb, oW a, oW w], []⟩ = some (.tuple [iI l, iI 0], ⟨4, [oW w, oW bb, oW a, oW w], []⟩, none)) :: (C fLe [wdD bb, iI j, iI k] ⟨4, [oW w, oW bb, oW a, oW w], []⟩ = some (.tuple [iI m, iI 0], ⟨4, [oW w, oW bb, oW a, oW w], []⟩, none)) :: ((m != l) = false) :: ((j == i) = false) :: ((k == i) = true) :: []) := by kernel_rfl
set_option maxRecDepth 1000000 in
theorem loc7 (C : ConF) (w a bb : Wd) (r : Rw) (i x y c j k l m n : Int) (u v : Bool) : zflat (zans Try.prog tab ftab C 10 [wdD w, iI i, iI x, iI y, iI c, iI j, iI k] [(32, .q (.bool true)), (34, .q (.bool false)), (45, .q (.tuple [wdD a, iI 0])), (52, .q (.tuple [wdD bb, iI 0])), (88, .n (.fptr (rC r))), (94, .n (.fptr (rC r))), (97, .q (.tuple [wdD w, iI 0])), (105, .q (.bool true)), (110, .q (iI 0)), (115, .q (iI 0)), (122, .q (.tuple [iI l, iI 0])), (132, .q (.tuple [iI m, iI 0])), (140, .b false), (144, .b false), (148, .b false), (155, .q (.tuple [iI n, iI 0])), (162, .q (.tuple [.bool u, iI 0])), (169, .q (.tuple [.bool v, iI 0])), (180, .b true), (193, .b true)]) = some (.bool true, (C fAl [] (hW w) = some (.bool true, (hW w), none)) :: (C fGt [wdD w] (hW w) = some (.bool false, (hW w), none)) :: (C fMv [wdD w, iI i, iI x, iI y] (hW w) = some (.tuple [wdD a, iI 0], (hW w), none)) :: (C fTu [wdD w, iI i, iI c] ⟨2, [oW a, oW w], []⟩ = some (.tuple [wdD bb, iI 0], ⟨2, [oW a, oW w], []⟩, none)) :: (idxOk i (rsR w.r).length = true) :: (nth (rsR w.r) i.toNat = some (rC r)) :: (idxOk i (rsR w.r).length = true) :: (nth (rsR w.r) i.toNat = some (rC r)) :: (C fMv [wdD a, iI i, iI r.x, iI r.y] ⟨3, [oW bb, oW a, oW w], []⟩ = some (.tuple [wdD w, iI 0], ⟨3, [oW bb, oW a, oW w], []⟩, none)) :: (C fSm [wdD w, wdD w] ⟨4, [oW w, oW bb, oW a, oW w], []⟩ = some (.bool true, ⟨4, [oW w, oW bb, oW a, oW w], []⟩, none)) :: (C fCk [wdD a] ⟨4, [oW w, oW bb, oW a, oW w], []⟩ = some (iI 0, ⟨4, [oW w, oW bb, oW a, oW w], []⟩, none)) :: (C fCk [wdD bb] ⟨4, [oW w, oW bb, oW a, oW w], []⟩ = some (iI 0, ⟨4, [oW w, oW bb, oW a, oW w], []⟩, none)) :: (C fLe [wdD w, iI j, iI k] ⟨4, [oW w, oW bb, oW a, oW w], []⟩ = some (.tuple [iI l, iI 0], ⟨4, [oW w, oW bb, oW a, oW w], []⟩, none)) :: (C fLe [wdD bb, iI j, iI k] ⟨4, [oW w, oW bb, oW a, oW w], []⟩ = some (.tuple [iI m, iI 0], ⟨4, [oW w, oW bb, oW a, oW w], []⟩, none)) :: ((m != l) = false) :: ((j == i) = false) :: ((k == i) = false) :: (C fLe [wdD a, iI j, iI k] ⟨4, [oW w, oW bb, oW a, oW w], []⟩ = some (.tuple [iI n, iI 0], ⟨4, [oW w, oW bb, oW a, oW w], []⟩, none)) :: (C fHs [wdD w, iI k, iI j] ⟨4, [oW w, oW bb, oW a, oW w], []⟩ = some (.tuple [.bool u, iI 0], ⟨4, [oW w, oW bb, oW a, oW w], []⟩, none)) :: (C fHs [wdD bb, iI k, iI j] ⟨4, [oW w, oW bb, oW a, oW w], []⟩ = some (.tuple [.bool v, iI 0], ⟨4, [oW w, oW bb, oW a, oW w], []⟩, none)) :: ((n == l) = true) :: ((u == v) = true) :: []) := by kernel_rfl
theorem ieqz {e : Int} (h : e ≠ 0) : (e == 0) = false := beq_eq_false_iff_ne.2 h
set_option maxHeartbeats 1000000 in
theorem local_all (w : Wd) (ok : OkW w) (i x y c j k : Int) : Ans Try.prog 10 [wdD w, iI i, iI x, iI y, iI c, iI j, iI k] (.bool true) ⟨0, [], []⟩ := by
  have al : cT5 fAl [] (hW w) = some (.bool true, hW w, none) := orK_left rfl
  have gt := cT5_gt (hW w) ok
  cases hg : gtB w with
  | true =>
    rw [hg] at gt
    exact zflat_ok tab_ok mixed fun_ok cT5_ok (loc0 _ w i x y c j k) (.cons al (.cons gt .nil))
  | false =>
  rw [hg] at gt
  have q1 := cT5_mv (hW w) ok i x y
  have q2 := fun a : Wd => cT5_tu ⟨2, [oW a, oW w], []⟩ ok i c
  have d1 : mvD w i x y = .tuple [wdD (chW w i (mvR w i x y)), iI (chE' w i (mvR w i x y))] := rfl
  have d2 : tuD w i c = .tuple [wdD (chW w i (tuR w i c)), iI (chE' w i (tuR w i c))] := rfl
  rw [d1] at q1
  rw [d2] at q2
  have z : ∀ {v : Wd}, v = w0 → (((rsR v.r).length : Int) == 0) = true := fun h => by rw [h]; rfl
  by_cases e1 : chE' w i (mvR w i x y) = 0
  rotate_left
  · by_cases e2 : chE' w i (tuR w i c) = 0
    · exact zflat_ok tab_ok mixed fun_ok cT5_ok (loc1 _ w _ _ i x y c j k _ _) (.cons al (.cons gt (.cons q1 (.cons (q2 _) (.cons (nz' e1) (.cons (ieqz e1) (.cons (z (mv_no e1)) (.cons (by rw [e2]; rfl) .nil))))))))
    · exact zflat_ok tab_ok mixed fun_ok cT5_ok (loc2 _ w _ _ i x y c j k _ _) (.cons al (.cons gt (.cons q1 (.cons (q2 _) (.cons (nz' e1) (.cons (ieqz e1) (.cons (z (mv_no e1)) (.cons (ieqz e2) (.cons (z (mv_no e2)) .nil)))))))))
  by_cases e2 : chE' w i (tuR w i c) = 0
  rotate_left
  · exact zflat_ok tab_ok mixed fun_ok cT5_ok (loc3 _ w _ _ i x y c j k _ _) (.cons al (.cons gt (.cons q1 (.cons (q2 _) (.cons (by rw [e1]; rfl) (.cons (nz' e2) (.cons (by rw [e1]; rfl) (.cons (ieqz e2) (.cons (z (mv_no e2)) .nil)))))))))
  obtain ⟨hc, hi, v1, w1⟩ := mv_yes e1
  obtain ⟨_, _, v2, w2⟩ := mv_yes e2
  rw [e1, w1] at q1
  rw [e2, w2] at q2
  have q2 := q2 (setW w i (mvR w i x y))
  have va := (va_iff w).1 hc
  have va1 := set_va hi va v1
  have va2 := set_va hi va v2
  have ok1 := set_ok hi ok (mvR w i x y)
  have ok2 := set_ok hi ok (tuR w i c)
  have c1 := (va_iff _).2 va1
  have c2 := (va_iff _).2 va2
  have ai := rI_at hi
  have s1 := set_self hi (mvR w i x y)
  have s2 := set_self hi (tuR w i c)
  have back : mvD (setW w i (mvR w i x y)) i (rI w i).x (rI w i).y = .tuple [wdD w, iI 0] := by
    have h1 : mvR (setW w i (mvR w i x y)) i (rI w i).x (rI w i).y = rI w i := by
      show Rw.mk (rI w i).x (rI w i).y (rI (setW w i (mvR w i x y)) i).p (rI (setW w i (mvR w i x y)) i).c = rI w i
      rw [s1]
      rfl
    have h2 : vr (rI w i) = true := va.r i.toNat (by have := hi.lo; have := hi.hi; omega)
    have h3 := set_nd hi (mvR w i x y) hi
    unfold mvD chD chW chE'
    rw [h1, okA_t c1 h3 h3, h2]
    show DV.tuple [wdD (setW (setW w i (mvR w i x y)) i (rI w i)), iI 0] = _
    rw [set_set hi, set_back hi]
  have q3 := cT5_mv ⟨3, [oW (setW w i (tuR w i c)), oW (setW w i (mvR w i x y)), oW w], []⟩ ok1 i (rI w i).x (rI w i).y
  rw [back] at q3
  obtain ⟨H4, hH4⟩ : ∃ H, H = (⟨4, [oW w, oW (setW w i (tuR w i c)), oW (setW w i (mvR w i x y)), oW w], []⟩ : Hp) := ⟨_, rfl⟩
  have q4 := cT5_sm H4 ok
  have q5 := cT5_ck H4 ok1
  have q6 := cT5_ck H4 ok2
  rw [chE_t c1] at q5
  rw [chE_t c2] at q6
  have q7 := cT5_le H4 ok j k
  by_cases e3 : asE w j k = 0
  rotate_left
  · subst hH4
    exact zflat_ok tab_ok mixed fun_ok cT5_ok (loc4 _ w _ _ (rI w i) i x y c j k _ _) (.cons al (.cons gt (.cons q1 (.cons q2 (.cons ai.1 (.cons ai.2 (.cons ai.1 (.cons ai.2 (.cons q3 (.cons q4 (.cons q5 (.cons q6 (.cons q7 (.cons (nz' e3) .nil))))))))))))))
  obtain ⟨_, hj, hk⟩ := asE_z e3
  rw [lvD_t hc hj hk] at q7
  have q8 := cT5_le H4 ok2 j k
  rw [lvD_t c2 (set_nd hi _ hj) (set_nd hi _ hk)] at q8
  have same2 : ∀ {n : Int}, Nd w n → (rI (setW w i (tuR w i c)) n).x = (rI w n).x ∧ (rI (setW w i (tuR w i c)) n).y = (rI w n).y ∧ (rI (setW w i (tuR w i c)) n).p = (rI w n).p := fun {n} hn => by
    by_cases h : n = i
    · subst h
      rw [s2]
      exact ⟨rfl, rfl, rfl⟩
    · rw [set_other hi _ hn h]
      exact ⟨rfl, rfl, rfl⟩
  have m1 : (lv (setW w i (tuR w i c)) j k != lv w j k) = false := by
    rw [lv_set (same2 hj) ⟨(same2 hk).1, (same2 hk).2.1⟩]
    simp
  by_cases h1 : j = i
  · subst hH4
    exact zflat_ok tab_ok mixed fun_ok cT5_ok (loc5 _ w _ _ (rI w i) i x y c j k _ _ 0 false false) (.cons al (.cons gt (.cons q1 (.cons q2 (.cons ai.1 (.cons ai.2 (.cons ai.1 (.cons ai.2 (.cons q3 (.cons q4 (.cons q5 (.cons q6 (.cons q7 (.cons q8 (.cons m1 (.cons (beq_iff_eq.2 h1) .nil))))))))))))))))
  by_cases h2 : k = i
  · subst hH4
    exact zflat_ok tab_ok mixed fun_ok cT5_ok (loc6 _ w _ _ (rI w i) i x y c j k _ _ 0 false false) (.cons al (.cons gt (.cons q1 (.cons q2 (.cons ai.1 (.cons ai.2 (.cons ai.1 (.cons ai.2 (.cons q3 (.cons q4 (.cons q5 (.cons q6 (.cons q7 (.cons q8 (.cons m1 (.cons (beq_eq_false_iff_ne.2 h1) (.cons (beq_iff_eq.2 h2) .nil)))))))))))))))))
  have q9 := cT5_le H4 ok1 j k
  rw [lvD_t c1 (set_nd hi _ hj) (set_nd hi _ hk)] at q9
  have q10 := cT5_hs H4 ok k j
  rw [hrD_t hc hk hj] at q10
  have q11 := cT5_hs H4 ok2 k j
  rw [hrD_t c2 (set_nd hi _ hk) (set_nd hi _ hj)] at q11
  have o1 : ∀ r, rI (setW w i r) j = rI w j := fun r => set_other hi r hj h1
  have o2 : ∀ r, rI (setW w i r) k = rI w k := fun r => set_other hi r hk h2
  have m2 : (lv (setW w i (mvR w i x y)) j k == lv w j k) = true := by
    rw [lv_set ⟨by rw [o1], by rw [o1], by rw [o1]⟩ ⟨by rw [o2], by rw [o2]⟩]
    exact ieq _
  have m3 : (hr w k j == hr (setW w i (tuR w i c)) k j) = true := by
    rw [hr_set (o1 _) (o2 _)]
    exact beq' _
  subst hH4
  exact zflat_ok tab_ok mixed fun_ok cT5_ok (loc7 _ w _ _ (rI w i) i x y c j k _ _ _ _ _) (.cons al (.cons gt (.cons q1 (.cons q2 (.cons ai.1 (.cons ai.2 (.cons ai.1 (.cons ai.2 (.cons q3 (.cons q4 (.cons q5 (.cons q6 (.cons q7 (.cons q8 (.cons m1 (.cons (beq_eq_false_iff_ne.2 h1) (.cons (beq_eq_false_iff_ne.2 h2) (.cons q9 (.cons q10 (.cons q11 (.cons m2 (.cons m3 .nil))))))))))))))))))))))
end
end Go.Proofs.Ytmnpkgonanpgfaa
