/- Rows of shadows; worlds that are valid: contracts. -/
import Derived.Test.YtmnpkgonanpgfaaUa
namespace Go.Proofs.Ytmnpkgonanpgfaa
open Go.RowKit

noncomputable section
/-! ### slices.Min, slices.Max -/
def mnK (l : List Int) : Nat → Int
  | 0 => l.getD 0 0
  | k + 1 => if l.getD (k + 1) 0 < mnK l k then l.getD (k + 1) 0 else mnK l k
def mxK (l : List Int) : Nat → Int
  | 0 => l.getD 0 0
  | k + 1 => if mxK l k < l.getD (k + 1) 0 then l.getD (k + 1) 0 else mxK l k
def rwMn (l : List Int) : Int := mnK l (l.length - 1)
def rwMx (l : List Int) : Int := mxK l (l.length - 1)
theorem mnK_iff (l : List Int) (c : Int) : ∀ k, c ≤ mnK l k ↔ ∀ j, j ≤ k → c ≤ l.getD j 0
  | 0 => ⟨fun h j hj => by rw [show j = 0 by omega]; exact h, fun h => h 0 (by omega)⟩
  | k + 1 => by
    have ih := mnK_iff l c k
    unfold mnK
    constructor
    · intro h j hj
      split at h
      · rcases Nat.lt_or_ge k j with h1 | h1
        · rw [show j = k + 1 by omega]; exact h
        · exact ih.1 (by omega) j h1
      · rcases Nat.lt_or_ge k j with h1 | h1
        · rw [show j = k + 1 by omega]; omega
        · exact ih.1 h j h1
    · intro h
      split
      · exact h (k + 1) (by omega)
      · exact ih.2 fun j hj => h j (by omega)
theorem mxK_iff (l : List Int) (c : Int) : ∀ k, mxK l k ≤ c ↔ ∀ j, j ≤ k → l.getD j 0 ≤ c
  | 0 => ⟨fun h j hj => by rw [show j = 0 by omega]; exact h, fun h => h 0 (by omega)⟩
  | k + 1 => by
    have ih := mxK_iff l c k
    unfold mxK
    constructor
    · intro h j hj
      split at h
      · rcases Nat.lt_or_ge k j with h1 | h1
        · rw [show j = k + 1 by omega]; exact h
        · exact ih.1 (by omega) j h1
      · rcases Nat.lt_or_ge k j with h1 | h1
        · rw [show j = k + 1 by omega]; omega
        · exact ih.1 h j h1
    · intro h
      split
      · exact h (k + 1) (by omega)
      · exact ih.2 fun j hj => h j (by omega)
abbrev fMn : FuncId := 56
abbrev kMn : List (Nat × Nat) := ksF ftab fMn
abbrev rwMnp : Code := loopAt (bodyOf ftab fMn) 0
abbrev mnS (xs : List (List DV)) (m : Int) (k : Nat) : Slots := mkT 25 [(0, .list 1 xs), (3, iI m), (4, iN k)]
set_option maxRecDepth 1000000 in
theorem mn1 (xs : List (List DV)) (m v m2 : Int) (k : Nat) : zsee Try.prog tab ftab noC kMn [0, 3, 4] rwMnp (mnS xs m k) h00 [(15, .b true), (21, .n (.fptr [iI v])), (23, .w (iI m2)), (17, .w (iN (k + 1)))] = some (.normal, mnS xs m2 (k + 1), h00, ((decide ((k : Int) < (xs.length : Int))) = true) :: ((idxOk (k : Int) xs.length) = true) :: (nth xs ((k : Int).toNat) = some [iI v]) :: (DV.int .i64 (if v < m then v else m) = iI m2) :: wrK k :: []) := by kernel_rfl
set_option maxRecDepth 1000000 in
theorem mnO (xs : List (List DV)) (m : Int) (k : Nat) : zsee Try.prog tab ftab noC kMn [3] rwMnp (mnS xs m k) h00 [(15, .b false)] = some (.exit 0, mkT 25 [(3, iI m)], h00, ((decide ((k : Int) < (xs.length : Int))) = false) :: []) := by kernel_rfl
set_option maxRecDepth 1000000 in
theorem mnA (xs : List (List DV)) (v m : Int) : zflat (zans Try.prog tab ftab noC fMn [.list 1 xs] [(7, .b false), (10, .n (.fptr [iI v])), (0, .l [0, 3, 4] (.exit 0) (mkT 25 [(3, iI m)]) h00)]) = some (iI m, ((decide ((xs.length : Int) < 1)) = false) :: ((idxOk 0 xs.length) = true) :: (nth xs ((0 : Int).toNat) = some [iI v]) :: (Goes Try.prog tab kMn (.loop rwMnp) (mnS xs v 1) h00 (.exit 0) (mkT 25 [(3, iI m)]) h00) :: []) := by kernel_rfl
theorem mn_ans (l : List Int) (h0 : 0 < l.length) (h1 : l.length < 2 ^ 63) : Ans Try.prog fMn [.list 1 (i1 l)] (iI (rwMn l)) ⟨0, [], []⟩ := by
  have hl := i1_length l
  refine zflat_ok tab_ok mixed fun_ok noC_ok (mnA (i1 l) (l.getD 0 0) _) (.cons (decide_eq_false (by omega)) (.cons (idxOk_lt (k := 0) (by omega)) (.cons (i1_at (k := 0) (get_in 0 h0)) (.cons ?_ .nil))))
  exact Goes.loop (l.length - 1) (fun k => mnS (i1 l) (mnK l k) (k + 1)) (fun _ => h00) (fun k hk => zsee_ok tab_ok mixed fun_ok noC_ok (mn1 (i1 l) (mnK l k) (l.getD (k + 1) 0) (mnK l (k + 1)) (k + 1)) (.cons (decide_eq_true (by omega)) (.cons (idxOk_lt (by omega)) (.cons (i1_at (get_in 0 (by omega))) (.cons rfl (.cons (wrK_at (by omega)) .nil))))))
    (zsee_ok tab_ok mixed fun_ok noC_ok (mnO (i1 l) _ (l.length - 1 + 1)) (.cons (decide_eq_false (by omega)) .nil)) (by intro h; cases h)
abbrev Ne : Type := {l : List Int // 0 < l.length ∧ l.length < 2 ^ 63}
def cMn : ConF := liftC (eqC fMn (fun x : Ne => [.list 1 (i1 x.1)]) fun x => (iI (rwMn x.1), ⟨0, [], []⟩))
theorem cMn_ok : ConOk Try.prog cMn := liftC_ok (eqC_ok (fun x => mn_ans x.1 x.2.1 x.2.2) fun _ => rfl)
theorem cMn_at (hp : Hp) (l : List Int) (h0 : 0 < l.length) (h1 : l.length < 2 ^ 63) : cMn fMn [.list 1 (i1 l)] hp = some (iI (rwMn l), hp, none) :=
  lift_at (A := fun x : Ne => [.list 1 (i1 x.1)]) (D := fun x => iI (rwMn x.1)) (fun x y h => by
    simp only [List.cons.injEq, DV.list.injEq, true_and, and_true] at h
    rw [i1_inj h]) hp ⟨l, h0, h1⟩ rfl rfl
abbrev fMx : FuncId := 57
abbrev kMx : List (Nat × Nat) := ksF ftab fMx
abbrev rwMxp : Code := loopAt (bodyOf ftab fMx) 0
abbrev mxS (xs : List (List DV)) (m : Int) (k : Nat) : Slots := mkT 25 [(0, .list 1 xs), (3, iI m), (4, iN k)]
set_option maxRecDepth 1000000 in
theorem mx1 (xs : List (List DV)) (m v m2 : Int) (k : Nat) : zsee Try.prog tab ftab noC kMx [0, 3, 4] rwMxp (mxS xs m k) h00 [(15, .b true), (21, .n (.fptr [iI v])), (23, .w (iI m2)), (17, .w (iN (k + 1)))] = some (.normal, mxS xs m2 (k + 1), h00, ((decide ((k : Int) < (xs.length : Int))) = true) :: ((idxOk (k : Int) xs.length) = true) :: (nth xs ((k : Int).toNat) = some [iI v]) :: (DV.int .i64 (if m < v then v else m) = iI m2) :: wrK k :: []) := by kernel_rfl
set_option maxRecDepth 1000000 in
theorem mxO (xs : List (List DV)) (m : Int) (k : Nat) : zsee Try.prog tab ftab noC kMx [3] rwMxp (mxS xs m k) h00 [(15, .b false)] = some (.exit 0, mkT 25 [(3, iI m)], h00, ((decide ((k : Int) < (xs.length : Int))) = false) :: []) := by kernel_rfl
set_option maxRecDepth 1000000 in
theorem mxA (xs : List (List DV)) (v m : Int) : zflat (zans Try.prog tab ftab noC fMx [.list 1 xs] [(7, .b false), (10, .n (.fptr [iI v])), (0, .l [0, 3, 4] (.exit 0) (mkT 25 [(3, iI m)]) h00)]) = some (iI m, ((decide ((xs.length : Int) < 1)) = false) :: ((idxOk 0 xs.length) = true) :: (nth xs ((0 : Int).toNat) = some [iI v]) :: (Goes Try.prog tab kMx (.loop rwMxp) (mxS xs v 1) h00 (.exit 0) (mkT 25 [(3, iI m)]) h00) :: []) := by kernel_rfl
theorem mx_ans (l : List Int) (h0 : 0 < l.length) (h1 : l.length < 2 ^ 63) : Ans Try.prog fMx [.list 1 (i1 l)] (iI (rwMx l)) ⟨0, [], []⟩ := by
  have hl := i1_length l
  refine zflat_ok tab_ok mixed fun_ok noC_ok (mxA (i1 l) (l.getD 0 0) _) (.cons (decide_eq_false (by omega)) (.cons (idxOk_lt (k := 0) (by omega)) (.cons (i1_at (k := 0) (get_in 0 h0)) (.cons ?_ .nil))))
  exact Goes.loop (l.length - 1) (fun k => mxS (i1 l) (mxK l k) (k + 1)) (fun _ => h00) (fun k hk => zsee_ok tab_ok mixed fun_ok noC_ok (mx1 (i1 l) (mxK l k) (l.getD (k + 1) 0) (mxK l (k + 1)) (k + 1)) (.cons (decide_eq_true (by omega)) (.cons (idxOk_lt (by omega)) (.cons (i1_at (get_in 0 (by omega))) (.cons rfl (.cons (wrK_at (by omega)) .nil))))))
    (zsee_ok tab_ok mixed fun_ok noC_ok (mxO (i1 l) _ (l.length - 1 + 1)) (.cons (decide_eq_false (by omega)) .nil)) (by intro h; cases h)
def cMx : ConF := liftC (eqC fMx (fun x : Ne => [.list 1 (i1 x.1)]) fun x => (iI (rwMx x.1), ⟨0, [], []⟩))
theorem cMx_ok : ConOk Try.prog cMx := liftC_ok (eqC_ok (fun x => mx_ans x.1 x.2.1 x.2.2) fun _ => rfl)
theorem cMx_at (hp : Hp) (l : List Int) (h0 : 0 < l.length) (h1 : l.length < 2 ^ 63) : cMx fMx [.list 1 (i1 l)] hp = some (iI (rwMx l), hp, none) :=
  lift_at (A := fun x : Ne => [.list 1 (i1 x.1)]) (D := fun x => iI (rwMx x.1)) (fun x y h => by
    simp only [List.cons.injEq, DV.list.injEq, true_and, and_true] at h
    rw [i1_inj h]) hp ⟨l, h0, h1⟩ rfl rfl
/-! ### validShadow -/
def rowB (n i : Nat) (row : List Int) : Bool := match decide (row.length = n) with
  | true => match decide (row.getD i 0 = 0) with
    | true => allB n fun j => inB (row.getD j 0) 0 600
    | false => false
  | false => false
def shB (n : Nat) (s : List (List Int)) : Bool := match decide (s.length = 0) with
  | true => true
  | false => match decide (s.length = n) with
    | true => allB n fun i => rowB n i (s.getD i [])
    | false => false
def okR (l : List Rw) : Bool := allB l.length fun k => vr (l.getD k ⟨0, 0, 0, 0⟩)
def chk (w : Wd) : Bool := match inB (w.r.length : Int) 1 32 with
  | true => match okR w.r with
    | true => shB w.r.length w.s
    | false => false
  | false => false
def chE (w : Wd) : Int := match chk w with
  | true => 0
  | false => 8
theorem row_mn {n i : Nat} {row : List Int} (h0 : row.length = n) (h1 : row.getD i 0 = 0) (hn : 0 < n) : rowB n i row = match decide (rwMn row < 0) with
    | true => false
    | false => match decide (rwMx row > 600) with
      | true => false
      | false => true := by
  unfold rowB
  rw [decide_eq_true h0, decide_eq_true h1]
  have m1 : 0 ≤ rwMn row ↔ ∀ j, j < n → 0 ≤ row.getD j 0 := by
    unfold rwMn
    rw [mnK_iff]
    exact ⟨fun h j hj => h j (by omega), fun h j hj => h j (by omega)⟩
  have m2 : rwMx row ≤ 600 ↔ ∀ j, j < n → row.getD j 0 ≤ 600 := by
    unfold rwMx
    rw [mxK_iff]
    exact ⟨fun h j hj => h j (by omega), fun h j hj => h j (by omega)⟩
  show allB n (fun j => inB (row.getD j 0) 0 600) = _
  by_cases a : rwMn row < 0
  · rw [decide_eq_true a]
    cases hb : allB n (fun j => inB (row.getD j 0) 0 600) with
    | false => rfl
    | true =>
      have := m1.2 fun j hj => ((inB_iff _ _ _).1 (allB_t.1 hb j hj)).1
      omega
  · rw [decide_eq_false a]
    by_cases c : rwMx row > 600
    · rw [decide_eq_true c]
      cases hb : allB n (fun j => inB (row.getD j 0) 0 600) with
      | false => rfl
      | true =>
        have := m2.2 fun j hj => ((inB_iff _ _ _).1 (allB_t.1 hb j hj)).2
        omega
    · rw [decide_eq_false c]
      exact allB_t.2 fun j hj => (inB_iff _ _ _).2 ⟨m1.1 (by omega) j hj, m2.1 (by omega) j hj⟩
abbrev fVs : FuncId := 37
abbrev kVs : List (Nat × Nat) := ksF ftab fVs
abbrev vsL : Code := loopAt (bodyOf ftab fVs) 0
abbrev vsS (xs : List (List DV)) (n k : Nat) : Slots := mkT 43 [(1, iN n), (14, .list 1 xs), (15, .int .i64 (xs.length : Int)), (16, iN k)]
def cMM : ConF := orK cMn cMx
theorem cMM_ok : ConOk Try.prog cMM := orK_ok cMn_ok cMx_ok
theorem cMM_mn (hp : Hp) (l : List Int) (h0 : 0 < l.length) (h1 : l.length < 2 ^ 63) : cMM fMn [.list 1 (i1 l)] hp = some (iI (rwMn l), hp, none) := orK_left (cMn_at hp l h0 h1)
theorem cMM_mx (hp : Hp) (l : List Int) (h0 : 0 < l.length) (h1 : l.length < 2 ^ 63) : cMM fMx [.list 1 (i1 l)] hp = some (iI (rwMx l), hp, none) := orK_right (lift_oth (eqC_other (by kernel_rfl))) (cMx_at hp l h0 h1)
set_option maxRecDepth 1000000 in
theorem vs1 (C : ConF) (xs ys : List (List DV)) (n k : Nat) (_v _a _c : Int) : zsee Try.prog tab ftab C kVs [4] vsL (vsS xs n k) h00 [(17, .b true), (19, .n (.fptr [.list 1 ys])), (24, .b true)] = some (.ret, mkT 43 [(4, .bool false)], h00, ((decide ((k : Int) < (xs.length : Int))) = true) :: ((idxOk (k : Int) xs.length) = true) :: (nth xs ((k : Int).toNat) = some [.list 1 ys]) :: ((((ys.length : Int) != (n : Int))) = true) :: []) := by kernel_rfl
set_option maxRecDepth 1000000 in
theorem vs2 (C : ConF) (xs ys : List (List DV)) (n k : Nat) (v _a _c : Int) : zsee Try.prog tab ftab C kVs [4] vsL (vsS xs n k) h00 [(17, .b true), (19, .n (.fptr [.list 1 ys])), (24, .b false), (28, .n (.fptr [iI v])), (30, .b true)] = some (.ret, mkT 43 [(4, .bool false)], h00, ((decide ((k : Int) < (xs.length : Int))) = true) :: ((idxOk (k : Int) xs.length) = true) :: (nth xs ((k : Int).toNat) = some [.list 1 ys]) :: ((((ys.length : Int) != (n : Int))) = false) :: ((idxOk (k : Int) ys.length) = true) :: (nth ys ((k : Int).toNat) = some [iI v]) :: (((v != 0)) = true) :: []) := by kernel_rfl
set_option maxRecDepth 1000000 in
theorem vs3 (C : ConF) (xs ys : List (List DV)) (n k : Nat) (v a _c : Int) : zsee Try.prog tab ftab C kVs [4] vsL (vsS xs n k) h00 [(17, .b true), (19, .n (.fptr [.list 1 ys])), (24, .b false), (28, .n (.fptr [iI v])), (30, .b false), (34, .q (iI a)), (35, .b true)] = some (.ret, mkT 43 [(4, .bool false)], h00, ((decide ((k : Int) < (xs.length : Int))) = true) :: ((idxOk (k : Int) xs.length) = true) :: (nth xs ((k : Int).toNat) = some [.list 1 ys]) :: ((((ys.length : Int) != (n : Int))) = false) :: ((idxOk (k : Int) ys.length) = true) :: (nth ys ((k : Int).toNat) = some [iI v]) :: (((v != 0)) = false) :: (C fMn [.list 1 ys] h00 = some (iI a, h00, none)) :: ((decide (a < 0)) = true) :: []) := by kernel_rfl
set_option maxRecDepth 1000000 in
theorem vs4 (C : ConF) (xs ys : List (List DV)) (n k : Nat) (v a c : Int) : zsee Try.prog tab ftab C kVs [4] vsL (vsS xs n k) h00 [(17, .b true), (19, .n (.fptr [.list 1 ys])), (24, .b false), (28, .n (.fptr [iI v])), (30, .b false), (34, .q (iI a)), (35, .b false), (39, .q (iI c)), (40, .b true)] = some (.ret, mkT 43 [(4, .bool false)], h00, ((decide ((k : Int) < (xs.length : Int))) = true) :: ((idxOk (k : Int) xs.length) = true) :: (nth xs ((k : Int).toNat) = some [.list 1 ys]) :: ((((ys.length : Int) != (n : Int))) = false) :: ((idxOk (k : Int) ys.length) = true) :: (nth ys ((k : Int).toNat) = some [iI v]) :: (((v != 0)) = false) :: (C fMn [.list 1 ys] h00 = some (iI a, h00, none)) :: ((decide (a < 0)) = false) :: (C fMx [.list 1 ys] h00 = some (iI c, h00, none)) :: ((decide (c > 600)) = true) :: []) := by kernel_rfl
set_option maxRecDepth 1000000 in
theorem vs5 (C : ConF) (xs ys : List (List DV)) (n k : Nat) (v a c : Int) : zsee Try.prog tab ftab C kVs [1, 14, 15, 16] vsL (vsS xs n k) h00 [(17, .b true), (19, .n (.fptr [.list 1 ys])), (24, .b false), (28, .n (.fptr [iI v])), (30, .b false), (34, .q (iI a)), (35, .b false), (39, .q (iI c)), (40, .b false), (42, .w (iN (k + 1)))] = some (.normal, vsS xs n (k + 1), h00, ((decide ((k : Int) < (xs.length : Int))) = true) :: ((idxOk (k : Int) xs.length) = true) :: (nth xs ((k : Int).toNat) = some [.list 1 ys]) :: ((((ys.length : Int) != (n : Int))) = false) :: ((idxOk (k : Int) ys.length) = true) :: (nth ys ((k : Int).toNat) = some [iI v]) :: (((v != 0)) = false) :: (C fMn [.list 1 ys] h00 = some (iI a, h00, none)) :: ((decide (a < 0)) = false) :: (C fMx [.list 1 ys] h00 = some (iI c, h00, none)) :: ((decide (c > 600)) = false) :: wrK k :: []) := by kernel_rfl
set_option maxRecDepth 1000000 in
theorem vsO (C : ConF) (xs : List (List DV)) (n k : Nat) : zsee Try.prog tab ftab C kVs [] vsL (vsS xs n k) h00 [(17, .b false)] = some (.exit 0, mkT 43 [], h00, ((decide ((k : Int) < (xs.length : Int))) = false) :: []) := by kernel_rfl
set_option maxRecDepth 1000000 in
theorem vsA (C : ConF) (xs : List (List DV)) (n : Nat) : zflat (zans Try.prog tab ftab C fVs [.list 1 xs, iN n] [(9, .b true)]) = some (.bool true, ((((xs.length : Int) == 0)) = true) :: []) := by kernel_rfl
set_option maxRecDepth 1000000 in
theorem vsB (C : ConF) (xs : List (List DV)) (n : Nat) : zflat (zans Try.prog tab ftab C fVs [.list 1 xs, iN n] [(9, .b false), (13, .b true)]) = some (.bool false, ((((xs.length : Int) == 0)) = false) :: ((((xs.length : Int) != (n : Int))) = true) :: []) := by kernel_rfl
set_option maxRecDepth 1000000 in
theorem vsC (C : ConF) (xs : List (List DV)) (n : Nat) : zflat (zans Try.prog tab ftab C fVs [.list 1 xs, iN n] [(9, .b false), (13, .b false), (0, .l [1, 14, 15, 16] .ret (mkT 43 [(4, .bool false)]) h00)]) = some (.bool false, ((((xs.length : Int) == 0)) = false) :: ((((xs.length : Int) != (n : Int))) = false) :: (Goes Try.prog tab kVs (.loop vsL) (vsS xs n 0) h00 .ret (mkT 43 [(4, .bool false)]) h00) :: []) := by kernel_rfl
set_option maxRecDepth 1000000 in
theorem vsD (C : ConF) (xs : List (List DV)) (n : Nat) : zflat (zans Try.prog tab ftab C fVs [.list 1 xs, iN n] [(9, .b false), (13, .b false), (0, .l [1, 14, 15, 16] (.exit 0) (mkT 43 []) h00)]) = some (.bool true, ((((xs.length : Int) == 0)) = false) :: ((((xs.length : Int) != (n : Int))) = false) :: (Goes Try.prog tab kVs (.loop vsL) (vsS xs n 0) h00 (.exit 0) (mkT 43 []) h00) :: []) := by kernel_rfl
theorem neT {a b : Nat} (h : a ≠ b) : ((a : Int) != (b : Int)) = true := bne_iff_ne.2 (by omega)
theorem neF {a b : Nat} (h : a = b) : ((a : Int) != (b : Int)) = false := by rw [h]; simp
theorem eqT {a b : Nat} (h : a = b) : ((a : Int) == (b : Int)) = true := by rw [h]; simp
theorem eqF {a b : Nat} (h : a ≠ b) : ((a : Int) == (b : Int)) = false := beq_eq_false_iff_ne.2 (by omega)
section
variable (s : List (List Int)) (n : Nat) (hn : s.length = n) (hl : n < 2 ^ 63) (hr : ∀ l ∈ s, l.length < 2 ^ 63)
include hn hl hr
theorem vs_go (k : Nat) (hk : k < n) (h : rowB n k (s.getD k []) = true) : Goes Try.prog tab kVs vsL (vsS (ssR s) n k) h00 .normal (vsS (ssR s) n (k + 1)) h00 := by
  have _ := hl
  have e := ssR_length s
  have hg := get_in (l := s) (k := k) ([] : List Int) (by omega)
  generalize s.getD k [] = row at h hg
  have hrow := hr row (List.mem_of_getElem? hg)
  have h1 : row.length = n := by
    unfold rowB at h
    by_cases q : row.length = n
    · exact q
    · rw [decide_eq_false q] at h; cases h
  have h2 : row.getD k 0 = 0 := by
    unfold rowB at h
    rw [decide_eq_true h1] at h
    by_cases q : row.getD k 0 = 0
    · exact q
    · rw [decide_eq_false q] at h; cases h
  rw [row_mn h1 h2 (by omega)] at h
  have hm : ¬ rwMn row < 0 := fun q => by rw [decide_eq_true q] at h; cases h
  rw [decide_eq_false hm] at h
  have hx : ¬ rwMx row > 600 := fun q => by rw [decide_eq_true q] at h; cases h
  have hv := i1_at (get_in (0 : Int) (show k < row.length by omega))
  rw [h2] at hv
  have e1 := i1_length row
  exact zsee_ok tab_ok mixed fun_ok cMM_ok (vs5 cMM (ssR s) (i1 row) n k 0 (rwMn row) (rwMx row)) (.cons (decide_eq_true (by omega)) (.cons (idxOk_lt (by omega)) (.cons (ssR_at hg) (.cons (neF (by omega)) (.cons (idxOk_lt (by omega)) (.cons hv (.cons rfl (.cons (cMM_mn _ _ (by omega) hrow) (.cons (decide_eq_false hm) (.cons (cMM_mx _ _ (by omega) hrow) (.cons (decide_eq_false hx) (.cons (wrK_at (by omega)) .nil))))))))))))
theorem vs_bad (k : Nat) (hk : k < n) (h : rowB n k (s.getD k []) = false) : Goes Try.prog tab kVs vsL (vsS (ssR s) n k) h00 .ret (mkT 43 [(4, .bool false)]) h00 := by
  have e := ssR_length s
  have hg := get_in (l := s) (k := k) ([] : List Int) (by omega)
  generalize s.getD k [] = row at h hg
  have hrow := hr row (List.mem_of_getElem? hg)
  have e1 := i1_length row
  have lt : decide ((k : Int) < ((ssR s).length : Int)) = true := decide_eq_true (by omega)
  have ix : idxOk (k : Int) (ssR s).length = true := idxOk_lt (by omega)
  by_cases h1 : row.length = n
  · have hv := i1_at (get_in (0 : Int) (show k < row.length by omega))
    have ix2 : idxOk (k : Int) (i1 row).length = true := idxOk_lt (by omega)
    by_cases h2 : row.getD k 0 = 0
    · rw [row_mn h1 h2 (by omega)] at h
      have hz : (row.getD k 0 != 0) = false := by rw [h2]; rfl
      have a4 := cMM_mn h00 row (by omega) hrow
      by_cases hm : rwMn row < 0
      · exact zsee_ok tab_ok mixed fun_ok cMM_ok (vs3 cMM (ssR s) (i1 row) n k (row.getD k 0) (rwMn row) 0) (.cons lt (.cons ix (.cons (ssR_at hg) (.cons (neF (by omega)) (.cons ix2 (.cons hv (.cons hz (.cons a4 (.cons (decide_eq_true hm) .nil)))))))))
      · rw [decide_eq_false hm] at h
        have hx : rwMx row > 600 := by
          by_cases q : rwMx row > 600
          · exact q
          · rw [decide_eq_false q] at h; cases h
        exact zsee_ok tab_ok mixed fun_ok cMM_ok (vs4 cMM (ssR s) (i1 row) n k (row.getD k 0) (rwMn row) (rwMx row)) (.cons lt (.cons ix (.cons (ssR_at hg) (.cons (neF (by omega)) (.cons ix2 (.cons hv (.cons hz (.cons a4 (.cons (decide_eq_false hm) (.cons (cMM_mx _ _ (by omega) hrow) (.cons (decide_eq_true hx) .nil)))))))))))
    · exact zsee_ok tab_ok mixed fun_ok cMM_ok (vs2 cMM (ssR s) (i1 row) n k (row.getD k 0) 0 0) (.cons lt (.cons ix (.cons (ssR_at hg) (.cons (neF (by omega)) (.cons ix2 (.cons hv (.cons (bne_iff_ne.2 h2) .nil)))))))
  · exact zsee_ok tab_ok mixed fun_ok cMM_ok (vs1 cMM (ssR s) (i1 row) n k 0 0 0) (.cons lt (.cons ix (.cons (ssR_at hg) (.cons (neT (by omega)) .nil))))
end
theorem vs_ans (s : List (List Int)) (n : Nat) (hl : n < 2 ^ 63) (hr : ∀ l ∈ s, l.length < 2 ^ 63) : Ans Try.prog fVs [.list 1 (ssR s), iN n] (.bool (shB n s)) ⟨0, [], []⟩ := by
  have e := ssR_length s
  unfold shB
  by_cases h0 : s.length = 0
  · rw [decide_eq_true h0]
    exact zflat_ok tab_ok mixed fun_ok cMM_ok (vsA cMM (ssR s) n) (.cons (eqT (b := 0) (by omega)) .nil)
  · rw [decide_eq_false h0]
    have z : (((ssR s).length : Int) == 0) = false := eqF (b := 0) (by omega)
    by_cases h1 : s.length = n
    · rw [decide_eq_true h1]
      have z1 : (((ssR s).length : Int) != (n : Int)) = false := neF (by omega)
      show Ans Try.prog fVs [.list 1 (ssR s), iN n] (.bool (allB n fun i => rowB n i (s.getD i []))) ⟨0, [], []⟩
      cases hb : allB n fun i => rowB n i (s.getD i []) with
      | true => exact zflat_ok tab_ok mixed fun_ok cMM_ok (vsD cMM (ssR s) n) (.cons z (.cons z1 (.cons (scan_t (S := fun k => vsS (ssR s) n k) (by intro h; cases h) (vs_go s n h1 hl hr) (zsee_ok tab_ok mixed fun_ok cMM_ok (vsO cMM (ssR s) n n) (.cons (decide_eq_false (by omega)) .nil)) hb) .nil)))
      | false => exact zflat_ok tab_ok mixed fun_ok cMM_ok (vsC cMM (ssR s) n) (.cons z (.cons z1 (.cons (scan_f (S := fun k => vsS (ssR s) n k) (by intro h; cases h) (vs_go s n h1 hl hr) (vs_bad s n h1 hl hr) hb) .nil)))
    · rw [decide_eq_false h1]
      exact zflat_ok tab_ok mixed fun_ok cMM_ok (vsB cMM (ssR s) n) (.cons z (.cons (neT (by omega)) .nil))
/-! ### Check -/
abbrev fCk : FuncId := 12
abbrev kCk : List (Nat × Nat) := ksF ftab fCk
abbrev ckL : Code := loopAt (bodyOf ftab fCk) 0
abbrev oW (w : Wd) : Ob := ⟨0, 0, 25, wdC w⟩
abbrev oRd (r : Rw) : Ob := ⟨0, 0, 31, rC r⟩
abbrev hW (w : Wd) : Hp := ⟨1, [oW w], []⟩
abbrev ckS (w : Wd) (k : Nat) : Slots := mkT 33 [(1, .ptr 0 0), (16, .list 4 (rsR w.r)), (17, .int .i64 ((rsR w.r).length : Int)), (18, iN k)]
set_option maxRecDepth 1000000 in
theorem ck1 (w : Wd) (r : Rw) (k : Nat) : zgm [0] [] (zsee Try.prog tab ftab cVr kCk [1, 16, 17, 18] ckL (ckS w k) (hW w) [(19, .b true), (20, .n (.fptr (rC r))), (24, .b false), (25, .w (iN (k + 1)))]) = some (.normal, ckS w (k + 1), hW w, FlatIn [] ⟨2, [oRd r, oW w], []⟩ :: ((decide ((k : Int) < ((rsR w.r).length : Int))) = true) :: ((idxOk (k : Int) (rsR w.r).length) = true) :: (nth (rsR w.r) ((k : Int).toNat) = some (rC r)) :: (((!vr r)) = false) :: wrK k :: []) := by kernel_rfl
set_option maxRecDepth 1000000 in
theorem ck2 (w : Wd) (r : Rw) (k : Nat) : zgm [] [] (zsee Try.prog tab ftab cVr kCk [2] ckL (ckS w k) (hW w) [(19, .b true), (20, .n (.fptr (rC r))), (24, .b true)]) = some (.ret, mkT 33 [(2, iI 8)], h00, FlatIn [] ⟨2, [oRd r, oW w], []⟩ :: ((decide ((k : Int) < ((rsR w.r).length : Int))) = true) :: ((idxOk (k : Int) (rsR w.r).length) = true) :: (nth (rsR w.r) ((k : Int).toNat) = some (rC r)) :: (((!vr r)) = true) :: []) := by kernel_rfl
set_option maxRecDepth 1000000 in
theorem ckO (w : Wd) (k : Nat) : zsee Try.prog tab ftab cVr kCk [1] ckL (ckS w k) (hW w) [(19, .b false)] = some (.exit 0, mkT 33 [(1, .ptr 0 0)], hW w, ((decide ((k : Int) < ((rsR w.r).length : Int))) = false) :: []) := by kernel_rfl
set_option maxRecDepth 1000000 in
theorem ckA (C : ConF) (w : Wd) : zflat (zans Try.prog tab ftab C fCk [wdD w] [(10, .b true)]) = some (iI 8, ((decide (((rsR w.r).length : Int) < 1)) = true) :: []) := by kernel_rfl
set_option maxRecDepth 1000000 in
theorem ckB (C : ConF) (w : Wd) : zflat (zans Try.prog tab ftab C fCk [wdD w] [(10, .b false), (13, .b true)]) = some (iI 8, ((decide (((rsR w.r).length : Int) < 1)) = false) :: ((decide (((rsR w.r).length : Int) > 32)) = true) :: []) := by kernel_rfl
set_option maxRecDepth 1000000 in
theorem ckC (C : ConF) (w : Wd) : zflat (zans Try.prog tab ftab C fCk [wdD w] [(10, .b false), (13, .b false), (0, .l [1, 16, 17, 18] .ret (mkT 33 [(2, iI 8)]) h00)]) = some (iI 8, ((decide (((rsR w.r).length : Int) < 1)) = false) :: ((decide (((rsR w.r).length : Int) > 32)) = false) :: (Goes Try.prog tab kCk (.loop ckL) (ckS w 0) (hW w) .ret (mkT 33 [(2, iI 8)]) h00) :: []) := by kernel_rfl
set_option maxRecDepth 1000000 in
theorem ckD (C : ConF) (w : Wd) : zflat (zans Try.prog tab ftab C fCk [wdD w] [(10, .b false), (13, .b false), (0, .l [1, 16, 17, 18] (.exit 0) (mkT 33 [(1, .ptr 0 0)]) (hW w)), (31, .q (.bool true))]) = some (iI 0, ((decide (((rsR w.r).length : Int) < 1)) = false) :: ((decide (((rsR w.r).length : Int) > 32)) = false) :: (Goes Try.prog tab kCk (.loop ckL) (ckS w 0) (hW w) (.exit 0) (mkT 33 [(1, .ptr 0 0)]) (hW w)) :: (C fVs [.list 1 (ssR w.s), .int .i64 ((rsR w.r).length : Int)] (hW w) = some (.bool true, hW w, none)) :: []) := by kernel_rfl
set_option maxRecDepth 1000000 in
theorem ckE (C : ConF) (w : Wd) : zflat (zans Try.prog tab ftab C fCk [wdD w] [(10, .b false), (13, .b false), (0, .l [1, 16, 17, 18] (.exit 0) (mkT 33 [(1, .ptr 0 0)]) (hW w)), (31, .q (.bool false))]) = some (iI 8, ((decide (((rsR w.r).length : Int) < 1)) = false) :: ((decide (((rsR w.r).length : Int) > 32)) = false) :: (Goes Try.prog tab kCk (.loop ckL) (ckS w 0) (hW w) (.exit 0) (mkT 33 [(1, .ptr 0 0)]) (hW w)) :: (C fVs [.list 1 (ssR w.s), .int .i64 ((rsR w.r).length : Int)] (hW w) = some (.bool false, hW w, none)) :: []) := by kernel_rfl
theorem ck_go (w : Wd) (hl : w.r.length < 2 ^ 63) (k : Nat) (hk : k < w.r.length) (h : vr (w.r.getD k ⟨0, 0, 0, 0⟩) = true) : Goes Try.prog tab kCk ckL (ckS w k) (hW w) .normal (ckS w (k + 1)) (hW w) := by
  have e := rsR_length w.r
  exact zgm_ok tab_ok mixed fun_ok cVr_ok (ck1 w (w.r.getD k ⟨0, 0, 0, 0⟩) k) (.cons (flatIn_nil _) (.cons (decide_eq_true (by omega)) (.cons (idxOk_lt (by omega)) (.cons (rsR_at (get_in _ hk)) (.cons (by rw [h]; rfl) (.cons (wrK_at (by omega)) .nil))))))
theorem ck_bad (w : Wd) (k : Nat) (hk : k < w.r.length) (h : vr (w.r.getD k ⟨0, 0, 0, 0⟩) = false) : Goes Try.prog tab kCk ckL (ckS w k) (hW w) .ret (mkT 33 [(2, iI 8)]) h00 := by
  have e := rsR_length w.r
  exact zgm_ok tab_ok mixed fun_ok cVr_ok (ck2 w (w.r.getD k ⟨0, 0, 0, 0⟩) k) (.cons (flatIn_nil _) (.cons (decide_eq_true (by omega)) (.cons (idxOk_lt (by omega)) (.cons (rsR_at (get_in _ hk)) (.cons (by rw [h]; rfl) .nil)))))
theorem ck_ans (w : Wd) (ok : OkW w) : Ans Try.prog fCk [wdD w] (iI (chE w)) ⟨0, [], []⟩ := by
  have e := rsR_length w.r
  have hl := ok.r
  unfold chE chk inB
  by_cases h1 : (1 : Int) ≤ w.r.length
  · have l0 : decide (((rsR w.r).length : Int) < 1) = false := decide_eq_false (by omega)
    rw [decide_eq_true h1]
    by_cases h2 : (w.r.length : Int) ≤ 32
    · have l1 : decide (((rsR w.r).length : Int) > 32) = false := decide_eq_false (by omega)
      rw [decide_eq_true h2]
      cases hb : okR w.r with
      | false => exact zflat_ok tab_ok mixed fun_ok cVr_ok (ckC cVr w) (.cons l0 (.cons l1 (.cons (scan_f (S := fun k => ckS w k) (by intro h; cases h) (ck_go w hl) (ck_bad w) hb) .nil)))
      | true =>
        have g : Goes Try.prog tab kCk (.loop ckL) (ckS w 0) (hW w) (.exit 0) (mkT 33 [(1, .ptr 0 0)]) (hW w) := scan_t (S := fun k => ckS w k) (by intro h; cases h) (ck_go w hl) (zsee_ok tab_ok mixed fun_ok cVr_ok (ckO w w.r.length) (.cons (decide_eq_false (by omega)) .nil)) hb
        have a := vs_ans w.s w.r.length hl ok.row
        rw [← e] at a
        cases hs : shB w.r.length w.s with
        | true =>
          rw [e, hs, ← e] at a
          exact zflat_ok tab_ok mixed fun_ok (calC_ok a) (ckD _ w) (.cons l0 (.cons l1 (.cons g (.cons (calC_at _ rfl rfl) .nil))))
        | false =>
          rw [e, hs, ← e] at a
          exact zflat_ok tab_ok mixed fun_ok (calC_ok a) (ckE _ w) (.cons l0 (.cons l1 (.cons g (.cons (calC_at _ rfl rfl) .nil))))
    · rw [decide_eq_false h2]
      exact zflat_ok tab_ok mixed fun_ok noC_ok (ckB noC w) (.cons l0 (.cons (decide_eq_true (by omega)) .nil))
  · rw [decide_eq_false h1]
    exact zflat_ok tab_ok mixed fun_ok noC_ok (ckA noC w) (.cons (decide_eq_true (by omega)) .nil)
end
end Go.Proofs.Ytmnpkgonanpgfaa
