/- Distances and losses: contracts, of the program and of the reference. -/
import Derived.Test.YtmnpkgonanpgfaaUc
namespace Go.Proofs.Ytmnpkgonanpgfaa
open Go.RowKit

noncomputable section
/-! ### Roots -/
def rtN : Nat → Nat
  | 0 => 0
  | n + 1 => if (rtN n + 1) * (rtN n + 1) ≤ n + 1 then rtN n + 1 else rtN n
def rt (n : Int) : Int := rtN n.toNat
theorem rtN_ok : ∀ n, rtN n * rtN n ≤ n ∧ n < (rtN n + 1) * (rtN n + 1)
  | 0 => by decide
  | n + 1 => by
    have ih := rtN_ok n
    unfold rtN
    split
    · rename_i h
      refine ⟨h, ?_⟩
      have e : (rtN n + 1 + 1) * (rtN n + 1 + 1) = (rtN n + 1) * (rtN n + 1) + 2 * (rtN n + 1) + 1 := by
        simp only [Nat.add_mul, Nat.mul_add]; omega
      omega
    · omega
theorem rt_ok {n : Int} (h : 0 ≤ n) : 0 ≤ rt n ∧ rt n * rt n ≤ n ∧ n < (rt n + 1) * (rt n + 1) := by
  obtain ⟨k, rfl⟩ := Int.eq_ofNat_of_zero_le h
  have := rtN_ok k
  unfold rt
  rw [Int.toNat_natCast]
  refine ⟨by omega, ?_, ?_⟩
  · exact_mod_cast this.1
  · exact_mod_cast this.2
theorem sq_le {a b : Int} (h0 : 0 ≤ a) (h : a ≤ b) : a * a ≤ b * b := Int.mul_le_mul h h h0 (by omega)
theorem sq_lt {a b : Int} (h0 : 0 ≤ b) (h : a * a < b * b) (_ha : 0 ≤ a) : a < b := by
  by_cases h1 : a < b
  · exact h1
  · have := sq_le h0 (by omega : b ≤ a)
    omega
theorem rt_uniq {n d : Int} (h : 0 ≤ n) (d0 : 0 ≤ d) (h1 : d * d ≤ n) (h2 : n < (d + 1) * (d + 1)) : d = rt n := by
  obtain ⟨r0, r1, r2⟩ := rt_ok h
  have a := sq_lt (a := d) (b := rt n + 1) (by omega) (by omega) d0
  have b := sq_lt (a := rt n) (b := d + 1) (by omega) (by omega) r0
  omega
theorem rt_le {n : Int} (h : 0 ≤ n) (h1 : n ≤ 800000000) : rt n ≤ 28284 := by
  obtain ⟨r0, r1, r2⟩ := rt_ok h
  have := sq_lt (a := rt n) (b := 28285) (by decide) (by omega) r0
  omega
theorem rt_mono {m n : Int} (h : 0 ≤ m) (h1 : m ≤ n) : rt m ≤ rt n := by
  obtain ⟨r0, r1, r2⟩ := rt_ok h
  obtain ⟨s0, s1, s2⟩ := rt_ok (show 0 ≤ n by omega)
  have := sq_lt (a := rt m) (b := rt n + 1) (by omega) (by omega) r0
  omega
/-! ### root, by sort.Search -/
abbrev fSe : FuncId := 58
abbrev kSe : List (Nat × Nat) := ksF ftab fSe
abbrev seL : Code := loopAt (bodyOf ftab fSe) 0
abbrev hQ (n : Int) : Hp := ⟨1, [⟨0, 0, 3, [iI n]⟩], []⟩
abbrev seS (i j : Int) : Slots := mkT 26 [(1, .fn 59 [] [.ptr 0 0]), (5, iI i), (6, iI j)]
abbrev fRo : FuncId := 42
set_option maxRecDepth 1000000 in
theorem se1 (n i j h : Int) : zsee Try.prog tab ftab noC kSe [1, 5, 6] seL (seS i j) (hQ n) [(11, .b true), (17, .w (iI h)), (20, .c [(8, .b true)])] = some (.normal, seS i h, hQ n, ((decide (i < j)) = true) :: (DV.int .i64 (IntKind.i64.wrap (shrD .u64 (IntKind.u64.wrap (IntKind.i64.wrap (i + j))) 1)) = iI h) :: ((decide (IntKind.i64.wrap (IntKind.i64.wrap (h + 1) * IntKind.i64.wrap (h + 1)) > n)) = true) :: []) := by kernel_rfl
set_option maxRecDepth 1000000 in
theorem se2 (n i j h : Int) : zsee Try.prog tab ftab noC kSe [1, 5, 6] seL (seS i j) (hQ n) [(11, .b true), (17, .w (iI h)), (20, .c [(8, .b false)]), (23, .w (iI (h + 1)))] = some (.normal, seS (h + 1) j, hQ n, ((decide (i < j)) = true) :: (DV.int .i64 (IntKind.i64.wrap (shrD .u64 (IntKind.u64.wrap (IntKind.i64.wrap (i + j))) 1)) = iI h) :: ((decide (IntKind.i64.wrap (IntKind.i64.wrap (h + 1) * IntKind.i64.wrap (h + 1)) > n)) = false) :: (DV.int .i64 (IntKind.i64.wrap (h + 1)) = iI (h + 1)) :: []) := by kernel_rfl
set_option maxRecDepth 1000000 in
theorem seO (n i j : Int) : zsee Try.prog tab ftab noC kSe [5] seL (seS i j) (hQ n) [(11, .b false)] = some (.exit 0, mkT 26 [(5, iI i)], hQ n, ((decide (i < j)) = false) :: []) := by kernel_rfl
set_option maxRecDepth 1000000 in
theorem seF (n r : Int) : zansH Try.prog tab ftab noC fSe [iI 30000, .fn 59 [] [.ptr 0 0]] (hQ n) [(0, .l [1, 5, 6] (.exit 0) (mkT 26 [(5, iI r)]) (hQ n))] = some (iI r, hQ n, (Goes Try.prog tab kSe (.loop seL) (seS 0 30000) (hQ n) (.exit 0) (mkT 26 [(5, iI r)]) (hQ n)) :: []) := by kernel_rfl
set_option maxRecDepth 1000000 in
theorem roA (n r : Int) : zflat (zans Try.prog tab ftab noC fRo [iI n] [(60001, .t 1 [] (iI r) (hQ n))]) = some (iI r, (AnsH Try.prog fSe [iI 30000, .fn 59 [] [.ptr 0 0]] (hQ n) (iI r) (hQ n)) :: []) := by kernel_rfl
theorem mid_at {i j : Int} (h0 : 0 ≤ i) (h1 : i ≤ j) (h2 : j ≤ 30000) : DV.int .i64 (IntKind.i64.wrap (shrD .u64 (IntKind.u64.wrap (IntKind.i64.wrap (i + j))) 1)) = iI ((i + j) / 2) := by
  rw [wrapZ (x := i + j) (by omega) (by omega)]
  have e : IntKind.u64.wrap (i + j) = i + j := by
    simp only [IntKind.wrap, IntKind.bits, IntKind.signed, Bool.false_and]
    simp
    omega
  rw [e]
  have e2 : shrD .u64 (i + j) 1 = (i + j) / 2 := by
    unfold shrD
    have : ((2 : Int) ^ (min (1 : Int).toNat IntKind.u64.bits)) = 2 := by decide
    rw [this, Int.fdiv_eq_ediv_of_nonneg _ (by decide)]
  rw [e2, wrapZ (by omega) (by omega)]
theorem se_loop {n r : Int} (h0 : 0 ≤ r) (h1 : r * r ≤ n) (h2 : n < (r + 1) * (r + 1)) : ∀ (m : Nat) (i j : Int), 0 ≤ i → i ≤ r → r ≤ j → j ≤ 30000 → j - i ≤ m → ∃ q, GoesR Try.prog tab kSe seL (q + 1) (seS i j) (hQ n) (.exit 0) (mkT 26 [(5, iI r)]) (hQ n) := by
  intro m
  induction m with
  | zero =>
    intro i j a b c d e
    obtain rfl : i = r := by omega
    exact ⟨0, GoesR.last (zsee_ok tab_ok mixed fun_ok noC_ok (seO n i j) (.cons (decide_eq_false (by omega)) .nil)) (by intro h; cases h)⟩
  | succ m ih =>
    intro i j a b c d e
    by_cases hlt : i < j
    · have hm := mid_at a (by omega : i ≤ j) d
      have hh : 0 ≤ (i + j) / 2 ∧ (i + j) / 2 < j ∧ i ≤ (i + j) / 2 := by omega
      generalize (i + j) / 2 = h at hm hh
      have w1 : IntKind.i64.wrap (h + 1) = h + 1 := wrapZ (by omega) (by omega)
      have b0 : 0 ≤ (h + 1) * (h + 1) := Int.mul_nonneg (by omega) (by omega)
      have b1 : (h + 1) * (h + 1) ≤ 30000 * 30000 := sq_le (by omega) (by omega)
      have w2 : IntKind.i64.wrap ((h + 1) * (h + 1)) = (h + 1) * (h + 1) := wrapZ (by omega) (by omega)
      by_cases hr : r ≤ h
      · obtain ⟨q, g⟩ := ih i h a b hr (by omega) (by omega)
        have := sq_le (a := r + 1) (b := h + 1) (by omega) (by omega)
        exact ⟨q + 1, GoesR.step (zsee_ok tab_ok mixed fun_ok noC_ok (se1 n i j h) (.cons (decide_eq_true hlt) (.cons hm (.cons (by rw [w1, w2]; exact decide_eq_true (by omega)) .nil)))) g⟩
      · obtain ⟨q, g⟩ := ih (h + 1) j (by omega) (by omega) c d (by omega)
        have := sq_le (a := h + 1) (b := r) (by omega) (by omega)
        exact ⟨q + 1, GoesR.step (zsee_ok tab_ok mixed fun_ok noC_ok (se2 n i j h) (.cons (decide_eq_true hlt) (.cons hm (.cons (by rw [w1, w2]; exact decide_eq_false (by omega)) (.cons (by rw [w1]) .nil))))) g⟩
    · obtain rfl : i = r := by omega
      exact ⟨0, GoesR.last (zsee_ok tab_ok mixed fun_ok noC_ok (seO n i j) (.cons (decide_eq_false hlt) .nil)) (by intro h; cases h)⟩
theorem ro_ans {n : Int} (h : 0 ≤ n) (h1 : n ≤ 800000000) : Ans Try.prog fRo [iI n] (iI (rt n)) ⟨0, [], []⟩ := by
  obtain ⟨r0, r1, r2⟩ := rt_ok h
  have := rt_le h h1
  obtain ⟨q, g⟩ := se_loop r0 r1 r2 30000 0 30000 (by decide) r0 (by omega) (by decide) (by decide)
  exact zflat_ok tab_ok mixed fun_ok noC_ok (roA n (rt n)) (.cons (zansH_ok tab_ok mixed fun_ok noC_ok (seF n (rt n)) (.cons g.goes .nil)) .nil)
/-! ### the reference's Root, by bisection -/
abbrev fRr : FuncId := 53
abbrev kRr : List (Nat × Nat) := ksF ftab fRr
abbrev rrL : Code := loopAt (bodyOf ftab fRr) 0
abbrev rrS (n i j : Int) : Slots := mkT 23 [(0, iI n), (3, iI i), (4, iI j)]
set_option maxRecDepth 1000000 in
theorem rr1 (n i j h : Int) : zsee Try.prog tab ftab noC kRr [0, 3, 4] rrL (rrS n i j) h00 [(8, .b true), (13, .w (iI h)), (18, .b true)] = some (.normal, rrS n h j, h00, ((decide (i < j)) = true) :: (DV.int .i64 (quoD .i64 (IntKind.i64.wrap (IntKind.i64.wrap (i + j) + 1)) 2) = iI h) :: ((decide (IntKind.i64.wrap (h * h) ≤ n)) = true) :: []) := by kernel_rfl
set_option maxRecDepth 1000000 in
theorem rr2 (n i j h : Int) : zsee Try.prog tab ftab noC kRr [0, 3, 4] rrL (rrS n i j) h00 [(8, .b true), (13, .w (iI h)), (18, .b false), (21, .w (iI (h - 1)))] = some (.normal, rrS n i (h - 1), h00, ((decide (i < j)) = true) :: (DV.int .i64 (quoD .i64 (IntKind.i64.wrap (IntKind.i64.wrap (i + j) + 1)) 2) = iI h) :: ((decide (IntKind.i64.wrap (h * h) ≤ n)) = false) :: (DV.int .i64 (IntKind.i64.wrap (h - 1)) = iI (h - 1)) :: []) := by kernel_rfl
set_option maxRecDepth 1000000 in
theorem rrO (n i j : Int) : zsee Try.prog tab ftab noC kRr [3] rrL (rrS n i j) h00 [(8, .b false)] = some (.exit 0, mkT 23 [(3, iI i)], h00, ((decide (i < j)) = false) :: []) := by kernel_rfl
set_option maxRecDepth 1000000 in
theorem rrA (n r : Int) : zflat (zans Try.prog tab ftab noC fRr [iI n] [(0, .l [0, 3, 4] (.exit 0) (mkT 23 [(3, iI r)]) h00)]) = some (iI r, (Goes Try.prog tab kRr (.loop rrL) (rrS n 0 30000) h00 (.exit 0) (mkT 23 [(3, iI r)]) h00) :: []) := by kernel_rfl
theorem quo2 {x : Int} (h0 : 0 ≤ x) (h1 : x < 9223372036854775808) : quoD .i64 x 2 = x / 2 := by
  rw [quoD, Int.tdiv_eq_ediv_of_nonneg h0, wrapZ (by omega) (by omega)]
theorem mid2_at {i j : Int} (h0 : 0 ≤ i) (h1 : i ≤ j) (h2 : j ≤ 30000) : DV.int .i64 (quoD .i64 (IntKind.i64.wrap (IntKind.i64.wrap (i + j) + 1)) 2) = iI ((i + j + 1) / 2) := by
  rw [wrapZ (x := i + j) (by omega) (by omega), wrapZ (x := i + j + 1) (by omega) (by omega), quo2 (by omega) (by omega)]
theorem rr_loop {n r : Int} (h0 : 0 ≤ r) (h1 : r * r ≤ n) (h2 : n < (r + 1) * (r + 1)) : ∀ (m : Nat) (i j : Int), 0 ≤ i → i ≤ r → r ≤ j → j ≤ 30000 → j - i ≤ m → ∃ q, GoesR Try.prog tab kRr rrL (q + 1) (rrS n i j) h00 (.exit 0) (mkT 23 [(3, iI r)]) h00 := by
  intro m
  induction m with
  | zero =>
    intro i j a b c d e
    obtain rfl : i = r := by omega
    exact ⟨0, GoesR.last (zsee_ok tab_ok mixed fun_ok noC_ok (rrO n i j) (.cons (decide_eq_false (by omega)) .nil)) (by intro h; cases h)⟩
  | succ m ih =>
    intro i j a b c d e
    by_cases hlt : i < j
    · have hm := mid2_at a (by omega : i ≤ j) d
      have hh : 0 ≤ (i + j + 1) / 2 ∧ (i + j + 1) / 2 ≤ j ∧ i < (i + j + 1) / 2 := by omega
      generalize (i + j + 1) / 2 = h at hm hh
      have b0 : 0 ≤ h * h := Int.mul_nonneg (by omega) (by omega)
      have b1 : h * h ≤ 30000 * 30000 := sq_le (by omega) (by omega)
      have w2 : IntKind.i64.wrap (h * h) = h * h := wrapZ (by omega) (by omega)
      by_cases hr : h ≤ r
      · obtain ⟨q, g⟩ := ih h j (by omega) hr c d (by omega)
        have := sq_le (a := h) (b := r) (by omega) hr
        exact ⟨q + 1, GoesR.step (zsee_ok tab_ok mixed fun_ok noC_ok (rr1 n i j h) (.cons (decide_eq_true hlt) (.cons hm (.cons (by rw [w2]; exact decide_eq_true (by omega)) .nil)))) g⟩
      · obtain ⟨q, g⟩ := ih i (h - 1) a b (by omega) (by omega) (by omega)
        have := sq_le (a := r + 1) (b := h) (by omega) (by omega)
        exact ⟨q + 1, GoesR.step (zsee_ok tab_ok mixed fun_ok noC_ok (rr2 n i j h) (.cons (decide_eq_true hlt) (.cons hm (.cons (by rw [w2]; exact decide_eq_false (by omega)) (.cons (by rw [wrapZ (by omega) (by omega)]) .nil))))) g⟩
    · obtain rfl : i = r := by omega
      exact ⟨0, GoesR.last (zsee_ok tab_ok mixed fun_ok noC_ok (rrO n i j) (.cons (decide_eq_false hlt) .nil)) (by intro h; cases h)⟩
theorem rr_ans {n : Int} (h : 0 ≤ n) (h1 : n ≤ 800000000) : Ans Try.prog fRr [iI n] (iI (rt n)) ⟨0, [], []⟩ := by
  obtain ⟨r0, r1, r2⟩ := rt_ok h
  have := rt_le h h1
  obtain ⟨q, g⟩ := rr_loop r0 r1 r2 30000 0 30000 (by decide) r0 (by omega) (by decide) (by decide)
  exact zflat_ok tab_ok mixed fun_ok noC_ok (rrA n (rt n)) (.cons g.goes .nil)
/-! ### Distance -/
def sqs (a b c d : Int) : Int := (a - c) * (a - c) + (b - d) * (b - d)
def dsB (a b c d : Int) : Bool := match vc a with
  | true => match vc b with
    | true => match vc c with
      | true => vc d
      | false => false
    | false => false
  | false => false
theorem dsB_iff (a b c d : Int) : dsB a b c d = true ↔ (-10000 ≤ a ∧ a ≤ 10000) ∧ (-10000 ≤ b ∧ b ≤ 10000) ∧ (-10000 ≤ c ∧ c ≤ 10000) ∧ -10000 ≤ d ∧ d ≤ 10000 := by
  unfold dsB
  rw [← vc_iff, ← vc_iff, ← vc_iff, ← vc_iff]
  cases vc a <;> cases vc b <;> cases vc c <;> simp
def dsV (a b c d : Int) : Int := match dsB a b c d with
  | true => rt (sqs a b c d)
  | false => 0
def dsE (a b c d : Int) : Int := match dsB a b c d with
  | true => 0
  | false => 2
def dsD (a b c d : Int) : DV := .tuple [iI (dsV a b c d), iI (dsE a b c d)]
theorem sqd {a c : Int} (h1 : -10000 ≤ a ∧ a ≤ 10000) (h2 : -10000 ≤ c ∧ c ≤ 10000) : 0 ≤ (a - c) * (a - c) ∧ (a - c) * (a - c) ≤ 400000000 := by
  rcases Int.le_total c a with h | h
  · have b0 : 0 ≤ (a - c) * (a - c) := Int.mul_nonneg (by omega) (by omega)
    have b1 := sq_le (a := a - c) (b := 20000) (by omega) (by omega)
    omega
  · have e : (a - c) * (a - c) = (c - a) * (c - a) := by rw [← Int.neg_mul_neg, Int.neg_sub]
    have b0 : 0 ≤ (c - a) * (c - a) := Int.mul_nonneg (by omega) (by omega)
    have b1 := sq_le (a := c - a) (b := 20000) (by omega) (by omega)
    omega
theorem sqs_in {a b c d : Int} (h : dsB a b c d = true) : 0 ≤ sqs a b c d ∧ sqs a b c d ≤ 800000000 := by
  obtain ⟨h1, h2, h3, h4⟩ := (dsB_iff a b c d).1 h
  have := sqd h1 h3
  have := sqd h2 h4
  unfold sqs
  omega
abbrev sqW (a b c d s : Int) : Prop := DV.int .i64 (IntKind.i64.wrap (IntKind.i64.wrap (IntKind.i64.wrap (a - c) * IntKind.i64.wrap (a - c)) + IntKind.i64.wrap (IntKind.i64.wrap (b - d) * IntKind.i64.wrap (b - d)))) = iI s
theorem sqW_at {a b c d : Int} (h : dsB a b c d = true) : sqW a b c d (sqs a b c d) := by
  obtain ⟨h1, h2, h3, h4⟩ := (dsB_iff a b c d).1 h
  have x1 := sqd h1 h3
  have x2 := sqd h2 h4
  unfold sqW sqs
  rw [wrapZ (x := a - c) (by omega) (by omega), wrapZ (x := b - d) (by omega) (by omega), wrapZ (x := (a - c) * (a - c)) (by omega) (by omega), wrapZ (x := (b - d) * (b - d)) (by omega) (by omega), wrapZ (by omega) (by omega)]
abbrev fDs : FuncId := 16
abbrev fRd : FuncId := 32
def cVcX (C : ConF) : ConF := orK cVc C
set_option maxRecDepth 1000000 in
theorem ds0 (a b c d : Int) : zflat (zans Try.prog tab ftab cVc fDs [iI a, iI b, iI c, iI d] [(22, .b true)]) = some (.tuple [iI 0, iI 2], (((!vc a)) = true) :: []) := by kernel_rfl
set_option maxRecDepth 1000000 in
theorem ds1 (a b c d : Int) : zflat (zans Try.prog tab ftab cVc fDs [iI a, iI b, iI c, iI d] [(22, .b false), (22, .b true)]) = some (.tuple [iI 0, iI 2], (((!vc a)) = false) :: (((!vc b)) = true) :: []) := by kernel_rfl
set_option maxRecDepth 1000000 in
theorem ds2 (a b c d : Int) : zflat (zans Try.prog tab ftab cVc fDs [iI a, iI b, iI c, iI d] [(22, .b false), (22, .b false), (22, .b true)]) = some (.tuple [iI 0, iI 2], (((!vc a)) = false) :: (((!vc b)) = false) :: (((!vc c)) = true) :: []) := by kernel_rfl
set_option maxRecDepth 1000000 in
theorem ds3 (a b c d : Int) : zflat (zans Try.prog tab ftab cVc fDs [iI a, iI b, iI c, iI d] [(22, .b false), (22, .b false), (22, .b false), (22, .b true)]) = some (.tuple [iI 0, iI 2], (((!vc a)) = false) :: (((!vc b)) = false) :: (((!vc c)) = false) :: (((!vc d)) = true) :: []) := by kernel_rfl
set_option maxRecDepth 1000000 in
theorem ds4 (a b c d s r : Int) : zflat (zans Try.prog tab ftab (orK cVc (calC fRo [iI s] (iI r))) fDs [iI a, iI b, iI c, iI d] [(22, .b false), (22, .b false), (22, .b false), (22, .b false), (32, .w (iI s)), (33, .q (iI r))]) = some (.tuple [iI r, iI 0], (((!vc a)) = false) :: (((!vc b)) = false) :: (((!vc c)) = false) :: (((!vc d)) = false) :: sqW a b c d s :: (orK cVc (calC fRo [iI s] (iI r)) fRo [iI s] h00 = some (iI r, h00, none)) :: []) := by kernel_rfl
set_option maxRecDepth 1000000 in
theorem rd0 (a b c d : Int) : zflat (zans Try.prog tab ftab cIn fRd [iI a, iI b, iI c, iI d] [(14, .b true)]) = some (.tuple [iI 0, iI 2], (((!vc a)) = true) :: []) := by kernel_rfl
set_option maxRecDepth 1000000 in
theorem rd1 (a b c d : Int) : zflat (zans Try.prog tab ftab cIn fRd [iI a, iI b, iI c, iI d] [(14, .b false), (18, .b true)]) = some (.tuple [iI 0, iI 2], (((!vc a)) = false) :: (((!vc b)) = true) :: []) := by kernel_rfl
set_option maxRecDepth 1000000 in
theorem rd2 (a b c d : Int) : zflat (zans Try.prog tab ftab cIn fRd [iI a, iI b, iI c, iI d] [(14, .b false), (18, .b false), (23, .b true)]) = some (.tuple [iI 0, iI 2], (((!vc a)) = false) :: (((!vc b)) = false) :: (((!vc c)) = true) :: []) := by kernel_rfl
set_option maxRecDepth 1000000 in
theorem rd3 (a b c d : Int) : zflat (zans Try.prog tab ftab cIn fRd [iI a, iI b, iI c, iI d] [(14, .b false), (18, .b false), (23, .b false), (28, .b true)]) = some (.tuple [iI 0, iI 2], (((!vc a)) = false) :: (((!vc b)) = false) :: (((!vc c)) = false) :: (((!vc d)) = true) :: []) := by kernel_rfl
set_option maxRecDepth 1000000 in
theorem rd4 (a b c d s r : Int) : zflat (zans Try.prog tab ftab (orK cIn (calC fRr [iI s] (iI r))) fRd [iI a, iI b, iI c, iI d] [(14, .b false), (18, .b false), (23, .b false), (28, .b false), (42, .w (iI s)), (43, .q (iI r))]) = some (.tuple [iI r, iI 0], (((!vc a)) = false) :: (((!vc b)) = false) :: (((!vc c)) = false) :: (((!vc d)) = false) :: sqW a b c d s :: (orK cIn (calC fRr [iI s] (iI r)) fRr [iI s] h00 = some (iI r, h00, none)) :: []) := by kernel_rfl
theorem ds_ans (a b c d : Int) : Ans Try.prog fDs [iI a, iI b, iI c, iI d] (dsD a b c d) ⟨0, [], []⟩ := by
  unfold dsD dsV dsE
  cases hb : dsB a b c d with
  | true =>
    obtain ⟨h1, h2, h3, h4⟩ := (dsB_iff a b c d).1 hb
    have n1 : (!vc a) = false := by rw [(vc_iff a).2 h1]; rfl
    have n2 : (!vc b) = false := by rw [(vc_iff b).2 h2]; rfl
    have n3 : (!vc c) = false := by rw [(vc_iff c).2 h3]; rfl
    have n4 : (!vc d) = false := by rw [(vc_iff d).2 h4]; rfl
    have hs := sqs_in hb
    exact zflat_ok tab_ok mixed fun_ok (orK_ok cVc_ok (calC_ok (ro_ans hs.1 hs.2))) (ds4 a b c d _ _) (.cons n1 (.cons n2 (.cons n3 (.cons n4 (.cons (sqW_at hb) (.cons (orK_right (lift_oth rfl) (calC_at _ rfl rfl)) .nil))))))
  | false =>
    unfold dsB at hb
    cases h1 : vc a with
    | false => exact zflat_ok tab_ok mixed fun_ok cVc_ok (ds0 a b c d) (.cons (by rw [h1]; rfl) .nil)
    | true =>
      have n1 : (!vc a) = false := by rw [h1]; rfl
      rw [h1] at hb
      cases h2 : vc b with
      | false => exact zflat_ok tab_ok mixed fun_ok cVc_ok (ds1 a b c d) (.cons n1 (.cons (by rw [h2]; rfl) .nil))
      | true =>
        have n2 : (!vc b) = false := by rw [h2]; rfl
        rw [h2] at hb
        cases h3 : vc c with
        | false => exact zflat_ok tab_ok mixed fun_ok cVc_ok (ds2 a b c d) (.cons n1 (.cons n2 (.cons (by rw [h3]; rfl) .nil)))
        | true =>
          have n3 : (!vc c) = false := by rw [h3]; rfl
          rw [h3] at hb
          have h4 : vc d = false := hb
          exact zflat_ok tab_ok mixed fun_ok cVc_ok (ds3 a b c d) (.cons n1 (.cons n2 (.cons n3 (.cons (by rw [h4]; rfl) .nil))))
theorem rd_ans (a b c d : Int) : Ans Try.prog fRd [iI a, iI b, iI c, iI d] (dsD a b c d) ⟨0, [], []⟩ := by
  unfold dsD dsV dsE
  cases hb : dsB a b c d with
  | true =>
    obtain ⟨h1, h2, h3, h4⟩ := (dsB_iff a b c d).1 hb
    have n1 : (!vc a) = false := by rw [(vc_iff a).2 h1]; rfl
    have n2 : (!vc b) = false := by rw [(vc_iff b).2 h2]; rfl
    have n3 : (!vc c) = false := by rw [(vc_iff c).2 h3]; rfl
    have n4 : (!vc d) = false := by rw [(vc_iff d).2 h4]; rfl
    have hs := sqs_in hb
    exact zflat_ok tab_ok mixed fun_ok (orK_ok cIn_ok (calC_ok (rr_ans hs.1 hs.2))) (rd4 a b c d _ _) (.cons n1 (.cons n2 (.cons n3 (.cons n4 (.cons (sqW_at hb) (.cons (orK_right (lift_oth rfl) (calC_at _ rfl rfl)) .nil))))))
  | false =>
    unfold dsB at hb
    cases h1 : vc a with
    | false => exact zflat_ok tab_ok mixed fun_ok cIn_ok (rd0 a b c d) (.cons (by rw [h1]; rfl) .nil)
    | true =>
      have n1 : (!vc a) = false := by rw [h1]; rfl
      rw [h1] at hb
      cases h2 : vc b with
      | false => exact zflat_ok tab_ok mixed fun_ok cIn_ok (rd1 a b c d) (.cons n1 (.cons (by rw [h2]; rfl) .nil))
      | true =>
        have n2 : (!vc b) = false := by rw [h2]; rfl
        rw [h2] at hb
        cases h3 : vc c with
        | false => exact zflat_ok tab_ok mixed fun_ok cIn_ok (rd2 a b c d) (.cons n1 (.cons n2 (.cons (by rw [h3]; rfl) .nil)))
        | true =>
          have n3 : (!vc c) = false := by rw [h3]; rfl
          rw [h3] at hb
          have h4 : vc d = false := hb
          exact zflat_ok tab_ok mixed fun_ok cIn_ok (rd3 a b c d) (.cons n1 (.cons n2 (.cons n3 (.cons (by rw [h4]; rfl) .nil))))
def cDs : ConF := liftC (comC fDs (g4 dsD))
theorem cDs_ok : ConOk Try.prog cDs := g4_ok ds_ans
def cRd : ConF := liftC (comC fRd (g4 dsD))
theorem cRd_ok : ConOk Try.prog cRd := g4_ok rd_ans
end
end Go.Proofs.Ytmnpkgonanpgfaa
