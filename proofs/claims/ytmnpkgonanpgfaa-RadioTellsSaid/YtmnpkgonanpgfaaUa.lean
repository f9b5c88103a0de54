/- Worlds of radios as data; coordinates, radios, squares: contracts. -/
import Derived.Test.YtmnpkgonanpgfaaML
import Derived.Test.YtmnpkgonanpgfaaTab
namespace Go.Proofs.Ytmnpkgonanpgfaa
open Go.RowKit

noncomputable section
abbrev iI (n : Int) : DV := .int .i64 n
abbrev iN (n : Nat) : DV := .int .i64 (n : Int)
abbrev h00 : Hp := ⟨0, [], []⟩
theorem wrapZ {x : Int} (h1 : -9223372036854775808 ≤ x) (h2 : x < 9223372036854775808) : IntKind.i64.wrap x = x := by
  simp only [IntKind.wrap, IntKind.bits, IntKind.signed, Bool.true_and, decide_eq_true_eq, ge_iff_le]
  split <;> omega
theorem wrapI {n : Nat} (h : n < 2 ^ 63) : IntKind.i64.wrap (n : Int) = n := wrapZ (by omega) (by omega)
theorem idxOk_lt {k n : Nat} (h : k < n) : idxOk (k : Int) n = true := by
  simp only [idxOk, Int.toNat_natCast, bltT h, Bool.and_true, decide_eq_true_eq]
  omega
theorem idxOk_in {i : Int} {n : Nat} (h0 : 0 ≤ i) (h : i < (n : Int)) : idxOk i n = true := by
  obtain ⟨k, rfl⟩ := Int.eq_ofNat_of_zero_le h0
  exact idxOk_lt (by omega)
theorem lift_at {α : Type} {f0 : FuncId} {A : α → List DV} {D : α → DV} (hinj : ∀ x y, A x = A y → D x = D y) (hp : Hp) (x : α) (ha : flats2 (A x) = true) (hd : flatD (D x) = true) : liftC (eqC f0 A fun x => (D x, ⟨0, [], []⟩)) f0 (A x) hp = some (D x, hp, none) := by
  unfold liftC
  rw [ha, eqC_at (fun x y h => by rw [hinj x y h]) x]
  simp only [liftR, hd]
theorem lift_oth {C : ConF} {f : FuncId} {args : List DV} {hp : Hp} (h : C f args ⟨0, [], []⟩ = none) : liftC C f args hp = none := by
  unfold liftC
  split
  · rw [h]; rfl
  · rfl
/-- one call's contract -/
def calC (f : FuncId) (args : List DV) (d : DV) : ConF := liftC (eqC f (fun _ : Unit => args) fun _ => (d, ⟨0, [], []⟩))
theorem calC_ok {P : Program} {f : FuncId} {args : List DV} {d : DV} (h : Ans P f args d ⟨0, [], []⟩) : ConOk P (calC f args d) := liftC_ok (eqC_ok (fun _ => h) fun _ => rfl)
theorem calC_at {f : FuncId} {args : List DV} {d : DV} (hp : Hp) (ha : flats2 args = true) (hd : flatD d = true) : calC f args d f args hp = some (d, hp, none) :=
  lift_at (A := fun _ : Unit => args) (D := fun _ => d) (fun _ _ _ => rfl) hp () ha hd
theorem calC_oth {f g : FuncId} {args as2 : List DV} {d : DV} {hp : Hp} (h : Nat.beq g f = false) : calC f args d g as2 hp = none := lift_oth (eqC_other h)
theorem nth_of {α : Type} {l : List α} {k : Nat} {x : α} (h : l[k]? = some x) : nth l ((k : Int).toNat) = some x := by
  rw [nth_eq, Int.toNat_natCast]
  exact h
/-! ### Worlds -/
structure Rw where
  x : Int
  y : Int
  p : Int
  c : Int
structure Wd where
  r : List Rw
  s : List (List Int)
def rC (r : Rw) : List DV := [iI r.x, iI r.y, iI r.p, iI r.c]
abbrev rD (r : Rw) : DV := .agg (rC r)
def rsR (l : List Rw) : List (List DV) := l.map rC
def i1 (l : List Int) : List (List DV) := l.map fun n => [iI n]
def ssR (s : List (List Int)) : List (List DV) := s.map fun r => [.list 1 (i1 r)]
def wdC (w : Wd) : List DV := [.list 4 (rsR w.r), .list 1 (ssR w.s)]
abbrev wdD (w : Wd) : DV := .agg (wdC w)
theorem rsR_length (l : List Rw) : (rsR l).length = l.length := by simp [rsR]
theorem i1_length (l : List Int) : (i1 l).length = l.length := by simp [i1]
theorem ssR_length (l : List (List Int)) : (ssR l).length = l.length := by simp [ssR]
theorem rsR_at {l : List Rw} {k : Nat} {r : Rw} (h : l[k]? = some r) : nth (rsR l) ((k : Int).toNat) = some (rC r) := nth_of (by simp [rsR, h])
theorem i1_at {l : List Int} {k : Nat} {n : Int} (h : l[k]? = some n) : nth (i1 l) ((k : Int).toNat) = some [iI n] := nth_of (by simp [i1, h])
theorem ssR_at {l : List (List Int)} {k : Nat} {r : List Int} (h : l[k]? = some r) : nth (ssR l) ((k : Int).toNat) = some [.list 1 (i1 r)] := nth_of (by simp [ssR, h])
theorem rC_inj {a b : Rw} (h : rC a = rC b) : a = b := by
  obtain ⟨x, y, p, c⟩ := a
  obtain ⟨x', y', p', c'⟩ := b
  simp only [rC, List.cons.injEq, DV.int.injEq, true_and, and_true] at h
  obtain ⟨rfl, rfl, rfl, rfl⟩ := h
  rfl
theorem map_inj {α β : Type} {f : α → β} (hf : ∀ a b, f a = f b → a = b) : ∀ {l m : List α}, l.map f = m.map f → l = m
  | [], [], _ => rfl
  | [], b :: m, h => by simp at h
  | a :: l, [], h => by simp at h
  | a :: l, b :: m, h => by
    simp only [List.map_cons, List.cons.injEq] at h
    rw [hf a b h.1, map_inj hf h.2]
theorem i1_inj {a b : List Int} (h : i1 a = i1 b) : a = b := map_inj (fun a b h => by simpa using h) h
theorem wdD_inj {a b : Wd} (h : wdD a = wdD b) : a = b := by
  obtain ⟨r, s⟩ := a
  obtain ⟨r', s'⟩ := b
  simp only [wdD, wdC, DV.agg.injEq, List.cons.injEq, DV.list.injEq, true_and, and_true] at h
  obtain ⟨h1, h2⟩ := h
  have e1 : r = r' := map_inj (fun _ _ => rC_inj) h1
  have e2 : s = s' := map_inj (fun a b h => i1_inj (by simpa using h)) h2
  rw [e1, e2]
/-- a world whose lists have lengths -/
structure OkW (w : Wd) : Prop where
  r : w.r.length < 2 ^ 63
  s : w.s.length < 2 ^ 63
  row : ∀ l ∈ w.s, l.length < 2 ^ 63
/-! ### Functions of numbers -/
def g1 (D : Int → DV) : List DV → Option DV
  | [.int .i64 i] => some (D i)
  | _ => none
def g4 (D : Int → Int → Int → Int → DV) : List DV → Option DV
  | [.int .i64 a, .int .i64 b, .int .i64 c, .int .i64 d] => some (D a b c d)
  | _ => none
def g3 (D : Int → Int → Int → DV) : List DV → Option DV
  | [.int .i64 a, .int .i64 b, .int .i64 c] => some (D a b c)
  | _ => none
def gR (D : Rw → DV) : List DV → Option DV
  | [.agg [.int .i64 x, .int .i64 y, .int .i64 p, .int .i64 c]] => some (D ⟨x, y, p, c⟩)
  | _ => none
theorem g1_ok {f : FuncId} {D : Int → DV} (h : ∀ i, Ans Try.prog f [iI i] (D i) ⟨0, [], []⟩) : ConOk Try.prog (liftC (comC f (g1 D))) := liftC_ok (comC_ok fun args d hh => by
  unfold g1 at hh
  split at hh
  · cases hh
    exact h _
  · cases hh)
theorem g3_ok {f : FuncId} {D : Int → Int → Int → DV} (h : ∀ a b c, Ans Try.prog f [iI a, iI b, iI c] (D a b c) ⟨0, [], []⟩) : ConOk Try.prog (liftC (comC f (g3 D))) := liftC_ok (comC_ok fun args d hh => by
  unfold g3 at hh
  split at hh
  · cases hh
    exact h _ _ _
  · cases hh)
theorem g4_ok {f : FuncId} {D : Int → Int → Int → Int → DV} (h : ∀ a b c d, Ans Try.prog f [iI a, iI b, iI c, iI d] (D a b c d) ⟨0, [], []⟩) : ConOk Try.prog (liftC (comC f (g4 D))) := liftC_ok (comC_ok fun args d hh => by
  unfold g4 at hh
  split at hh
  · cases hh
    exact h _ _ _ _
  · cases hh)
theorem gR_ok {f : FuncId} {D : Rw → DV} (h : ∀ r, Ans Try.prog f [rD r] (D r) ⟨0, [], []⟩) : ConOk Try.prog (liftC (comC f (gR D))) := liftC_ok (comC_ok fun args d hh => by
  unfold gR at hh
  split at hh
  · cases hh
    exact h ⟨_, _, _, _⟩
  · cases hh)
def inB (x a b : Int) : Bool := match decide (a ≤ x) with
  | true => decide (x ≤ b)
  | false => false
theorem inB_iff (x a b : Int) : inB x a b = true ↔ a ≤ x ∧ x ≤ b := by
  unfold inB
  by_cases h : a ≤ x
  · rw [decide_eq_true h]
    simp only [decide_eq_true_eq]
    omega
  · rw [decide_eq_false h]
    simp only [Bool.false_eq_true, false_iff]
    omega
def vc (c : Int) : Bool := inB c (-10000) 10000
def vr (r : Rw) : Bool := match vc r.x with
  | true => match vc r.y with
    | true => match inB r.p 0 300 with
      | true => inB r.c 1 64
      | false => false
    | false => false
  | false => false
theorem vc_iff (c : Int) : vc c = true ↔ -10000 ≤ c ∧ c ≤ 10000 := inB_iff _ _ _
theorem vr_iff (r : Rw) : vr r = true ↔ (-10000 ≤ r.x ∧ r.x ≤ 10000) ∧ (-10000 ≤ r.y ∧ r.y ≤ 10000) ∧ (0 ≤ r.p ∧ r.p ≤ 300) ∧ 1 ≤ r.c ∧ r.c ≤ 64 := by
  unfold vr
  rw [← vc_iff, ← vc_iff, ← inB_iff, ← inB_iff]
  cases vc r.x <;> cases vc r.y <;> cases inB r.p 0 300 <;> simp
abbrev fVc : FuncId := 41
set_option maxRecDepth 1000000 in
theorem vc1 (c : Int) : zflat (zans Try.prog tab ftab noC fVc [iI c] [(4, .b false)]) = some (.bool false, ((decide (-10000 ≤ c)) = false) :: []) := by kernel_rfl
set_option maxRecDepth 1000000 in
theorem vc2 (c : Int) : zflat (zans Try.prog tab ftab noC fVc [iI c] [(4, .b true)]) = some (.bool (decide (c ≤ 10000)), ((decide (-10000 ≤ c)) = true) :: []) := by kernel_rfl
theorem vc_ans (c : Int) : Ans Try.prog fVc [iI c] (.bool (vc c)) ⟨0, [], []⟩ := by
  unfold vc inB
  cases h : decide (-10000 ≤ c) with
  | true => exact zflat_ok tab_ok mixed fun_ok noC_ok (vc2 c) (.cons h .nil)
  | false => exact zflat_ok tab_ok mixed fun_ok noC_ok (vc1 c) (.cons h .nil)
def cVc : ConF := liftC (comC fVc (g1 fun c => .bool (vc c)))
theorem cVc_ok : ConOk Try.prog cVc := g1_ok vc_ans
abbrev fVr : FuncId := 36
set_option maxRecDepth 1000000 in
theorem vr0 (r : Rw) : zflat (zans Try.prog tab ftab cVc fVr [rD r] [(5, .b false)]) = some (.bool false, ((vc r.x) = false) :: []) := by kernel_rfl
set_option maxRecDepth 1000000 in
theorem vr1 (r : Rw) : zflat (zans Try.prog tab ftab cVc fVr [rD r] [(5, .b true), (9, .b false)]) = some (.bool false, ((vc r.x) = true) :: ((vc r.y) = false) :: []) := by kernel_rfl
set_option maxRecDepth 1000000 in
theorem vr2 (r : Rw) : zflat (zans Try.prog tab ftab cVc fVr [rD r] [(5, .b true), (9, .b true), (14, .b false)]) = some (.bool false, ((vc r.x) = true) :: ((vc r.y) = true) :: ((decide (0 ≤ r.p)) = false) :: []) := by kernel_rfl
set_option maxRecDepth 1000000 in
theorem vr3 (r : Rw) : zflat (zans Try.prog tab ftab cVc fVr [rD r] [(5, .b true), (9, .b true), (14, .b true), (19, .b false)]) = some (.bool false, ((vc r.x) = true) :: ((vc r.y) = true) :: ((decide (0 ≤ r.p)) = true) :: ((decide (r.p ≤ 300)) = false) :: []) := by kernel_rfl
set_option maxRecDepth 1000000 in
theorem vr4 (r : Rw) : zflat (zans Try.prog tab ftab cVc fVr [rD r] [(5, .b true), (9, .b true), (14, .b true), (19, .b true), (24, .b false)]) = some (.bool false, ((vc r.x) = true) :: ((vc r.y) = true) :: ((decide (0 ≤ r.p)) = true) :: ((decide (r.p ≤ 300)) = true) :: ((decide (1 ≤ r.c)) = false) :: []) := by kernel_rfl
set_option maxRecDepth 1000000 in
theorem vr5 (r : Rw) : zflat (zans Try.prog tab ftab cVc fVr [rD r] [(5, .b true), (9, .b true), (14, .b true), (19, .b true), (24, .b true)]) = some (.bool (decide (r.c ≤ 64)), ((vc r.x) = true) :: ((vc r.y) = true) :: ((decide (0 ≤ r.p)) = true) :: ((decide (r.p ≤ 300)) = true) :: ((decide (1 ≤ r.c)) = true) :: []) := by kernel_rfl
theorem vr_ans (r : Rw) : Ans Try.prog fVr [rD r] (.bool (vr r)) ⟨0, [], []⟩ := by
  unfold vr inB
  cases h0 : vc r.x with
  | false => exact zflat_ok tab_ok mixed fun_ok cVc_ok (vr0 r) (.cons h0 .nil)
  | true =>
    cases h1 : vc r.y with
    | false => exact zflat_ok tab_ok mixed fun_ok cVc_ok (vr1 r) (.cons h0 (.cons h1 .nil))
    | true =>
      cases h2 : decide (0 ≤ r.p) with
      | false => exact zflat_ok tab_ok mixed fun_ok cVc_ok (vr2 r) (.cons h0 (.cons h1 (.cons h2 .nil)))
      | true =>
        cases h3 : decide (r.p ≤ 300) with
        | false => exact zflat_ok tab_ok mixed fun_ok cVc_ok (vr3 r) (.cons h0 (.cons h1 (.cons h2 (.cons h3 .nil))))
        | true =>
          cases h4 : decide (1 ≤ r.c) with
          | false => exact zflat_ok tab_ok mixed fun_ok cVc_ok (vr4 r) (.cons h0 (.cons h1 (.cons h2 (.cons h3 (.cons h4 .nil)))))
          | true =>
            exact zflat_ok tab_ok mixed fun_ok cVc_ok (vr5 r) (.cons h0 (.cons h1 (.cons h2 (.cons h3 (.cons h4 .nil)))))
def cVr : ConF := liftC (comC fVr (gR fun r => .bool (vr r)))
theorem cVr_ok : ConOk Try.prog cVr := gR_ok vr_ans
/-! ### The reference's In, Valid -/
abbrev fIn : FuncId := 51
set_option maxRecDepth 1000000 in
theorem in1 (x a b : Int) : zflat (zans Try.prog tab ftab noC fIn [iI x, iI a, iI b] [(9, .b false)]) = some (.bool false, ((decide (a ≤ x)) = false) :: []) := by kernel_rfl
set_option maxRecDepth 1000000 in
theorem in2 (x a b : Int) : zflat (zans Try.prog tab ftab noC fIn [iI x, iI a, iI b] [(9, .b true)]) = some (.bool (decide (x ≤ b)), ((decide (a ≤ x)) = true) :: []) := by kernel_rfl
theorem in_ans (x a b : Int) : Ans Try.prog fIn [iI x, iI a, iI b] (.bool (inB x a b)) ⟨0, [], []⟩ := by
  unfold inB
  cases h : decide (a ≤ x) with
  | true => exact zflat_ok tab_ok mixed fun_ok noC_ok (in2 x a b) (.cons h .nil)
  | false => exact zflat_ok tab_ok mixed fun_ok noC_ok (in1 x a b) (.cons h .nil)
def cIn : ConF := liftC (comC fIn (g3 fun x a b => .bool (inB x a b)))
theorem cIn_ok : ConOk Try.prog cIn := g3_ok in_ans
abbrev fVl : FuncId := 52
set_option maxRecDepth 1000000 in
theorem vl0 (r : Rw) : zflat (zans Try.prog tab ftab cIn fVl [rD r] [(5, .b false)]) = some (.bool false, ((vc r.x) = false) :: []) := by kernel_rfl
set_option maxRecDepth 1000000 in
theorem vl1 (r : Rw) : zflat (zans Try.prog tab ftab cIn fVl [rD r] [(5, .b true), (9, .b false)]) = some (.bool false, ((vc r.x) = true) :: ((vc r.y) = false) :: []) := by kernel_rfl
set_option maxRecDepth 1000000 in
theorem vl2 (r : Rw) : zflat (zans Try.prog tab ftab cIn fVl [rD r] [(5, .b true), (9, .b true), (14, .b false)]) = some (.bool false, ((vc r.x) = true) :: ((vc r.y) = true) :: ((inB r.p 0 300) = false) :: []) := by kernel_rfl
set_option maxRecDepth 1000000 in
theorem vl3 (r : Rw) : zflat (zans Try.prog tab ftab cIn fVl [rD r] [(5, .b true), (9, .b true), (14, .b true)]) = some (.bool (inB r.c 1 64), ((vc r.x) = true) :: ((vc r.y) = true) :: ((inB r.p 0 300) = true) :: []) := by kernel_rfl
theorem vl_ans (r : Rw) : Ans Try.prog fVl [rD r] (.bool (vr r)) ⟨0, [], []⟩ := by
  unfold vr
  cases h0 : vc r.x with
  | false => exact zflat_ok tab_ok mixed fun_ok cIn_ok (vl0 r) (.cons h0 .nil)
  | true =>
    cases h1 : vc r.y with
    | false => exact zflat_ok tab_ok mixed fun_ok cIn_ok (vl1 r) (.cons h0 (.cons h1 .nil))
    | true =>
      cases h2 : inB r.p 0 300 with
      | false => exact zflat_ok tab_ok mixed fun_ok cIn_ok (vl2 r) (.cons h0 (.cons h1 (.cons h2 .nil)))
      | true =>
        exact zflat_ok tab_ok mixed fun_ok cIn_ok (vl3 r) (.cons h0 (.cons h1 (.cons h2 .nil)))
def cVl : ConF := liftC (comC fVl (gR fun r => .bool (vr r)))
theorem cVl_ok : ConOk Try.prog cVl := gR_ok vl_ans
/-! ### All of n -/
def allB : Nat → (Nat → Bool) → Bool
  | 0, _ => true
  | n + 1, ok => allB n ok && ok n
theorem allB_t {ok : Nat → Bool} : ∀ {n : Nat}, allB n ok = true ↔ ∀ k, k < n → ok k = true
  | 0 => ⟨fun _ k h => by omega, fun _ => rfl⟩
  | n + 1 => by
    rw [allB, Bool.and_eq_true, allB_t]
    constructor
    · rintro ⟨h1, h2⟩ k hk
      rcases Nat.lt_or_ge k n with h | h
      · exact h1 k h
      · rw [show k = n by omega]
        exact h2
    · exact fun h => ⟨fun k hk => h k (by omega), h n (by omega)⟩
theorem allB_f {ok : Nat → Bool} : ∀ {n : Nat}, allB n ok = false → ∃ k, k < n ∧ ok k = false ∧ ∀ j, j < k → ok j = true
  | 0, h => by cases h
  | n + 1, h => by
    rw [allB] at h
    cases hb : allB n ok with
    | false =>
      obtain ⟨k, h1, h2⟩ := allB_f hb
      exact ⟨k, by omega, h2⟩
    | true =>
      rw [hb, Bool.true_and] at h
      exact ⟨n, by omega, h, allB_t.1 hb⟩
theorem allB_congr {ok ok' : Nat → Bool} {n : Nat} (h : ∀ k, k < n → ok k = ok' k) : allB n ok = allB n ok' := by
  induction n with
  | zero => rfl
  | succ n ih => rw [allB, allB, ih fun k hk => h k (by omega), h n (by omega)]
section
variable {P : Program} {T : Tab}
/-- a loop that ends at the first that is not right -/
theorem scan_f {ks : List (Nat × Nat)} {x : Code} {n : Nat} {ok : Nat → Bool} {S : Nat → Slots} {H : Hp} {e2 : Ex} {s2 : Slots} {h2 : Hp} (hne : e2 ≠ .normal) (hgo : ∀ k, k < n → ok k = true → Goes P T ks x (S k) H .normal (S (k + 1)) H)
    (hbad : ∀ k, k < n → ok k = false → Goes P T ks x (S k) H e2 s2 h2) (h : allB n ok = false) : Goes P T ks (.loop x) (S 0) H e2 s2 h2 := by
  obtain ⟨k, h1, h3, h4⟩ := allB_f h
  exact Goes.loop k S (fun _ => H) (fun j hj => hgo j (by omega) (h4 j hj)) (hbad k h1 h3) hne
theorem scan_t {ks : List (Nat × Nat)} {x : Code} {n : Nat} {ok : Nat → Bool} {S : Nat → Slots} {H : Hp} {e1 : Ex} {s1 : Slots} {h1 : Hp} (hne : e1 ≠ .normal) (hgo : ∀ k, k < n → ok k = true → Goes P T ks x (S k) H .normal (S (k + 1)) H)
    (hend : Goes P T ks x (S n) H e1 s1 h1) (h : allB n ok = true) : Goes P T ks (.loop x) (S 0) H e1 s1 h1 :=
  Goes.loop n S (fun _ => H) (fun j hj => hgo j hj (allB_t.1 h j hj)) hend hne
end
theorem flatIn_nil (hp : Hp) : FlatIn [] hp := fun id o h _ => by cases h
theorem get_in {α : Type} {l : List α} {k : Nat} (d : α) (h : k < l.length) : l[k]? = some (l.getD k d) := by
  rw [List.getD_eq_getElem?_getD, List.getElem?_eq_getElem h]
  rfl
abbrev wrK (k : Nat) : Prop := DV.int .i64 (IntKind.i64.wrap ((k : Int) + 1)) = iN (k + 1)
theorem wrK_at {k : Nat} (h : k + 1 < 2 ^ 63) : wrK k := congrArg (DV.int .i64) (wrapI (n := k + 1) (by omega))
end
end Go.Proofs.Ytmnpkgonanpgfaa
