/- Contracts whose arguments name no object and whose answers have objects of their own, which may hold lists and name each other. No function of the program is named here. -/
import Derived.Test.YtgjgihlfkpbdgaaML
import Derived.Test.YtgjgihlfkpbdgaaTab
import Derived.Test.YtgjgihlfkpbdgaaMG
import Derived.Deep.Slices
import Derived.OpenShut
import Derived.ChangeArms
namespace Go.Proofs.Ytgjgihlfkpbdgaa
open Go.RowKit

noncomputable section
def cf1 : DV → Bool
  | .sl .. => true
  | .ptr .. => true
  | d => flat0 d
def cf2 : DV → Bool
  | .agg cs => cs.all cf1
  | d => cf1 d
def cf3 : DV → Bool
  | .tuple cs => cs.all cf2
  | d => cf2 d
/-- what such answers must be -/
structure FineF (d : DV) (hp : Hp) : Prop where
  cl : cf3 d = true
  pl : ∀ id o, hp.get id = some o → o.cs.all cf1 = true
  ln : hp.l.length = hp.n
end
end Go.Proofs.Ytgjgihlfkpbdgaa
/- Worlds of radios as data; coordinates, radios, squares: contracts. -/
namespace Go.Proofs.Ytgjgihlfkpbdgaa
open Go.RowKit

noncomputable section
abbrev iI (n : Int) : DV := .int .i64 n
abbrev iN (n : Nat) : DV := .int .i64 (n : Int)
abbrev h00 : Hp := ⟨0, [], []⟩
theorem wrapZ {x : Int} (h1 : -9223372036854775808 ≤ x) (h2 : x < 9223372036854775808) : IntKind.i64.wrap x = x := by
  simp only [IntKind.wrap, IntKind.bits, IntKind.signed, Bool.true_and, decide_eq_true_eq, ge_iff_le]
  split <;> omega
theorem wrapI {n : Nat} (h : n < 2 ^ 63) : IntKind.i64.wrap (n : Int) = n := wrapZ (by omega) (by omega)
theorem idxOk_lt {k n : Nat} (h : k < n) : idxOk (k : Int) n = true := by
  simp only [idxOk, Int.toNat_natCast, bltT h, Bool.and_true, decide_eq_true_eq]
  omega
theorem idxOk_in {i : Int} {n : Nat} (h0 : 0 ≤ i) (h : i < (n : Int)) : idxOk i n = true := by
  obtain ⟨k, rfl⟩ := Int.eq_ofNat_of_zero_le h0
  exact idxOk_lt (by omega)
theorem lift_at {α : Type} {f0 : FuncId} {A : α → List DV} {D : α → DV} (hinj : ∀ x y, A x = A y → D x = D y) (hp : Hp) (x : α) (ha : flats2 (A x) = true) (hd : flatD (D x) = true) : liftC (eqC f0 A fun x => (D x, ⟨0, [], []⟩)) f0 (A x) hp = some (D x, hp, none) := by
  unfold liftC
  rw [ha, eqC_at (fun x y h => by rw [hinj x y h]) x]
  simp only [liftR, hd]
theorem lift_oth {C : ConF} {f : FuncId} {args : List DV} {hp : Hp} (h : C f args ⟨0, [], []⟩ = none) : liftC C f args hp = none := by
  unfold liftC
  split
  · rw [h]; rfl
  · rfl
/-- one call's contract -/
def calC (f : FuncId) (args : List DV) (d : DV) : ConF := liftC (eqC f (fun _ : Unit => args) fun _ => (d, ⟨0, [], []⟩))
theorem calC_ok {P : Program} {f : FuncId} {args : List DV} {d : DV} (h : Ans P f args d ⟨0, [], []⟩) : ConOk P (calC f args d) := liftC_ok (eqC_ok (fun _ => h) fun _ => rfl)
theorem calC_at {f : FuncId} {args : List DV} {d : DV} (hp : Hp) (ha : flats2 args = true) (hd : flatD d = true) : calC f args d f args hp = some (d, hp, none) :=
  lift_at (A := fun _ : Unit => args) (D := fun _ => d) (fun _ _ _ => rfl) hp () ha hd
theorem calC_oth {f g : FuncId} {args as2 : List DV} {d : DV} {hp : Hp} (h : Nat.beq g f = false) : calC f args d g as2 hp = none := lift_oth (eqC_other h)
theorem nth_of {α : Type} {l : List α} {k : Nat} {x : α} (h : l[k]? = some x) : nth l ((k : Int).toNat) = some x := by
  rw [nth_eq, Int.toNat_natCast]
  exact h
/-! ### Worlds -/
structure Rw where
  x : Int
  y : Int
  p : Int
  c : Int
structure Wd where
  r : List Rw
  s : List (List Int)
def rC (r : Rw) : List DV := [iI r.x, iI r.y, iI r.p, iI r.c]
abbrev rD (r : Rw) : DV := .agg (rC r)
def rsR (l : List Rw) : List (List DV) := l.map rC
def i1 (l : List Int) : List (List DV) := l.map fun n => [iI n]
def ssR (s : List (List Int)) : List (List DV) := s.map fun r => [.list 1 (i1 r)]
def wdC (w : Wd) : List DV := [.list 4 (rsR w.r), .list 1 (ssR w.s)]
abbrev wdD (w : Wd) : DV := .agg (wdC w)
theorem rsR_length (l : List Rw) : (rsR l).length = l.length := by simp [rsR]
theorem i1_length (l : List Int) : (i1 l).length = l.length := by simp [i1]
theorem ssR_length (l : List (List Int)) : (ssR l).length = l.length := by simp [ssR]
theorem rsR_at {l : List Rw} {k : Nat} {r : Rw} (h : l[k]? = some r) : nth (rsR l) ((k : Int).toNat) = some (rC r) := nth_of (by simp [rsR, h])
theorem i1_at {l : List Int} {k : Nat} {n : Int} (h : l[k]? = some n) : nth (i1 l) ((k : Int).toNat) = some [iI n] := nth_of (by simp [i1, h])
theorem ssR_at {l : List (List Int)} {k : Nat} {r : List Int} (h : l[k]? = some r) : nth (ssR l) ((k : Int).toNat) = some [.list 1 (i1 r)] := nth_of (by simp [ssR, h])
theorem map_inj {α β : Type} {f : α → β} (hf : ∀ a b, f a = f b → a = b) : ∀ {l m : List α}, l.map f = m.map f → l = m
  | [], [], _ => rfl
  | [], b :: m, h => by simp at h
  | a :: l, [], h => by simp at h
  | a :: l, b :: m, h => by
    simp only [List.map_cons, List.cons.injEq] at h
    rw [hf a b h.1, map_inj hf h.2]
theorem i1_inj {a b : List Int} (h : i1 a = i1 b) : a = b := map_inj (fun a b h => by simpa using h) h
/-- a world whose lists have lengths -/
structure OkW (w : Wd) : Prop where
  r : w.r.length < 2 ^ 63
  s : w.s.length < 2 ^ 63
  row : ∀ l ∈ w.s, l.length < 2 ^ 63
/-! ### Functions of numbers -/
def g1 (D : Int → DV) : List DV → Option DV
  | [.int .i64 i] => some (D i)
  | _ => none
def g4 (D : Int → Int → Int → Int → DV) : List DV → Option DV
  | [.int .i64 a, .int .i64 b, .int .i64 c, .int .i64 d] => some (D a b c d)
  | _ => none
def g3 (D : Int → Int → Int → DV) : List DV → Option DV
  | [.int .i64 a, .int .i64 b, .int .i64 c] => some (D a b c)
  | _ => none
def gR (D : Rw → DV) : List DV → Option DV
  | [.agg [.int .i64 x, .int .i64 y, .int .i64 p, .int .i64 c]] => some (D ⟨x, y, p, c⟩)
  | _ => none
theorem g1_ok {f : FuncId} {D : Int → DV} (h : ∀ i, Ans Try.prog f [iI i] (D i) ⟨0, [], []⟩) : ConOk Try.prog (liftC (comC f (g1 D))) := liftC_ok (comC_ok fun args d hh => by
  unfold g1 at hh
  split at hh
  · cases hh
    exact h _
  · cases hh)
theorem g3_ok {f : FuncId} {D : Int → Int → Int → DV} (h : ∀ a b c, Ans Try.prog f [iI a, iI b, iI c] (D a b c) ⟨0, [], []⟩) : ConOk Try.prog (liftC (comC f (g3 D))) := liftC_ok (comC_ok fun args d hh => by
  unfold g3 at hh
  split at hh
  · cases hh
    exact h _ _ _
  · cases hh)
theorem g4_ok {f : FuncId} {D : Int → Int → Int → Int → DV} (h : ∀ a b c d, Ans Try.prog f [iI a, iI b, iI c, iI d] (D a b c d) ⟨0, [], []⟩) : ConOk Try.prog (liftC (comC f (g4 D))) := liftC_ok (comC_ok fun args d hh => by
  unfold g4 at hh
  split at hh
  · cases hh
    exact h _ _ _ _
  · cases hh)
theorem gR_ok {f : FuncId} {D : Rw → DV} (h : ∀ r, Ans Try.prog f [rD r] (D r) ⟨0, [], []⟩) : ConOk Try.prog (liftC (comC f (gR D))) := liftC_ok (comC_ok fun args d hh => by
  unfold gR at hh
  split at hh
  · cases hh
    exact h ⟨_, _, _, _⟩
  · cases hh)
def inB (x a b : Int) : Bool := match decide (a ≤ x) with
  | true => decide (x ≤ b)
  | false => false
theorem inB_iff (x a b : Int) : inB x a b = true ↔ a ≤ x ∧ x ≤ b := by
  unfold inB
  by_cases h : a ≤ x
  · rw [decide_eq_true h]
    simp only [decide_eq_true_eq]
    omega
  · rw [decide_eq_false h]
    simp only [Bool.false_eq_true, false_iff]
    omega
def vc (c : Int) : Bool := inB c (-10000) 10000
def vr (r : Rw) : Bool := match vc r.x with
  | true => match vc r.y with
    | true => match inB r.p 0 300 with
      | true => inB r.c 1 64
      | false => false
    | false => false
  | false => false
theorem vc_iff (c : Int) : vc c = true ↔ -10000 ≤ c ∧ c ≤ 10000 := inB_iff _ _ _
theorem vr_iff (r : Rw) : vr r = true ↔ (-10000 ≤ r.x ∧ r.x ≤ 10000) ∧ (-10000 ≤ r.y ∧ r.y ≤ 10000) ∧ (0 ≤ r.p ∧ r.p ≤ 300) ∧ 1 ≤ r.c ∧ r.c ≤ 64 := by
  unfold vr
  rw [← vc_iff, ← vc_iff, ← inB_iff, ← inB_iff]
  cases vc r.x <;> cases vc r.y <;> cases inB r.p 0 300 <;> simp
abbrev fVc : FuncId := 69
set_option maxRecDepth 1000000 in
theorem vc1 (c : Int) : zflat (zans Try.prog tab ftab noC fVc [iI c] [(4, .b false)]) = some (.bool false, ((decide (-10000 ≤ c)) = false) :: []) := by kernel_rfl
set_option maxRecDepth 1000000 in
theorem vc2 (c : Int) : zflat (zans Try.prog tab ftab noC fVc [iI c] [(4, .b true)]) = some (.bool (decide (c ≤ 10000)), ((decide (-10000 ≤ c)) = true) :: []) := by kernel_rfl
theorem vc_ans (c : Int) : Ans Try.prog fVc [iI c] (.bool (vc c)) ⟨0, [], []⟩ := by
  unfold vc inB
  cases h : decide (-10000 ≤ c) with
  | true => exact zflat_ok tab_ok mixed fun_ok noC_ok (vc2 c) (.cons h .nil)
  | false => exact zflat_ok tab_ok mixed fun_ok noC_ok (vc1 c) (.cons h .nil)
def cVc : ConF := liftC (comC fVc (g1 fun c => .bool (vc c)))
theorem cVc_ok : ConOk Try.prog cVc := g1_ok vc_ans
abbrev fVr : FuncId := 56
set_option maxRecDepth 1000000 in
theorem vr0 (r : Rw) : zflat (zans Try.prog tab ftab cVc fVr [rD r] [(5, .b false)]) = some (.bool false, ((vc r.x) = false) :: []) := by kernel_rfl
set_option maxRecDepth 1000000 in
theorem vr1 (r : Rw) : zflat (zans Try.prog tab ftab cVc fVr [rD r] [(5, .b true), (9, .b false)]) = some (.bool false, ((vc r.x) = true) :: ((vc r.y) = false) :: []) := by kernel_rfl
set_option maxRecDepth 1000000 in
theorem vr2 (r : Rw) : zflat (zans Try.prog tab ftab cVc fVr [rD r] [(5, .b true), (9, .b true), (14, .b false)]) = some (.bool false, ((vc r.x) = true) :: ((vc r.y) = true) :: ((decide (0 ≤ r.p)) = false) :: []) := by kernel_rfl
set_option maxRecDepth 1000000 in
theorem vr3 (r : Rw) : zflat (zans Try.prog tab ftab cVc fVr [rD r] [(5, .b true), (9, .b true), (14, .b true), (19, .b false)]) = some (.bool false, ((vc r.x) = true) :: ((vc r.y) = true) :: ((decide (0 ≤ r.p)) = true) :: ((decide (r.p ≤ 300)) = false) :: []) := by kernel_rfl
set_option maxRecDepth 1000000 in
theorem vr4 (r : Rw) : zflat (zans Try.prog tab ftab cVc fVr [rD r] [(5, .b true), (9, .b true), (14, .b true), (19, .b true), (24, .b false)]) = some (.bool false, ((vc r.x) = true) :: ((vc r.y) = true) :: ((decide (0 ≤ r.p)) = true) :: ((decide (r.p ≤ 300)) = true) :: ((decide (1 ≤ r.c)) = false) :: []) := by kernel_rfl
set_option maxRecDepth 1000000 in
theorem vr5 (r : Rw) : zflat (zans Try.prog tab ftab cVc fVr [rD r] [(5, .b true), (9, .b true), (14, .b true), (19, .b true), (24, .b true)]) = some (.bool (decide (r.c ≤ 64)), ((vc r.x) = true) :: ((vc r.y) = true) :: ((decide (0 ≤ r.p)) = true) :: ((decide (r.p ≤ 300)) = true) :: ((decide (1 ≤ r.c)) = true) :: []) := by kernel_rfl
theorem vr_ans (r : Rw) : Ans Try.prog fVr [rD r] (.bool (vr r)) ⟨0, [], []⟩ := by
  unfold vr inB
  cases h0 : vc r.x with
  | false => exact zflat_ok tab_ok mixed fun_ok cVc_ok (vr0 r) (.cons h0 .nil)
  | true =>
    cases h1 : vc r.y with
    | false => exact zflat_ok tab_ok mixed fun_ok cVc_ok (vr1 r) (.cons h0 (.cons h1 .nil))
    | true =>
      cases h2 : decide (0 ≤ r.p) with
      | false => exact zflat_ok tab_ok mixed fun_ok cVc_ok (vr2 r) (.cons h0 (.cons h1 (.cons h2 .nil)))
      | true =>
        cases h3 : decide (r.p ≤ 300) with
        | false => exact zflat_ok tab_ok mixed fun_ok cVc_ok (vr3 r) (.cons h0 (.cons h1 (.cons h2 (.cons h3 .nil))))
        | true =>
          cases h4 : decide (1 ≤ r.c) with
          | false => exact zflat_ok tab_ok mixed fun_ok cVc_ok (vr4 r) (.cons h0 (.cons h1 (.cons h2 (.cons h3 (.cons h4 .nil)))))
          | true =>
            exact zflat_ok tab_ok mixed fun_ok cVc_ok (vr5 r) (.cons h0 (.cons h1 (.cons h2 (.cons h3 (.cons h4 .nil)))))
def cVr : ConF := liftC (comC fVr (gR fun r => .bool (vr r)))
theorem cVr_ok : ConOk Try.prog cVr := gR_ok vr_ans
/-! ### The reference's In, Valid -/
abbrev fIn : FuncId := 50
set_option maxRecDepth 1000000 in
theorem in1 (x a b : Int) : zflat (zans Try.prog tab ftab noC fIn [iI x, iI a, iI b] [(9, .b false)]) = some (.bool false, ((decide (a ≤ x)) = false) :: []) := by kernel_rfl
set_option maxRecDepth 1000000 in
theorem in2 (x a b : Int) : zflat (zans Try.prog tab ftab noC fIn [iI x, iI a, iI b] [(9, .b true)]) = some (.bool (decide (x ≤ b)), ((decide (a ≤ x)) = true) :: []) := by kernel_rfl
theorem in_ans (x a b : Int) : Ans Try.prog fIn [iI x, iI a, iI b] (.bool (inB x a b)) ⟨0, [], []⟩ := by
  unfold inB
  cases h : decide (a ≤ x) with
  | true => exact zflat_ok tab_ok mixed fun_ok noC_ok (in2 x a b) (.cons h .nil)
  | false => exact zflat_ok tab_ok mixed fun_ok noC_ok (in1 x a b) (.cons h .nil)
def cIn : ConF := liftC (comC fIn (g3 fun x a b => .bool (inB x a b)))
theorem cIn_ok : ConOk Try.prog cIn := g3_ok in_ans
abbrev fVl : FuncId := 66
set_option maxRecDepth 1000000 in
theorem vl0 (r : Rw) : zflat (zans Try.prog tab ftab cIn fVl [rD r] [(5, .b false)]) = some (.bool false, ((vc r.x) = false) :: []) := by kernel_rfl
set_option maxRecDepth 1000000 in
theorem vl1 (r : Rw) : zflat (zans Try.prog tab ftab cIn fVl [rD r] [(5, .b true), (9, .b false)]) = some (.bool false, ((vc r.x) = true) :: ((vc r.y) = false) :: []) := by kernel_rfl
set_option maxRecDepth 1000000 in
theorem vl2 (r : Rw) : zflat (zans Try.prog tab ftab cIn fVl [rD r] [(5, .b true), (9, .b true), (14, .b false)]) = some (.bool false, ((vc r.x) = true) :: ((vc r.y) = true) :: ((inB r.p 0 300) = false) :: []) := by kernel_rfl
set_option maxRecDepth 1000000 in
theorem vl3 (r : Rw) : zflat (zans Try.prog tab ftab cIn fVl [rD r] [(5, .b true), (9, .b true), (14, .b true)]) = some (.bool (inB r.c 1 64), ((vc r.x) = true) :: ((vc r.y) = true) :: ((inB r.p 0 300) = true) :: []) := by kernel_rfl
theorem vl_ans (r : Rw) : Ans Try.prog fVl [rD r] (.bool (vr r)) ⟨0, [], []⟩ := by
  unfold vr
  cases h0 : vc r.x with
  | false => exact zflat_ok tab_ok mixed fun_ok cIn_ok (vl0 r) (.cons h0 .nil)
  | true =>
    cases h1 : vc r.y with
    | false => exact zflat_ok tab_ok mixed fun_ok cIn_ok (vl1 r) (.cons h0 (.cons h1 .nil))
    | true =>
      cases h2 : inB r.p 0 300 with
      | false => exact zflat_ok tab_ok mixed fun_ok cIn_ok (vl2 r) (.cons h0 (.cons h1 (.cons h2 .nil)))
      | true =>
        exact zflat_ok tab_ok mixed fun_ok cIn_ok (vl3 r) (.cons h0 (.cons h1 (.cons h2 .nil)))
def cVl : ConF := liftC (comC fVl (gR fun r => .bool (vr r)))
theorem cVl_ok : ConOk Try.prog cVl := gR_ok vl_ans
/-! ### All of n -/
def allB : Nat → (Nat → Bool) → Bool
  | 0, _ => true
  | n + 1, ok => allB n ok && ok n
theorem allB_t {ok : Nat → Bool} : ∀ {n : Nat}, allB n ok = true ↔ ∀ k, k < n → ok k = true
  | 0 => ⟨fun _ k h => by omega, fun _ => rfl⟩
  | n + 1 => by
    rw [allB, Bool.and_eq_true, allB_t]
    constructor
    · rintro ⟨h1, h2⟩ k hk
      rcases Nat.lt_or_ge k n with h | h
      · exact h1 k h
      · rw [show k = n by omega]
        exact h2
    · exact fun h => ⟨fun k hk => h k (by omega), h n (by omega)⟩
theorem allB_f {ok : Nat → Bool} : ∀ {n : Nat}, allB n ok = false → ∃ k, k < n ∧ ok k = false ∧ ∀ j, j < k → ok j = true
  | 0, h => by cases h
  | n + 1, h => by
    rw [allB] at h
    cases hb : allB n ok with
    | false =>
      obtain ⟨k, h1, h2⟩ := allB_f hb
      exact ⟨k, by omega, h2⟩
    | true =>
      rw [hb, Bool.true_and] at h
      exact ⟨n, by omega, h, allB_t.1 hb⟩
section
variable {P : Program} {T : Tab}
/-- a loop that ends at the first that is not right -/
theorem scan_f {ks : List (Nat × Nat)} {x : Code} {n : Nat} {ok : Nat → Bool} {S : Nat → Slots} {H : Hp} {e2 : Ex} {s2 : Slots} {h2 : Hp} (hne : e2 ≠ .normal) (hgo : ∀ k, k < n → ok k = true → Goes P T ks x (S k) H .normal (S (k + 1)) H)
    (hbad : ∀ k, k < n → ok k = false → Goes P T ks x (S k) H e2 s2 h2) (h : allB n ok = false) : Goes P T ks (.loop x) (S 0) H e2 s2 h2 := by
  obtain ⟨k, h1, h3, h4⟩ := allB_f h
  exact Goes.loop k S (fun _ => H) (fun j hj => hgo j (by omega) (h4 j hj)) (hbad k h1 h3) hne
theorem scan_t {ks : List (Nat × Nat)} {x : Code} {n : Nat} {ok : Nat → Bool} {S : Nat → Slots} {H : Hp} {e1 : Ex} {s1 : Slots} {h1 : Hp} (hne : e1 ≠ .normal) (hgo : ∀ k, k < n → ok k = true → Goes P T ks x (S k) H .normal (S (k + 1)) H)
    (hend : Goes P T ks x (S n) H e1 s1 h1) (h : allB n ok = true) : Goes P T ks (.loop x) (S 0) H e1 s1 h1 :=
  Goes.loop n S (fun _ => H) (fun j hj => hgo j hj (allB_t.1 h j hj)) hend hne
end
theorem flatIn_nil (hp : Hp) : FlatIn [] hp := fun id o h _ => by cases h
theorem get_in {α : Type} {l : List α} {k : Nat} (d : α) (h : k < l.length) : l[k]? = some (l.getD k d) := by
  rw [List.getD_eq_getElem?_getD, List.getElem?_eq_getElem h]
  rfl
abbrev wrK (k : Nat) : Prop := DV.int .i64 (IntKind.i64.wrap ((k : Int) + 1)) = iN (k + 1)
theorem wrK_at {k : Nat} (h : k + 1 < 2 ^ 63) : wrK k := congrArg (DV.int .i64) (wrapI (n := k + 1) (by omega))
end
end Go.Proofs.Ytgjgihlfkpbdgaa
/- Rows of shadows; worlds that are valid: contracts. -/
namespace Go.Proofs.Ytgjgihlfkpbdgaa
open Go.RowKit

noncomputable section
/-! ### slices.Min, slices.Max -/
def mnK (l : List Int) : Nat → Int
  | 0 => l.getD 0 0
  | k + 1 => if l.getD (k + 1) 0 < mnK l k then l.getD (k + 1) 0 else mnK l k
def mxK (l : List Int) : Nat → Int
  | 0 => l.getD 0 0
  | k + 1 => if mxK l k < l.getD (k + 1) 0 then l.getD (k + 1) 0 else mxK l k
def rwMn (l : List Int) : Int := mnK l (l.length - 1)
def rwMx (l : List Int) : Int := mxK l (l.length - 1)
theorem mnK_iff (l : List Int) (c : Int) : ∀ k, c ≤ mnK l k ↔ ∀ j, j ≤ k → c ≤ l.getD j 0
  | 0 => ⟨fun h j hj => by rw [show j = 0 by omega]; exact h, fun h => h 0 (by omega)⟩
  | k + 1 => by
    have ih := mnK_iff l c k
    unfold mnK
    constructor
    · intro h j hj
      split at h
      · rcases Nat.lt_or_ge k j with h1 | h1
        · rw [show j = k + 1 by omega]; exact h
        · exact ih.1 (by omega) j h1
      · rcases Nat.lt_or_ge k j with h1 | h1
        · rw [show j = k + 1 by omega]; omega
        · exact ih.1 h j h1
    · intro h
      split
      · exact h (k + 1) (by omega)
      · exact ih.2 fun j hj => h j (by omega)
theorem mxK_iff (l : List Int) (c : Int) : ∀ k, mxK l k ≤ c ↔ ∀ j, j ≤ k → l.getD j 0 ≤ c
  | 0 => ⟨fun h j hj => by rw [show j = 0 by omega]; exact h, fun h => h 0 (by omega)⟩
  | k + 1 => by
    have ih := mxK_iff l c k
    unfold mxK
    constructor
    · intro h j hj
      split at h
      · rcases Nat.lt_or_ge k j with h1 | h1
        · rw [show j = k + 1 by omega]; exact h
        · exact ih.1 (by omega) j h1
      · rcases Nat.lt_or_ge k j with h1 | h1
        · rw [show j = k + 1 by omega]; omega
        · exact ih.1 h j h1
    · intro h
      split
      · exact h (k + 1) (by omega)
      · exact ih.2 fun j hj => h j (by omega)
abbrev fMn : FuncId := 70
abbrev kMn : List (Nat × Nat) := ksF ftab fMn
abbrev rwMnp : Code := loopAt (bodyOf ftab fMn) 0
abbrev mnS (xs : List (List DV)) (m : Int) (k : Nat) : Slots := mkT 25 [(0, .list 1 xs), (3, iI m), (4, iN k)]
set_option maxRecDepth 1000000 in
theorem mn1 (xs : List (List DV)) (m v m2 : Int) (k : Nat) : zsee Try.prog tab ftab noC kMn [0, 3, 4] rwMnp (mnS xs m k) h00 [(15, .b true), (21, .n (.fptr [iI v])), (23, .w (iI m2)), (17, .w (iN (k + 1)))] = some (.normal, mnS xs m2 (k + 1), h00, ((decide ((k : Int) < (xs.length : Int))) = true) :: ((idxOk (k : Int) xs.length) = true) :: (nth xs ((k : Int).toNat) = some [iI v]) :: (DV.int .i64 (if v < m then v else m) = iI m2) :: wrK k :: []) := by kernel_rfl
set_option maxRecDepth 1000000 in
theorem mnO (xs : List (List DV)) (m : Int) (k : Nat) : zsee Try.prog tab ftab noC kMn [3] rwMnp (mnS xs m k) h00 [(15, .b false)] = some (.exit 0, mkT 25 [(3, iI m)], h00, ((decide ((k : Int) < (xs.length : Int))) = false) :: []) := by kernel_rfl
set_option maxRecDepth 1000000 in
theorem mnA (xs : List (List DV)) (v m : Int) : zflat (zans Try.prog tab ftab noC fMn [.list 1 xs] [(7, .b false), (10, .n (.fptr [iI v])), (0, .l [0, 3, 4] (.exit 0) (mkT 25 [(3, iI m)]) h00)]) = some (iI m, ((decide ((xs.length : Int) < 1)) = false) :: ((idxOk 0 xs.length) = true) :: (nth xs ((0 : Int).toNat) = some [iI v]) :: (Goes Try.prog tab kMn (.loop rwMnp) (mnS xs v 1) h00 (.exit 0) (mkT 25 [(3, iI m)]) h00) :: []) := by kernel_rfl
theorem mn_ans (l : List Int) (h0 : 0 < l.length) (h1 : l.length < 2 ^ 63) : Ans Try.prog fMn [.list 1 (i1 l)] (iI (rwMn l)) ⟨0, [], []⟩ := by
  have hl := i1_length l
  refine zflat_ok tab_ok mixed fun_ok noC_ok (mnA (i1 l) (l.getD 0 0) _) (.cons (decide_eq_false (by omega)) (.cons (idxOk_lt (k := 0) (by omega)) (.cons (i1_at (k := 0) (get_in 0 h0)) (.cons ?_ .nil))))
  exact Goes.loop (l.length - 1) (fun k => mnS (i1 l) (mnK l k) (k + 1)) (fun _ => h00) (fun k hk => zsee_ok tab_ok mixed fun_ok noC_ok (mn1 (i1 l) (mnK l k) (l.getD (k + 1) 0) (mnK l (k + 1)) (k + 1)) (.cons (decide_eq_true (by omega)) (.cons (idxOk_lt (by omega)) (.cons (i1_at (get_in 0 (by omega))) (.cons rfl (.cons (wrK_at (by omega)) .nil))))))
    (zsee_ok tab_ok mixed fun_ok noC_ok (mnO (i1 l) _ (l.length - 1 + 1)) (.cons (decide_eq_false (by omega)) .nil)) (by intro h; cases h)
abbrev Ne : Type := {l : List Int // 0 < l.length ∧ l.length < 2 ^ 63}
def cMn : ConF := liftC (eqC fMn (fun x : Ne => [.list 1 (i1 x.1)]) fun x => (iI (rwMn x.1), ⟨0, [], []⟩))
theorem cMn_ok : ConOk Try.prog cMn := liftC_ok (eqC_ok (fun x => mn_ans x.1 x.2.1 x.2.2) fun _ => rfl)
theorem cMn_at (hp : Hp) (l : List Int) (h0 : 0 < l.length) (h1 : l.length < 2 ^ 63) : cMn fMn [.list 1 (i1 l)] hp = some (iI (rwMn l), hp, none) :=
  lift_at (A := fun x : Ne => [.list 1 (i1 x.1)]) (D := fun x => iI (rwMn x.1)) (fun x y h => by
    simp only [List.cons.injEq, DV.list.injEq, true_and, and_true] at h
    rw [i1_inj h]) hp ⟨l, h0, h1⟩ rfl rfl
abbrev fMx : FuncId := 71
abbrev kMx : List (Nat × Nat) := ksF ftab fMx
abbrev rwMxp : Code := loopAt (bodyOf ftab fMx) 0
abbrev mxS (xs : List (List DV)) (m : Int) (k : Nat) : Slots := mkT 25 [(0, .list 1 xs), (3, iI m), (4, iN k)]
set_option maxRecDepth 1000000 in
theorem mx1 (xs : List (List DV)) (m v m2 : Int) (k : Nat) : zsee Try.prog tab ftab noC kMx [0, 3, 4] rwMxp (mxS xs m k) h00 [(15, .b true), (21, .n (.fptr [iI v])), (23, .w (iI m2)), (17, .w (iN (k + 1)))] = some (.normal, mxS xs m2 (k + 1), h00, ((decide ((k : Int) < (xs.length : Int))) = true) :: ((idxOk (k : Int) xs.length) = true) :: (nth xs ((k : Int).toNat) = some [iI v]) :: (DV.int .i64 (if m < v then v else m) = iI m2) :: wrK k :: []) := by kernel_rfl
set_option maxRecDepth 1000000 in
theorem mxO (xs : List (List DV)) (m : Int) (k : Nat) : zsee Try.prog tab ftab noC kMx [3] rwMxp (mxS xs m k) h00 [(15, .b false)] = some (.exit 0, mkT 25 [(3, iI m)], h00, ((decide ((k : Int) < (xs.length : Int))) = false) :: []) := by kernel_rfl
set_option maxRecDepth 1000000 in
theorem mxA (xs : List (List DV)) (v m : Int) : zflat (zans Try.prog tab ftab noC fMx [.list 1 xs] [(7, .b false), (10, .n (.fptr [iI v])), (0, .l [0, 3, 4] (.exit 0) (mkT 25 [(3, iI m)]) h00)]) = some (iI m, ((decide ((xs.length : Int) < 1)) = false) :: ((idxOk 0 xs.length) = true) :: (nth xs ((0 : Int).toNat) = some [iI v]) :: (Goes Try.prog tab kMx (.loop rwMxp) (mxS xs v 1) h00 (.exit 0) (mkT 25 [(3, iI m)]) h00) :: []) := by kernel_rfl
theorem mx_ans (l : List Int) (h0 : 0 < l.length) (h1 : l.length < 2 ^ 63) : Ans Try.prog fMx [.list 1 (i1 l)] (iI (rwMx l)) ⟨0, [], []⟩ := by
  have hl := i1_length l
  refine zflat_ok tab_ok mixed fun_ok noC_ok (mxA (i1 l) (l.getD 0 0) _) (.cons (decide_eq_false (by omega)) (.cons (idxOk_lt (k := 0) (by omega)) (.cons (i1_at (k := 0) (get_in 0 h0)) (.cons ?_ .nil))))
  exact Goes.loop (l.length - 1) (fun k => mxS (i1 l) (mxK l k) (k + 1)) (fun _ => h00) (fun k hk => zsee_ok tab_ok mixed fun_ok noC_ok (mx1 (i1 l) (mxK l k) (l.getD (k + 1) 0) (mxK l (k + 1)) (k + 1)) (.cons (decide_eq_true (by omega)) (.cons (idxOk_lt (by omega)) (.cons (i1_at (get_in 0 (by omega))) (.cons rfl (.cons (wrK_at (by omega)) .nil))))))
    (zsee_ok tab_ok mixed fun_ok noC_ok (mxO (i1 l) _ (l.length - 1 + 1)) (.cons (decide_eq_false (by omega)) .nil)) (by intro h; cases h)
def cMx : ConF := liftC (eqC fMx (fun x : Ne => [.list 1 (i1 x.1)]) fun x => (iI (rwMx x.1), ⟨0, [], []⟩))
theorem cMx_ok : ConOk Try.prog cMx := liftC_ok (eqC_ok (fun x => mx_ans x.1 x.2.1 x.2.2) fun _ => rfl)
theorem cMx_at (hp : Hp) (l : List Int) (h0 : 0 < l.length) (h1 : l.length < 2 ^ 63) : cMx fMx [.list 1 (i1 l)] hp = some (iI (rwMx l), hp, none) :=
  lift_at (A := fun x : Ne => [.list 1 (i1 x.1)]) (D := fun x => iI (rwMx x.1)) (fun x y h => by
    simp only [List.cons.injEq, DV.list.injEq, true_and, and_true] at h
    rw [i1_inj h]) hp ⟨l, h0, h1⟩ rfl rfl
/-! ### validShadow -/
def rowB (n i : Nat) (row : List Int) : Bool := match decide (row.length = n) with
  | true => match decide (row.getD i 0 = 0) with
    | true => allB n fun j => inB (row.getD j 0) 0 600
    | false => false
  | false => false
def shB (n : Nat) (s : List (List Int)) : Bool := match decide (s.length = 0) with
  | true => true
  | false => match decide (s.length = n) with
    | true => allB n fun i => rowB n i (s.getD i [])
    | false => false
def okR (l : List Rw) : Bool := allB l.length fun k => vr (l.getD k ⟨0, 0, 0, 0⟩)
def chk (w : Wd) : Bool := match inB (w.r.length : Int) 1 32 with
  | true => match okR w.r with
    | true => shB w.r.length w.s
    | false => false
  | false => false
def chE (w : Wd) : Int := match chk w with
  | true => 0
  | false => 8
theorem row_mn {n i : Nat} {row : List Int} (h0 : row.length = n) (h1 : row.getD i 0 = 0) (hn : 0 < n) : rowB n i row = match decide (rwMn row < 0) with
    | true => false
    | false => match decide (rwMx row > 600) with
      | true => false
      | false => true := by
  unfold rowB
  rw [decide_eq_true h0, decide_eq_true h1]
  have m1 : 0 ≤ rwMn row ↔ ∀ j, j < n → 0 ≤ row.getD j 0 := by
    unfold rwMn
    rw [mnK_iff]
    exact ⟨fun h j hj => h j (by omega), fun h j hj => h j (by omega)⟩
  have m2 : rwMx row ≤ 600 ↔ ∀ j, j < n → row.getD j 0 ≤ 600 := by
    unfold rwMx
    rw [mxK_iff]
    exact ⟨fun h j hj => h j (by omega), fun h j hj => h j (by omega)⟩
  show allB n (fun j => inB (row.getD j 0) 0 600) = _
  by_cases a : rwMn row < 0
  · rw [decide_eq_true a]
    cases hb : allB n (fun j => inB (row.getD j 0) 0 600) with
    | false => rfl
    | true =>
      have := m1.2 fun j hj => ((inB_iff _ _ _).1 (allB_t.1 hb j hj)).1
      omega
  · rw [decide_eq_false a]
    by_cases c : rwMx row > 600
    · rw [decide_eq_true c]
      cases hb : allB n (fun j => inB (row.getD j 0) 0 600) with
      | false => rfl
      | true =>
        have := m2.2 fun j hj => ((inB_iff _ _ _).1 (allB_t.1 hb j hj)).2
        omega
    · rw [decide_eq_false c]
      exact allB_t.2 fun j hj => (inB_iff _ _ _).2 ⟨m1.1 (by omega) j hj, m2.1 (by omega) j hj⟩
abbrev fVs : FuncId := 57
abbrev kVs : List (Nat × Nat) := ksF ftab fVs
abbrev vsL : Code := loopAt (bodyOf ftab fVs) 0
abbrev vsS (xs : List (List DV)) (n k : Nat) : Slots := mkT 43 [(1, iN n), (14, .list 1 xs), (15, .int .i64 (xs.length : Int)), (16, iN k)]
def cMM : ConF := orK cMn cMx
theorem cMM_ok : ConOk Try.prog cMM := orK_ok cMn_ok cMx_ok
theorem cMM_mn (hp : Hp) (l : List Int) (h0 : 0 < l.length) (h1 : l.length < 2 ^ 63) : cMM fMn [.list 1 (i1 l)] hp = some (iI (rwMn l), hp, none) := orK_left (cMn_at hp l h0 h1)
theorem cMM_mx (hp : Hp) (l : List Int) (h0 : 0 < l.length) (h1 : l.length < 2 ^ 63) : cMM fMx [.list 1 (i1 l)] hp = some (iI (rwMx l), hp, none) := orK_right (lift_oth (eqC_other (by kernel_rfl))) (cMx_at hp l h0 h1)
set_option maxRecDepth 1000000 in
theorem vs1 (C : ConF) (xs ys : List (List DV)) (n k : Nat) (_v _a _c : Int) : zsee Try.prog tab ftab C kVs [4] vsL (vsS xs n k) h00 [(17, .b true), (19, .n (.fptr [.list 1 ys])), (24, .b true)] = some (.ret, mkT 43 [(4, .bool false)], h00, ((decide ((k : Int) < (xs.length : Int))) = true) :: ((idxOk (k : Int) xs.length) = true) :: (nth xs ((k : Int).toNat) = some [.list 1 ys]) :: ((((ys.length : Int) != (n : Int))) = true) :: []) := by kernel_rfl
set_option maxRecDepth 1000000 in
theorem vs2 (C : ConF) (xs ys : List (List DV)) (n k : Nat) (v _a _c : Int) : zsee Try.prog tab ftab C kVs [4] vsL (vsS xs n k) h00 [(17, .b true), (19, .n (.fptr [.list 1 ys])), (24, .b false), (28, .n (.fptr [iI v])), (30, .b true)] = some (.ret, mkT 43 [(4, .bool false)], h00, ((decide ((k : Int) < (xs.length : Int))) = true) :: ((idxOk (k : Int) xs.length) = true) :: (nth xs ((k : Int).toNat) = some [.list 1 ys]) :: ((((ys.length : Int) != (n : Int))) = false) :: ((idxOk (k : Int) ys.length) = true) :: (nth ys ((k : Int).toNat) = some [iI v]) :: (((v != 0)) = true) :: []) := by kernel_rfl
set_option maxRecDepth 1000000 in
theorem vs3 (C : ConF) (xs ys : List (List DV)) (n k : Nat) (v a _c : Int) : zsee Try.prog tab ftab C kVs [4] vsL (vsS xs n k) h00 [(17, .b true), (19, .n (.fptr [.list 1 ys])), (24, .b false), (28, .n (.fptr [iI v])), (30, .b false), (34, .q (iI a)), (35, .b true)] = some (.ret, mkT 43 [(4, .bool false)], h00, ((decide ((k : Int) < (xs.length : Int))) = true) :: ((idxOk (k : Int) xs.length) = true) :: (nth xs ((k : Int).toNat) = some [.list 1 ys]) :: ((((ys.length : Int) != (n : Int))) = false) :: ((idxOk (k : Int) ys.length) = true) :: (nth ys ((k : Int).toNat) = some [iI v]) :: (((v != 0)) = false) :: (C fMn [.list 1 ys] h00 = some (iI a, h00, none)) :: ((decide (a < 0)) = true) :: []) := by kernel_rfl
set_option maxRecDepth 1000000 in
theorem vs4 (C : ConF) (xs ys : List (List DV)) (n k : Nat) (v a c : Int) : zsee Try.prog tab ftab C kVs [4] vsL (vsS xs n k) h00 [(17, .b true), (19, .n (.fptr [.list 1 ys])), (24, .b false), (28, .n (.fptr [iI v])), (30, .b false), (34, .q (iI a)), (35, .b false), (39, .q (iI c)), (40, .b true)] = some (.ret, mkT 43 [(4, .bool false)], h00, ((decide ((k : Int) < (xs.length : Int))) = true) :: ((idxOk (k : Int) xs.length) = true) :: (nth xs ((k : Int).toNat) = some [.list 1 ys]) :: ((((ys.length : Int) != (n : Int))) = false) :: ((idxOk (k : Int) ys.length) = true) :: (nth ys ((k : Int).toNat) = some [iI v]) :: (((v != 0)) = false) :: (C fMn [.list 1 ys] h00 = some (iI a, h00, none)) :: ((decide (a < 0)) = false) :: (C fMx [.list 1 ys] h00 = some (iI c, h00, none)) :: ((decide (c > 600)) = true) :: []) := by kernel_rfl
set_option maxRecDepth 1000000 in
theorem vs5 (C : ConF) (xs ys : List (List DV)) (n k : Nat) (v a c : Int) : zsee Try.prog tab ftab C kVs [1, 14, 15, 16] vsL (vsS xs n k) h00 [(17, .b true), (19, .n (.fptr [.list 1 ys])), (24, .b false), (28, .n (.fptr [iI v])), (30, .b false), (34, .q (iI a)), (35, .b false), (39, .q (iI c)), (40, .b false), (42, .w (iN (k + 1)))] = some (.normal, vsS xs n (k + 1), h00, ((decide ((k : Int) < (xs.length : Int))) = true) :: ((idxOk (k : Int) xs.length) = true) :: (nth xs ((k : Int).toNat) = some [.list 1 ys]) :: ((((ys.length : Int) != (n : Int))) = false) :: ((idxOk (k : Int) ys.length) = true) :: (nth ys ((k : Int).toNat) = some [iI v]) :: (((v != 0)) = false) :: (C fMn [.list 1 ys] h00 = some (iI a, h00, none)) :: ((decide (a < 0)) = false) :: (C fMx [.list 1 ys] h00 = some (iI c, h00, none)) :: ((decide (c > 600)) = false) :: wrK k :: []) := by kernel_rfl
set_option maxRecDepth 1000000 in
theorem vsO (C : ConF) (xs : List (List DV)) (n k : Nat) : zsee Try.prog tab ftab C kVs [] vsL (vsS xs n k) h00 [(17, .b false)] = some (.exit 0, mkT 43 [], h00, ((decide ((k : Int) < (xs.length : Int))) = false) :: []) := by kernel_rfl
set_option maxRecDepth 1000000 in
theorem vsA (C : ConF) (xs : List (List DV)) (n : Nat) : zflat (zans Try.prog tab ftab C fVs [.list 1 xs, iN n] [(9, .b true)]) = some (.bool true, ((((xs.length : Int) == 0)) = true) :: []) := by kernel_rfl
set_option maxRecDepth 1000000 in
theorem vsB (C : ConF) (xs : List (List DV)) (n : Nat) : zflat (zans Try.prog tab ftab C fVs [.list 1 xs, iN n] [(9, .b false), (13, .b true)]) = some (.bool false, ((((xs.length : Int) == 0)) = false) :: ((((xs.length : Int) != (n : Int))) = true) :: []) := by kernel_rfl
set_option maxRecDepth 1000000 in
theorem vsC (C : ConF) (xs : List (List DV)) (n : Nat) : zflat (zans Try.prog tab ftab C fVs [.list 1 xs, iN n] [(9, .b false), (13, .b false), (0, .l [1, 14, 15, 16] .ret (mkT 43 [(4, .bool false)]) h00)]) = some (.bool false, ((((xs.length : Int) == 0)) = false) :: ((((xs.length : Int) != (n : Int))) = false) :: (Goes Try.prog tab kVs (.loop vsL) (vsS xs n 0) h00 .ret (mkT 43 [(4, .bool false)]) h00) :: []) := by kernel_rfl
set_option maxRecDepth 1000000 in
theorem vsD (C : ConF) (xs : List (List DV)) (n : Nat) : zflat (zans Try.prog tab ftab C fVs [.list 1 xs, iN n] [(9, .b false), (13, .b false), (0, .l [1, 14, 15, 16] (.exit 0) (mkT 43 []) h00)]) = some (.bool true, ((((xs.length : Int) == 0)) = false) :: ((((xs.length : Int) != (n : Int))) = false) :: (Goes Try.prog tab kVs (.loop vsL) (vsS xs n 0) h00 (.exit 0) (mkT 43 []) h00) :: []) := by kernel_rfl
theorem neT {a b : Nat} (h : a ≠ b) : ((a : Int) != (b : Int)) = true := bne_iff_ne.2 (by omega)
theorem neF {a b : Nat} (h : a = b) : ((a : Int) != (b : Int)) = false := by rw [h]; simp
theorem eqT {a b : Nat} (h : a = b) : ((a : Int) == (b : Int)) = true := by rw [h]; simp
theorem eqF {a b : Nat} (h : a ≠ b) : ((a : Int) == (b : Int)) = false := beq_eq_false_iff_ne.2 (by omega)
section
variable (s : List (List Int)) (n : Nat) (hn : s.length = n) (hl : n < 2 ^ 63) (hr : ∀ l ∈ s, l.length < 2 ^ 63)
include hn hl hr
theorem vs_go (k : Nat) (hk : k < n) (h : rowB n k (s.getD k []) = true) : Goes Try.prog tab kVs vsL (vsS (ssR s) n k) h00 .normal (vsS (ssR s) n (k + 1)) h00 := by
  have _ := hl
  have e := ssR_length s
  have hg := get_in (l := s) (k := k) ([] : List Int) (by omega)
  generalize s.getD k [] = row at h hg
  have hrow := hr row (List.mem_of_getElem? hg)
  have h1 : row.length = n := by
    unfold rowB at h
    by_cases q : row.length = n
    · exact q
    · rw [decide_eq_false q] at h; cases h
  have h2 : row.getD k 0 = 0 := by
    unfold rowB at h
    rw [decide_eq_true h1] at h
    by_cases q : row.getD k 0 = 0
    · exact q
    · rw [decide_eq_false q] at h; cases h
  rw [row_mn h1 h2 (by omega)] at h
  have hm : ¬ rwMn row < 0 := fun q => by rw [decide_eq_true q] at h; cases h
  rw [decide_eq_false hm] at h
  have hx : ¬ rwMx row > 600 := fun q => by rw [decide_eq_true q] at h; cases h
  have hv := i1_at (get_in (0 : Int) (show k < row.length by omega))
  rw [h2] at hv
  have e1 := i1_length row
  exact zsee_ok tab_ok mixed fun_ok cMM_ok (vs5 cMM (ssR s) (i1 row) n k 0 (rwMn row) (rwMx row)) (.cons (decide_eq_true (by omega)) (.cons (idxOk_lt (by omega)) (.cons (ssR_at hg) (.cons (neF (by omega)) (.cons (idxOk_lt (by omega)) (.cons hv (.cons rfl (.cons (cMM_mn _ _ (by omega) hrow) (.cons (decide_eq_false hm) (.cons (cMM_mx _ _ (by omega) hrow) (.cons (decide_eq_false hx) (.cons (wrK_at (by omega)) .nil))))))))))))
theorem vs_bad (k : Nat) (hk : k < n) (h : rowB n k (s.getD k []) = false) : Goes Try.prog tab kVs vsL (vsS (ssR s) n k) h00 .ret (mkT 43 [(4, .bool false)]) h00 := by
  have e := ssR_length s
  have hg := get_in (l := s) (k := k) ([] : List Int) (by omega)
  generalize s.getD k [] = row at h hg
  have hrow := hr row (List.mem_of_getElem? hg)
  have e1 := i1_length row
  have lt : decide ((k : Int) < ((ssR s).length : Int)) = true := decide_eq_true (by omega)
  have ix : idxOk (k : Int) (ssR s).length = true := idxOk_lt (by omega)
  by_cases h1 : row.length = n
  · have hv := i1_at (get_in (0 : Int) (show k < row.length by omega))
    have ix2 : idxOk (k : Int) (i1 row).length = true := idxOk_lt (by omega)
    by_cases h2 : row.getD k 0 = 0
    · rw [row_mn h1 h2 (by omega)] at h
      have hz : (row.getD k 0 != 0) = false := by rw [h2]; rfl
      have a4 := cMM_mn h00 row (by omega) hrow
      by_cases hm : rwMn row < 0
      · exact zsee_ok tab_ok mixed fun_ok cMM_ok (vs3 cMM (ssR s) (i1 row) n k (row.getD k 0) (rwMn row) 0) (.cons lt (.cons ix (.cons (ssR_at hg) (.cons (neF (by omega)) (.cons ix2 (.cons hv (.cons hz (.cons a4 (.cons (decide_eq_true hm) .nil)))))))))
      · rw [decide_eq_false hm] at h
        have hx : rwMx row > 600 := by
          by_cases q : rwMx row > 600
          · exact q
          · rw [decide_eq_false q] at h; cases h
        exact zsee_ok tab_ok mixed fun_ok cMM_ok (vs4 cMM (ssR s) (i1 row) n k (row.getD k 0) (rwMn row) (rwMx row)) (.cons lt (.cons ix (.cons (ssR_at hg) (.cons (neF (by omega)) (.cons ix2 (.cons hv (.cons hz (.cons a4 (.cons (decide_eq_false hm) (.cons (cMM_mx _ _ (by omega) hrow) (.cons (decide_eq_true hx) .nil)))))))))))
    · exact zsee_ok tab_ok mixed fun_ok cMM_ok (vs2 cMM (ssR s) (i1 row) n k (row.getD k 0) 0 0) (.cons lt (.cons ix (.cons (ssR_at hg) (.cons (neF (by omega)) (.cons ix2 (.cons hv (.cons (bne_iff_ne.2 h2) .nil)))))))
  · exact zsee_ok tab_ok mixed fun_ok cMM_ok (vs1 cMM (ssR s) (i1 row) n k 0 0 0) (.cons lt (.cons ix (.cons (ssR_at hg) (.cons (neT (by omega)) .nil))))
end
theorem vs_ans (s : List (List Int)) (n : Nat) (hl : n < 2 ^ 63) (hr : ∀ l ∈ s, l.length < 2 ^ 63) : Ans Try.prog fVs [.list 1 (ssR s), iN n] (.bool (shB n s)) ⟨0, [], []⟩ := by
  have e := ssR_length s
  unfold shB
  by_cases h0 : s.length = 0
  · rw [decide_eq_true h0]
    exact zflat_ok tab_ok mixed fun_ok cMM_ok (vsA cMM (ssR s) n) (.cons (eqT (b := 0) (by omega)) .nil)
  · rw [decide_eq_false h0]
    have z : (((ssR s).length : Int) == 0) = false := eqF (b := 0) (by omega)
    by_cases h1 : s.length = n
    · rw [decide_eq_true h1]
      have z1 : (((ssR s).length : Int) != (n : Int)) = false := neF (by omega)
      show Ans Try.prog fVs [.list 1 (ssR s), iN n] (.bool (allB n fun i => rowB n i (s.getD i []))) ⟨0, [], []⟩
      cases hb : allB n fun i => rowB n i (s.getD i []) with
      | true => exact zflat_ok tab_ok mixed fun_ok cMM_ok (vsD cMM (ssR s) n) (.cons z (.cons z1 (.cons (scan_t (S := fun k => vsS (ssR s) n k) (by intro h; cases h) (vs_go s n h1 hl hr) (zsee_ok tab_ok mixed fun_ok cMM_ok (vsO cMM (ssR s) n n) (.cons (decide_eq_false (by omega)) .nil)) hb) .nil)))
      | false => exact zflat_ok tab_ok mixed fun_ok cMM_ok (vsC cMM (ssR s) n) (.cons z (.cons z1 (.cons (scan_f (S := fun k => vsS (ssR s) n k) (by intro h; cases h) (vs_go s n h1 hl hr) (vs_bad s n h1 hl hr) hb) .nil)))
    · rw [decide_eq_false h1]
      exact zflat_ok tab_ok mixed fun_ok cMM_ok (vsB cMM (ssR s) n) (.cons z (.cons (neT (by omega)) .nil))
/-! ### Check -/
abbrev fCk : FuncId := 34
abbrev kCk : List (Nat × Nat) := ksF ftab fCk
abbrev ckL : Code := loopAt (bodyOf ftab fCk) 0
abbrev oW (w : Wd) : Ob := ⟨0, 0, 25, wdC w⟩
abbrev oRd (r : Rw) : Ob := ⟨0, 0, 64, rC r⟩
abbrev hW (w : Wd) : Hp := ⟨1, [oW w], []⟩
abbrev ckS (w : Wd) (k : Nat) : Slots := mkT 33 [(1, .ptr 0 0), (16, .list 4 (rsR w.r)), (17, .int .i64 ((rsR w.r).length : Int)), (18, iN k)]
set_option maxRecDepth 1000000 in
theorem ck1 (w : Wd) (r : Rw) (k : Nat) : zgm [0] [] (zsee Try.prog tab ftab cVr kCk [1, 16, 17, 18] ckL (ckS w k) (hW w) [(19, .b true), (20, .n (.fptr (rC r))), (24, .b false), (25, .w (iN (k + 1)))]) = some (.normal, ckS w (k + 1), hW w, FlatIn [] ⟨2, [oRd r, oW w], []⟩ :: ((decide ((k : Int) < ((rsR w.r).length : Int))) = true) :: ((idxOk (k : Int) (rsR w.r).length) = true) :: (nth (rsR w.r) ((k : Int).toNat) = some (rC r)) :: (((!vr r)) = false) :: wrK k :: []) := by kernel_rfl
set_option maxRecDepth 1000000 in
theorem ck2 (w : Wd) (r : Rw) (k : Nat) : zgm [] [] (zsee Try.prog tab ftab cVr kCk [2] ckL (ckS w k) (hW w) [(19, .b true), (20, .n (.fptr (rC r))), (24, .b true)]) = some (.ret, mkT 33 [(2, iI 8)], h00, FlatIn [] ⟨2, [oRd r, oW w], []⟩ :: ((decide ((k : Int) < ((rsR w.r).length : Int))) = true) :: ((idxOk (k : Int) (rsR w.r).length) = true) :: (nth (rsR w.r) ((k : Int).toNat) = some (rC r)) :: (((!vr r)) = true) :: []) := by kernel_rfl
set_option maxRecDepth 1000000 in
theorem ckO (w : Wd) (k : Nat) : zsee Try.prog tab ftab cVr kCk [1] ckL (ckS w k) (hW w) [(19, .b false)] = some (.exit 0, mkT 33 [(1, .ptr 0 0)], hW w, ((decide ((k : Int) < ((rsR w.r).length : Int))) = false) :: []) := by kernel_rfl
set_option maxRecDepth 1000000 in
theorem ckA (C : ConF) (w : Wd) : zflat (zans Try.prog tab ftab C fCk [wdD w] [(10, .b true)]) = some (iI 8, ((decide (((rsR w.r).length : Int) < 1)) = true) :: []) := by kernel_rfl
set_option maxRecDepth 1000000 in
theorem ckB (C : ConF) (w : Wd) : zflat (zans Try.prog tab ftab C fCk [wdD w] [(10, .b false), (13, .b true)]) = some (iI 8, ((decide (((rsR w.r).length : Int) < 1)) = false) :: ((decide (((rsR w.r).length : Int) > 32)) = true) :: []) := by kernel_rfl
set_option maxRecDepth 1000000 in
theorem ckC (C : ConF) (w : Wd) : zflat (zans Try.prog tab ftab C fCk [wdD w] [(10, .b false), (13, .b false), (0, .l [1, 16, 17, 18] .ret (mkT 33 [(2, iI 8)]) h00)]) = some (iI 8, ((decide (((rsR w.r).length : Int) < 1)) = false) :: ((decide (((rsR w.r).length : Int) > 32)) = false) :: (Goes Try.prog tab kCk (.loop ckL) (ckS w 0) (hW w) .ret (mkT 33 [(2, iI 8)]) h00) :: []) := by kernel_rfl
set_option maxRecDepth 1000000 in
theorem ckD (C : ConF) (w : Wd) : zflat (zans Try.prog tab ftab C fCk [wdD w] [(10, .b false), (13, .b false), (0, .l [1, 16, 17, 18] (.exit 0) (mkT 33 [(1, .ptr 0 0)]) (hW w)), (31, .q (.bool true))]) = some (iI 0, ((decide (((rsR w.r).length : Int) < 1)) = false) :: ((decide (((rsR w.r).length : Int) > 32)) = false) :: (Goes Try.prog tab kCk (.loop ckL) (ckS w 0) (hW w) (.exit 0) (mkT 33 [(1, .ptr 0 0)]) (hW w)) :: (C fVs [.list 1 (ssR w.s), .int .i64 ((rsR w.r).length : Int)] (hW w) = some (.bool true, hW w, none)) :: []) := by kernel_rfl
set_option maxRecDepth 1000000 in
theorem ckE (C : ConF) (w : Wd) : zflat (zans Try.prog tab ftab C fCk [wdD w] [(10, .b false), (13, .b false), (0, .l [1, 16, 17, 18] (.exit 0) (mkT 33 [(1, .ptr 0 0)]) (hW w)), (31, .q (.bool false))]) = some (iI 8, ((decide (((rsR w.r).length : Int) < 1)) = false) :: ((decide (((rsR w.r).length : Int) > 32)) = false) :: (Goes Try.prog tab kCk (.loop ckL) (ckS w 0) (hW w) (.exit 0) (mkT 33 [(1, .ptr 0 0)]) (hW w)) :: (C fVs [.list 1 (ssR w.s), .int .i64 ((rsR w.r).length : Int)] (hW w) = some (.bool false, hW w, none)) :: []) := by kernel_rfl
theorem ck_go (w : Wd) (hl : w.r.length < 2 ^ 63) (k : Nat) (hk : k < w.r.length) (h : vr (w.r.getD k ⟨0, 0, 0, 0⟩) = true) : Goes Try.prog tab kCk ckL (ckS w k) (hW w) .normal (ckS w (k + 1)) (hW w) := by
  have e := rsR_length w.r
  exact zgm_ok tab_ok mixed fun_ok cVr_ok (ck1 w (w.r.getD k ⟨0, 0, 0, 0⟩) k) (.cons (flatIn_nil _) (.cons (decide_eq_true (by omega)) (.cons (idxOk_lt (by omega)) (.cons (rsR_at (get_in _ hk)) (.cons (by rw [h]; rfl) (.cons (wrK_at (by omega)) .nil))))))
theorem ck_bad (w : Wd) (k : Nat) (hk : k < w.r.length) (h : vr (w.r.getD k ⟨0, 0, 0, 0⟩) = false) : Goes Try.prog tab kCk ckL (ckS w k) (hW w) .ret (mkT 33 [(2, iI 8)]) h00 := by
  have e := rsR_length w.r
  exact zgm_ok tab_ok mixed fun_ok cVr_ok (ck2 w (w.r.getD k ⟨0, 0, 0, 0⟩) k) (.cons (flatIn_nil _) (.cons (decide_eq_true (by omega)) (.cons (idxOk_lt (by omega)) (.cons (rsR_at (get_in _ hk)) (.cons (by rw [h]; rfl) .nil)))))
theorem ck_ans (w : Wd) (ok : OkW w) : Ans Try.prog fCk [wdD w] (iI (chE w)) ⟨0, [], []⟩ := by
  have e := rsR_length w.r
  have hl := ok.r
  unfold chE chk inB
  by_cases h1 : (1 : Int) ≤ w.r.length
  · have l0 : decide (((rsR w.r).length : Int) < 1) = false := decide_eq_false (by omega)
    rw [decide_eq_true h1]
    by_cases h2 : (w.r.length : Int) ≤ 32
    · have l1 : decide (((rsR w.r).length : Int) > 32) = false := decide_eq_false (by omega)
      rw [decide_eq_true h2]
      cases hb : okR w.r with
      | false => exact zflat_ok tab_ok mixed fun_ok cVr_ok (ckC cVr w) (.cons l0 (.cons l1 (.cons (scan_f (S := fun k => ckS w k) (by intro h; cases h) (ck_go w hl) (ck_bad w) hb) .nil)))
      | true =>
        have g : Goes Try.prog tab kCk (.loop ckL) (ckS w 0) (hW w) (.exit 0) (mkT 33 [(1, .ptr 0 0)]) (hW w) := scan_t (S := fun k => ckS w k) (by intro h; cases h) (ck_go w hl) (zsee_ok tab_ok mixed fun_ok cVr_ok (ckO w w.r.length) (.cons (decide_eq_false (by omega)) .nil)) hb
        have a := vs_ans w.s w.r.length hl ok.row
        rw [← e] at a
        cases hs : shB w.r.length w.s with
        | true =>
          rw [e, hs, ← e] at a
          exact zflat_ok tab_ok mixed fun_ok (calC_ok a) (ckD _ w) (.cons l0 (.cons l1 (.cons g (.cons (calC_at _ rfl rfl) .nil))))
        | false =>
          rw [e, hs, ← e] at a
          exact zflat_ok tab_ok mixed fun_ok (calC_ok a) (ckE _ w) (.cons l0 (.cons l1 (.cons g (.cons (calC_at _ rfl rfl) .nil))))
    · rw [decide_eq_false h2]
      exact zflat_ok tab_ok mixed fun_ok noC_ok (ckB noC w) (.cons l0 (.cons (decide_eq_true (by omega)) .nil))
  · rw [decide_eq_false h1]
    exact zflat_ok tab_ok mixed fun_ok noC_ok (ckA noC w) (.cons (decide_eq_true (by omega)) .nil)
end
end Go.Proofs.Ytgjgihlfkpbdgaa
/- The reference's Check: a contract. -/
namespace Go.Proofs.Ytgjgihlfkpbdgaa
open Go.RowKit

noncomputable section
abbrev fRk : FuncId := 49
abbrev kRk : List (Nat × Nat) := ksF ftab fRk
abbrev rkA : Code := loopAt (bodyOf ftab fRk) 0
abbrev rkB : Code := loopAt (bodyOf ftab fRk) 1
abbrev rkC : Code := loopAt rkB 0
def cIV : ConF := orK cIn cVl
theorem cIV_ok : ConOk Try.prog cIV := orK_ok cIn_ok cVl_ok
abbrev raS (n k : Nat) : Slots := mkT 73 [(1, .ptr 0 0), (3, iN n), (4, iN k)]
abbrev rbS (n k : Nat) : Slots := mkT 73 [(1, .ptr 0 0), (3, iN n), (5, iN k)]
abbrev rcS (n k j : Nat) : Slots := mkT 73 [(1, .ptr 0 0), (3, iN n), (5, iN k), (6, iN j)]
abbrev rE : Slots := mkT 73 [(2, iI 8)]
set_option maxRecDepth 1000000 in
theorem ra1 (w : Wd) (r : Rw) (n k : Nat) : zsee Try.prog tab ftab cIV kRk [1, 3, 4] rkA (raS n k) (hW w) [(15, .b true), (21, .n (.fptr (rC r))), (24, .b false), (17, .w (iN (k + 1)))] = some (.normal, raS n (k + 1), hW w, ((decide ((k : Int) < (n : Int))) = true) :: ((idxOk (k : Int) (rsR w.r).length) = true) :: (nth (rsR w.r) ((k : Int).toNat) = some (rC r)) :: (((!vr r)) = false) :: wrK k :: []) := by kernel_rfl
set_option maxRecDepth 1000000 in
theorem ra2 (w : Wd) (r : Rw) (n k : Nat) : zsee Try.prog tab ftab cIV kRk [2] rkA (raS n k) (hW w) [(15, .b true), (21, .n (.fptr (rC r))), (24, .b true)] = some (.ret, rE, hW w, ((decide ((k : Int) < (n : Int))) = true) :: ((idxOk (k : Int) (rsR w.r).length) = true) :: (nth (rsR w.r) ((k : Int).toNat) = some (rC r)) :: (((!vr r)) = true) :: []) := by kernel_rfl
set_option maxRecDepth 1000000 in
theorem raO (w : Wd) (n k : Nat) : zsee Try.prog tab ftab cIV kRk [1, 3] rkA (raS n k) (hW w) [(15, .b false)] = some (.exit 0, mkT 73 [(1, .ptr 0 0), (3, iN n)], hW w, ((decide ((k : Int) < (n : Int))) = false) :: []) := by kernel_rfl
set_option maxRecDepth 1000000 in
theorem rc1 (w : Wd) (ys : List (List DV)) (n k j : Nat) (v : Int) : zsee Try.prog tab ftab cIV kRk [1, 3, 5, 6] rkC (rcS n k j) (hW w) [(60, .b true), (66, .n (.fptr [.list 1 ys])), (69, .n (.fptr [iI v])), (72, .b false), (62, .w (iN (j + 1)))] = some (.normal, rcS n k (j + 1), hW w, ((decide ((j : Int) < (n : Int))) = true) :: ((idxOk (k : Int) (ssR w.s).length) = true) :: (nth (ssR w.s) ((k : Int).toNat) = some [.list 1 ys]) :: ((idxOk (j : Int) ys.length) = true) :: (nth ys ((j : Int).toNat) = some [iI v]) :: (((!inB v 0 600)) = false) :: wrK j :: []) := by kernel_rfl
set_option maxRecDepth 1000000 in
theorem rc2 (w : Wd) (ys : List (List DV)) (n k j : Nat) (v : Int) : zsee Try.prog tab ftab cIV kRk [2] rkC (rcS n k j) (hW w) [(60, .b true), (66, .n (.fptr [.list 1 ys])), (69, .n (.fptr [iI v])), (72, .b true)] = some (.ret, rE, hW w, ((decide ((j : Int) < (n : Int))) = true) :: ((idxOk (k : Int) (ssR w.s).length) = true) :: (nth (ssR w.s) ((k : Int).toNat) = some [.list 1 ys]) :: ((idxOk (j : Int) ys.length) = true) :: (nth ys ((j : Int).toNat) = some [iI v]) :: (((!inB v 0 600)) = true) :: []) := by kernel_rfl
set_option maxRecDepth 1000000 in
theorem rcO (w : Wd) (n k j : Nat) : zsee Try.prog tab ftab cIV kRk [1, 3, 5] rkC (rcS n k j) (hW w) [(60, .b false)] = some (.exit 4, rbS n k, hW w, ((decide ((j : Int) < (n : Int))) = false) :: []) := by kernel_rfl
set_option maxRecDepth 1000000 in
theorem rb1 (w : Wd) (ys : List (List DV)) (n k : Nat) (_v : Int) : zsee Try.prog tab ftab cIV kRk [2] rkB (rbS n k) (hW w) [(36, .b true), (42, .n (.fptr [.list 1 ys])), (46, .b true)] = some (.ret, rE, hW w, ((decide ((k : Int) < (n : Int))) = true) :: ((idxOk (k : Int) (ssR w.s).length) = true) :: (nth (ssR w.s) ((k : Int).toNat) = some [.list 1 ys]) :: ((((ys.length : Int) != (n : Int))) = true) :: []) := by kernel_rfl
set_option maxRecDepth 1000000 in
theorem rb2 (w : Wd) (ys : List (List DV)) (n k : Nat) (v : Int) : zsee Try.prog tab ftab cIV kRk [2] rkB (rbS n k) (hW w) [(36, .b true), (42, .n (.fptr [.list 1 ys])), (46, .b false), (51, .n (.fptr [.list 1 ys])), (54, .n (.fptr [iI v])), (56, .b true)] = some (.ret, rE, hW w, ((decide ((k : Int) < (n : Int))) = true) :: ((idxOk (k : Int) (ssR w.s).length) = true) :: (nth (ssR w.s) ((k : Int).toNat) = some [.list 1 ys]) :: ((((ys.length : Int) != (n : Int))) = false) :: ((idxOk (k : Int) (ssR w.s).length) = true) :: (nth (ssR w.s) ((k : Int).toNat) = some [.list 1 ys]) :: ((idxOk (k : Int) ys.length) = true) :: (nth ys ((k : Int).toNat) = some [iI v]) :: (((v != 0)) = true) :: []) := by kernel_rfl
set_option maxRecDepth 1000000 in
theorem rb3 (w : Wd) (ys : List (List DV)) (n k : Nat) (v : Int) : zsee Try.prog tab ftab cIV kRk [2] rkB (rbS n k) (hW w) [(36, .b true), (42, .n (.fptr [.list 1 ys])), (46, .b false), (51, .n (.fptr [.list 1 ys])), (54, .n (.fptr [iI v])), (56, .b false), (0, .l [1, 3, 5, 6] .ret rE (hW w))] = some (.ret, rE, hW w, ((decide ((k : Int) < (n : Int))) = true) :: ((idxOk (k : Int) (ssR w.s).length) = true) :: (nth (ssR w.s) ((k : Int).toNat) = some [.list 1 ys]) :: ((((ys.length : Int) != (n : Int))) = false) :: ((idxOk (k : Int) (ssR w.s).length) = true) :: (nth (ssR w.s) ((k : Int).toNat) = some [.list 1 ys]) :: ((idxOk (k : Int) ys.length) = true) :: (nth ys ((k : Int).toNat) = some [iI v]) :: (((v != 0)) = false) :: (Goes Try.prog tab kRk (.loop rkC) (rcS n k 0) (hW w) .ret rE (hW w)) :: []) := by kernel_rfl
set_option maxRecDepth 1000000 in
theorem rb4 (w : Wd) (ys : List (List DV)) (n k : Nat) (v : Int) : zsee Try.prog tab ftab cIV kRk [1, 3, 5] rkB (rbS n k) (hW w) [(36, .b true), (42, .n (.fptr [.list 1 ys])), (46, .b false), (51, .n (.fptr [.list 1 ys])), (54, .n (.fptr [iI v])), (56, .b false), (0, .l [1, 3, 5, 6] (.exit 4) (rbS n k) (hW w)), (38, .w (iN (k + 1)))] = some (.normal, rbS n (k + 1), hW w, ((decide ((k : Int) < (n : Int))) = true) :: ((idxOk (k : Int) (ssR w.s).length) = true) :: (nth (ssR w.s) ((k : Int).toNat) = some [.list 1 ys]) :: ((((ys.length : Int) != (n : Int))) = false) :: ((idxOk (k : Int) (ssR w.s).length) = true) :: (nth (ssR w.s) ((k : Int).toNat) = some [.list 1 ys]) :: ((idxOk (k : Int) ys.length) = true) :: (nth ys ((k : Int).toNat) = some [iI v]) :: (((v != 0)) = false) :: (Goes Try.prog tab kRk (.loop rkC) (rcS n k 0) (hW w) (.exit 4) (rbS n k) (hW w)) :: wrK k :: []) := by kernel_rfl
set_option maxRecDepth 1000000 in
theorem rbO (w : Wd) (n k : Nat) : zsee Try.prog tab ftab cIV kRk [] rkB (rbS n k) (hW w) [(36, .b false)] = some (.exit 2, mkT 73 [], hW w, ((decide ((k : Int) < (n : Int))) = false) :: []) := by kernel_rfl
set_option maxRecDepth 1000000 in
theorem rkP1 (w : Wd) : zflat (zans Try.prog tab ftab cIV fRk [wdD w] [(12, .b true)]) = some (iI 8, (((!inB ((rsR w.r).length : Int) 1 32)) = true) :: []) := by kernel_rfl
set_option maxRecDepth 1000000 in
theorem rkP2 (w : Wd) : zflat (zans Try.prog tab ftab cIV fRk [wdD w] [(12, .b false), (0, .l [1, 3, 4] .ret rE (hW w))]) = some (iI 8, (((!inB ((rsR w.r).length : Int) 1 32)) = false) :: (Goes Try.prog tab kRk (.loop rkA) (raS (rsR w.r).length 0) (hW w) .ret rE (hW w)) :: []) := by kernel_rfl
set_option maxRecDepth 1000000 in
theorem rkP3 (w : Wd) : zflat (zans Try.prog tab ftab cIV fRk [wdD w] [(12, .b false), (0, .l [1, 3, 4] (.exit 0) (mkT 73 [(1, .ptr 0 0), (3, iN (rsR w.r).length)]) (hW w)), (28, .b true)]) = some (iI 0, (((!inB ((rsR w.r).length : Int) 1 32)) = false) :: (Goes Try.prog tab kRk (.loop rkA) (raS (rsR w.r).length 0) (hW w) (.exit 0) (mkT 73 [(1, .ptr 0 0), (3, iN (rsR w.r).length)]) (hW w)) :: (((((ssR w.s).length : Int) == 0)) = true) :: []) := by kernel_rfl
set_option maxRecDepth 1000000 in
theorem rkP4 (w : Wd) : zflat (zans Try.prog tab ftab cIV fRk [wdD w] [(12, .b false), (0, .l [1, 3, 4] (.exit 0) (mkT 73 [(1, .ptr 0 0), (3, iN (rsR w.r).length)]) (hW w)), (28, .b false), (33, .b true)]) = some (iI 8, (((!inB ((rsR w.r).length : Int) 1 32)) = false) :: (Goes Try.prog tab kRk (.loop rkA) (raS (rsR w.r).length 0) (hW w) (.exit 0) (mkT 73 [(1, .ptr 0 0), (3, iN (rsR w.r).length)]) (hW w)) :: (((((ssR w.s).length : Int) == 0)) = false) :: (((((ssR w.s).length : Int) != ((rsR w.r).length : Int))) = true) :: []) := by kernel_rfl
set_option maxRecDepth 1000000 in
theorem rkP5 (w : Wd) : zflat (zans Try.prog tab ftab cIV fRk [wdD w] [(12, .b false), (0, .l [1, 3, 4] (.exit 0) (mkT 73 [(1, .ptr 0 0), (3, iN (rsR w.r).length)]) (hW w)), (28, .b false), (33, .b false), (0, .l [1, 3, 5] .ret rE (hW w))]) = some (iI 8, (((!inB ((rsR w.r).length : Int) 1 32)) = false) :: (Goes Try.prog tab kRk (.loop rkA) (raS (rsR w.r).length 0) (hW w) (.exit 0) (mkT 73 [(1, .ptr 0 0), (3, iN (rsR w.r).length)]) (hW w)) :: (((((ssR w.s).length : Int) == 0)) = false) :: (((((ssR w.s).length : Int) != ((rsR w.r).length : Int))) = false) :: (Goes Try.prog tab kRk (.loop rkB) (rbS (rsR w.r).length 0) (hW w) .ret rE (hW w)) :: []) := by kernel_rfl
set_option maxRecDepth 1000000 in
theorem rkP6 (w : Wd) : zflat (zans Try.prog tab ftab cIV fRk [wdD w] [(12, .b false), (0, .l [1, 3, 4] (.exit 0) (mkT 73 [(1, .ptr 0 0), (3, iN (rsR w.r).length)]) (hW w)), (28, .b false), (33, .b false), (0, .l [1, 3, 5] (.exit 2) (mkT 73 []) (hW w))]) = some (iI 0, (((!inB ((rsR w.r).length : Int) 1 32)) = false) :: (Goes Try.prog tab kRk (.loop rkA) (raS (rsR w.r).length 0) (hW w) (.exit 0) (mkT 73 [(1, .ptr 0 0), (3, iN (rsR w.r).length)]) (hW w)) :: (((((ssR w.s).length : Int) == 0)) = false) :: (((((ssR w.s).length : Int) != ((rsR w.r).length : Int))) = false) :: (Goes Try.prog tab kRk (.loop rkB) (rbS (rsR w.r).length 0) (hW w) (.exit 2) (mkT 73 []) (hW w)) :: []) := by kernel_rfl
theorem ra_go (w : Wd) (hl : w.r.length < 2 ^ 63) (k : Nat) (hk : k < w.r.length) (h : vr (w.r.getD k ⟨0, 0, 0, 0⟩) = true) : Goes Try.prog tab kRk rkA (raS w.r.length k) (hW w) .normal (raS w.r.length (k + 1)) (hW w) := by
  have e := rsR_length w.r
  exact zsee_ok tab_ok mixed fun_ok cIV_ok (ra1 w (w.r.getD k ⟨0, 0, 0, 0⟩) w.r.length k) (.cons (decide_eq_true (by omega)) (.cons (idxOk_lt (by omega)) (.cons (rsR_at (get_in _ hk)) (.cons (by rw [h]; rfl) (.cons (wrK_at (by omega)) .nil)))))
theorem ra_bad (w : Wd) (k : Nat) (hk : k < w.r.length) (h : vr (w.r.getD k ⟨0, 0, 0, 0⟩) = false) : Goes Try.prog tab kRk rkA (raS w.r.length k) (hW w) .ret rE (hW w) := by
  have e := rsR_length w.r
  exact zsee_ok tab_ok mixed fun_ok cIV_ok (ra2 w (w.r.getD k ⟨0, 0, 0, 0⟩) w.r.length k) (.cons (decide_eq_true (by omega)) (.cons (idxOk_lt (by omega)) (.cons (rsR_at (get_in _ hk)) (.cons (by rw [h]; rfl) .nil))))
section
variable (w : Wd) (n : Nat) (hn : w.s.length = n) (hl : n < 2 ^ 63)
include hn hl
theorem rc_go (k : Nat) (hk : k < n) (row : List Int) (hg : w.s[k]? = some row) (hrl : row.length = n) (j : Nat) (hj : j < n) (h : inB (row.getD j 0) 0 600 = true) : Goes Try.prog tab kRk rkC (rcS n k j) (hW w) .normal (rcS n k (j + 1)) (hW w) := by
  have e := ssR_length w.s
  have e1 := i1_length row
  exact zsee_ok tab_ok mixed fun_ok cIV_ok (rc1 w (i1 row) n k j (row.getD j 0)) (.cons (decide_eq_true (by omega)) (.cons (idxOk_lt (by omega)) (.cons (ssR_at hg) (.cons (idxOk_lt (by omega)) (.cons (i1_at (get_in 0 (by omega))) (.cons (by rw [h]; rfl) (.cons (wrK_at (by omega)) .nil)))))))
theorem rc_bad (k : Nat) (hk : k < n) (row : List Int) (hg : w.s[k]? = some row) (hrl : row.length = n) (j : Nat) (hj : j < n) (h : inB (row.getD j 0) 0 600 = false) : Goes Try.prog tab kRk rkC (rcS n k j) (hW w) .ret rE (hW w) := by
  have _ := hl
  have e := ssR_length w.s
  have e1 := i1_length row
  exact zsee_ok tab_ok mixed fun_ok cIV_ok (rc2 w (i1 row) n k j (row.getD j 0)) (.cons (decide_eq_true (by omega)) (.cons (idxOk_lt (by omega)) (.cons (ssR_at hg) (.cons (idxOk_lt (by omega)) (.cons (i1_at (get_in 0 (by omega))) (.cons (by rw [h]; rfl) .nil))))))
theorem rb_go (k : Nat) (hk : k < n) (h : rowB n k (w.s.getD k []) = true) : Goes Try.prog tab kRk rkB (rbS n k) (hW w) .normal (rbS n (k + 1)) (hW w) := by
  have e := ssR_length w.s
  have hg := get_in (l := w.s) (k := k) ([] : List Int) (by omega)
  generalize w.s.getD k [] = row at h hg
  have e1 := i1_length row
  unfold rowB at h
  split at h
  · rename_i h1
    have h1 := of_decide_eq_true h1
    split at h
    · rename_i h2
      have h2 := of_decide_eq_true h2
      have hv := i1_at (get_in (0 : Int) (show k < row.length by omega))
      rw [h2] at hv
      have g : Goes Try.prog tab kRk (.loop rkC) (rcS n k 0) (hW w) (.exit 4) (rbS n k) (hW w) := scan_t (S := fun j => rcS n k j) (by intro h; cases h) (fun j hj hh => rc_go w n hn hl k hk row hg h1 j hj hh) (zsee_ok tab_ok mixed fun_ok cIV_ok (rcO w n k n) (.cons (decide_eq_false (by omega)) .nil)) h
      have ix : idxOk (k : Int) (ssR w.s).length = true := idxOk_lt (by omega)
      exact zsee_ok tab_ok mixed fun_ok cIV_ok (rb4 w (i1 row) n k 0) (.cons (decide_eq_true (by omega)) (.cons ix (.cons (ssR_at hg) (.cons (neF (by omega)) (.cons ix (.cons (ssR_at hg) (.cons (idxOk_lt (by omega)) (.cons hv (.cons rfl (.cons g (.cons (wrK_at (by omega)) .nil)))))))))))
    · cases h
  · cases h
theorem rb_bad (k : Nat) (hk : k < n) (h : rowB n k (w.s.getD k []) = false) : Goes Try.prog tab kRk rkB (rbS n k) (hW w) .ret rE (hW w) := by
  have e := ssR_length w.s
  have hg := get_in (l := w.s) (k := k) ([] : List Int) (by omega)
  generalize w.s.getD k [] = row at h hg
  have e1 := i1_length row
  have ix : idxOk (k : Int) (ssR w.s).length = true := idxOk_lt (by omega)
  have lt : decide ((k : Int) < (n : Int)) = true := decide_eq_true (by omega)
  unfold rowB at h
  split at h
  · rename_i h1
    have h1 := of_decide_eq_true h1
    have hv := i1_at (get_in (0 : Int) (show k < row.length by omega))
    have ix2 : idxOk (k : Int) (i1 row).length = true := idxOk_lt (by omega)
    split at h
    · rename_i h2
      have h2 := of_decide_eq_true h2
      have g : Goes Try.prog tab kRk (.loop rkC) (rcS n k 0) (hW w) .ret rE (hW w) := scan_f (S := fun j => rcS n k j) (by intro h; cases h) (fun j hj hh => rc_go w n hn hl k hk row hg h1 j hj hh) (fun j hj hh => rc_bad w n hn hl k hk row hg h1 j hj hh) h
      rw [h2] at hv
      exact zsee_ok tab_ok mixed fun_ok cIV_ok (rb3 w (i1 row) n k 0) (.cons lt (.cons ix (.cons (ssR_at hg) (.cons (neF (by omega)) (.cons ix (.cons (ssR_at hg) (.cons ix2 (.cons hv (.cons rfl (.cons g .nil))))))))))
    · rename_i h2
      have h2 := of_decide_eq_false h2
      exact zsee_ok tab_ok mixed fun_ok cIV_ok (rb2 w (i1 row) n k (row.getD k 0)) (.cons lt (.cons ix (.cons (ssR_at hg) (.cons (neF (by omega)) (.cons ix (.cons (ssR_at hg) (.cons ix2 (.cons hv (.cons (bne_iff_ne.2 h2) .nil)))))))))
  · rename_i h1
    have h1 := of_decide_eq_false h1
    exact zsee_ok tab_ok mixed fun_ok cIV_ok (rb1 w (i1 row) n k 0) (.cons lt (.cons ix (.cons (ssR_at hg) (.cons (neT (by omega)) .nil))))
end
theorem rk_ans (w : Wd) (ok : OkW w) : Ans Try.prog fRk [wdD w] (iI (chE w)) ⟨0, [], []⟩ := by
  have e := rsR_length w.r
  have e2 := ssR_length w.s
  have hl := ok.r
  unfold chE chk
  cases h1 : inB (w.r.length : Int) 1 32 with
  | false => exact zflat_ok tab_ok mixed fun_ok cIV_ok (rkP1 w) (.cons (by rw [e, h1]; rfl) .nil)
  | true =>
    have a0 : (!inB ((rsR w.r).length : Int) 1 32) = false := by rw [e, h1]; rfl
    cases hb : okR w.r with
    | false =>
      have g : Goes Try.prog tab kRk (.loop rkA) (raS w.r.length 0) (hW w) .ret rE (hW w) := scan_f (S := fun k => raS w.r.length k) (by intro h; cases h) (ra_go w hl) (ra_bad w) hb
      rw [← e] at g
      exact zflat_ok tab_ok mixed fun_ok cIV_ok (rkP2 w) (.cons a0 (.cons g .nil))
    | true =>
      have g : Goes Try.prog tab kRk (.loop rkA) (raS w.r.length 0) (hW w) (.exit 0) (mkT 73 [(1, .ptr 0 0), (3, iN w.r.length)]) (hW w) := scan_t (S := fun k => raS w.r.length k) (by intro h; cases h) (ra_go w hl) (zsee_ok tab_ok mixed fun_ok cIV_ok (raO w w.r.length w.r.length) (.cons (decide_eq_false (by omega)) .nil)) hb
      rw [← e] at g
      unfold shB
      by_cases h0 : w.s.length = 0
      · rw [decide_eq_true h0]
        exact zflat_ok tab_ok mixed fun_ok cIV_ok (rkP3 w) (.cons a0 (.cons g (.cons (eqT (b := 0) (by omega)) .nil)))
      · rw [decide_eq_false h0]
        have z : (((ssR w.s).length : Int) == 0) = false := eqF (b := 0) (by omega)
        by_cases hn : w.s.length = w.r.length
        · rw [decide_eq_true hn]
          have z1 : (((ssR w.s).length : Int) != ((rsR w.r).length : Int)) = false := neF (by omega)
          dsimp only
          cases hs : allB w.r.length fun i => rowB w.r.length i (w.s.getD i []) with
          | true =>
            have g2 : Goes Try.prog tab kRk (.loop rkB) (rbS w.r.length 0) (hW w) (.exit 2) (mkT 73 []) (hW w) := scan_t (S := fun k => rbS w.r.length k) (by intro h; cases h) (rb_go w _ hn hl) (zsee_ok tab_ok mixed fun_ok cIV_ok (rbO w w.r.length w.r.length) (.cons (decide_eq_false (by omega)) .nil)) hs
            rw [← e] at g2
            exact zflat_ok tab_ok mixed fun_ok cIV_ok (rkP6 w) (.cons a0 (.cons g (.cons z (.cons z1 (.cons g2 .nil)))))
          | false =>
            have g2 : Goes Try.prog tab kRk (.loop rkB) (rbS w.r.length 0) (hW w) .ret rE (hW w) := scan_f (S := fun k => rbS w.r.length k) (by intro h; cases h) (rb_go w _ hn hl) (rb_bad w _ hn hl) hs
            rw [← e] at g2
            exact zflat_ok tab_ok mixed fun_ok cIV_ok (rkP5 w) (.cons a0 (.cons g (.cons z (.cons z1 (.cons g2 .nil)))))
        · rw [decide_eq_false hn]
          exact zflat_ok tab_ok mixed fun_ok cIV_ok (rkP4 w) (.cons a0 (.cons g (.cons z (.cons (neT (by omega)) .nil))))
end
end Go.Proofs.Ytgjgihlfkpbdgaa
/- Distances and losses: contracts, of the program and of the reference. -/
namespace Go.Proofs.Ytgjgihlfkpbdgaa
open Go.RowKit

noncomputable section
/-! ### Roots -/
def rtN : Nat → Nat
  | 0 => 0
  | n + 1 => if (rtN n + 1) * (rtN n + 1) ≤ n + 1 then rtN n + 1 else rtN n
def rt (n : Int) : Int := rtN n.toNat
theorem rtN_ok : ∀ n, rtN n * rtN n ≤ n ∧ n < (rtN n + 1) * (rtN n + 1)
  | 0 => by decide
  | n + 1 => by
    have ih := rtN_ok n
    unfold rtN
    split
    · rename_i h
      refine ⟨h, ?_⟩
      have e : (rtN n + 1 + 1) * (rtN n + 1 + 1) = (rtN n + 1) * (rtN n + 1) + 2 * (rtN n + 1) + 1 := by
        simp only [Nat.add_mul, Nat.mul_add]; omega
      omega
    · omega
theorem rt_ok {n : Int} (h : 0 ≤ n) : 0 ≤ rt n ∧ rt n * rt n ≤ n ∧ n < (rt n + 1) * (rt n + 1) := by
  obtain ⟨k, rfl⟩ := Int.eq_ofNat_of_zero_le h
  have := rtN_ok k
  unfold rt
  rw [Int.toNat_natCast]
  refine ⟨by omega, ?_, ?_⟩
  · exact_mod_cast this.1
  · exact_mod_cast this.2
theorem sq_le {a b : Int} (h0 : 0 ≤ a) (h : a ≤ b) : a * a ≤ b * b := Int.mul_le_mul h h h0 (by omega)
theorem sq_lt {a b : Int} (h0 : 0 ≤ b) (h : a * a < b * b) (_ha : 0 ≤ a) : a < b := by
  by_cases h1 : a < b
  · exact h1
  · have := sq_le h0 (by omega : b ≤ a)
    omega
theorem rt_le {n : Int} (h : 0 ≤ n) (h1 : n ≤ 800000000) : rt n ≤ 28284 := by
  obtain ⟨r0, r1, r2⟩ := rt_ok h
  have := sq_lt (a := rt n) (b := 28285) (by decide) (by omega) r0
  omega
/-! ### root, by sort.Search -/
abbrev fSe : FuncId := 79
abbrev kSe : List (Nat × Nat) := ksF ftab fSe
abbrev seL : Code := loopAt (bodyOf ftab fSe) 0
abbrev hQ (n : Int) : Hp := ⟨1, [⟨0, 0, 3, [iI n]⟩], []⟩
abbrev seS (i j : Int) : Slots := mkT 26 [(1, .fn 80 [] [.ptr 0 0]), (5, iI i), (6, iI j)]
abbrev fRo : FuncId := 75
set_option maxRecDepth 1000000 in
theorem se1 (n i j h : Int) : zsee Try.prog tab ftab noC kSe [1, 5, 6] seL (seS i j) (hQ n) [(11, .b true), (17, .w (iI h)), (20, .c [(8, .b true)])] = some (.normal, seS i h, hQ n, ((decide (i < j)) = true) :: (DV.int .i64 (IntKind.i64.wrap (shrD .u64 (IntKind.u64.wrap (IntKind.i64.wrap (i + j))) 1)) = iI h) :: ((decide (IntKind.i64.wrap (IntKind.i64.wrap (h + 1) * IntKind.i64.wrap (h + 1)) > n)) = true) :: []) := by kernel_rfl
set_option maxRecDepth 1000000 in
theorem se2 (n i j h : Int) : zsee Try.prog tab ftab noC kSe [1, 5, 6] seL (seS i j) (hQ n) [(11, .b true), (17, .w (iI h)), (20, .c [(8, .b false)]), (23, .w (iI (h + 1)))] = some (.normal, seS (h + 1) j, hQ n, ((decide (i < j)) = true) :: (DV.int .i64 (IntKind.i64.wrap (shrD .u64 (IntKind.u64.wrap (IntKind.i64.wrap (i + j))) 1)) = iI h) :: ((decide (IntKind.i64.wrap (IntKind.i64.wrap (h + 1) * IntKind.i64.wrap (h + 1)) > n)) = false) :: (DV.int .i64 (IntKind.i64.wrap (h + 1)) = iI (h + 1)) :: []) := by kernel_rfl
set_option maxRecDepth 1000000 in
theorem seO (n i j : Int) : zsee Try.prog tab ftab noC kSe [5] seL (seS i j) (hQ n) [(11, .b false)] = some (.exit 0, mkT 26 [(5, iI i)], hQ n, ((decide (i < j)) = false) :: []) := by kernel_rfl
set_option maxRecDepth 1000000 in
theorem seF (n r : Int) : zansH Try.prog tab ftab noC fSe [iI 30000, .fn 80 [] [.ptr 0 0]] (hQ n) [(0, .l [1, 5, 6] (.exit 0) (mkT 26 [(5, iI r)]) (hQ n))] = some (iI r, hQ n, (Goes Try.prog tab kSe (.loop seL) (seS 0 30000) (hQ n) (.exit 0) (mkT 26 [(5, iI r)]) (hQ n)) :: []) := by kernel_rfl
set_option maxRecDepth 1000000 in
theorem roA (n r : Int) : zflat (zans Try.prog tab ftab noC fRo [iI n] [(60001, .t 1 [] (iI r) (hQ n))]) = some (iI r, (AnsH Try.prog fSe [iI 30000, .fn 80 [] [.ptr 0 0]] (hQ n) (iI r) (hQ n)) :: []) := by kernel_rfl
theorem mid_at {i j : Int} (h0 : 0 ≤ i) (h1 : i ≤ j) (h2 : j ≤ 30000) : DV.int .i64 (IntKind.i64.wrap (shrD .u64 (IntKind.u64.wrap (IntKind.i64.wrap (i + j))) 1)) = iI ((i + j) / 2) := by
  rw [wrapZ (x := i + j) (by omega) (by omega)]
  have e : IntKind.u64.wrap (i + j) = i + j := by
    simp only [IntKind.wrap, IntKind.bits, IntKind.signed, Bool.false_and]
    simp
    omega
  rw [e]
  have e2 : shrD .u64 (i + j) 1 = (i + j) / 2 := by
    unfold shrD
    have : ((2 : Int) ^ (min (1 : Int).toNat IntKind.u64.bits)) = 2 := by decide
    rw [this, Int.fdiv_eq_ediv_of_nonneg _ (by decide)]
  rw [e2, wrapZ (by omega) (by omega)]
theorem se_loop {n r : Int} (h0 : 0 ≤ r) (h1 : r * r ≤ n) (h2 : n < (r + 1) * (r + 1)) : ∀ (m : Nat) (i j : Int), 0 ≤ i → i ≤ r → r ≤ j → j ≤ 30000 → j - i ≤ m → ∃ q, GoesR Try.prog tab kSe seL (q + 1) (seS i j) (hQ n) (.exit 0) (mkT 26 [(5, iI r)]) (hQ n) := by
  intro m
  induction m with
  | zero =>
    intro i j a b c d e
    obtain rfl : i = r := by omega
    exact ⟨0, GoesR.last (zsee_ok tab_ok mixed fun_ok noC_ok (seO n i j) (.cons (decide_eq_false (by omega)) .nil)) (by intro h; cases h)⟩
  | succ m ih =>
    intro i j a b c d e
    by_cases hlt : i < j
    · have hm := mid_at a (by omega : i ≤ j) d
      have hh : 0 ≤ (i + j) / 2 ∧ (i + j) / 2 < j ∧ i ≤ (i + j) / 2 := by omega
      generalize (i + j) / 2 = h at hm hh
      have w1 : IntKind.i64.wrap (h + 1) = h + 1 := wrapZ (by omega) (by omega)
      have b0 : 0 ≤ (h + 1) * (h + 1) := Int.mul_nonneg (by omega) (by omega)
      have b1 : (h + 1) * (h + 1) ≤ 30000 * 30000 := sq_le (by omega) (by omega)
      have w2 : IntKind.i64.wrap ((h + 1) * (h + 1)) = (h + 1) * (h + 1) := wrapZ (by omega) (by omega)
      by_cases hr : r ≤ h
      · obtain ⟨q, g⟩ := ih i h a b hr (by omega) (by omega)
        have := sq_le (a := r + 1) (b := h + 1) (by omega) (by omega)
        exact ⟨q + 1, GoesR.step (zsee_ok tab_ok mixed fun_ok noC_ok (se1 n i j h) (.cons (decide_eq_true hlt) (.cons hm (.cons (by rw [w1, w2]; exact decide_eq_true (by omega)) .nil)))) g⟩
      · obtain ⟨q, g⟩ := ih (h + 1) j (by omega) (by omega) c d (by omega)
        have := sq_le (a := h + 1) (b := r) (by omega) (by omega)
        exact ⟨q + 1, GoesR.step (zsee_ok tab_ok mixed fun_ok noC_ok (se2 n i j h) (.cons (decide_eq_true hlt) (.cons hm (.cons (by rw [w1, w2]; exact decide_eq_false (by omega)) (.cons (by rw [w1]) .nil))))) g⟩
    · obtain rfl : i = r := by omega
      exact ⟨0, GoesR.last (zsee_ok tab_ok mixed fun_ok noC_ok (seO n i j) (.cons (decide_eq_false hlt) .nil)) (by intro h; cases h)⟩
theorem ro_ans {n : Int} (h : 0 ≤ n) (h1 : n ≤ 800000000) : Ans Try.prog fRo [iI n] (iI (rt n)) ⟨0, [], []⟩ := by
  obtain ⟨r0, r1, r2⟩ := rt_ok h
  have := rt_le h h1
  obtain ⟨q, g⟩ := se_loop r0 r1 r2 30000 0 30000 (by decide) r0 (by omega) (by decide) (by decide)
  exact zflat_ok tab_ok mixed fun_ok noC_ok (roA n (rt n)) (.cons (zansH_ok tab_ok mixed fun_ok noC_ok (seF n (rt n)) (.cons g.goes .nil)) .nil)
/-! ### the reference's Root, by bisection -/
abbrev fRr : FuncId := 78
abbrev kRr : List (Nat × Nat) := ksF ftab fRr
abbrev rrL : Code := loopAt (bodyOf ftab fRr) 0
abbrev rrS (n i j : Int) : Slots := mkT 23 [(0, iI n), (3, iI i), (4, iI j)]
set_option maxRecDepth 1000000 in
theorem rr1 (n i j h : Int) : zsee Try.prog tab ftab noC kRr [0, 3, 4] rrL (rrS n i j) h00 [(8, .b true), (13, .w (iI h)), (18, .b true)] = some (.normal, rrS n h j, h00, ((decide (i < j)) = true) :: (DV.int .i64 (quoD .i64 (IntKind.i64.wrap (IntKind.i64.wrap (i + j) + 1)) 2) = iI h) :: ((decide (IntKind.i64.wrap (h * h) ≤ n)) = true) :: []) := by kernel_rfl
set_option maxRecDepth 1000000 in
theorem rr2 (n i j h : Int) : zsee Try.prog tab ftab noC kRr [0, 3, 4] rrL (rrS n i j) h00 [(8, .b true), (13, .w (iI h)), (18, .b false), (21, .w (iI (h - 1)))] = some (.normal, rrS n i (h - 1), h00, ((decide (i < j)) = true) :: (DV.int .i64 (quoD .i64 (IntKind.i64.wrap (IntKind.i64.wrap (i + j) + 1)) 2) = iI h) :: ((decide (IntKind.i64.wrap (h * h) ≤ n)) = false) :: (DV.int .i64 (IntKind.i64.wrap (h - 1)) = iI (h - 1)) :: []) := by kernel_rfl
set_option maxRecDepth 1000000 in
theorem rrO (n i j : Int) : zsee Try.prog tab ftab noC kRr [3] rrL (rrS n i j) h00 [(8, .b false)] = some (.exit 0, mkT 23 [(3, iI i)], h00, ((decide (i < j)) = false) :: []) := by kernel_rfl
set_option maxRecDepth 1000000 in
theorem rrA (n r : Int) : zflat (zans Try.prog tab ftab noC fRr [iI n] [(0, .l [0, 3, 4] (.exit 0) (mkT 23 [(3, iI r)]) h00)]) = some (iI r, (Goes Try.prog tab kRr (.loop rrL) (rrS n 0 30000) h00 (.exit 0) (mkT 23 [(3, iI r)]) h00) :: []) := by kernel_rfl
theorem quo2 {x : Int} (h0 : 0 ≤ x) (h1 : x < 9223372036854775808) : quoD .i64 x 2 = x / 2 := by
  rw [quoD, Int.tdiv_eq_ediv_of_nonneg h0, wrapZ (by omega) (by omega)]
theorem mid2_at {i j : Int} (h0 : 0 ≤ i) (h1 : i ≤ j) (h2 : j ≤ 30000) : DV.int .i64 (quoD .i64 (IntKind.i64.wrap (IntKind.i64.wrap (i + j) + 1)) 2) = iI ((i + j + 1) / 2) := by
  rw [wrapZ (x := i + j) (by omega) (by omega), wrapZ (x := i + j + 1) (by omega) (by omega), quo2 (by omega) (by omega)]
theorem rr_loop {n r : Int} (h0 : 0 ≤ r) (h1 : r * r ≤ n) (h2 : n < (r + 1) * (r + 1)) : ∀ (m : Nat) (i j : Int), 0 ≤ i → i ≤ r → r ≤ j → j ≤ 30000 → j - i ≤ m → ∃ q, GoesR Try.prog tab kRr rrL (q + 1) (rrS n i j) h00 (.exit 0) (mkT 23 [(3, iI r)]) h00 := by
  intro m
  induction m with
  | zero =>
    intro i j a b c d e
    obtain rfl : i = r := by omega
    exact ⟨0, GoesR.last (zsee_ok tab_ok mixed fun_ok noC_ok (rrO n i j) (.cons (decide_eq_false (by omega)) .nil)) (by intro h; cases h)⟩
  | succ m ih =>
    intro i j a b c d e
    by_cases hlt : i < j
    · have hm := mid2_at a (by omega : i ≤ j) d
      have hh : 0 ≤ (i + j + 1) / 2 ∧ (i + j + 1) / 2 ≤ j ∧ i < (i + j + 1) / 2 := by omega
      generalize (i + j + 1) / 2 = h at hm hh
      have b0 : 0 ≤ h * h := Int.mul_nonneg (by omega) (by omega)
      have b1 : h * h ≤ 30000 * 30000 := sq_le (by omega) (by omega)
      have w2 : IntKind.i64.wrap (h * h) = h * h := wrapZ (by omega) (by omega)
      by_cases hr : h ≤ r
      · obtain ⟨q, g⟩ := ih h j (by omega) hr c d (by omega)
        have := sq_le (a := h) (b := r) (by omega) hr
        exact ⟨q + 1, GoesR.step (zsee_ok tab_ok mixed fun_ok noC_ok (rr1 n i j h) (.cons (decide_eq_true hlt) (.cons hm (.cons (by rw [w2]; exact decide_eq_true (by omega)) .nil)))) g⟩
      · obtain ⟨q, g⟩ := ih i (h - 1) a b (by omega) (by omega) (by omega)
        have := sq_le (a := r + 1) (b := h) (by omega) (by omega)
        exact ⟨q + 1, GoesR.step (zsee_ok tab_ok mixed fun_ok noC_ok (rr2 n i j h) (.cons (decide_eq_true hlt) (.cons hm (.cons (by rw [w2]; exact decide_eq_false (by omega)) (.cons (by rw [wrapZ (by omega) (by omega)]) .nil))))) g⟩
    · obtain rfl : i = r := by omega
      exact ⟨0, GoesR.last (zsee_ok tab_ok mixed fun_ok noC_ok (rrO n i j) (.cons (decide_eq_false hlt) .nil)) (by intro h; cases h)⟩
theorem rr_ans {n : Int} (h : 0 ≤ n) (h1 : n ≤ 800000000) : Ans Try.prog fRr [iI n] (iI (rt n)) ⟨0, [], []⟩ := by
  obtain ⟨r0, r1, r2⟩ := rt_ok h
  have := rt_le h h1
  obtain ⟨q, g⟩ := rr_loop r0 r1 r2 30000 0 30000 (by decide) r0 (by omega) (by decide) (by decide)
  exact zflat_ok tab_ok mixed fun_ok noC_ok (rrA n (rt n)) (.cons g.goes .nil)
/-! ### Distance -/
def sqs (a b c d : Int) : Int := (a - c) * (a - c) + (b - d) * (b - d)
def dsB (a b c d : Int) : Bool := match vc a with
  | true => match vc b with
    | true => match vc c with
      | true => vc d
      | false => false
    | false => false
  | false => false
theorem dsB_iff (a b c d : Int) : dsB a b c d = true ↔ (-10000 ≤ a ∧ a ≤ 10000) ∧ (-10000 ≤ b ∧ b ≤ 10000) ∧ (-10000 ≤ c ∧ c ≤ 10000) ∧ -10000 ≤ d ∧ d ≤ 10000 := by
  unfold dsB
  rw [← vc_iff, ← vc_iff, ← vc_iff, ← vc_iff]
  cases vc a <;> cases vc b <;> cases vc c <;> simp
def dsV (a b c d : Int) : Int := match dsB a b c d with
  | true => rt (sqs a b c d)
  | false => 0
def dsE (a b c d : Int) : Int := match dsB a b c d with
  | true => 0
  | false => 2
def dsD (a b c d : Int) : DV := .tuple [iI (dsV a b c d), iI (dsE a b c d)]
theorem sqd {a c : Int} (h1 : -10000 ≤ a ∧ a ≤ 10000) (h2 : -10000 ≤ c ∧ c ≤ 10000) : 0 ≤ (a - c) * (a - c) ∧ (a - c) * (a - c) ≤ 400000000 := by
  rcases Int.le_total c a with h | h
  · have b0 : 0 ≤ (a - c) * (a - c) := Int.mul_nonneg (by omega) (by omega)
    have b1 := sq_le (a := a - c) (b := 20000) (by omega) (by omega)
    omega
  · have e : (a - c) * (a - c) = (c - a) * (c - a) := by rw [← Int.neg_mul_neg, Int.neg_sub]
    have b0 : 0 ≤ (c - a) * (c - a) := Int.mul_nonneg (by omega) (by omega)
    have b1 := sq_le (a := c - a) (b := 20000) (by omega) (by omega)
    omega
theorem sqs_in {a b c d : Int} (h : dsB a b c d = true) : 0 ≤ sqs a b c d ∧ sqs a b c d ≤ 800000000 := by
  obtain ⟨h1, h2, h3, h4⟩ := (dsB_iff a b c d).1 h
  have := sqd h1 h3
  have := sqd h2 h4
  unfold sqs
  omega
abbrev sqW (a b c d s : Int) : Prop := DV.int .i64 (IntKind.i64.wrap (IntKind.i64.wrap (IntKind.i64.wrap (a - c) * IntKind.i64.wrap (a - c)) + IntKind.i64.wrap (IntKind.i64.wrap (b - d) * IntKind.i64.wrap (b - d)))) = iI s
theorem sqW_at {a b c d : Int} (h : dsB a b c d = true) : sqW a b c d (sqs a b c d) := by
  obtain ⟨h1, h2, h3, h4⟩ := (dsB_iff a b c d).1 h
  have x1 := sqd h1 h3
  have x2 := sqd h2 h4
  unfold sqW sqs
  rw [wrapZ (x := a - c) (by omega) (by omega), wrapZ (x := b - d) (by omega) (by omega), wrapZ (x := (a - c) * (a - c)) (by omega) (by omega), wrapZ (x := (b - d) * (b - d)) (by omega) (by omega), wrapZ (by omega) (by omega)]
abbrev fDs : FuncId := 67
abbrev fRd : FuncId := 73
set_option maxRecDepth 1000000 in
theorem ds0 (a b c d : Int) : zflat (zans Try.prog tab ftab cVc fDs [iI a, iI b, iI c, iI d] [(22, .b true)]) = some (.tuple [iI 0, iI 2], (((!vc a)) = true) :: []) := by kernel_rfl
set_option maxRecDepth 1000000 in
theorem ds1 (a b c d : Int) : zflat (zans Try.prog tab ftab cVc fDs [iI a, iI b, iI c, iI d] [(22, .b false), (22, .b true)]) = some (.tuple [iI 0, iI 2], (((!vc a)) = false) :: (((!vc b)) = true) :: []) := by kernel_rfl
set_option maxRecDepth 1000000 in
theorem ds2 (a b c d : Int) : zflat (zans Try.prog tab ftab cVc fDs [iI a, iI b, iI c, iI d] [(22, .b false), (22, .b false), (22, .b true)]) = some (.tuple [iI 0, iI 2], (((!vc a)) = false) :: (((!vc b)) = false) :: (((!vc c)) = true) :: []) := by kernel_rfl
set_option maxRecDepth 1000000 in
theorem ds3 (a b c d : Int) : zflat (zans Try.prog tab ftab cVc fDs [iI a, iI b, iI c, iI d] [(22, .b false), (22, .b false), (22, .b false), (22, .b true)]) = some (.tuple [iI 0, iI 2], (((!vc a)) = false) :: (((!vc b)) = false) :: (((!vc c)) = false) :: (((!vc d)) = true) :: []) := by kernel_rfl
set_option maxRecDepth 1000000 in
theorem ds4 (a b c d s r : Int) : zflat (zans Try.prog tab ftab (orK cVc (calC fRo [iI s] (iI r))) fDs [iI a, iI b, iI c, iI d] [(22, .b false), (22, .b false), (22, .b false), (22, .b false), (32, .w (iI s)), (33, .q (iI r))]) = some (.tuple [iI r, iI 0], (((!vc a)) = false) :: (((!vc b)) = false) :: (((!vc c)) = false) :: (((!vc d)) = false) :: sqW a b c d s :: (orK cVc (calC fRo [iI s] (iI r)) fRo [iI s] h00 = some (iI r, h00, none)) :: []) := by kernel_rfl
set_option maxRecDepth 1000000 in
theorem rd0 (a b c d : Int) : zflat (zans Try.prog tab ftab cIn fRd [iI a, iI b, iI c, iI d] [(14, .b true)]) = some (.tuple [iI 0, iI 2], (((!vc a)) = true) :: []) := by kernel_rfl
set_option maxRecDepth 1000000 in
theorem rd1 (a b c d : Int) : zflat (zans Try.prog tab ftab cIn fRd [iI a, iI b, iI c, iI d] [(14, .b false), (18, .b true)]) = some (.tuple [iI 0, iI 2], (((!vc a)) = false) :: (((!vc b)) = true) :: []) := by kernel_rfl
set_option maxRecDepth 1000000 in
theorem rd2 (a b c d : Int) : zflat (zans Try.prog tab ftab cIn fRd [iI a, iI b, iI c, iI d] [(14, .b false), (18, .b false), (23, .b true)]) = some (.tuple [iI 0, iI 2], (((!vc a)) = false) :: (((!vc b)) = false) :: (((!vc c)) = true) :: []) := by kernel_rfl
set_option maxRecDepth 1000000 in
theorem rd3 (a b c d : Int) : zflat (zans Try.prog tab ftab cIn fRd [iI a, iI b, iI c, iI d] [(14, .b false), (18, .b false), (23, .b false), (28, .b true)]) = some (.tuple [iI 0, iI 2], (((!vc a)) = false) :: (((!vc b)) = false) :: (((!vc c)) = false) :: (((!vc d)) = true) :: []) := by kernel_rfl
set_option maxRecDepth 1000000 in
theorem rd4 (a b c d s r : Int) : zflat (zans Try.prog tab ftab (orK cIn (calC fRr [iI s] (iI r))) fRd [iI a, iI b, iI c, iI d] [(14, .b false), (18, .b false), (23, .b false), (28, .b false), (42, .w (iI s)), (43, .q (iI r))]) = some (.tuple [iI r, iI 0], (((!vc a)) = false) :: (((!vc b)) = false) :: (((!vc c)) = false) :: (((!vc d)) = false) :: sqW a b c d s :: (orK cIn (calC fRr [iI s] (iI r)) fRr [iI s] h00 = some (iI r, h00, none)) :: []) := by kernel_rfl
theorem ds_ans (a b c d : Int) : Ans Try.prog fDs [iI a, iI b, iI c, iI d] (dsD a b c d) ⟨0, [], []⟩ := by
  unfold dsD dsV dsE
  cases hb : dsB a b c d with
  | true =>
    obtain ⟨h1, h2, h3, h4⟩ := (dsB_iff a b c d).1 hb
    have n1 : (!vc a) = false := by rw [(vc_iff a).2 h1]; rfl
    have n2 : (!vc b) = false := by rw [(vc_iff b).2 h2]; rfl
    have n3 : (!vc c) = false := by rw [(vc_iff c).2 h3]; rfl
    have n4 : (!vc d) = false := by rw [(vc_iff d).2 h4]; rfl
    have hs := sqs_in hb
    exact zflat_ok tab_ok mixed fun_ok (orK_ok cVc_ok (calC_ok (ro_ans hs.1 hs.2))) (ds4 a b c d _ _) (.cons n1 (.cons n2 (.cons n3 (.cons n4 (.cons (sqW_at hb) (.cons (orK_right (lift_oth rfl) (calC_at _ rfl rfl)) .nil))))))
  | false =>
    unfold dsB at hb
    cases h1 : vc a with
    | false => exact zflat_ok tab_ok mixed fun_ok cVc_ok (ds0 a b c d) (.cons (by rw [h1]; rfl) .nil)
    | true =>
      have n1 : (!vc a) = false := by rw [h1]; rfl
      rw [h1] at hb
      cases h2 : vc b with
      | false => exact zflat_ok tab_ok mixed fun_ok cVc_ok (ds1 a b c d) (.cons n1 (.cons (by rw [h2]; rfl) .nil))
      | true =>
        have n2 : (!vc b) = false := by rw [h2]; rfl
        rw [h2] at hb
        cases h3 : vc c with
        | false => exact zflat_ok tab_ok mixed fun_ok cVc_ok (ds2 a b c d) (.cons n1 (.cons n2 (.cons (by rw [h3]; rfl) .nil)))
        | true =>
          have n3 : (!vc c) = false := by rw [h3]; rfl
          rw [h3] at hb
          have h4 : vc d = false := hb
          exact zflat_ok tab_ok mixed fun_ok cVc_ok (ds3 a b c d) (.cons n1 (.cons n2 (.cons n3 (.cons (by rw [h4]; rfl) .nil))))
theorem rd_ans (a b c d : Int) : Ans Try.prog fRd [iI a, iI b, iI c, iI d] (dsD a b c d) ⟨0, [], []⟩ := by
  unfold dsD dsV dsE
  cases hb : dsB a b c d with
  | true =>
    obtain ⟨h1, h2, h3, h4⟩ := (dsB_iff a b c d).1 hb
    have n1 : (!vc a) = false := by rw [(vc_iff a).2 h1]; rfl
    have n2 : (!vc b) = false := by rw [(vc_iff b).2 h2]; rfl
    have n3 : (!vc c) = false := by rw [(vc_iff c).2 h3]; rfl
    have n4 : (!vc d) = false := by rw [(vc_iff d).2 h4]; rfl
    have hs := sqs_in hb
    exact zflat_ok tab_ok mixed fun_ok (orK_ok cIn_ok (calC_ok (rr_ans hs.1 hs.2))) (rd4 a b c d _ _) (.cons n1 (.cons n2 (.cons n3 (.cons n4 (.cons (sqW_at hb) (.cons (orK_right (lift_oth rfl) (calC_at _ rfl rfl)) .nil))))))
  | false =>
    unfold dsB at hb
    cases h1 : vc a with
    | false => exact zflat_ok tab_ok mixed fun_ok cIn_ok (rd0 a b c d) (.cons (by rw [h1]; rfl) .nil)
    | true =>
      have n1 : (!vc a) = false := by rw [h1]; rfl
      rw [h1] at hb
      cases h2 : vc b with
      | false => exact zflat_ok tab_ok mixed fun_ok cIn_ok (rd1 a b c d) (.cons n1 (.cons (by rw [h2]; rfl) .nil))
      | true =>
        have n2 : (!vc b) = false := by rw [h2]; rfl
        rw [h2] at hb
        cases h3 : vc c with
        | false => exact zflat_ok tab_ok mixed fun_ok cIn_ok (rd2 a b c d) (.cons n1 (.cons n2 (.cons (by rw [h3]; rfl) .nil)))
        | true =>
          have n3 : (!vc c) = false := by rw [h3]; rfl
          rw [h3] at hb
          have h4 : vc d = false := hb
          exact zflat_ok tab_ok mixed fun_ok cIn_ok (rd3 a b c d) (.cons n1 (.cons n2 (.cons n3 (.cons (by rw [h4]; rfl) .nil))))
def cDs : ConF := liftC (comC fDs (g4 dsD))
theorem cDs_ok : ConOk Try.prog cDs := g4_ok ds_ans
def cRd : ConF := liftC (comC fRd (g4 dsD))
theorem cRd_ok : ConOk Try.prog cRd := g4_ok rd_ans
end
end Go.Proofs.Ytgjgihlfkpbdgaa
/- Losses: contracts, of the program and of the reference. -/
namespace Go.Proofs.Ytgjgihlfkpbdgaa
open Go.RowKit

noncomputable section
/-! ### bits.Len64 -/
abbrev fLn : FuncId := 77
def idxStr : List Oper → Option ByteArray
  | [] => none
  | o :: l => match o.op with
    | .index _ (.const (.string s)) _ => some s
    | _ => idxStr l
def cstr : Code → Option ByteArray
  | .seq a b => match cstr a with
    | some s => some s
    | none => cstr b
  | .region _ ops _ => idxStr ops.toList
  | .scope a => cstr a
  | _ => none
def tabS : ByteArray := (cstr (bodyOf ftab fLn)).getD .empty
def bl (b : Nat) : Nat := match b with
  | 0 => 0
  | b + 1 => Nat.log2 (b + 1) + 1
set_option maxRecDepth 1000000 in
theorem tabS_all : ((List.range 256).all fun b => match nth tabS.data.toList b with
    | some c => Nat.beq c.toNat (bl b)
    | none => false) = true := by kernel_rfl
theorem tabS_at {b : Nat} (h : b < 256) : ∃ c : UInt8, decide ((0 : Int) ≤ (b : Int)) = true ∧ nth tabS.data.toList ((b : Int).toNat) = some c ∧ (c.toNat : Int) = (bl b : Int) := by
  have := List.all_eq_true.1 tabS_all b (List.mem_range.2 h)
  split at this
  · rename_i c hc
    exact ⟨c, decide_eq_true (by omega), by rw [Int.toNat_natCast]; exact hc, by rw [Nat.eq_of_beq_eq_true this]⟩
  · cases this
set_option maxRecDepth 1000000 in
theorem ln000 (n _n1 _n2 _n3 z : Nat) : zflat (zans Try.prog tab ftab noC fLn [.int .u64 (n : Int)] [(4, .b false), (8, .b false), (14, .b false), (21, .w (.int .u8 (n : Int))), (22, .n (.int .u8 (z : Int))), (23, .w (iN z)), (24, .w (iN (0 + z)))]) = some (iN (0 + z), ((decide ((n : Int) ≥ 4294967296)) = false) :: ((decide ((n : Int) ≥ 65536)) = false) :: ((decide ((n : Int) ≥ 256)) = false) :: (DV.int .u8 (IntKind.u8.wrap (n : Int)) = .int .u8 (n : Int)) :: (∃ c : UInt8, decide (0 ≤ (n : Int)) = true ∧ nth tabS.data.toList ((n : Int).toNat) = some c ∧ (c.toNat : Int) = (z : Int)) :: (DV.int .i64 (IntKind.i64.wrap (z : Int)) = iN z) :: (DV.int .i64 (IntKind.i64.wrap (0 + (z : Int))) = iN (0 + z)) :: []) := by kernel_rfl
set_option maxRecDepth 1000000 in
theorem ln001 (n _n1 _n2 n3 z : Nat) : zflat (zans Try.prog tab ftab noC fLn [.int .u64 (n : Int)] [(4, .b false), (8, .b false), (14, .b true), (16, .w (.int .u64 (n3 : Int))), (21, .w (.int .u8 (n3 : Int))), (22, .n (.int .u8 (z : Int))), (23, .w (iN z)), (24, .w (iN (8 + z)))]) = some (iN (8 + z), ((decide ((n : Int) ≥ 4294967296)) = false) :: ((decide ((n : Int) ≥ 65536)) = false) :: ((decide ((n : Int) ≥ 256)) = true) :: (DV.int .u64 (shrD .u64 (n : Int) 8) = .int .u64 (n3 : Int)) :: (DV.int .u8 (IntKind.u8.wrap (n3 : Int)) = .int .u8 (n3 : Int)) :: (∃ c : UInt8, decide (0 ≤ (n3 : Int)) = true ∧ nth tabS.data.toList ((n3 : Int).toNat) = some c ∧ (c.toNat : Int) = (z : Int)) :: (DV.int .i64 (IntKind.i64.wrap (z : Int)) = iN z) :: (DV.int .i64 (IntKind.i64.wrap (8 + (z : Int))) = iN (8 + z)) :: []) := by kernel_rfl
set_option maxRecDepth 1000000 in
theorem ln010 (n _n1 n2 _n3 z : Nat) : zflat (zans Try.prog tab ftab noC fLn [.int .u64 (n : Int)] [(4, .b false), (8, .b true), (10, .w (.int .u64 (n2 : Int))), (14, .b false), (21, .w (.int .u8 (n2 : Int))), (22, .n (.int .u8 (z : Int))), (23, .w (iN z)), (24, .w (iN (16 + z)))]) = some (iN (16 + z), ((decide ((n : Int) ≥ 4294967296)) = false) :: ((decide ((n : Int) ≥ 65536)) = true) :: (DV.int .u64 (shrD .u64 (n : Int) 16) = .int .u64 (n2 : Int)) :: ((decide ((n2 : Int) ≥ 256)) = false) :: (DV.int .u8 (IntKind.u8.wrap (n2 : Int)) = .int .u8 (n2 : Int)) :: (∃ c : UInt8, decide (0 ≤ (n2 : Int)) = true ∧ nth tabS.data.toList ((n2 : Int).toNat) = some c ∧ (c.toNat : Int) = (z : Int)) :: (DV.int .i64 (IntKind.i64.wrap (z : Int)) = iN z) :: (DV.int .i64 (IntKind.i64.wrap (16 + (z : Int))) = iN (16 + z)) :: []) := by kernel_rfl
set_option maxRecDepth 1000000 in
theorem ln011 (n _n1 n2 n3 z : Nat) : zflat (zans Try.prog tab ftab noC fLn [.int .u64 (n : Int)] [(4, .b false), (8, .b true), (10, .w (.int .u64 (n2 : Int))), (14, .b true), (16, .w (.int .u64 (n3 : Int))), (21, .w (.int .u8 (n3 : Int))), (22, .n (.int .u8 (z : Int))), (23, .w (iN z)), (24, .w (iN (24 + z)))]) = some (iN (24 + z), ((decide ((n : Int) ≥ 4294967296)) = false) :: ((decide ((n : Int) ≥ 65536)) = true) :: (DV.int .u64 (shrD .u64 (n : Int) 16) = .int .u64 (n2 : Int)) :: ((decide ((n2 : Int) ≥ 256)) = true) :: (DV.int .u64 (shrD .u64 (n2 : Int) 8) = .int .u64 (n3 : Int)) :: (DV.int .u8 (IntKind.u8.wrap (n3 : Int)) = .int .u8 (n3 : Int)) :: (∃ c : UInt8, decide (0 ≤ (n3 : Int)) = true ∧ nth tabS.data.toList ((n3 : Int).toNat) = some c ∧ (c.toNat : Int) = (z : Int)) :: (DV.int .i64 (IntKind.i64.wrap (z : Int)) = iN z) :: (DV.int .i64 (IntKind.i64.wrap (24 + (z : Int))) = iN (24 + z)) :: []) := by kernel_rfl
set_option maxRecDepth 1000000 in
theorem ln100 (n n1 _n2 _n3 z : Nat) : zflat (zans Try.prog tab ftab noC fLn [.int .u64 (n : Int)] [(4, .b true), (6, .w (.int .u64 (n1 : Int))), (8, .b false), (14, .b false), (21, .w (.int .u8 (n1 : Int))), (22, .n (.int .u8 (z : Int))), (23, .w (iN z)), (24, .w (iN (32 + z)))]) = some (iN (32 + z), ((decide ((n : Int) ≥ 4294967296)) = true) :: (DV.int .u64 (shrD .u64 (n : Int) 32) = .int .u64 (n1 : Int)) :: ((decide ((n1 : Int) ≥ 65536)) = false) :: ((decide ((n1 : Int) ≥ 256)) = false) :: (DV.int .u8 (IntKind.u8.wrap (n1 : Int)) = .int .u8 (n1 : Int)) :: (∃ c : UInt8, decide (0 ≤ (n1 : Int)) = true ∧ nth tabS.data.toList ((n1 : Int).toNat) = some c ∧ (c.toNat : Int) = (z : Int)) :: (DV.int .i64 (IntKind.i64.wrap (z : Int)) = iN z) :: (DV.int .i64 (IntKind.i64.wrap (32 + (z : Int))) = iN (32 + z)) :: []) := by kernel_rfl
set_option maxRecDepth 1000000 in
theorem ln101 (n n1 _n2 n3 z : Nat) : zflat (zans Try.prog tab ftab noC fLn [.int .u64 (n : Int)] [(4, .b true), (6, .w (.int .u64 (n1 : Int))), (8, .b false), (14, .b true), (16, .w (.int .u64 (n3 : Int))), (21, .w (.int .u8 (n3 : Int))), (22, .n (.int .u8 (z : Int))), (23, .w (iN z)), (24, .w (iN (40 + z)))]) = some (iN (40 + z), ((decide ((n : Int) ≥ 4294967296)) = true) :: (DV.int .u64 (shrD .u64 (n : Int) 32) = .int .u64 (n1 : Int)) :: ((decide ((n1 : Int) ≥ 65536)) = false) :: ((decide ((n1 : Int) ≥ 256)) = true) :: (DV.int .u64 (shrD .u64 (n1 : Int) 8) = .int .u64 (n3 : Int)) :: (DV.int .u8 (IntKind.u8.wrap (n3 : Int)) = .int .u8 (n3 : Int)) :: (∃ c : UInt8, decide (0 ≤ (n3 : Int)) = true ∧ nth tabS.data.toList ((n3 : Int).toNat) = some c ∧ (c.toNat : Int) = (z : Int)) :: (DV.int .i64 (IntKind.i64.wrap (z : Int)) = iN z) :: (DV.int .i64 (IntKind.i64.wrap (40 + (z : Int))) = iN (40 + z)) :: []) := by kernel_rfl
set_option maxRecDepth 1000000 in
theorem ln110 (n n1 n2 _n3 z : Nat) : zflat (zans Try.prog tab ftab noC fLn [.int .u64 (n : Int)] [(4, .b true), (6, .w (.int .u64 (n1 : Int))), (8, .b true), (10, .w (.int .u64 (n2 : Int))), (14, .b false), (21, .w (.int .u8 (n2 : Int))), (22, .n (.int .u8 (z : Int))), (23, .w (iN z)), (24, .w (iN (48 + z)))]) = some (iN (48 + z), ((decide ((n : Int) ≥ 4294967296)) = true) :: (DV.int .u64 (shrD .u64 (n : Int) 32) = .int .u64 (n1 : Int)) :: ((decide ((n1 : Int) ≥ 65536)) = true) :: (DV.int .u64 (shrD .u64 (n1 : Int) 16) = .int .u64 (n2 : Int)) :: ((decide ((n2 : Int) ≥ 256)) = false) :: (DV.int .u8 (IntKind.u8.wrap (n2 : Int)) = .int .u8 (n2 : Int)) :: (∃ c : UInt8, decide (0 ≤ (n2 : Int)) = true ∧ nth tabS.data.toList ((n2 : Int).toNat) = some c ∧ (c.toNat : Int) = (z : Int)) :: (DV.int .i64 (IntKind.i64.wrap (z : Int)) = iN z) :: (DV.int .i64 (IntKind.i64.wrap (48 + (z : Int))) = iN (48 + z)) :: []) := by kernel_rfl
set_option maxRecDepth 1000000 in
theorem ln111 (n n1 n2 n3 z : Nat) : zflat (zans Try.prog tab ftab noC fLn [.int .u64 (n : Int)] [(4, .b true), (6, .w (.int .u64 (n1 : Int))), (8, .b true), (10, .w (.int .u64 (n2 : Int))), (14, .b true), (16, .w (.int .u64 (n3 : Int))), (21, .w (.int .u8 (n3 : Int))), (22, .n (.int .u8 (z : Int))), (23, .w (iN z)), (24, .w (iN (56 + z)))]) = some (iN (56 + z), ((decide ((n : Int) ≥ 4294967296)) = true) :: (DV.int .u64 (shrD .u64 (n : Int) 32) = .int .u64 (n1 : Int)) :: ((decide ((n1 : Int) ≥ 65536)) = true) :: (DV.int .u64 (shrD .u64 (n1 : Int) 16) = .int .u64 (n2 : Int)) :: ((decide ((n2 : Int) ≥ 256)) = true) :: (DV.int .u64 (shrD .u64 (n2 : Int) 8) = .int .u64 (n3 : Int)) :: (DV.int .u8 (IntKind.u8.wrap (n3 : Int)) = .int .u8 (n3 : Int)) :: (∃ c : UInt8, decide (0 ≤ (n3 : Int)) = true ∧ nth tabS.data.toList ((n3 : Int).toNat) = some c ∧ (c.toNat : Int) = (z : Int)) :: (DV.int .i64 (IntKind.i64.wrap (z : Int)) = iN z) :: (DV.int .i64 (IntKind.i64.wrap (56 + (z : Int))) = iN (56 + z)) :: []) := by kernel_rfl
theorem shr_at (n k : Nat) (hk : k ≤ 64) : DV.int .u64 (shrD .u64 (n : Int) (k : Int)) = .int .u64 ((n / 2 ^ k : Nat) : Int) := by
  unfold shrD
  have e : ((2 : Int) ^ k) = ((2 ^ k : Nat) : Int) := by simp
  rw [Int.toNat_natCast, Nat.min_eq_left (show k ≤ IntKind.u64.bits from hk), e, Int.fdiv_eq_ediv_of_nonneg _ (Int.natCast_nonneg _), ← Int.natCast_ediv]
theorem u8_at {n : Nat} (h : n < 256) : DV.int .u8 (IntKind.u8.wrap (n : Int)) = .int .u8 (n : Int) := by
  have : IntKind.u8.wrap (n : Int) = (n : Int) := by
    simp only [IntKind.wrap, IntKind.bits, IntKind.signed, Bool.false_and]
    simp
    omega
  rw [this]
theorem log2_div {n k : Nat} (h : 2 ^ k ≤ n) : Nat.log2 n = k + Nat.log2 (n / 2 ^ k) := by
  have hp : 0 < 2 ^ k := Nat.pow_pos (by decide)
  have h1 : n / 2 ^ k ≠ 0 := by
    have := Nat.div_le_div_right (c := 2 ^ k) h
    rw [Nat.div_self hp] at this
    omega
  have h0 : n ≠ 0 := by omega
  refine (Nat.log2_eq_iff h0).2 ⟨?_, ?_⟩
  · rw [Nat.pow_add, Nat.mul_comm]
    exact (Nat.le_div_iff_mul_le hp).1 (Nat.log2_self_le h1)
  · have := (Nat.div_lt_iff_lt_mul hp).1 (Nat.lt_log2_self (n := n / 2 ^ k))
    rw [show k + Nat.log2 (n / 2 ^ k) + 1 = (Nat.log2 (n / 2 ^ k) + 1) + k by omega, Nat.pow_add]
    exact this
theorem bl_pos {n : Nat} (h : n ≠ 0) : bl n = Nat.log2 n + 1 := by
  cases n with
  | zero => exact absurd rfl h
  | succ n => rfl
theorem bl_div {n k : Nat} (h : 2 ^ k ≤ n) : bl n = k + bl (n / 2 ^ k) := by
  have hp : 0 < 2 ^ k := Nat.pow_pos (by decide)
  have h1 : n / 2 ^ k ≠ 0 := by
    have := Nat.div_le_div_right (c := 2 ^ k) h
    rw [Nat.div_self hp] at this
    omega
  rw [bl_pos (by omega), bl_pos h1, log2_div h]
  omega
theorem bl_le {b : Nat} (h : b < 256) : bl b ≤ 8 := by
  unfold bl
  split
  · omega
  · rename_i c
    have := (Nat.log2_lt (n := c + 1) (k := 8) (by omega)).2 (by omega)
    omega
theorem ln_ans (n : Nat) (h : n < 2 ^ 64) : Ans Try.prog fLn [.int .u64 (n : Int)] (iN (bl n)) ⟨0, [], []⟩ := by
  by_cases h0 : 4294967296 ≤ n
  · have e0 := shr_at n 32 (by omega)
    by_cases h1 : 65536 ≤ (n / 2 ^ 32)
    · have e1 := shr_at (n / 2 ^ 32) 16 (by omega)
      by_cases h2 : 256 ≤ ((n / 2 ^ 32) / 2 ^ 16)
      · have e2 := shr_at ((n / 2 ^ 32) / 2 ^ 16) 8 (by omega)
        have hb := bl_le (b := (((n / 2 ^ 32) / 2 ^ 16) / 2 ^ 8)) (by omega)
        have q : bl n = 56 + bl ((((n / 2 ^ 32) / 2 ^ 16) / 2 ^ 8)) := by
          rw [bl_div (n := n) (k := 32) (by omega), bl_div (n := (n / 2 ^ 32)) (k := 16) (by omega), bl_div (n := ((n / 2 ^ 32) / 2 ^ 16)) (k := 8) (by omega)]
          omega
        rw [q]
        exact zflat_ok tab_ok mixed fun_ok noC_ok (ln111 n (n / 2 ^ 32) ((n / 2 ^ 32) / 2 ^ 16) (((n / 2 ^ 32) / 2 ^ 16) / 2 ^ 8) (bl ((((n / 2 ^ 32) / 2 ^ 16) / 2 ^ 8)))) (.cons (decide_eq_true (by omega)) (.cons e0 (.cons (decide_eq_true (by omega)) (.cons e1 (.cons (decide_eq_true (by omega)) (.cons e2 (.cons (u8_at (n := (((n / 2 ^ 32) / 2 ^ 16) / 2 ^ 8)) (by omega)) (.cons (tabS_at (b := (((n / 2 ^ 32) / 2 ^ 16) / 2 ^ 8)) (by omega)) (.cons (congrArg (DV.int .i64) (wrapI (n := bl ((((n / 2 ^ 32) / 2 ^ 16) / 2 ^ 8))) (by omega))) (.cons (congrArg (DV.int .i64) (wrapI (n := 56 + bl ((((n / 2 ^ 32) / 2 ^ 16) / 2 ^ 8))) (by omega))) .nil))))))))))
      · have hb := bl_le (b := ((n / 2 ^ 32) / 2 ^ 16)) (by omega)
        have q : bl n = 48 + bl (((n / 2 ^ 32) / 2 ^ 16)) := by
          rw [bl_div (n := n) (k := 32) (by omega), bl_div (n := (n / 2 ^ 32)) (k := 16) (by omega)]
          omega
        rw [q]
        exact zflat_ok tab_ok mixed fun_ok noC_ok (ln110 n (n / 2 ^ 32) ((n / 2 ^ 32) / 2 ^ 16) 0 (bl (((n / 2 ^ 32) / 2 ^ 16)))) (.cons (decide_eq_true (by omega)) (.cons e0 (.cons (decide_eq_true (by omega)) (.cons e1 (.cons (decide_eq_false (by omega)) (.cons (u8_at (n := ((n / 2 ^ 32) / 2 ^ 16)) (by omega)) (.cons (tabS_at (b := ((n / 2 ^ 32) / 2 ^ 16)) (by omega)) (.cons (congrArg (DV.int .i64) (wrapI (n := bl (((n / 2 ^ 32) / 2 ^ 16))) (by omega))) (.cons (congrArg (DV.int .i64) (wrapI (n := 48 + bl (((n / 2 ^ 32) / 2 ^ 16))) (by omega))) .nil)))))))))
    · by_cases h2 : 256 ≤ (n / 2 ^ 32)
      · have e2 := shr_at (n / 2 ^ 32) 8 (by omega)
        have hb := bl_le (b := ((n / 2 ^ 32) / 2 ^ 8)) (by omega)
        have q : bl n = 40 + bl (((n / 2 ^ 32) / 2 ^ 8)) := by
          rw [bl_div (n := n) (k := 32) (by omega), bl_div (n := (n / 2 ^ 32)) (k := 8) (by omega)]
          omega
        rw [q]
        exact zflat_ok tab_ok mixed fun_ok noC_ok (ln101 n (n / 2 ^ 32) 0 ((n / 2 ^ 32) / 2 ^ 8) (bl (((n / 2 ^ 32) / 2 ^ 8)))) (.cons (decide_eq_true (by omega)) (.cons e0 (.cons (decide_eq_false (by omega)) (.cons (decide_eq_true (by omega)) (.cons e2 (.cons (u8_at (n := ((n / 2 ^ 32) / 2 ^ 8)) (by omega)) (.cons (tabS_at (b := ((n / 2 ^ 32) / 2 ^ 8)) (by omega)) (.cons (congrArg (DV.int .i64) (wrapI (n := bl (((n / 2 ^ 32) / 2 ^ 8))) (by omega))) (.cons (congrArg (DV.int .i64) (wrapI (n := 40 + bl (((n / 2 ^ 32) / 2 ^ 8))) (by omega))) .nil)))))))))
      · have hb := bl_le (b := (n / 2 ^ 32)) (by omega)
        have q : bl n = 32 + bl ((n / 2 ^ 32)) := by
          rw [bl_div (n := n) (k := 32) (by omega)]
        rw [q]
        exact zflat_ok tab_ok mixed fun_ok noC_ok (ln100 n (n / 2 ^ 32) 0 0 (bl ((n / 2 ^ 32)))) (.cons (decide_eq_true (by omega)) (.cons e0 (.cons (decide_eq_false (by omega)) (.cons (decide_eq_false (by omega)) (.cons (u8_at (n := (n / 2 ^ 32)) (by omega)) (.cons (tabS_at (b := (n / 2 ^ 32)) (by omega)) (.cons (congrArg (DV.int .i64) (wrapI (n := bl ((n / 2 ^ 32))) (by omega))) (.cons (congrArg (DV.int .i64) (wrapI (n := 32 + bl ((n / 2 ^ 32))) (by omega))) .nil))))))))
  · by_cases h1 : 65536 ≤ n
    · have e1 := shr_at n 16 (by omega)
      by_cases h2 : 256 ≤ (n / 2 ^ 16)
      · have e2 := shr_at (n / 2 ^ 16) 8 (by omega)
        have hb := bl_le (b := ((n / 2 ^ 16) / 2 ^ 8)) (by omega)
        have q : bl n = 24 + bl (((n / 2 ^ 16) / 2 ^ 8)) := by
          rw [bl_div (n := n) (k := 16) (by omega), bl_div (n := (n / 2 ^ 16)) (k := 8) (by omega)]
          omega
        rw [q]
        exact zflat_ok tab_ok mixed fun_ok noC_ok (ln011 n 0 (n / 2 ^ 16) ((n / 2 ^ 16) / 2 ^ 8) (bl (((n / 2 ^ 16) / 2 ^ 8)))) (.cons (decide_eq_false (by omega)) (.cons (decide_eq_true (by omega)) (.cons e1 (.cons (decide_eq_true (by omega)) (.cons e2 (.cons (u8_at (n := ((n / 2 ^ 16) / 2 ^ 8)) (by omega)) (.cons (tabS_at (b := ((n / 2 ^ 16) / 2 ^ 8)) (by omega)) (.cons (congrArg (DV.int .i64) (wrapI (n := bl (((n / 2 ^ 16) / 2 ^ 8))) (by omega))) (.cons (congrArg (DV.int .i64) (wrapI (n := 24 + bl (((n / 2 ^ 16) / 2 ^ 8))) (by omega))) .nil)))))))))
      · have hb := bl_le (b := (n / 2 ^ 16)) (by omega)
        have q : bl n = 16 + bl ((n / 2 ^ 16)) := by
          rw [bl_div (n := n) (k := 16) (by omega)]
        rw [q]
        exact zflat_ok tab_ok mixed fun_ok noC_ok (ln010 n 0 (n / 2 ^ 16) 0 (bl ((n / 2 ^ 16)))) (.cons (decide_eq_false (by omega)) (.cons (decide_eq_true (by omega)) (.cons e1 (.cons (decide_eq_false (by omega)) (.cons (u8_at (n := (n / 2 ^ 16)) (by omega)) (.cons (tabS_at (b := (n / 2 ^ 16)) (by omega)) (.cons (congrArg (DV.int .i64) (wrapI (n := bl ((n / 2 ^ 16))) (by omega))) (.cons (congrArg (DV.int .i64) (wrapI (n := 16 + bl ((n / 2 ^ 16))) (by omega))) .nil))))))))
    · by_cases h2 : 256 ≤ n
      · have e2 := shr_at n 8 (by omega)
        have hb := bl_le (b := (n / 2 ^ 8)) (by omega)
        have q : bl n = 8 + bl ((n / 2 ^ 8)) := by
          rw [bl_div (n := n) (k := 8) (by omega)]
        rw [q]
        exact zflat_ok tab_ok mixed fun_ok noC_ok (ln001 n 0 0 (n / 2 ^ 8) (bl ((n / 2 ^ 8)))) (.cons (decide_eq_false (by omega)) (.cons (decide_eq_false (by omega)) (.cons (decide_eq_true (by omega)) (.cons e2 (.cons (u8_at (n := (n / 2 ^ 8)) (by omega)) (.cons (tabS_at (b := (n / 2 ^ 8)) (by omega)) (.cons (congrArg (DV.int .i64) (wrapI (n := bl ((n / 2 ^ 8))) (by omega))) (.cons (congrArg (DV.int .i64) (wrapI (n := 8 + bl ((n / 2 ^ 8))) (by omega))) .nil))))))))
      · have hb := bl_le (b := n) (by omega)
        have q : bl n = 0 + bl (n) := by
          omega
        rw [q]
        exact zflat_ok tab_ok mixed fun_ok noC_ok (ln000 n 0 0 0 (bl (n))) (.cons (decide_eq_false (by omega)) (.cons (decide_eq_false (by omega)) (.cons (decide_eq_false (by omega)) (.cons (u8_at (n := n) (by omega)) (.cons (tabS_at (b := n) (by omega)) (.cons (congrArg (DV.int .i64) (wrapI (n := bl (n)) (by omega))) (.cons (congrArg (DV.int .i64) (wrapI (n := 0 + bl (n)) (by omega))) .nil)))))))
/-! ### Loss -/
def e4 (d : Int) : Nat := (max d 1).toNat * (max d 1).toNat * ((max d 1).toNat * (max d 1).toNat)
def ls0 (d : Int) : Int := 400 + 15 * ((Nat.log2 (e4 d) : Nat) : Int)
def lsV (d : Int) : Int := match inB d 0 30000 with
  | true => ls0 d
  | false => 0
def lsE (d : Int) : Int := match inB d 0 30000 with
  | true => 0
  | false => 2
def lsD (d : Int) : DV := .tuple [iI (lsV d), iI (lsE d)]
abbrev fLs : FuncId := 68
abbrev fLo : FuncId := 74
theorem e4_in {d : Int} (h1 : d ≤ 30000) : 1 ≤ e4 d ∧ e4 d ≤ 810000000000000000 ∧ 1 ≤ (max d 1).toNat ∧ (max d 1).toNat ≤ 30000 ∧ 1 ≤ (max d 1).toNat * (max d 1).toNat ∧ (max d 1).toNat * (max d 1).toNat ≤ 900000000 := by
  have a : 1 ≤ (max d 1).toNat := by omega
  have c : (max d 1).toNat ≤ 30000 := by omega
  unfold e4
  generalize (max d 1).toNat = e at a c
  have b1 : 1 * 1 ≤ e * e := Nat.mul_le_mul a a
  have b2 : e * e ≤ 30000 * 30000 := Nat.mul_le_mul c c
  have b3 : 1 * 1 ≤ e * e * (e * e) := Nat.mul_le_mul b1 b1
  have b4 : e * e * (e * e) ≤ 30000 * 30000 * (30000 * 30000) := Nat.mul_le_mul b2 b2
  omega
theorem log_in {d : Int} (h1 : d ≤ 30000) : Nat.log2 (e4 d) < 60 := by
  have := e4_in h1
  exact (Nat.log2_lt (by omega)).2 (by omega)
theorem max_at (d : Int) : DV.int .i64 (if d < 1 then 1 else d) = iN (max d 1).toNat := by
  have : (if d < 1 then 1 else d) = (((max d 1).toNat : Nat) : Int) := by split <;> omega
  rw [this]
set_option maxRecDepth 1000000 in
theorem ls1 (d : Int) : zflat (zans Try.prog tab ftab noC fLs [iI d] [(6, .b true)]) = some (.tuple [iI 0, iI 2], ((decide (d < 0)) = true) :: []) := by kernel_rfl
set_option maxRecDepth 1000000 in
theorem ls2 (d : Int) : zflat (zans Try.prog tab ftab noC fLs [iI d] [(6, .b false), (9, .b true)]) = some (.tuple [iI 0, iI 2], ((decide (d < 0)) = false) :: ((decide (d > 30000)) = true) :: []) := by kernel_rfl
set_option maxRecDepth 1000000 in
theorem ls3 (d : Int) (e f g l : Nat) : zflat (zans Try.prog tab ftab (calC fLn [.int .u64 (g : Int)] (iN (l + 1))) fLs [iI d] [(6, .b false), (9, .b false), (12, .w (iN e)), (13, .w (iN f)), (14, .w (iN g)), (16, .w (.int .u64 (g : Int))), (17, .q (iN (l + 1))), (18, .w (iN l)), (19, .w (iN (15 * l))), (20, .w (iI (400 + 15 * (l : Int))))]) = some (.tuple [iI (400 + 15 * (l : Int)), iI 0], ((decide (d < 0)) = false) :: ((decide (d > 30000)) = false) :: (DV.int .i64 (if d < 1 then 1 else d) = iN e) :: (DV.int .i64 (IntKind.i64.wrap ((e : Int) * (e : Int))) = iN f) :: (DV.int .i64 (IntKind.i64.wrap ((f : Int) * (f : Int))) = iN g) :: (DV.int .u64 (IntKind.u64.wrap (g : Int)) = .int .u64 (g : Int)) :: (calC fLn [.int .u64 (g : Int)] (iN (l + 1)) fLn [.int .u64 (g : Int)] h00 = some (iN (l + 1), h00, none)) :: (DV.int .i64 (IntKind.i64.wrap (((l + 1 : Nat) : Int) - 1)) = iN l) :: (DV.int .i64 (IntKind.i64.wrap (15 * (l : Int))) = iN (15 * l)) :: (DV.int .i64 (IntKind.i64.wrap (400 + ((15 * l : Nat) : Int))) = iI (400 + 15 * (l : Int))) :: []) := by kernel_rfl
theorem u64_at {n : Nat} (h : n < 2 ^ 64) : DV.int .u64 (IntKind.u64.wrap (n : Int)) = .int .u64 (n : Int) := by
  have : IntKind.u64.wrap (n : Int) = (n : Int) := by
    simp only [IntKind.wrap, IntKind.bits, IntKind.signed, Bool.false_and]
    simp
    omega
  rw [this]
theorem mulN {a b : Nat} (h : a * b < 2 ^ 63) : DV.int .i64 (IntKind.i64.wrap ((a : Int) * (b : Int))) = iN (a * b) := by
  rw [← Int.natCast_mul, wrapI h]
theorem ls_ans (d : Int) : Ans Try.prog fLs [iI d] (lsD d) ⟨0, [], []⟩ := by
  unfold lsD lsV lsE inB
  by_cases h0 : 0 ≤ d
  · rw [decide_eq_true h0]
    have l0 : decide (d < 0) = false := decide_eq_false (by omega)
    by_cases h1 : d ≤ 30000
    · rw [decide_eq_true h1]
      have he := e4_in h1
      have hg := log_in h1
      have ha := ln_ans (e4 d) (by omega)
      rw [bl_pos (by omega)] at ha
      exact zflat_ok tab_ok mixed fun_ok (calC_ok ha) (ls3 d (max d 1).toNat ((max d 1).toNat * (max d 1).toNat) (e4 d) (Nat.log2 (e4 d))) (.cons l0 (.cons (decide_eq_false (by omega)) (.cons (max_at d) (.cons (mulN (by omega)) (.cons (mulN (show e4 d < 2 ^ 63 by omega)) (.cons (u64_at (by omega)) (.cons (calC_at _ rfl rfl) (.cons (congrArg (DV.int .i64) (wrapZ (by omega) (by omega) |>.trans (by omega))) (.cons (congrArg (DV.int .i64) (wrapZ (by omega) (by omega) |>.trans (by omega))) (.cons (congrArg (DV.int .i64) (wrapZ (by omega) (by omega) |>.trans (by omega))) .nil))))))))))
    · rw [decide_eq_false h1]
      exact zflat_ok tab_ok mixed fun_ok noC_ok (ls2 d) (.cons l0 (.cons (decide_eq_true (by omega)) .nil))
  · rw [decide_eq_false h0]
    exact zflat_ok tab_ok mixed fun_ok noC_ok (ls1 d) (.cons (decide_eq_true (by omega)) .nil)
def cLs : ConF := liftC (comC fLs (g1 lsD))
theorem cLs_ok : ConOk Try.prog cLs := g1_ok ls_ans
/-! ### the reference's Lost -/
abbrev kLo : List (Nat × Nat) := ksF ftab fLo
abbrev loL : Code := loopAt (bodyOf ftab fLo) 0
abbrev loS (n q : Nat) : Slots := mkT 24 [(4, iN n), (5, iN q)]
set_option maxRecDepth 1000000 in
theorem lo1 (n n2 q : Nat) : zsee Try.prog tab ftab noC kLo [4, 5] loL (loS n q) h00 [(16, .b true), (18, .w (iN n2)), (20, .w (iN (q + 1)))] = some (.normal, loS n2 (q + 1), h00, ((decide ((n : Int) ≥ 2)) = true) :: (DV.int .i64 (quoD .i64 (n : Int) 2) = iN n2) :: wrK q :: []) := by kernel_rfl
set_option maxRecDepth 1000000 in
theorem loO (n q : Nat) : zsee Try.prog tab ftab noC kLo [5] loL (loS n q) h00 [(16, .b false)] = some (.exit 0, mkT 24 [(5, iN q)], h00, ((decide ((n : Int) ≥ 2)) = false) :: []) := by kernel_rfl
set_option maxRecDepth 1000000 in
theorem loA (d : Int) (e f g h l : Nat) : zflat (zans Try.prog tab ftab noC fLo [iI d] [(7, .w (iN e)), (10, .w (iN f)), (12, .w (iN g)), (14, .w (iN h)), (0, .l [4, 5] (.exit 0) (mkT 24 [(5, iN l)]) h00), (22, .w (iN (15 * l))), (23, .w (iI (400 + 15 * (l : Int))))]) = some (iI (400 + 15 * (l : Int)), (DV.int .i64 (if d < 1 then 1 else d) = iN e) :: (DV.int .i64 (IntKind.i64.wrap ((e : Int) * (e : Int))) = iN f) :: (DV.int .i64 (IntKind.i64.wrap ((f : Int) * (e : Int))) = iN g) :: (DV.int .i64 (IntKind.i64.wrap ((g : Int) * (e : Int))) = iN h) :: (Goes Try.prog tab kLo (.loop loL) (loS h 0) h00 (.exit 0) (mkT 24 [(5, iN l)]) h00) :: (DV.int .i64 (IntKind.i64.wrap (15 * (l : Int))) = iN (15 * l)) :: (DV.int .i64 (IntKind.i64.wrap (400 + ((15 * l : Nat) : Int))) = iI (400 + 15 * (l : Int))) :: []) := by kernel_rfl
theorem lo_loop : ∀ (m n q : Nat), n ≤ m → n < 2 ^ 63 → q + m < 2 ^ 63 → ∃ r, GoesR Try.prog tab kLo loL (r + 1) (loS n q) h00 (.exit 0) (mkT 24 [(5, iN (q + Nat.log2 n))]) h00 := by
  intro m
  induction m with
  | zero =>
    intro n q h1 h2 h3
    obtain rfl : n = 0 := by omega
    exact ⟨0, GoesR.last (zsee_ok tab_ok mixed fun_ok noC_ok (loO 0 q) (.cons rfl .nil)) (by intro h; cases h)⟩
  | succ m ih =>
    intro n q h1 h2 h3
    rw [Nat.log2_def]
    by_cases h : 2 ≤ n
    · rw [if_pos h]
      obtain ⟨r, g⟩ := ih (n / 2) (q + 1) (by omega) (by omega) (by omega)
      rw [show q + 1 + Nat.log2 (n / 2) = q + (Nat.log2 (n / 2) + 1) by omega] at g
      have e : quoD .i64 (n : Int) 2 = ((n / 2 : Nat) : Int) := by
        rw [quo2 (by omega) (by omega)]
        omega
      exact ⟨r + 1, GoesR.step (zsee_ok tab_ok mixed fun_ok noC_ok (lo1 n (n / 2) q) (.cons (decide_eq_true (by omega)) (.cons (congrArg (DV.int .i64) e) (.cons (wrK_at (by omega)) .nil)))) g⟩
    · rw [if_neg h]
      exact ⟨0, GoesR.last (zsee_ok tab_ok mixed fun_ok noC_ok (loO n q) (.cons (decide_eq_false (by omega)) .nil)) (by intro h; cases h)⟩
theorem lo_ans (d : Int) (h1 : d ≤ 30000) : Ans Try.prog fLo [iI d] (iI (ls0 d)) ⟨0, [], []⟩ := by
  have he := e4_in h1
  have hg := log_in h1
  have e2 : (max d 1).toNat * (max d 1).toNat * (max d 1).toNat ≤ 900000000 * 30000 := Nat.mul_le_mul he.2.2.2.2.2 he.2.2.2.1
  have e3 : (max d 1).toNat * (max d 1).toNat * (max d 1).toNat * (max d 1).toNat = e4 d := by
    unfold e4
    rw [Nat.mul_assoc ((max d 1).toNat * (max d 1).toNat)]
  obtain ⟨r, g⟩ := lo_loop (e4 d) (e4 d) 0 (Nat.le_refl _) (by omega) (by omega)
  rw [Nat.zero_add] at g
  have m3 := mulN (a := (max d 1).toNat * (max d 1).toNat * (max d 1).toNat) (b := (max d 1).toNat) (by rw [e3]; omega)
  rw [e3] at m3
  exact zflat_ok tab_ok mixed fun_ok noC_ok (loA d (max d 1).toNat ((max d 1).toNat * (max d 1).toNat) ((max d 1).toNat * (max d 1).toNat * (max d 1).toNat) (e4 d) (Nat.log2 (e4 d))) (.cons (max_at d) (.cons (mulN (by omega)) (.cons (mulN (by omega)) (.cons m3 (.cons g.goes (.cons (congrArg (DV.int .i64) (wrapZ (by omega) (by omega) |>.trans (by omega))) (.cons (congrArg (DV.int .i64) (wrapZ (by omega) (by omega) |>.trans (by omega))) .nil)))))))
end
end Go.Proofs.Ytgjgihlfkpbdgaa
/- Levels and hearing: contracts, of the program and of the reference. -/
namespace Go.Proofs.Ytgjgihlfkpbdgaa
open Go.RowKit

noncomputable section
/-! ### What is told -/
def rI (w : Wd) (i : Int) : Rw := w.r.getD i.toNat ⟨0, 0, 0, 0⟩
def sI (w : Wd) (i j : Int) : Int := (w.s.getD i.toNat []).getD j.toNat 0
def inI (w : Wd) (i : Int) : Bool := inB i 0 ((w.r.length : Int) - 1)
def okA (w : Wd) (i j : Int) : Bool := match chk w with
  | true => match inI w i with
    | true => inI w j
    | false => false
  | false => false
def asE (w : Wd) (i j : Int) : Int := match chk w with
  | true => match inI w i with
    | true => match inI w j with
      | true => 0
      | false => 2
    | false => 2
  | false => 8
def ds (w : Wd) (i j : Int) : Int := rt (sqs (rI w i).x (rI w i).y (rI w j).x (rI w j).y)
def l0 (w : Wd) (i j : Int) : Int := (rI w i).p - ls0 (ds w i j)
def lv (w : Wd) (i j : Int) : Int := match decide (w.s.length = 0) with
  | true => l0 w i j
  | false => l0 w i j - sI w i j
def hr (w : Wd) (j i : Int) : Bool := match i != j with
  | true => match (rI w i).c == (rI w j).c with
    | true => decide (lv w i j ≥ -820)
    | false => false
  | false => false
def lvV (w : Wd) (i j : Int) : Int := match okA w i j with
  | true => lv w i j
  | false => 0
def hrV (w : Wd) (j i : Int) : Bool := match okA w j i with
  | true => hr w j i
  | false => false
/-- a node -/
structure Nd (w : Wd) (i : Int) : Prop where
  lo : 0 ≤ i
  hi : i < (w.r.length : Int)
theorem nd_iff (w : Wd) (i : Int) : inI w i = true ↔ Nd w i := by
  unfold inI
  rw [inB_iff]
  exact ⟨fun h => ⟨h.1, by omega⟩, fun h => ⟨h.lo, by have := h.hi; omega⟩⟩
/-- a valid world -/
structure Va (w : Wd) : Prop where
  n1 : 1 ≤ w.r.length
  n2 : w.r.length ≤ 32
  r : ∀ k, k < w.r.length → vr (w.r.getD k ⟨0, 0, 0, 0⟩) = true
  s : w.s.length = 0 ∨ (w.s.length = w.r.length ∧ ∀ k, k < w.r.length → rowB w.r.length k (w.s.getD k []) = true)
theorem va_iff (w : Wd) : chk w = true ↔ Va w := by
  unfold chk shB okR
  constructor
  · intro h
    split at h
    · rename_i h1
      have h1 := (inB_iff _ _ _).1 h1
      split at h
      · rename_i h2
        refine ⟨by omega, by omega, allB_t.1 h2, ?_⟩
        split at h
        · rename_i h3
          exact .inl (of_decide_eq_true h3)
        · split at h
          · rename_i h4
            exact .inr ⟨of_decide_eq_true h4, allB_t.1 h⟩
          · cases h
      · cases h
    · cases h
  · intro h
    have h1 := h.n1
    have h2 := h.n2
    rw [(inB_iff _ _ _).2 ⟨by omega, by omega⟩]
    have h3 := h.r
    rw [allB_t.2 h3]
    dsimp only
    rcases h.s with h4 | ⟨h4, h5⟩
    · rw [decide_eq_true h4]
    · rw [decide_eq_false (by omega), decide_eq_true h4]
      exact allB_t.2 h5
section
variable {w : Wd} (va : Va w)
include va
theorem Va.rad {i : Int} (hi : Nd w i) : (-10000 ≤ (rI w i).x ∧ (rI w i).x ≤ 10000) ∧ (-10000 ≤ (rI w i).y ∧ (rI w i).y ≤ 10000) ∧ (0 ≤ (rI w i).p ∧ (rI w i).p ≤ 300) ∧ 1 ≤ (rI w i).c ∧ (rI w i).c ≤ 64 := by
  have h1 := hi.lo
  have h2 := hi.hi
  exact (vr_iff _).1 (va.r i.toNat (by omega))
theorem Va.dsB {i j : Int} (hi : Nd w i) (hj : Nd w j) : dsB (rI w i).x (rI w i).y (rI w j).x (rI w j).y = true := by
  have a := va.rad hi
  have b := va.rad hj
  exact (dsB_iff _ _ _ _).2 ⟨a.1, a.2.1, b.1, b.2.1⟩
theorem Va.ds_in {i j : Int} (hi : Nd w i) (hj : Nd w j) : 0 ≤ ds w i j ∧ ds w i j ≤ 28284 := by
  have := sqs_in (va.dsB hi hj)
  exact ⟨(rt_ok this.1).1, rt_le this.1 this.2⟩
theorem Va.row {k : Nat} (h0 : w.s.length ≠ 0) (hk : k < w.r.length) : (w.s.getD k []).length = w.r.length ∧ (w.s.getD k []).getD k 0 = 0 ∧ ∀ j, j < w.r.length → 0 ≤ (w.s.getD k []).getD j 0 ∧ (w.s.getD k []).getD j 0 ≤ 600 := by
  rcases va.s with h | ⟨_, h⟩
  · exact absurd h h0
  · have := h k hk
    unfold rowB at this
    split at this
    · rename_i h1
      split at this
      · rename_i h2
        exact ⟨of_decide_eq_true h1, of_decide_eq_true h2, fun j hj => (inB_iff _ _ _).1 (allB_t.1 this j hj)⟩
      · cases this
    · cases this
theorem Va.slen (h0 : w.s.length ≠ 0) : w.s.length = w.r.length := by
  rcases va.s with h | ⟨h, _⟩
  · exact absurd h h0
  · exact h
theorem Va.sI_in {i j : Int} (h0 : w.s.length ≠ 0) (hi : Nd w i) (hj : Nd w j) : 0 ≤ sI w i j ∧ sI w i j ≤ 600 := by
  have h1 := hi.lo
  have h2 := hi.hi
  have h3 := hj.lo
  have h4 := hj.hi
  exact (va.row h0 (k := i.toNat) (by omega)).2.2 j.toNat (by omega)
end
theorem ls0_in {d : Int} (h : d ≤ 30000) : 400 ≤ ls0 d ∧ ls0 d ≤ 1300 := by
  have := log_in h
  unfold ls0
  omega
theorem rI_at {w : Wd} {i : Int} (h : Nd w i) : idxOk i (rsR w.r).length = true ∧ nth (rsR w.r) i.toNat = some (rC (rI w i)) := by
  have h1 := h.lo
  have h2 := h.hi
  refine ⟨idxOk_in h1 (by rw [rsR_length]; exact h2), ?_⟩
  obtain ⟨k, rfl⟩ := Int.eq_ofNat_of_zero_le h1
  exact rsR_at (get_in _ (by omega))
theorem sI_at {w : Wd} (va : Va w) (h0 : w.s.length ≠ 0) {i j : Int} (hi : Nd w i) (hj : Nd w j) : idxOk i (ssR w.s).length = true ∧ nth (ssR w.s) i.toNat = some [.list 1 (i1 (w.s.getD i.toNat []))] ∧ idxOk j (i1 (w.s.getD i.toNat [])).length = true ∧ nth (i1 (w.s.getD i.toNat [])) j.toNat = some [iI (sI w i j)] := by
  have h1 := hi.lo
  have h2 := hi.hi
  have h3 := hj.lo
  have h4 := hj.hi
  have hl := va.slen h0
  have hr := (va.row h0 (k := i.toNat) (by omega)).1
  refine ⟨idxOk_in h1 (by rw [ssR_length]; omega), ?_, idxOk_in h3 (by rw [i1_length]; omega), ?_⟩
  · obtain ⟨k, rfl⟩ := Int.eq_ofNat_of_zero_le h1
    exact ssR_at (get_in _ (by omega))
  · obtain ⟨k, rfl⟩ := Int.eq_ofNat_of_zero_le h3
    exact i1_at (get_in _ (by omega))
/-! ### level -/
abbrev fLv : FuncId := 55
def cDL : ConF := orK cDs cLs
theorem cDL_ok : ConOk Try.prog cDL := orK_ok cDs_ok cLs_ok
set_option maxRecDepth 1000000 in
theorem lv1 (w : Wd) (i j v _u _z : Int) (a c : Rw) (_ys : List (List DV)) : zflat (zans Try.prog tab ftab cDL fLv [wdD w, iI i, iI j] [(17, .n (.fptr (rC a))), (22, .n (.fptr (rC c))), (44, .w (iI v)), (48, .b false)]) = some (iI v, ((idxOk i (rsR w.r).length) = true) :: (nth (rsR w.r) i.toNat = some (rC a)) :: ((idxOk j (rsR w.r).length) = true) :: (nth (rsR w.r) j.toNat = some (rC c)) :: (DV.int .i64 (IntKind.i64.wrap (a.p - lsV (dsV a.x a.y c.x c.y))) = iI v) :: ((decide (((ssR w.s).length : Int) > 0)) = false) :: []) := by kernel_rfl
set_option maxRecDepth 1000000 in
theorem lv2 (w : Wd) (i j v u z : Int) (a c : Rw) (ys : List (List DV)) : zflat (zans Try.prog tab ftab cDL fLv [wdD w, iI i, iI j] [(17, .n (.fptr (rC a))), (22, .n (.fptr (rC c))), (44, .w (iI v)), (48, .b true), (53, .n (.fptr [.list 1 ys])), (56, .n (.fptr [iI z])), (58, .w (iI u))]) = some (iI u, ((idxOk i (rsR w.r).length) = true) :: (nth (rsR w.r) i.toNat = some (rC a)) :: ((idxOk j (rsR w.r).length) = true) :: (nth (rsR w.r) j.toNat = some (rC c)) :: (DV.int .i64 (IntKind.i64.wrap (a.p - lsV (dsV a.x a.y c.x c.y))) = iI v) :: ((decide (((ssR w.s).length : Int) > 0)) = true) :: ((idxOk i (ssR w.s).length) = true) :: (nth (ssR w.s) i.toNat = some [.list 1 ys]) :: ((idxOk j ys.length) = true) :: (nth ys j.toNat = some [iI z]) :: (DV.int .i64 (IntKind.i64.wrap (v - z)) = iI u) :: []) := by kernel_rfl
theorem l0_at {w : Wd} (va : Va w) {i j : Int} (hi : Nd w i) (hj : Nd w j) : DV.int .i64 (IntKind.i64.wrap ((rI w i).p - lsV (dsV (rI w i).x (rI w i).y (rI w j).x (rI w j).y))) = iI (l0 w i j) := by
  have hd := va.ds_in hi hj
  have hl := ls0_in (d := ds w i j) (by omega)
  have hp := va.rad hi
  unfold dsV
  rw [va.dsB hi hj]
  have q : lsV (ds w i j) = ls0 (ds w i j) := by
    unfold lsV
    rw [(inB_iff _ _ _).2 ⟨hd.1, by omega⟩]
  show DV.int .i64 (IntKind.i64.wrap ((rI w i).p - lsV (ds w i j))) = _
  rw [q]
  exact congrArg (DV.int .i64) (wrapZ (x := (rI w i).p - ls0 (ds w i j)) (by omega) (by omega))
theorem l0_in {w : Wd} (va : Va w) {i j : Int} (hi : Nd w i) (hj : Nd w j) : -1300 ≤ l0 w i j ∧ l0 w i j ≤ 300 := by
  have hd := va.ds_in hi hj
  have hl := ls0_in (d := ds w i j) (by omega)
  have hp := va.rad hi
  unfold l0
  omega
theorem lv_ans (w : Wd) (va : Va w) (i j : Int) (hi : Nd w i) (hj : Nd w j) : Ans Try.prog fLv [wdD w, iI i, iI j] (iI (lv w i j)) ⟨0, [], []⟩ := by
  have ai := rI_at hi
  have aj := rI_at hj
  have hl := l0_in va hi hj
  have e := ssR_length w.s
  unfold lv
  by_cases h0 : w.s.length = 0
  · rw [decide_eq_true h0]
    exact zflat_ok tab_ok mixed fun_ok cDL_ok (lv1 w i j (l0 w i j) 0 0 (rI w i) (rI w j) []) (.cons ai.1 (.cons ai.2 (.cons aj.1 (.cons aj.2 (.cons (l0_at va hi hj) (.cons (decide_eq_false (by omega)) .nil))))))
  · rw [decide_eq_false h0]
    have sa := sI_at va h0 hi hj
    have si := va.sI_in h0 hi hj
    exact zflat_ok tab_ok mixed fun_ok cDL_ok (lv2 w i j (l0 w i j) (l0 w i j - sI w i j) (sI w i j) (rI w i) (rI w j) (i1 (w.s.getD i.toNat []))) (.cons ai.1 (.cons ai.2 (.cons aj.1 (.cons aj.2 (.cons (l0_at va hi hj) (.cons (decide_eq_true (by omega)) (.cons sa.1 (.cons sa.2.1 (.cons sa.2.2.1 (.cons sa.2.2.2 (.cons (congrArg (DV.int .i64) (wrapZ (by omega) (by omega))) .nil)))))))))))
/-! ### the reference's Leveled -/
abbrev fRv : FuncId := 64
set_option maxRecDepth 1000000 in
theorem rv1 (w : Wd) (i j v _u _z _d l : Int) (a c : Rw) (_ys : List (List DV)) : zflat (zans Try.prog tab ftab (orK cRd (calC fLo [iI (dsV a.x a.y c.x c.y)] (iI l))) fRv [wdD w, iI i, iI j] [(14, .n (.fptr (rC a))), (20, .n (.fptr (rC a))), (26, .n (.fptr (rC c))), (32, .n (.fptr (rC c))), (41, .n (.fptr (rC a))), (45, .q (iI l)), (46, .w (iI v)), (50, .b false)]) = some (iI v, ((idxOk i (rsR w.r).length) = true) :: (nth (rsR w.r) i.toNat = some (rC a)) :: ((idxOk i (rsR w.r).length) = true) :: (nth (rsR w.r) i.toNat = some (rC a)) :: ((idxOk j (rsR w.r).length) = true) :: (nth (rsR w.r) j.toNat = some (rC c)) :: ((idxOk j (rsR w.r).length) = true) :: (nth (rsR w.r) j.toNat = some (rC c)) :: ((idxOk i (rsR w.r).length) = true) :: (nth (rsR w.r) i.toNat = some (rC a)) :: ((orK cRd (calC fLo [iI (dsV a.x a.y c.x c.y)] (iI l))) fLo [iI (dsV a.x a.y c.x c.y)] (hW w) = some (iI l, hW w, none)) :: (DV.int .i64 (IntKind.i64.wrap (a.p - l)) = iI v) :: ((decide (((ssR w.s).length : Int) > 0)) = false) :: []) := by kernel_rfl
set_option maxRecDepth 1000000 in
theorem rv2 (w : Wd) (i j v u z _d l : Int) (a c : Rw) (ys : List (List DV)) : zflat (zans Try.prog tab ftab (orK cRd (calC fLo [iI (dsV a.x a.y c.x c.y)] (iI l))) fRv [wdD w, iI i, iI j] [(14, .n (.fptr (rC a))), (20, .n (.fptr (rC a))), (26, .n (.fptr (rC c))), (32, .n (.fptr (rC c))), (41, .n (.fptr (rC a))), (45, .q (iI l)), (46, .w (iI v)), (50, .b true), (55, .n (.fptr [.list 1 ys])), (58, .n (.fptr [iI z])), (60, .w (iI u))]) = some (iI u, ((idxOk i (rsR w.r).length) = true) :: (nth (rsR w.r) i.toNat = some (rC a)) :: ((idxOk i (rsR w.r).length) = true) :: (nth (rsR w.r) i.toNat = some (rC a)) :: ((idxOk j (rsR w.r).length) = true) :: (nth (rsR w.r) j.toNat = some (rC c)) :: ((idxOk j (rsR w.r).length) = true) :: (nth (rsR w.r) j.toNat = some (rC c)) :: ((idxOk i (rsR w.r).length) = true) :: (nth (rsR w.r) i.toNat = some (rC a)) :: ((orK cRd (calC fLo [iI (dsV a.x a.y c.x c.y)] (iI l))) fLo [iI (dsV a.x a.y c.x c.y)] (hW w) = some (iI l, hW w, none)) :: (DV.int .i64 (IntKind.i64.wrap (a.p - l)) = iI v) :: ((decide (((ssR w.s).length : Int) > 0)) = true) :: ((idxOk i (ssR w.s).length) = true) :: (nth (ssR w.s) i.toNat = some [.list 1 ys]) :: ((idxOk j ys.length) = true) :: (nth ys j.toNat = some [iI z]) :: (DV.int .i64 (IntKind.i64.wrap (v - z)) = iI u) :: []) := by kernel_rfl
theorem rv_ans (w : Wd) (va : Va w) (i j : Int) (hi : Nd w i) (hj : Nd w j) : Ans Try.prog fRv [wdD w, iI i, iI j] (iI (lv w i j)) ⟨0, [], []⟩ := by
  have ai := rI_at hi
  have aj := rI_at hj
  have hl := l0_in va hi hj
  have e := ssR_length w.s
  have hd := va.ds_in hi hj
  have ed : dsV (rI w i).x (rI w i).y (rI w j).x (rI w j).y = ds w i j := by
    unfold dsV
    rw [va.dsB hi hj]
    rfl
  have ha := lo_ans (ds w i j) (by omega)
  have hw : DV.int .i64 (IntKind.i64.wrap ((rI w i).p - ls0 (ds w i j))) = iI (l0 w i j) := congrArg (DV.int .i64) (wrapZ (x := (rI w i).p - ls0 (ds w i j)) (by unfold l0 at hl; omega) (by unfold l0 at hl; omega))
  rw [← ed] at ha
  unfold lv
  by_cases h0 : w.s.length = 0
  · rw [decide_eq_true h0]
    exact zflat_ok tab_ok mixed fun_ok (orK_ok cRd_ok (calC_ok ha)) (rv1 w i j (l0 w i j) 0 0 0 _ (rI w i) (rI w j) []) (.cons ai.1 (.cons ai.2 (.cons ai.1 (.cons ai.2 (.cons aj.1 (.cons aj.2 (.cons aj.1 (.cons aj.2 (.cons ai.1 (.cons ai.2 (.cons (orK_right (lift_oth rfl) (calC_at _ rfl rfl)) (.cons (by rw [ed]; exact hw) (.cons (decide_eq_false (by omega)) .nil)))))))))))))
  · rw [decide_eq_false h0]
    have sa := sI_at va h0 hi hj
    have si := va.sI_in h0 hi hj
    exact zflat_ok tab_ok mixed fun_ok (orK_ok cRd_ok (calC_ok ha)) (rv2 w i j (l0 w i j) (l0 w i j - sI w i j) (sI w i j) 0 _ (rI w i) (rI w j) (i1 (w.s.getD i.toNat []))) (.cons ai.1 (.cons ai.2 (.cons ai.1 (.cons ai.2 (.cons aj.1 (.cons aj.2 (.cons aj.1 (.cons aj.2 (.cons ai.1 (.cons ai.2 (.cons (orK_right (lift_oth rfl) (calC_at _ rfl rfl)) (.cons (by rw [ed]; exact hw) (.cons (decide_eq_true (by omega)) (.cons sa.1 (.cons sa.2.1 (.cons sa.2.2.1 (.cons sa.2.2.2 (.cons (congrArg (DV.int .i64) (wrapZ (by omega) (by omega))) .nil))))))))))))))))))
/-! ### hears, Heard -/
abbrev fHe : FuncId := 54
abbrev fRh : FuncId := 65
set_option maxRecDepth 1000000 in
theorem he1 (w : Wd) (i j l : Int) (_a _c : Rw) : zflat (zans Try.prog tab ftab (calC fLv [wdD w, iI i, iI j] (iI l)) fHe [wdD w, iI j, iI i] [(9, .b false)]) = some (.bool false, (((i != j)) = false) :: []) := by kernel_rfl
set_option maxRecDepth 1000000 in
theorem he2 (w : Wd) (i j l : Int) (a c : Rw) : zflat (zans Try.prog tab ftab (calC fLv [wdD w, iI i, iI j] (iI l)) fHe [wdD w, iI j, iI i] [(9, .b true), (14, .n (.fptr (rC a))), (20, .n (.fptr (rC c))), (23, .b false)]) = some (.bool false, (((i != j)) = true) :: ((idxOk i (rsR w.r).length) = true) :: (nth (rsR w.r) i.toNat = some (rC a)) :: ((idxOk j (rsR w.r).length) = true) :: (nth (rsR w.r) j.toNat = some (rC c)) :: (((a.c == c.c)) = false) :: []) := by kernel_rfl
set_option maxRecDepth 1000000 in
theorem he3 (w : Wd) (i j l : Int) (a c : Rw) : zflat (zans Try.prog tab ftab (calC fLv [wdD w, iI i, iI j] (iI l)) fHe [wdD w, iI j, iI i] [(9, .b true), (14, .n (.fptr (rC a))), (20, .n (.fptr (rC c))), (23, .b true), (29, .q (iI l))]) = some (.bool (decide (l ≥ -820)), (((i != j)) = true) :: ((idxOk i (rsR w.r).length) = true) :: (nth (rsR w.r) i.toNat = some (rC a)) :: ((idxOk j (rsR w.r).length) = true) :: (nth (rsR w.r) j.toNat = some (rC c)) :: (((a.c == c.c)) = true) :: ((calC fLv [wdD w, iI i, iI j] (iI l)) fLv [wdD w, iI i, iI j] (hW w) = some (iI l, hW w, none)) :: []) := by kernel_rfl
theorem he_ans (w : Wd) (va : Va w) (j i : Int) (hj : Nd w j) (hi : Nd w i) : Ans Try.prog fHe [wdD w, iI j, iI i] (.bool (hr w j i)) ⟨0, [], []⟩ := by
  have ai := rI_at hi
  have aj := rI_at hj
  have hk := calC_ok (lv_ans w va i j hi hj)
  unfold hr
  cases h1 : i != j with
  | false => exact zflat_ok tab_ok mixed fun_ok hk (he1 w i j _ (rI w i) (rI w j)) (.cons h1 .nil)
  | true =>
    cases h2 : (rI w i).c == (rI w j).c with
    | false => exact zflat_ok tab_ok mixed fun_ok hk (he2 w i j _ (rI w i) (rI w j)) (.cons h1 (.cons ai.1 (.cons ai.2 (.cons aj.1 (.cons aj.2 (.cons h2 .nil))))))
    | true => exact zflat_ok tab_ok mixed fun_ok hk (he3 w i j _ (rI w i) (rI w j)) (.cons h1 (.cons ai.1 (.cons ai.2 (.cons aj.1 (.cons aj.2 (.cons h2 (.cons (calC_at _ rfl rfl) .nil)))))))
set_option maxRecDepth 1000000 in
theorem rh1 (w : Wd) (i j l : Int) (_a _c : Rw) : zflat (zans Try.prog tab ftab (calC fRv [wdD w, iI i, iI j] (iI l)) fRh [wdD w, iI j, iI i] [(9, .b false)]) = some (.bool false, (((i != j)) = false) :: []) := by kernel_rfl
set_option maxRecDepth 1000000 in
theorem rh2 (w : Wd) (i j l : Int) (a c : Rw) : zflat (zans Try.prog tab ftab (calC fRv [wdD w, iI i, iI j] (iI l)) fRh [wdD w, iI j, iI i] [(9, .b true), (14, .n (.fptr (rC a))), (20, .n (.fptr (rC c))), (23, .b false)]) = some (.bool false, (((i != j)) = true) :: ((idxOk i (rsR w.r).length) = true) :: (nth (rsR w.r) i.toNat = some (rC a)) :: ((idxOk j (rsR w.r).length) = true) :: (nth (rsR w.r) j.toNat = some (rC c)) :: (((a.c == c.c)) = false) :: []) := by kernel_rfl
set_option maxRecDepth 1000000 in
theorem rh3 (w : Wd) (i j l : Int) (a c : Rw) : zflat (zans Try.prog tab ftab (calC fRv [wdD w, iI i, iI j] (iI l)) fRh [wdD w, iI j, iI i] [(9, .b true), (14, .n (.fptr (rC a))), (20, .n (.fptr (rC c))), (23, .b true), (29, .q (iI l))]) = some (.bool (decide (l ≥ -820)), (((i != j)) = true) :: ((idxOk i (rsR w.r).length) = true) :: (nth (rsR w.r) i.toNat = some (rC a)) :: ((idxOk j (rsR w.r).length) = true) :: (nth (rsR w.r) j.toNat = some (rC c)) :: (((a.c == c.c)) = true) :: ((calC fRv [wdD w, iI i, iI j] (iI l)) fRv [wdD w, iI i, iI j] (hW w) = some (iI l, hW w, none)) :: []) := by kernel_rfl
theorem rh_ans (w : Wd) (va : Va w) (j i : Int) (hj : Nd w j) (hi : Nd w i) : Ans Try.prog fRh [wdD w, iI j, iI i] (.bool (hr w j i)) ⟨0, [], []⟩ := by
  have ai := rI_at hi
  have aj := rI_at hj
  have hk := calC_ok (rv_ans w va i j hi hj)
  unfold hr
  cases h1 : i != j with
  | false => exact zflat_ok tab_ok mixed fun_ok hk (rh1 w i j _ (rI w i) (rI w j)) (.cons h1 .nil)
  | true =>
    cases h2 : (rI w i).c == (rI w j).c with
    | false => exact zflat_ok tab_ok mixed fun_ok hk (rh2 w i j _ (rI w i) (rI w j)) (.cons h1 (.cons ai.1 (.cons ai.2 (.cons aj.1 (.cons aj.2 (.cons h2 .nil))))))
    | true => exact zflat_ok tab_ok mixed fun_ok hk (rh3 w i j _ (rI w i) (rI w j)) (.cons h1 (.cons ai.1 (.cons ai.2 (.cons aj.1 (.cons aj.2 (.cons h2 (.cons (calC_at _ rfl rfl) .nil)))))))
/-! ### Asked -/
theorem chE_t {w : Wd} (h : chk w = true) : chE w = 0 := by unfold chE; rw [h]
theorem chE_f {w : Wd} (h : chk w = false) : chE w = 8 := by unfold chE; rw [h]
/-! ### Level, Hears -/
abbrev fLe : FuncId := 30
abbrev fHs : FuncId := 29
abbrev oI (k : Nat) (l : List DV) : Ob := ⟨k, 0, 3, l⟩
def lvD (w : Wd) (i j : Int) : DV := .tuple [iI (lvV w i j), iI (asE w i j)]
def hrD (w : Wd) (j i : Int) : DV := .tuple [.bool (hrV w j i), iI (asE w j i)]
abbrev hN (w : Wd) (l : List DV) : Hp := ⟨2, [oI 0 l, oW w], []⟩
abbrev hNi (w : Wd) (l : List DV) : Hp := ⟨3, [oW w, oI 0 l, oW w], []⟩
theorem inI_f {w : Wd} {i : Int} (h : inI w i = false) : (decide (i < 0) = true) ∨ (decide (i < 0) = false ∧ decide (i ≥ ((rsR w.r).length : Int)) = true) := by
  have e := rsR_length w.r
  have hn : ¬ Nd w i := fun q => by rw [(nd_iff w i).2 q] at h; cases h
  by_cases h1 : i < 0
  · exact .inl (decide_eq_true h1)
  · refine .inr ⟨decide_eq_false h1, decide_eq_true ?_⟩
    rw [e]
    by_cases h2 : i ≥ (w.r.length : Int)
    · exact h2
    · exact absurd ⟨by omega, by omega⟩ hn
theorem inI_t {w : Wd} {i : Int} (h : inI w i = true) : decide (i < 0) = false ∧ decide (i ≥ ((rsR w.r).length : Int)) = false := by
  have e := rsR_length w.r
  have q := (nd_iff w i).1 h
  have := q.lo
  have := q.hi
  exact ⟨decide_eq_false (by omega), decide_eq_false (by omega)⟩
set_option maxRecDepth 1000000 in
theorem le0 (w : Wd) (i j : Int) : zflat (zans Try.prog tab ftab (calC fCk [wdD w] (iI 8)) fLe [wdD w, iI i, iI j] [(13, .c [(9, .q (iI 8))])]) = some (.tuple [iI 0, iI 8], ((calC fCk [wdD w] (iI 8)) fCk [wdD w] (hNi w [iI i, iI j]) = some (iI 8, (hNi w [iI i, iI j]), none)) :: []) := by kernel_rfl
set_option maxRecDepth 1000000 in
theorem le1 (w : Wd) (i j : Int) : zflat (zans Try.prog tab ftab (calC fCk [wdD w] (iI 0)) fLe [wdD w, iI i, iI j] [(13, .c [(9, .q (iI 0)), (20, .b true)])]) = some (.tuple [iI 0, iI 2], ((calC fCk [wdD w] (iI 0)) fCk [wdD w] (hNi w [iI i, iI j]) = some (iI 0, (hNi w [iI i, iI j]), none)) :: ((decide (i < 0)) = true) :: []) := by kernel_rfl
set_option maxRecDepth 1000000 in
theorem le2 (w : Wd) (i j : Int) : zflat (zans Try.prog tab ftab (calC fCk [wdD w] (iI 0)) fLe [wdD w, iI i, iI j] [(13, .c [(9, .q (iI 0)), (20, .b false), (26, .b true)])]) = some (.tuple [iI 0, iI 2], ((calC fCk [wdD w] (iI 0)) fCk [wdD w] (hNi w [iI i, iI j]) = some (iI 0, (hNi w [iI i, iI j]), none)) :: ((decide (i < 0)) = false) :: ((decide (i ≥ ((rsR w.r).length : Int))) = true) :: []) := by kernel_rfl
set_option maxRecDepth 1000000 in
theorem le3 (w : Wd) (i j : Int) : zflat (zans Try.prog tab ftab (calC fCk [wdD w] (iI 0)) fLe [wdD w, iI i, iI j] [(13, .c [(9, .q (iI 0)), (20, .b false), (26, .b false), (20, .b true)])]) = some (.tuple [iI 0, iI 2], ((calC fCk [wdD w] (iI 0)) fCk [wdD w] (hNi w [iI i, iI j]) = some (iI 0, (hNi w [iI i, iI j]), none)) :: ((decide (i < 0)) = false) :: ((decide (i ≥ ((rsR w.r).length : Int))) = false) :: ((decide (j < 0)) = true) :: []) := by kernel_rfl
set_option maxRecDepth 1000000 in
theorem le4 (w : Wd) (i j : Int) : zflat (zans Try.prog tab ftab (calC fCk [wdD w] (iI 0)) fLe [wdD w, iI i, iI j] [(13, .c [(9, .q (iI 0)), (20, .b false), (26, .b false), (20, .b false), (26, .b true)])]) = some (.tuple [iI 0, iI 2], ((calC fCk [wdD w] (iI 0)) fCk [wdD w] (hNi w [iI i, iI j]) = some (iI 0, (hNi w [iI i, iI j]), none)) :: ((decide (i < 0)) = false) :: ((decide (i ≥ ((rsR w.r).length : Int))) = false) :: ((decide (j < 0)) = false) :: ((decide (j ≥ ((rsR w.r).length : Int))) = true) :: []) := by kernel_rfl
set_option maxRecDepth 1000000 in
theorem le5 (w : Wd) (i j l : Int) : zflat (zans Try.prog tab ftab (orK (calC fCk [wdD w] (iI 0)) (calC fLv [wdD w, iI i, iI j] (iI l))) fLe [wdD w, iI i, iI j] [(13, .c [(9, .q (iI 0)), (20, .b false), (26, .b false), (20, .b false), (26, .b false)]), (20, .q (iI l))]) = some (.tuple [iI l, iI 0], ((orK (calC fCk [wdD w] (iI 0)) (calC fLv [wdD w, iI i, iI j] (iI l))) fCk [wdD w] (hNi w [iI i, iI j]) = some (iI 0, (hNi w [iI i, iI j]), none)) :: ((decide (i < 0)) = false) :: ((decide (i ≥ ((rsR w.r).length : Int))) = false) :: ((decide (j < 0)) = false) :: ((decide (j ≥ ((rsR w.r).length : Int))) = false) :: ((orK (calC fCk [wdD w] (iI 0)) (calC fLv [wdD w, iI i, iI j] (iI l))) fLv [wdD w, iI i, iI j] (hN w [iI i, iI j]) = some (iI l, (hN w [iI i, iI j]), none)) :: []) := by kernel_rfl
theorem le_ans (w : Wd) (ok : OkW w) (i j : Int) : Ans Try.prog fLe [wdD w, iI i, iI j] (lvD w i j) ⟨0, [], []⟩ := by
  have hk := ck_ans w ok
  unfold lvD lvV okA asE
  cases hc : chk w with
  | false =>
    rw [chE_f hc] at hk
    exact zflat_ok tab_ok mixed fun_ok (calC_ok hk) (le0 w i j) (.cons (calC_at _ rfl rfl) .nil)
  | true =>
    rw [chE_t hc] at hk
    have va := (va_iff w).1 hc
    have c0 : ∀ hp, calC fCk [wdD w] (iI 0) fCk [wdD w] hp = some (iI 0, hp, none) := fun hp => calC_at hp rfl rfl
    cases h1 : inI w i with
    | false =>
      rcases inI_f h1 with q | ⟨q1, q2⟩
      · exact zflat_ok tab_ok mixed fun_ok (calC_ok hk) (le1 w i j) (.cons (c0 _) (.cons q .nil))
      · exact zflat_ok tab_ok mixed fun_ok (calC_ok hk) (le2 w i j) (.cons (c0 _) (.cons q1 (.cons q2 .nil)))
    | true =>
      obtain ⟨p1, p2⟩ := inI_t h1
      cases h2 : inI w j with
      | false =>
        rcases inI_f h2 with q | ⟨q1, q2⟩
        · exact zflat_ok tab_ok mixed fun_ok (calC_ok hk) (le3 w i j) (.cons (c0 _) (.cons p1 (.cons p2 (.cons q .nil))))
        · exact zflat_ok tab_ok mixed fun_ok (calC_ok hk) (le4 w i j) (.cons (c0 _) (.cons p1 (.cons p2 (.cons q1 (.cons q2 .nil)))))
      | true =>
        obtain ⟨p3, p4⟩ := inI_t h2
        have n1 := (nd_iff w _).1 h1
        have n2 := (nd_iff w _).1 h2
        have hL := lv_ans w va i j n1 n2
        exact zflat_ok tab_ok mixed fun_ok (orK_ok (calC_ok hk) (calC_ok hL)) (le5 w i j _) (.cons (orK_left (c0 _)) (.cons p1 (.cons p2 (.cons p3 (.cons p4 (.cons (orK_right (calC_oth (by kernel_rfl)) (calC_at _ rfl rfl)) .nil))))))
set_option maxRecDepth 1000000 in
theorem hs0 (w : Wd) (i j : Int) : zflat (zans Try.prog tab ftab (calC fCk [wdD w] (iI 8)) fHs [wdD w, iI j, iI i] [(13, .c [(9, .q (iI 8))])]) = some (.tuple [.bool false, iI 8], ((calC fCk [wdD w] (iI 8)) fCk [wdD w] (hNi w [iI j, iI i]) = some (iI 8, (hNi w [iI j, iI i]), none)) :: []) := by kernel_rfl
set_option maxRecDepth 1000000 in
theorem hs1 (w : Wd) (i j : Int) : zflat (zans Try.prog tab ftab (calC fCk [wdD w] (iI 0)) fHs [wdD w, iI j, iI i] [(13, .c [(9, .q (iI 0)), (20, .b true)])]) = some (.tuple [.bool false, iI 2], ((calC fCk [wdD w] (iI 0)) fCk [wdD w] (hNi w [iI j, iI i]) = some (iI 0, (hNi w [iI j, iI i]), none)) :: ((decide (j < 0)) = true) :: []) := by kernel_rfl
set_option maxRecDepth 1000000 in
theorem hs2 (w : Wd) (i j : Int) : zflat (zans Try.prog tab ftab (calC fCk [wdD w] (iI 0)) fHs [wdD w, iI j, iI i] [(13, .c [(9, .q (iI 0)), (20, .b false), (26, .b true)])]) = some (.tuple [.bool false, iI 2], ((calC fCk [wdD w] (iI 0)) fCk [wdD w] (hNi w [iI j, iI i]) = some (iI 0, (hNi w [iI j, iI i]), none)) :: ((decide (j < 0)) = false) :: ((decide (j ≥ ((rsR w.r).length : Int))) = true) :: []) := by kernel_rfl
set_option maxRecDepth 1000000 in
theorem hs3 (w : Wd) (i j : Int) : zflat (zans Try.prog tab ftab (calC fCk [wdD w] (iI 0)) fHs [wdD w, iI j, iI i] [(13, .c [(9, .q (iI 0)), (20, .b false), (26, .b false), (20, .b true)])]) = some (.tuple [.bool false, iI 2], ((calC fCk [wdD w] (iI 0)) fCk [wdD w] (hNi w [iI j, iI i]) = some (iI 0, (hNi w [iI j, iI i]), none)) :: ((decide (j < 0)) = false) :: ((decide (j ≥ ((rsR w.r).length : Int))) = false) :: ((decide (i < 0)) = true) :: []) := by kernel_rfl
set_option maxRecDepth 1000000 in
theorem hs4 (w : Wd) (i j : Int) : zflat (zans Try.prog tab ftab (calC fCk [wdD w] (iI 0)) fHs [wdD w, iI j, iI i] [(13, .c [(9, .q (iI 0)), (20, .b false), (26, .b false), (20, .b false), (26, .b true)])]) = some (.tuple [.bool false, iI 2], ((calC fCk [wdD w] (iI 0)) fCk [wdD w] (hNi w [iI j, iI i]) = some (iI 0, (hNi w [iI j, iI i]), none)) :: ((decide (j < 0)) = false) :: ((decide (j ≥ ((rsR w.r).length : Int))) = false) :: ((decide (i < 0)) = false) :: ((decide (i ≥ ((rsR w.r).length : Int))) = true) :: []) := by kernel_rfl
set_option maxRecDepth 1000000 in
theorem hs5 (w : Wd) (i j : Int) (l : Bool) : zflat (zans Try.prog tab ftab (orK (calC fCk [wdD w] (iI 0)) (calC fHe [wdD w, iI j, iI i] (.bool l))) fHs [wdD w, iI j, iI i] [(13, .c [(9, .q (iI 0)), (20, .b false), (26, .b false), (20, .b false), (26, .b false)]), (20, .q (.bool l))]) = some (.tuple [.bool l, iI 0], ((orK (calC fCk [wdD w] (iI 0)) (calC fHe [wdD w, iI j, iI i] (.bool l))) fCk [wdD w] (hNi w [iI j, iI i]) = some (iI 0, (hNi w [iI j, iI i]), none)) :: ((decide (j < 0)) = false) :: ((decide (j ≥ ((rsR w.r).length : Int))) = false) :: ((decide (i < 0)) = false) :: ((decide (i ≥ ((rsR w.r).length : Int))) = false) :: ((orK (calC fCk [wdD w] (iI 0)) (calC fHe [wdD w, iI j, iI i] (.bool l))) fHe [wdD w, iI j, iI i] (hN w [iI j, iI i]) = some (.bool l, (hN w [iI j, iI i]), none)) :: []) := by kernel_rfl
theorem hs_ans (w : Wd) (ok : OkW w) (j i : Int) : Ans Try.prog fHs [wdD w, iI j, iI i] (hrD w j i) ⟨0, [], []⟩ := by
  have hk := ck_ans w ok
  unfold hrD hrV okA asE
  cases hc : chk w with
  | false =>
    rw [chE_f hc] at hk
    exact zflat_ok tab_ok mixed fun_ok (calC_ok hk) (hs0 w i j) (.cons (calC_at _ rfl rfl) .nil)
  | true =>
    rw [chE_t hc] at hk
    have va := (va_iff w).1 hc
    have c0 : ∀ hp, calC fCk [wdD w] (iI 0) fCk [wdD w] hp = some (iI 0, hp, none) := fun hp => calC_at hp rfl rfl
    cases h1 : inI w j with
    | false =>
      rcases inI_f h1 with q | ⟨q1, q2⟩
      · exact zflat_ok tab_ok mixed fun_ok (calC_ok hk) (hs1 w i j) (.cons (c0 _) (.cons q .nil))
      · exact zflat_ok tab_ok mixed fun_ok (calC_ok hk) (hs2 w i j) (.cons (c0 _) (.cons q1 (.cons q2 .nil)))
    | true =>
      obtain ⟨p1, p2⟩ := inI_t h1
      cases h2 : inI w i with
      | false =>
        rcases inI_f h2 with q | ⟨q1, q2⟩
        · exact zflat_ok tab_ok mixed fun_ok (calC_ok hk) (hs3 w i j) (.cons (c0 _) (.cons p1 (.cons p2 (.cons q .nil))))
        · exact zflat_ok tab_ok mixed fun_ok (calC_ok hk) (hs4 w i j) (.cons (c0 _) (.cons p1 (.cons p2 (.cons q1 (.cons q2 .nil)))))
      | true =>
        obtain ⟨p3, p4⟩ := inI_t h2
        have n1 := (nd_iff w _).1 h1
        have n2 := (nd_iff w _).1 h2
        have hL := he_ans w va j i n1 n2
        exact zflat_ok tab_ok mixed fun_ok (orK_ok (calC_ok hk) (calC_ok hL)) (hs5 w i j _) (.cons (orK_left (c0 _)) (.cons p1 (.cons p2 (.cons p3 (.cons p4 (.cons (orK_right (calC_oth (by kernel_rfl)) (calC_at _ rfl rfl)) .nil))))))
end
end Go.Proofs.Ytgjgihlfkpbdgaa
/- The examples; the laws RadioLosses, RadioRoot, RadioLoss over data. -/
namespace Go.Proofs.Ytgjgihlfkpbdgaa
open Go.RowKit

noncomputable section
/-! ### RadioLosses -/
/-! ### RadioRoot -/
/-! ### RadioLoss -/
end
end Go.Proofs.Ytgjgihlfkpbdgaa
/- A law's arguments as data, by shapes: structs, arrays and slices to whatever depth. No function of the program is named here. -/
namespace Go.Proofs.Ytgjgihlfkpbdgaa
open Go.RowKit Go.Deep

mutual
inductive Sp where
  | int (k : IntKind)
  | bool
  | str
  | arr (n : Nat) (e : Sp)
  | agg (fs : Sps)
  | sl (e : Sp)
  | leaf (t : Nat)
inductive Sps where
  | nil
  | cons (f : Sp) (r : Sps)
end
mutual
def szP : Sp → Nat
  | .int _ => 1
  | .bool => 1
  | .str => 1
  | .arr n e => n * szP e
  | .agg fs => szPs fs
  | .sl _ => 1
  | .leaf _ => 1
def szPs : Sps → Nat
  | .nil => 0
  | .cons f r => szP f + szPs r
end
mutual
/-- the data of a shape; Gl: those of the types that are leaves -/
def Gd (Gl : Nat → List DV → Prop) : Sp → List DV → Prop
  | .int k, ds => ∃ n, ds = [.int k n] ∧ (Lit.int k n).wf = true
  | .bool, ds => ∃ b, ds = [.bool b]
  | .str, ds => ∃ s : ByteArray, ds = [.str s] ∧ s.size ≤ maxLen
  | .arr n e, ds => ∃ rows : List (List DV), rows.length = n ∧ ds = rows.flatten ∧ ∀ r ∈ rows, Gd Gl e r
  | .agg fs, ds => GdL Gl fs ds
  | .sl e, ds => ∃ rows : List (List DV), ds = [.list (szP e) rows] ∧ rows.length ≤ maxLen ∧ ∀ r ∈ rows, Gd Gl e r
  | .leaf t, ds => Gl t ds
def GdL (Gl : Nat → List DV → Prop) : Sps → List DV → Prop
  | .nil, ds => ds = []
  | .cons f r, ds => ∃ a b, ds = a ++ b ∧ Gd Gl f a ∧ GdL Gl r b
end
section
variable (P : Program)
mutual
def spOk : Sp → Nat → Bool
  | .int k, t => match P.underlying t with
    | some (.int k') => decide (k' = k)
    | _ => false
  | .bool, t => match P.underlying t with
    | some .bool => true
    | _ => false
  | .str, t => match P.underlying t with
    | some .string => true
    | _ => false
  | .arr n e, t => match P.underlying t with
    | some (.array n' u) => Nat.beq n' n && (spOk e u && (Nat.beq (P.cellsOf u) (szP e) && Nat.beq (P.cellsOf t) (n * szP e)))
    | _ => false
  | .agg fs, t => match P.underlying t with
    | some (.struct gs) => spsOk fs 0 gs.toList && Nat.beq (P.cellsOf t) (szPs fs)
    | _ => false
  | .sl e, t => match P.underlying t with
    | some (.slice u) => spOk e u && (Nat.beq (P.cellsOf u) (szP e) && Nat.blt 0 (szP e))
    | _ => false
  | .leaf u, t => Nat.beq u t
def spsOk : Sps → Nat → List Field → Bool
  | .nil, _, [] => true
  | .cons f r, off, g :: gs => Nat.beq g.offset off && (spOk f g.type && (Nat.beq (P.cellsOf g.type) (szP f) && spsOk r (off + szP f) gs))
  | _, _, _ => false
end
end
mutual
def isLf : Sp → Nat → Prop
  | .arr _ e, t => isLf e t
  | .agg fs, t => isLfs fs t
  | .sl e, t => isLf e t
  | .leaf u, t => u = t
  | _, _ => False
def isLfs : Sps → Nat → Prop
  | .nil, _ => False
  | .cons f r, t => isLf f t ∨ isLfs r t
end
section
variable {P : Program} {H : Type} {enc : TypeId × Value → H} {w : World} {base : Nat} {spare : Nat → Bool} {held : Bool} {Gl : Nat → List DV → Prop}
theorem scals_app {a b : List DV} (ha : scals a = true) (hb : scals b = true) : scals (a ++ b) = true := by
  induction a with
  | nil => exact hb
  | cons d r ih =>
    simp only [scals, Bool.and_eq_true] at ha
    simp only [List.cons_append, scals, Bool.and_eq_true]
    exact ⟨ha.1, ih ha.2⟩
/-- what a reading of a type gives -/
def RdTo (P : Program) (enc : TypeId × Value → H) (w : World) (base : Nat) (spare : Nat → Bool) (held : Bool) (t : Nat) (G : List DV → Prop) (sz : Nat) : Prop :=
  ∀ (fuel : Nat) (cs : List Value) (x : DataW H × List MemPlace), DataW.trod enc P w base spare held fuel t cs = some x → ∃ ds, G ds ∧ VRs (ro (· < w.heap.size)) w ds cs ∧ scals ds = true ∧ ds.length = sz
theorem rd_arr {n : Nat} {u : Nat} {e : Sp} (hu : P.cellsOf u = szP e) (ih : RdTo P enc w base spare held u (Gd Gl e) (szP e)) {m : Nat} {cs : List Value} {xs : List (DataW H × List MemPlace)} (hx : xs.length = n)
    (hel : ∀ (i : Nat), i < n → DataW.trod enc P w base spare held m u ((cs.drop (i * P.cellsOf u)).take (P.cellsOf u)) = xs[i]?) (_hl : cs.length = n * szP e) :
    ∀ k, k ≤ n → ∃ rows : List (List DV), rows.length = k ∧ (∀ r ∈ rows, Gd Gl e r) ∧ VRs (ro (· < w.heap.size)) w rows.flatten (cs.take (k * szP e)) ∧ scals rows.flatten = true ∧ rows.flatten.length = k * szP e := by
  intro k
  induction k with
  | zero => exact fun _ => ⟨[], rfl, fun r h => by simp at h, by simpa using VRs.nil _ w, rfl, by simp⟩
  | succ k ik =>
    intro hk
    obtain ⟨rows, h1, h2, h3, h4, h5⟩ := ik (by omega)
    have hi : k < xs.length := by omega
    have ht := hel k (by omega)
    rw [List.getElem?_eq_getElem hi, hu] at ht
    obtain ⟨ds, g1, g2, g3, g4⟩ := ih _ _ _ ht
    refine ⟨rows ++ [ds], by simp [h1], fun r hr => ?_, ?_, ?_, ?_⟩
    · rcases List.mem_append.1 hr with hr | hr
      · exact h2 r hr
      · obtain rfl := List.mem_singleton.1 hr
        exact g1
    · have e1 : cs.take ((k + 1) * szP e) = cs.take (k * szP e) ++ (cs.drop (k * szP e)).take (szP e) := by
        rw [Nat.succ_mul, List.take_add]
      rw [e1, List.flatten_append]
      simpa using h3.append g2
    · rw [List.flatten_append]
      exact scals_app h4 (by simpa using g3)
    · rw [List.flatten_append, List.length_append, h5, Nat.succ_mul]
      simpa using g4
theorem rd_sl {t u : Nat} {e : Sp} (ht : P.underlying t = some (.slice u)) (hu : P.cellsOf u = szP e) (hpos : 0 < szP e) (ih : RdTo P enc w base spare held u (Gd Gl e) (szP e)) : RdTo P enc w base spare held t (Gd Gl (.sl e)) 1 := by
  intro fuel cs x h
  rcases open_slice ht h with ⟨rfl, _⟩ | ⟨a, len, cap, mm, n, D, Pl, rfl, hb, hlc, hcm, hmm, rfl, hi⟩
  · exact ⟨[.list (szP e) []], ⟨[], rfl, Nat.zero_le _, fun r h => by simp at h⟩, .cons (.list _ (szP e) [] none 0 0 0 (fun _ _ => undef) (Nat.zero_le _) (Nat.zero_le _) (fun _ => rfl) (fun h => absurd h (by simp)) (fun i cs h => by simp at h) (fun i cs j d h => by simp at h) (fun i cs j d h => by simp at h) (fun cs h => by simp at h)) (.nil _ _), rfl, rfl⟩
  have hlm : len ≤ mm := by rw [hmm]; split <;> omega
  rw [hu] at hi
  have each : ∀ i : Nat, ∃ y : List DV × List Value, i < len → Gd Gl e y.1 ∧ VRs (ro (· < w.heap.size)) w y.1 y.2 ∧ scals y.1 = true ∧ y.1.length = szP e ∧ ∀ (j : Nat) (v : Value), y.2[j]? = some v → w.cell? ((a.add (i * szP e)).add j) = some v := fun i => by
    rcases Nat.lt_or_ge i len with hlt | hge
    · obtain ⟨cs', hc', ht'⟩ := hi i (by omega)
      obtain ⟨_, hcl, hat⟩ := World.cells?_some hc'
      obtain ⟨ds, g1, g2, g3, g4⟩ := ih _ _ _ ht'
      exact ⟨(ds, cs'), fun _ => ⟨g1, g2, g3, g4, fun j v hv => by
        have hj : j < szP e := by
          have h1 := (List.getElem?_eq_some_iff.1 hv).1
          have h2 := g2.1
          dsimp only at h1
          omega
        rw [hat j hj]
        exact hv⟩⟩
    · exact ⟨([], []), fun h => absurd h (by omega)⟩
  obtain ⟨f, hf⟩ := Classical.axiomOfChoice each
  have hrow : ∀ (i : Nat) (cs : List DV), ((List.range len).map fun i => (f i).1)[i]? = some cs → i < len ∧ cs = (f i).1 := fun i cs h => by
    rw [List.getElem?_map, Option.map_eq_some_iff] at h
    obtain ⟨j, hj, he⟩ := h
    have hlt : i < len := by have := (List.getElem?_eq_some_iff.1 hj).1; simpa using this
    rw [List.getElem?_range hlt, Option.some.injEq] at hj
    subst hj
    exact ⟨hlt, he.symm⟩
  have hlen : ((List.range len).map fun i => (f i).1).length = len := by simp
  have hmem : ∀ r, r ∈ ((List.range len).map fun i => (f i).1) → ∃ i, i < len ∧ r = (f i).1 := fun r hr => by
    obtain ⟨i, hi⟩ := List.mem_iff_getElem?.1 hr
    obtain ⟨h1, h2⟩ := hrow i r hi
    exact ⟨i, h1, h2⟩
  refine ⟨[.list (szP e) ((List.range len).map fun i => (f i).1)], ⟨_, rfl, by rw [hlen]; omega, fun r hr => ?_⟩, .cons ?_ (.nil _ _), rfl, rfl⟩
  · obtain ⟨i, h1, rfl⟩ := hmem r hr
    exact (hf i h1).1
  rcases Nat.eq_zero_or_pos len with h0 | hlp
  · have he : ((List.range len).map fun i => (f i).1) = [] := by rw [h0]; rfl
    rw [he, h0]
    exact .list _ (szP e) [] (some a) cap 0 0 (fun _ _ => undef) (Nat.zero_le _) hcm (fun h => by cases h) (fun h => absurd h (by simp)) (fun i cs h => by simp at h) (fun i cs j d h => by simp at h) (fun i cs j d h => by simp at h) (fun cs h => by simp at h)
  obtain ⟨_, v0, _, n0, c0⟩ := hf 0 hlp
  obtain ⟨u0, hu0, _⟩ := v0.get (j := 0) (d := (f 0).1[0]'(by omega)) (List.getElem?_eq_getElem (by omega))
  have hc0 := c0 0 u0 hu0
  have hspot : a.spot = none := by
    have := World.cell?_spot hc0
    simpa [Addr.add] using this
  obtain ⟨b, off, sp⟩ := a
  subst hspot
  have hbw : b < w.heap.size := by
    have := cell_lt hc0
    simpa [Addr.add] using this
  have hcell : ∀ i, i < len → ∀ (j : Nat) (v : Value), (f i).2[j]? = some v → w.cell? ⟨b, off + (i * szP e + j), none⟩ = some v := fun i hi j v hv => by
    have := (hf i hi).2.2.2.2 j v hv
    rwa [add_none, add_none, Nat.add_assoc] at this
  have key := VR.list (w := w) (ro (· < w.heap.size)) (szP e) ((List.range len).map fun i => (f i).1) (some ⟨b, off, none⟩) cap b off (fun i j => (w.cell? ⟨b, off + (i * szP e + j), none⟩).getD undef) (by rw [hlen]; omega) hcm (fun h => by cases h) (fun _ => ⟨rfl, hbw⟩) (fun i cs hi => ?_) (fun i cs j d hi hj => ?_) (fun i cs j d hi hj => ?_) (fun cs hcs => ?_)
  · rw [hlen] at key
    exact key
  · obtain ⟨h1, rfl⟩ := hrow i cs hi
    exact (hf i h1).2.2.2.1
  · obtain ⟨h1, rfl⟩ := hrow i cs hi
    obtain ⟨v, hv1, hv2⟩ := (hf i h1).2.1.get hj
    rw [hcell i h1 j v hv1]
    rfl
  · obtain ⟨h1, rfl⟩ := hrow i cs hi
    obtain ⟨v, hv1, hv2⟩ := (hf i h1).2.1.get hj
    show VR _ _ _ ((w.cell? ⟨b, off + (i * szP e + j), none⟩).getD undef)
    rw [hcell i h1 j v hv1]
    exact hv2
  · obtain ⟨i, h1, rfl⟩ := hmem cs hcs
    exact (hf i h1).2.2.1
mutual
theorem rd_ok : ∀ (s : Sp) {t : Nat}, spOk P s t = true → (∀ u, isLf s u → RdTo P enc w base spare held u (Gl u) 1) → RdTo P enc w base spare held t (Gd Gl s) (szP s)
  | .int k, t, h, _ => by
    intro fuel cs x hx
    simp only [spOk] at h
    split at h
    · rename_i k' hu
      have hk := of_decide_eq_true h
      subst hk
      obtain ⟨n, rfl, _, wf⟩ := DataW.trod_int hu hx
      exact ⟨[.int k' n], ⟨n, rfl, wf⟩, .cons (.int _ _ _) (.nil _ _), rfl, rfl⟩
    · cases h
  | .bool, t, h, _ => by
    intro fuel cs x hx
    simp only [spOk] at h
    split at h
    · rename_i hu
      obtain ⟨b, rfl, _⟩ := DataW.trod_bool hu hx
      exact ⟨[.bool b], ⟨b, rfl⟩, .cons (.bool _ _) (.nil _ _), rfl, rfl⟩
    · cases h
  | .str, t, h, _ => by
    intro fuel cs x hx
    simp only [spOk] at h
    split at h
    · rename_i hu
      obtain ⟨b, rfl, _, hs⟩ := DataW.trod_string hu hx
      exact ⟨[.str b], ⟨b, rfl, hs⟩, .cons (.str _ _) (.nil _ _), rfl, rfl⟩
    · cases h
  | .arr n e, t, h, hO => by
    intro fuel cs x hx
    simp only [spOk] at h
    split at h
    · rename_i n' u hu
      simp only [Bool.and_eq_true] at h
      obtain ⟨h1, h2, h3, h4⟩ := h
      have h1 := Nat.eq_of_beq_eq_true h1
      have h3 := Nat.eq_of_beq_eq_true h3
      have h4 := Nat.eq_of_beq_eq_true h4
      subst h1
      obtain ⟨xs, m, _, _, hl, hn, hel⟩ := DataW.trod_array hu hx
      rw [h4] at hl
      obtain ⟨rows, g1, g2, g3, g4, g5⟩ := rd_arr h3 (rd_ok e h2 hO) hn hel hl n' (Nat.le_refl _)
      refine ⟨rows.flatten, ⟨rows, g1, rfl, g2⟩, ?_, g4, g5⟩
      rwa [List.take_of_length_le (by omega)] at g3
    · cases h
  | .agg fs, t, h, hO => by
    intro fuel cs x hx
    simp only [spOk] at h
    split at h
    · rename_i gs hu
      simp only [Bool.and_eq_true] at h
      obtain ⟨h1, h2⟩ := h
      have h2 := Nat.eq_of_beq_eq_true h2
      obtain ⟨xs, m, _, _, hl, hn, hf⟩ := DataW.trod_struct hu hx
      obtain ⟨ds, g1, g2, g3, g4⟩ := rds_ok fs (m := m) (cs := cs) h1 hO (fun i g hi => by
        have hg : gs[i]? = some g := by simpa using hi
        have hlt : i < xs.length := by
          have := (Array.getElem?_eq_some_iff.1 hg).1
          omega
        have := hf i g hg
        rw [List.getElem?_eq_getElem hlt] at this
        exact ⟨_, this⟩) (by omega)
      exact ⟨ds, g1, by simpa using g2, g3, g4⟩
    · cases h
  | .sl e, t, h, hO => by
    simp only [spOk] at h
    split at h
    · rename_i u hu
      simp only [Bool.and_eq_true] at h
      obtain ⟨h1, h2, h3⟩ := h
      exact rd_sl hu (Nat.eq_of_beq_eq_true h2) (Nat.le_of_ble_eq_true h3) (rd_ok e h1 hO)
    · cases h
  | .leaf u, t, h, hO => by
    have := Nat.eq_of_beq_eq_true h
    subst this
    exact hO _ rfl
theorem rds_ok : ∀ (s : Sps) {off : Nat} {gs : List Field} {m : Nat} {cs : List Value}, spsOk P s off gs = true → (∀ u, isLfs s u → RdTo P enc w base spare held u (Gl u) 1) →
    (∀ (i : Nat) (g : Field), gs[i]? = some g → ∃ x, DataW.trod enc P w base spare held m g.type ((cs.drop g.offset).take (P.cellsOf g.type)) = some x) → cs.length = off + szPs s →
    ∃ ds, GdL Gl s ds ∧ VRs (ro (· < w.heap.size)) w ds (cs.drop off) ∧ scals ds = true ∧ ds.length = szPs s
  | .nil, off, gs, m, cs, h, _, _, hl => by
    refine ⟨[], rfl, ?_, rfl, rfl⟩
    rw [List.drop_eq_nil_of_le (by simp only [szPs] at hl; omega)]
    exact .nil _ _
  | .cons f r, off, [], m, cs, h, _, _, _ => by cases h
  | .cons f r, off, g :: gs, m, cs, h, hO, hf, hl => by
    simp only [spsOk, Bool.and_eq_true] at h
    obtain ⟨h1, h2, h3, h4⟩ := h
    have h1 := Nat.eq_of_beq_eq_true h1
    have h3 := Nat.eq_of_beq_eq_true h3
    simp only [szPs] at hl
    obtain ⟨x, hx⟩ := hf 0 g rfl
    rw [h1, h3] at hx
    obtain ⟨ds, a1, a2, a3, a4⟩ := rd_ok f h2 (fun u hu => hO u (.inl hu)) _ _ _ hx
    obtain ⟨es, b1, b2, b3, b4⟩ := rds_ok r h4 (fun u hu => hO u (.inr hu)) (fun i g' hi => hf (i + 1) g' (by simpa using hi)) (by omega)
    refine ⟨ds ++ es, ⟨ds, es, rfl, a1, b1⟩, ?_, scals_app a3 b3, by rw [List.length_append, a4, b4]; rfl⟩
    have e : cs.drop off = (cs.drop off).take (szP f) ++ cs.drop (off + szP f) := by rw [← List.drop_drop, List.take_append_drop]
    rw [e]
    exact a2.append b2
end
end
end Go.Proofs.Ytgjgihlfkpbdgaa
/- Contracts over worlds; Great, Symmetric; the law RadioSymmetry over data. -/
namespace Go.Proofs.Ytgjgihlfkpbdgaa
open Go.RowKit

noncomputable section
/-! ### Contracts over worlds -/
/-! ### Great -/
abbrev fGt : FuncId := 47
abbrev kGt : List (Nat × Nat) := ksF ftab fGt
abbrev gtL : Code := loopAt (bodyOf ftab fGt) 0
abbrev gtS (k : Nat) : Slots := mkT 28 [(1, .ptr 0 0), (3, iN k)]
def gtB (w : Wd) : Bool := match decide (w.r.length > 40) with
  | true => true
  | false => match decide (w.s.length > 40) with
    | true => true
    | false => match allB w.s.length fun k => decide ((w.s.getD k []).length ≤ 40) with
      | true => false
      | false => true
set_option maxRecDepth 1000000 in
theorem gt1 (w : Wd) (ys : List (List DV)) (k : Nat) : zsee Try.prog tab ftab noC kGt [1, 3] gtL (gtS k) (hW w) [(18, .b true), (24, .n (.fptr [.list 1 ys])), (27, .b false), (20, .w (iN (k + 1)))] = some (.normal, gtS (k + 1), hW w, ((decide ((k : Int) < ((ssR w.s).length : Int))) = true) :: ((idxOk (k : Int) (ssR w.s).length) = true) :: (nth (ssR w.s) ((k : Int).toNat) = some [.list 1 ys]) :: ((decide ((ys.length : Int) > 40)) = false) :: wrK k :: []) := by kernel_rfl
set_option maxRecDepth 1000000 in
theorem gt2 (w : Wd) (ys : List (List DV)) (k : Nat) : zsee Try.prog tab ftab noC kGt [2] gtL (gtS k) (hW w) [(18, .b true), (24, .n (.fptr [.list 1 ys])), (27, .b true)] = some (.ret, mkT 28 [(2, .bool true)], hW w, ((decide ((k : Int) < ((ssR w.s).length : Int))) = true) :: ((idxOk (k : Int) (ssR w.s).length) = true) :: (nth (ssR w.s) ((k : Int).toNat) = some [.list 1 ys]) :: ((decide ((ys.length : Int) > 40)) = true) :: []) := by kernel_rfl
set_option maxRecDepth 1000000 in
theorem gtO (w : Wd) (k : Nat) : zsee Try.prog tab ftab noC kGt [] gtL (gtS k) (hW w) [(18, .b false)] = some (.exit 0, mkT 28 [], hW w, ((decide ((k : Int) < ((ssR w.s).length : Int))) = false) :: []) := by kernel_rfl
set_option maxRecDepth 1000000 in
theorem gtA (w : Wd) : zflat (zans Try.prog tab ftab noC fGt [wdD w] [(7, .b true)]) = some (.bool true, ((decide (((rsR w.r).length : Int) > 40)) = true) :: []) := by kernel_rfl
set_option maxRecDepth 1000000 in
theorem gtB1 (w : Wd) : zflat (zans Try.prog tab ftab noC fGt [wdD w] [(7, .b false), (12, .b true)]) = some (.bool true, ((decide (((rsR w.r).length : Int) > 40)) = false) :: ((decide (((ssR w.s).length : Int) > 40)) = true) :: []) := by kernel_rfl
set_option maxRecDepth 1000000 in
theorem gtC (w : Wd) : zflat (zans Try.prog tab ftab noC fGt [wdD w] [(7, .b false), (12, .b false), (0, .l [1, 3] .ret (mkT 28 [(2, .bool true)]) (hW w))]) = some (.bool true, ((decide (((rsR w.r).length : Int) > 40)) = false) :: ((decide (((ssR w.s).length : Int) > 40)) = false) :: (Goes Try.prog tab kGt (.loop gtL) (gtS 0) (hW w) .ret (mkT 28 [(2, .bool true)]) (hW w)) :: []) := by kernel_rfl
set_option maxRecDepth 1000000 in
theorem gtD (w : Wd) : zflat (zans Try.prog tab ftab noC fGt [wdD w] [(7, .b false), (12, .b false), (0, .l [1, 3] (.exit 0) (mkT 28 []) (hW w))]) = some (.bool false, ((decide (((rsR w.r).length : Int) > 40)) = false) :: ((decide (((ssR w.s).length : Int) > 40)) = false) :: (Goes Try.prog tab kGt (.loop gtL) (gtS 0) (hW w) (.exit 0) (mkT 28 []) (hW w)) :: []) := by kernel_rfl
theorem gt_ans (w : Wd) (ok : OkW w) : Ans Try.prog fGt [wdD w] (.bool (gtB w)) ⟨0, [], []⟩ := by
  have e1 := rsR_length w.r
  have e2 := ssR_length w.s
  have hs := ok.s
  unfold gtB
  by_cases h1 : w.r.length > 40
  · rw [decide_eq_true h1]
    exact zflat_ok tab_ok mixed fun_ok noC_ok (gtA w) (.cons (decide_eq_true (by omega)) .nil)
  · rw [decide_eq_false h1]
    have a1 : decide (((rsR w.r).length : Int) > 40) = false := decide_eq_false (by omega)
    by_cases h2 : w.s.length > 40
    · rw [decide_eq_true h2]
      exact zflat_ok tab_ok mixed fun_ok noC_ok (gtB1 w) (.cons a1 (.cons (decide_eq_true (by omega)) .nil))
    · rw [decide_eq_false h2]
      have a2 : decide (((ssR w.s).length : Int) > 40) = false := decide_eq_false (by omega)
      have go : ∀ k, k < w.s.length → decide ((w.s.getD k []).length ≤ 40) = true → Goes Try.prog tab kGt gtL (gtS k) (hW w) .normal (gtS (k + 1)) (hW w) := fun k hk hh => by
        have hh := of_decide_eq_true hh
        have := i1_length (w.s.getD k [])
        exact zsee_ok tab_ok mixed fun_ok noC_ok (gt1 w (i1 (w.s.getD k [])) k) (.cons (decide_eq_true (by omega)) (.cons (idxOk_lt (by omega)) (.cons (ssR_at (get_in _ hk)) (.cons (decide_eq_false (by omega)) (.cons (wrK_at (by omega)) .nil)))))
      dsimp only
      cases hb : allB w.s.length fun k => decide ((w.s.getD k []).length ≤ 40) with
      | true => exact zflat_ok tab_ok mixed fun_ok noC_ok (gtD w) (.cons a1 (.cons a2 (.cons (scan_t (S := gtS) (by intro h; cases h) go (zsee_ok tab_ok mixed fun_ok noC_ok (gtO w w.s.length) (.cons (decide_eq_false (by omega)) .nil)) hb) .nil)))
      | false => exact zflat_ok tab_ok mixed fun_ok noC_ok (gtC w) (.cons a1 (.cons a2 (.cons (scan_f (S := gtS) (by intro h; cases h) go (fun k hk hh => by
          have hh := of_decide_eq_false hh
          have := i1_length (w.s.getD k [])
          exact zsee_ok tab_ok mixed fun_ok noC_ok (gt2 w (i1 (w.s.getD k [])) k) (.cons (decide_eq_true (by omega)) (.cons (idxOk_lt (by omega)) (.cons (ssR_at (get_in _ hk)) (.cons (decide_eq_true (by omega)) .nil))))) hb) .nil)))
/-! ### Symmetric -/
section
variable {w : Wd} (va : Va w) (ok : OkW w)
include va ok
theorem Va.rows {i : Nat} (hi : i < w.s.length) : (w.s.getD i []).length = w.s.length ∧ w.s.length = w.r.length := by
  have _ := ok
  have h0 : w.s.length ≠ 0 := by omega
  have hl := va.slen h0
  have := (va.row h0 (k := i) (by omega)).1
  exact ⟨by omega, hl⟩
end
/-! ### RadioSymmetry -/
theorem hr_self (w : Wd) (i : Int) : hr w i i = false := by
  unfold hr
  rw [show (i != i) = false by simp]
theorem asE_t {w : Wd} {i j : Int} (hc : chk w = true) (hi : Nd w i) (hj : Nd w j) : asE w i j = 0 := by
  unfold asE
  rw [hc, (nd_iff w i).2 hi, (nd_iff w j).2 hj]
theorem okA_t {w : Wd} {i j : Int} (hc : chk w = true) (hi : Nd w i) (hj : Nd w j) : okA w i j = true := by
  unfold okA
  rw [hc, (nd_iff w i).2 hi, (nd_iff w j).2 hj]
theorem lvD_t {w : Wd} {i j : Int} (hc : chk w = true) (hi : Nd w i) (hj : Nd w j) : lvD w i j = .tuple [iI (lv w i j), iI 0] := by
  unfold lvD lvV
  rw [okA_t hc hi hj, asE_t hc hi hj]
theorem hrD_t {w : Wd} {i j : Int} (hc : chk w = true) (hi : Nd w i) (hj : Nd w j) : hrD w i j = .tuple [.bool (hr w i j), iI 0] := by
  unfold hrD hrV
  rw [okA_t hc hi hj, asE_t hc hi hj]
/-! ### Worlds as arguments -/
abbrev shW : Sp := .agg (.cons (.sl (.agg (.cons (.int .i64) (.cons (.int .i64) (.cons (.int .i64) (.cons (.int .i64) .nil)))))) (.cons (.sl (.sl (.int .i64))) .nil))
theorem shW_ok : spOk Try.prog shW 25 = true := by kernel_rfl
theorem rows_of {α : Type} {f : α → List DV} {Q : α → Prop} : ∀ {rows : List (List DV)}, (∀ r ∈ rows, ∃ a, r = f a ∧ Q a) → ∃ l : List α, rows = l.map f ∧ ∀ a ∈ l, Q a
  | [], _ => ⟨[], rfl, fun a h => by simp at h⟩
  | r :: rows, h => by
    obtain ⟨a, rfl, qa⟩ := h r (List.mem_cons_self ..)
    obtain ⟨l, rfl, ql⟩ := rows_of (f := f) (Q := Q) fun q hq => h q (List.mem_cons_of_mem _ hq)
    exact ⟨a :: l, rfl, fun c hc => by
      rcases List.mem_cons.1 hc with rfl | hc
      · exact qa
      · exact ql c hc⟩
theorem maxLen_lt : maxLen < 2 ^ 63 := by decide
theorem good_w {Gl : Nat → List DV → Prop} {ds : List DV} (h : Gd Gl shW ds) : ∃ w, OkW w ∧ ds = wdC w := by
  obtain ⟨_, _, rfl, ⟨rows, rfl, hl, hr⟩, _, _, rfl, ⟨rows2, rfl, hl2, hr2⟩, rfl⟩ := h
  have hm := maxLen_lt
  obtain ⟨l, rfl, _⟩ := rows_of (f := rC) (Q := fun _ => True) fun r hq => by
    obtain ⟨_, _, rfl, ⟨x, rfl, _⟩, _, _, rfl, ⟨y, rfl, _⟩, _, _, rfl, ⟨p, rfl, _⟩, _, _, rfl, ⟨c, rfl, _⟩, rfl⟩ := hr r hq
    exact ⟨⟨x, y, p, c⟩, rfl, trivial⟩
  obtain ⟨s, rfl, hs⟩ := rows_of (f := fun r : List Int => [DV.list 1 (i1 r)]) (Q := fun r => r.length < 2 ^ 63) fun r hq => by
    obtain ⟨rw_, rfl, hrl, hrr⟩ := hr2 r hq
    obtain ⟨n, rfl, _⟩ := rows_of (f := fun n : Int => [iI n]) (Q := fun _ => True) fun r hq => by
      obtain ⟨n, rfl, _⟩ := hrr r hq
      exact ⟨n, rfl, trivial⟩
    exact ⟨n, rfl, by simp at hrl; omega⟩
  exact ⟨⟨l, s⟩, ⟨by simp at hl; show l.length < _; omega, by simp at hl2; show s.length < _; omega, hs⟩, rfl⟩
section
variable {H : Type} {enc : TypeId × Value → H} {w : World} {base : Nat} {spare : Nat → Bool} {held : Bool}
theorem vr_w {n : Nat} {cs : List Value} {x : DataW H × List MemPlace} (h : DataW.trod enc Try.prog w base spare held n 25 cs = some x) : ∃ r, OkW r ∧ VR w (ro (· < w.heap.size)) (wdD r) (.agg cs.toArray) := by
  obtain ⟨ds, g, v, _, _⟩ := rd_ok (Gl := fun _ _ => False) shW shW_ok (fun u hu => by
    simp only [isLf, isLfs, or_false] at hu) _ _ _ h
  obtain ⟨r, ok, rfl⟩ := good_w g
  exact ⟨r, ok, v.agg⟩
end
end
end Go.Proofs.Ytgjgihlfkpbdgaa
/- Copies of worlds, worlds changed: contracts. -/
namespace Go.Proofs.Ytgjgihlfkpbdgaa
open Go.RowKit

noncomputable section
/-! ### Appending -/
theorem appH_grow {hp : Hp} {id n m : Nat} {e : TypeId} {j : TI} {z : DV} {zs : List DV} {o : Ob} {news : List DV} (hz : j.zero = z :: zs) (hj : Nat.beq j.size 0 = false) (hg : hp.get id = some o) (hk : o.k = 1 ∨ o.k = 3) (ht : o.t = e) (hn : o.cs.length = n * j.size) (hf : fitB (n + (m + 1)) j.bytes = true) :
    appH hp e j (.sl id 0 j.size n n) (m + 1) news = some (.sl hp.n 0 j.size (n + (m + 1)) (n + (m + 1)), (hp.put id ⟨2, o.r, o.t, o.cs⟩).push ⟨3, rootOf o.k o.r id, o.t, o.cs ++ news⟩, mmin (some (rootOf o.k o.r id)) (some id)) := by
  have h1 : Nat.ble (n + (m + 1)) n = false := bleF (by omega)
  have h2 : Nat.ble (0 + n * j.size) o.cs.length = true := bleT (by omega)
  have h3 : Nat.beq (0 + n * j.size) o.cs.length = true := beqT (by omega)
  have h4 : Nat.beq o.t e = true := beqT ht
  rcases hk with hk | hk <;> simp only [appH, hz, hj, beqT (rfl : j.size = j.size), hg, h1, h2, h3, h4, hf, hk, List.drop_zero]
theorem appH_new {hp : Hp} {id m r t : Nat} {e : TypeId} {j : TI} {z : DV} {zs : List DV} {news : List DV} (hz : j.zero = z :: zs) (hj : Nat.beq j.size 0 = false) (hg : hp.get id = some ⟨0, r, t, []⟩) (hf : fitB (m + 1) j.bytes = true) :
    appH hp e j (.sl id 0 j.size 0 0) (m + 1) news = some (.sl hp.n 0 j.size (m + 1) (m + 1), pushH hp 1 e news, none) := by
  have h1 : Nat.ble (m + 1) 0 = false := rfl
  have h2 : Nat.ble 0 ([] : List DV).length = true := rfl
  simp only [appH, hz, hj, beqT (rfl : j.size = j.size), hg, Nat.zero_add, Nat.zero_mul, h1, h2, hf, List.drop_nil, List.take_nil, List.nil_append]
theorem fit_at {n b : Nat} (h : n * b ≤ 140737488355328) (h2 : n ≤ 140737488355328) : fitB n b = true := by
  unfold fitB
  rw [bleT (show n ≤ mxL from Nat.le_trans h2 (by decide)), bleT (show n * b ≤ mxB from h)]
  rfl
theorem flat_at {s : Nat} : ∀ {xs : List (List DV)}, (∀ cs ∈ xs, cs.length = s) → ∀ {i : Nat} {cs : List DV}, xs[i]? = some cs → ∀ {j : Nat} {d : DV}, cs[j]? = some d → xs.flatten[i * s + j]? = some d
  | [], _, i, cs, h, _, _, _ => by simp at h
  | x :: xs, hl, 0, cs, h, j, d, hj => by
    simp only [List.getElem?_cons_zero, Option.some.injEq] at h
    subst h
    have := (List.getElem?_eq_some_iff.1 hj).1
    rw [List.flatten_cons, Nat.zero_mul, Nat.zero_add, List.getElem?_append_left this]
    exact hj
  | x :: xs, hl, i + 1, cs, h, j, d, hj => by
    have hx := hl x (List.mem_cons_self ..)
    rw [List.flatten_cons, List.getElem?_append_right (by rw [hx, Nat.succ_mul]; omega), hx, Nat.succ_mul, show i * s + s + j - s = i * s + j by omega]
    exact flat_at (fun cs hc => hl cs (List.mem_cons_of_mem _ hc)) (by simpa using h) hj
/-- a row of one's own that has become a list -/
theorem frz_rows {L : List Nat} {hp : Hp} {id s n c : Nat} {o : Ob} {xs : List (List DV)} (hL : posN id L = none) (hg : hp.get id = some o) (hk : o.k ≠ 2) (he : o.cs = xs.flatten) (hn : xs.length = n) (hs : ∀ cs ∈ xs, cs.length = s) (hf : ∀ cs ∈ xs, ∀ d ∈ cs, flat0 d = true) : FrzD L hp (.sl id 0 s n c) (.list s xs) := by
  refine FrzD.slice hL hg hk hn fun i cs hi => ?_
  have hm := List.mem_of_getElem? hi
  have sc : ∀ {l : List DV}, (∀ d ∈ l, flat0 d = true) → scals l = true := by
    intro l
    induction l with
    | nil => exact fun _ => rfl
    | cons d l ih =>
      intro h
      simp only [scals, Bool.and_eq_true]
      exact ⟨flat0_scal (h d (List.mem_cons_self ..)), ih fun q hq => h q (List.mem_cons_of_mem _ hq)⟩
  refine ⟨hs cs hm, sc (hf cs hm), fun j d hj => ⟨d, ?_, .flat _ (hf cs hm d (List.mem_of_getElem? hj))⟩⟩
  rw [he, Nat.zero_add]
  exact flat_at hs hi hj
abbrev inT : TI := ⟨.int .i64, 1, 8, [.int .i64 0], true⟩
abbrev roT : TI := ⟨.slice 3, 1, 24, [.nil], true⟩
abbrev tyI : List TypeId := [55, 55]
abbrev tyS : List TypeId := [23, 23]
theorem app_tabI (hp : Hp) (d x : DV) : builtinD tab hp .append [d, x] tyI = match contD hp 1 x with
    | some (m, news) => appH hp 3 inT d m news
    | none => none := by kernel_rfl
theorem app_tabS (hp : Hp) (d x : DV) : builtinD tab hp .append [d, x] tyS = match contD hp 1 x with
    | some (m, news) => appH hp 55 roT d m news
    | none => none := by kernel_rfl
abbrev oA (a b : DV) : Ob := ⟨0, 0, 25, [a, b]⟩
abbrev oRs (k : Nat) (cl : List DV) : Ob := ⟨k, 0, 64, cl⟩
abbrev oRw (k r : Nat) (cl : List DV) : Ob := ⟨k, r, 55, cl⟩
def celI (l : List Int) : List DV := (i1 l).flatten
def celS (s : List (List Int)) : List DV := (ssR s).flatten
theorem i1_len1 (l : List Int) : ∀ cs ∈ i1 l, cs.length = 1 := fun cs h => by
  obtain ⟨r, _, rfl⟩ := List.mem_map.1 h
  rfl
theorem i1_flat (l : List Int) : ∀ cs ∈ i1 l, ∀ d ∈ cs, flat0 d = true := fun cs h d hd => by
  obtain ⟨r, _, rfl⟩ := List.mem_map.1 h
  obtain rfl := List.mem_singleton.1 hd
  rfl
theorem ssR_len1 (l : List (List Int)) : ∀ cs ∈ ssR l, cs.length = 1 := fun cs h => by
  obtain ⟨r, _, rfl⟩ := List.mem_map.1 h
  rfl
theorem ssR_flat (l : List (List Int)) : ∀ cs ∈ ssR l, ∀ d ∈ cs, flat0 d = true := fun cs h d hd => by
  obtain ⟨r, _, rfl⟩ := List.mem_map.1 h
  obtain rfl := List.mem_singleton.1 hd
  rfl
theorem flatten_flat {xs : List (List DV)} (h : ∀ cs ∈ xs, ∀ d ∈ cs, flat0 d = true) : ∀ d ∈ xs.flatten, flat0 d = true := fun d hd => by
  obtain ⟨cs, h1, h2⟩ := List.mem_flatten.1 hd
  exact h cs h1 d h2
theorem len_flat {s : Nat} : ∀ {xs : List (List DV)}, (∀ cs ∈ xs, cs.length = s) → xs.flatten.length = xs.length * s
  | [], _ => by simp
  | x :: xs, h => by
    rw [List.flatten_cons, List.length_append, h x (List.mem_cons_self ..), len_flat fun cs hc => h cs (List.mem_cons_of_mem _ hc), List.length_cons, Nat.succ_mul]
    omega
theorem celS_length (s : List (List Int)) : (celS s).length = s.length := by
  unfold celS
  rw [len_flat (ssR_len1 s), ssR_length, Nat.mul_one]
theorem celS_snoc (s : List (List Int)) (r : List Int) : celS (s ++ [r]) = celS s ++ [.list 1 (i1 r)] := by
  unfold celS ssR
  rw [List.map_append, List.flatten_append]
  rfl
/-! ### slices.Clone -/
abbrev hCl (cl : List DV) : Hp := ⟨1, [oRs 1 cl], []⟩
/-! ### copied -/
abbrev cpA (n : Nat) : DV := .sl 2 0 4 n n
abbrev hc0 (w : Wd) (n : Nat) (cl : List DV) : Hp := ⟨4, [oA (cpA n) .nil, oRs 1 cl, oA .nil .nil, oW w], []⟩
abbrev hc1 (w : Wd) (n : Nat) (cl rw_ : List DV) (m : Nat) : Hp := ⟨5, [oRw 1 0 rw_, oA (cpA n) (.sl 4 0 1 m m), oRs 1 cl, oA .nil .nil, oW w], []⟩
theorem flatTwo {a b : Nat} {hp : Hp} {oa ob : Ob} (h1 : hp.get a = some oa) (h2 : hp.get b = some ob) (f1 : ∀ d ∈ oa.cs, flat0 d = true) (f2 : ∀ d ∈ ob.cs, flat0 d = true) : FlatIn [a, b] hp := fun id o hid hg d hd => by
  rcases List.mem_cons.1 hid with rfl | hid
  · rw [h1] at hg; cases hg; exact f1 d hd
  · obtain rfl := List.mem_singleton.1 hid
    rw [h2] at hg; cases hg; exact f2 d hd
structure Small (w : Wd) : Prop where
  r0 : 0 < w.r.length
  r : w.r.length ≤ 1000
  s : w.s.length ≤ 1000
  row : ∀ r ∈ w.s, 0 < r.length ∧ r.length ≤ 1000
end
end Go.Proofs.Ytgjgihlfkpbdgaa
/- Move, Tune: contracts. -/
namespace Go.Proofs.Ytgjgihlfkpbdgaa
open Go.RowKit

noncomputable section
/-- a world with another radio -/
def setW (w : Wd) (i : Int) (r : Rw) : Wd := ⟨w.r.set i.toNat r, w.s⟩
def w0 : Wd := ⟨[], []⟩
end
end Go.Proofs.Ytgjgihlfkpbdgaa
/- Same, of one world; the law RadioLocal over data. -/
namespace Go.Proofs.Ytgjgihlfkpbdgaa
open Go.RowKit

noncomputable section
/-! ### SameInts, Same -/
/-! ### A world with another radio -/
section
variable {w : Wd} {i : Int} (hi : Nd w i)
include hi
theorem set_set (r q : Rw) : setW (setW w i r) i q = setW w i q := by
  have := hi.lo
  simp [setW]
end
theorem OkW.w0 : OkW w0 := ⟨by show 0 < _; decide, by show 0 < _; decide, fun l h => by cases h⟩
/-! ### RadioLocal -/
end
end Go.Proofs.Ytgjgihlfkpbdgaa
/- Neighbours, the reference's Symmetric, Twin: contracts; the law RadioTells over data. -/
namespace Go.Proofs.Ytgjgihlfkpbdgaa
open Go.RowKit

noncomputable section
/-! ### Neighbours -/
def nbL (w : Wd) (j : Int) : Nat → List Int
  | 0 => []
  | n + 1 => match hr w j n with
    | true => nbL w j n ++ [(n : Int)]
    | false => nbL w j n
def nbV (w : Wd) (j : Int) : List Int := match okA w j j with
  | true => nbL w j w.r.length
  | false => []
def nbD (w : Wd) (j : Int) : DV := .tuple [.list 1 (i1 (nbV w j)), iI (asE w j j)]
abbrev oJ (k : Nat) (l : List DV) : Ob := ⟨k, 0, 3, l⟩
theorem celI_snoc (l : List Int) (n : Int) : celI (l ++ [n]) = celI l ++ [iI n] := by
  unfold celI i1
  rw [List.map_append, List.flatten_append]
  rfl
theorem celI_length (l : List Int) : (celI l).length = l.length := by
  unfold celI
  rw [len_flat (i1_len1 l), i1_length, Nat.mul_one]
theorem nbL_len (w : Wd) (j : Int) : ∀ n, (nbL w j n).length ≤ n
  | 0 => Nat.le_refl _
  | n + 1 => by
    have := nbL_len w j n
    unfold nbL
    split
    · simp; omega
    · omega
abbrev fNb : FuncId := 32
abbrev kNb : List (Nat × Nat) := ksF ftab fNb
abbrev nbLp : Code := loopAt (bodyOf ftab fNb) 0
abbrev nbS (w : Wd) (j : Int) (d : DV) (k : Nat) : Slots := mkT 32 [(1, iI j), (2, .ptr 0 0), (7, d), (18, .int .i64 ((rsR w.r).length : Int)), (19, iN k)]
abbrev nbH0 (w : Wd) (j : Int) : Hp := ⟨2, [oJ 0 [iI j], oW w], []⟩
abbrev nbH (w : Wd) (j : Int) (cl : List DV) : Hp := ⟨3, [oJ 1 cl, oJ 0 [iI j], oW w], []⟩
abbrev nbE (d : DV) : Slots := mkT 32 [(7, d)]
set_option maxRecDepth 1000000 in
theorem nb0f (w : Wd) (j : Int) (k : Nat) : zgm [0, 1] [] (zsee Try.prog tab ftab (calC fHe [wdD w, iI j, iN k] (.bool false)) kNb [1, 2, 7, 18, 19] nbLp (nbS w j .nil k) (nbH0 w j) [(20, .b true), (25, .q (.bool false)), (30, .w (iN (k + 1)))]) = some (.normal, nbS w j .nil (k + 1), (nbH0 w j), FlatIn [] (nbH0 w j) :: ((decide ((k : Int) < ((rsR w.r).length : Int))) = true) :: ((calC fHe [wdD w, iI j, iN k] (.bool false)) fHe [wdD w, iI j, iN k] (nbH0 w j) = some (.bool false, (nbH0 w j), none)) :: wrK k :: []) := by kernel_rfl
set_option maxRecDepth 1000000 in
theorem nb1f (w : Wd) (j : Int) (k n : Nat) (cl : List DV) : zgm [0, 1, 2] [2] (zsee Try.prog tab ftab (calC fHe [wdD w, iI j, iN k] (.bool false)) kNb [1, 2, 7, 18, 19] nbLp (nbS w j (.sl 2 0 1 n n) k) (nbH w j cl) [(20, .b true), (25, .q (.bool false)), (30, .w (iN (k + 1)))]) = some (.normal, nbS w j (.sl 2 0 1 n n) (k + 1), (nbH w j cl), FlatIn [2] (nbH w j cl) :: ((decide ((k : Int) < ((rsR w.r).length : Int))) = true) :: ((calC fHe [wdD w, iI j, iN k] (.bool false)) fHe [wdD w, iI j, iN k] (nbH w j cl) = some (.bool false, (nbH w j cl), none)) :: wrK k :: []) := by kernel_rfl
set_option maxRecDepth 1000000 in
theorem nb0t (w : Wd) (j : Int) (k : Nat) : zgm [0, 1, 3] [3] (zsee Try.prog tab ftab (calC fHe [wdD w, iI j, iN k] (.bool true)) kNb [1, 2, 7, 18, 19] nbLp (nbS w j .nil k) (nbH0 w j) [(20, .b true), (25, .q (.bool true)), (30, .w (iN (k + 1)))]) = some (.normal, nbS w j (.sl 2 0 1 1 1) (k + 1), (nbH w j [iN k]), FlatIn [3] ⟨4, [oJ 1 [iN k], oJ 0 [iN k], oJ 0 [iI j], oW w], []⟩ :: ((decide ((k : Int) < ((rsR w.r).length : Int))) = true) :: ((calC fHe [wdD w, iI j, iN k] (.bool true)) fHe [wdD w, iI j, iN k] (nbH0 w j) = some (.bool true, (nbH0 w j), none)) :: wrK k :: []) := by kernel_rfl
set_option maxRecDepth 1000000 in
theorem nb1t (w : Wd) (j : Int) (k n : Nat) (cl : List DV) : zgm [0, 1, 4] [4] (zsee Try.prog tab ftab (calC fHe [wdD w, iI j, iN k] (.bool true)) kNb [1, 2, 7, 18, 19] nbLp (nbS w j (.sl 2 0 1 n n) k) (nbH w j cl) [(20, .b true), (25, .q (.bool true)), (29, .h (.sl 4 0 1 (n + 1) (n + 1)) ⟨5, [⟨3, 2, 3, cl ++ [iN k]⟩, oJ 0 [iN k], ⟨2, 0, 3, cl⟩, oJ 0 [iI j], oW w], []⟩ (some 2)), (30, .w (iN (k + 1)))]) = some (.normal, nbS w j (.sl 2 0 1 (n + 1) (n + 1)) (k + 1), (nbH w j (cl ++ [iN k])), FlatIn [4] ⟨5, [⟨3, 2, 3, cl ++ [iN k]⟩, oJ 0 [iN k], ⟨2, 0, 3, cl⟩, oJ 0 [iI j], oW w], []⟩ :: ((decide ((k : Int) < ((rsR w.r).length : Int))) = true) :: ((calC fHe [wdD w, iI j, iN k] (.bool true)) fHe [wdD w, iI j, iN k] (nbH w j cl) = some (.bool true, (nbH w j cl), none)) :: (builtinD tab ⟨4, [oJ 0 [iN k], oJ 1 cl, oJ 0 [iI j], oW w], []⟩ .append [(.sl 2 0 1 n n), .sl 3 0 1 1 1] tyI = some (.sl 4 0 1 (n + 1) (n + 1), ⟨5, [⟨3, 2, 3, cl ++ [iN k]⟩, oJ 0 [iN k], ⟨2, 0, 3, cl⟩, oJ 0 [iI j], oW w], []⟩, some 2)) :: wrK k :: []) := by kernel_rfl
set_option maxRecDepth 1000000 in
theorem nbO0 (w : Wd) (j : Int) (k : Nat) : zsee Try.prog tab ftab noC kNb [7] nbLp (nbS w j .nil k) (nbH0 w j) [(20, .b false)] = some (.exit 0, nbE .nil, (nbH0 w j), ((decide ((k : Int) < ((rsR w.r).length : Int))) = false) :: []) := by kernel_rfl
set_option maxRecDepth 1000000 in
theorem nbO1 (w : Wd) (j : Int) (k n : Nat) (cl : List DV) : zsee Try.prog tab ftab noC kNb [7] nbLp (nbS w j (.sl 2 0 1 n n) k) (nbH w j cl) [(20, .b false)] = some (.exit 0, nbE (.sl 2 0 1 n n), (nbH w j cl), ((decide ((k : Int) < ((rsR w.r).length : Int))) = false) :: []) := by kernel_rfl
set_option maxRecDepth 1000000 in
theorem nbX0 (w : Wd) (j : Int) : zflat (zans Try.prog tab ftab (calC fCk [wdD w] (iI 8)) fNb [wdD w, iI j] [(12, .c [(9, .q (iI 8))])]) = some (.tuple [.nil, iI 8], ((calC fCk [wdD w] (iI 8)) fCk [wdD w] ⟨3, [oW w, oJ 0 [iI j], oW w], []⟩ = some (iI 8, ⟨3, [oW w, oJ 0 [iI j], oW w], []⟩, none)) :: []) := by kernel_rfl
set_option maxRecDepth 1000000 in
theorem nbX1 (w : Wd) (j : Int) : zflat (zans Try.prog tab ftab (calC fCk [wdD w] (iI 0)) fNb [wdD w, iI j] [(12, .c [(9, .q (iI 0)), (20, .b true)])]) = some (.tuple [.nil, iI 2], ((calC fCk [wdD w] (iI 0)) fCk [wdD w] ⟨3, [oW w, oJ 0 [iI j], oW w], []⟩ = some (iI 0, ⟨3, [oW w, oJ 0 [iI j], oW w], []⟩, none)) :: ((decide (j < 0)) = true) :: []) := by kernel_rfl
set_option maxRecDepth 1000000 in
theorem nbX2 (w : Wd) (j : Int) : zflat (zans Try.prog tab ftab (calC fCk [wdD w] (iI 0)) fNb [wdD w, iI j] [(12, .c [(9, .q (iI 0)), (20, .b false), (26, .b true)])]) = some (.tuple [.nil, iI 2], ((calC fCk [wdD w] (iI 0)) fCk [wdD w] ⟨3, [oW w, oJ 0 [iI j], oW w], []⟩ = some (iI 0, ⟨3, [oW w, oJ 0 [iI j], oW w], []⟩, none)) :: ((decide (j < 0)) = false) :: ((decide (j ≥ ((rsR w.r).length : Int))) = true) :: []) := by kernel_rfl
set_option maxRecDepth 1000000 in
theorem nbF0 (w : Wd) (j : Int) : zans Try.prog tab ftab (calC fCk [wdD w] (iI 0)) fNb [wdD w, iI j] [(12, .c [(9, .q (iI 0)), (20, .b false), (26, .b false)]), (0, .l [1, 2, 7, 18, 19] (.exit 0) (nbE .nil) (nbH0 w j))] = some (.tuple [.nil, iI 0], (nbH0 w j), ((calC fCk [wdD w] (iI 0)) fCk [wdD w] ⟨3, [oW w, oJ 0 [iI j], oW w], []⟩ = some (iI 0, ⟨3, [oW w, oJ 0 [iI j], oW w], []⟩, none)) :: ((decide (j < 0)) = false) :: ((decide (j ≥ ((rsR w.r).length : Int))) = false) :: (Goes Try.prog tab kNb (.loop nbLp) (nbS w j .nil 0) (nbH0 w j) (.exit 0) (nbE .nil) (nbH0 w j)) :: []) := by kernel_rfl
set_option maxRecDepth 1000000 in
theorem nbF1 (w : Wd) (j : Int) (n : Nat) (cl : List DV) : zans Try.prog tab ftab (calC fCk [wdD w] (iI 0)) fNb [wdD w, iI j] [(12, .c [(9, .q (iI 0)), (20, .b false), (26, .b false)]), (0, .l [1, 2, 7, 18, 19] (.exit 0) (nbE (.sl 2 0 1 n n)) (nbH w j cl))] = some (.tuple [(.sl 2 0 1 n n), iI 0], (nbH w j cl), ((calC fCk [wdD w] (iI 0)) fCk [wdD w] ⟨3, [oW w, oJ 0 [iI j], oW w], []⟩ = some (iI 0, ⟨3, [oW w, oJ 0 [iI j], oW w], []⟩, none)) :: ((decide (j < 0)) = false) :: ((decide (j ≥ ((rsR w.r).length : Int))) = false) :: (Goes Try.prog tab kNb (.loop nbLp) (nbS w j .nil 0) (nbH0 w j) (.exit 0) (nbE (.sl 2 0 1 n n)) (nbH w j cl)) :: []) := by kernel_rfl
def nbDs : List Int → DV
  | [] => .nil
  | x :: l => .sl 2 0 1 (x :: l).length (x :: l).length
def nbHs (w : Wd) (j : Int) : List Int → Hp
  | [] => nbH0 w j
  | x :: l => nbH w j (celI (x :: l))
theorem nb_loop (w : Wd) (va : Va w) (j : Int) (hj : Nd w j) : ∀ (m k : Nat), k + m = w.r.length → ∃ q, GoesR Try.prog tab kNb nbLp (q + 1) (nbS w j (nbDs (nbL w j k)) k) (nbHs w j (nbL w j k)) (.exit 0) (nbE (nbDs (nbL w j w.r.length))) (nbHs w j (nbL w j w.r.length))
  | 0, k, e => by
    have hn := rsR_length w.r
    have hd : decide ((k : Int) < ((rsR w.r).length : Int)) = false := decide_eq_false (by omega)
    obtain rfl : k = w.r.length := e
    refine ⟨0, GoesR.last ?_ (by intro h; cases h)⟩
    cases hl : nbL w j w.r.length with
    | nil => exact zsee_ok tab_ok mixed fun_ok noC_ok (nbO0 w j w.r.length) (.cons hd .nil)
    | cons x l => exact zsee_ok tab_ok mixed fun_ok noC_ok (nbO1 w j w.r.length (x :: l).length (celI (x :: l))) (.cons hd .nil)
  | m + 1, k, e => by
    have hn := rsR_length w.r
    have h2 := va.n2
    have hd : decide ((k : Int) < ((rsR w.r).length : Int)) = true := decide_eq_true (by omega)
    obtain ⟨q, g⟩ := nb_loop w va j hj m (k + 1) (by omega)
    have hk : Nd w (k : Int) := ⟨by omega, by omega⟩
    have hC := calC_ok (he_ans w va j (k : Int) hj hk)
    have hlen := nbL_len w j k
    have wr : wrK k := wrK_at (by omega)
    have en : nbL w j (k + 1) = match hr w j k with
      | true => nbL w j k ++ [(k : Int)]
      | false => nbL w j k := rfl
    refine ⟨q + 1, GoesR.step ?_ g⟩
    rw [en]
    cases hh : hr w j k with
    | false =>
      rw [hh] at hC
      cases hl : nbL w j k with
      | nil => exact zgm_ok tab_ok mixed fun_ok hC (nb0f w j k) (.cons (flatIn_nil _) (.cons hd (.cons (calC_at _ rfl rfl) (.cons wr .nil))))
      | cons x l => exact zgm_ok tab_ok mixed fun_ok hC (nb1f w j k (x :: l).length (celI (x :: l))) (.cons (fun id o hid hg d hd => by
          obtain rfl := List.mem_singleton.1 hid
          cases hg
          exact flatten_flat (i1_flat _) d hd) (.cons hd (.cons (calC_at _ rfl rfl) (.cons wr .nil))))
    | true =>
      rw [hh] at hC
      cases hl : nbL w j k with
      | nil => exact zgm_ok tab_ok mixed fun_ok hC (nb0t w j k) (.cons (fun id o hid hg d hd => by
          obtain rfl := List.mem_singleton.1 hid
          cases hg
          obtain rfl := List.mem_singleton.1 hd
          rfl) (.cons hd (.cons (calC_at _ rfl rfl) (.cons wr .nil))))
      | cons x l =>
        rw [hl] at hlen
        have e1 : nbDs (x :: l ++ [(k : Int)]) = .sl 2 0 1 ((x :: l).length + 1) ((x :: l).length + 1) := by
          show DV.sl 2 0 1 (x :: (l ++ [(k : Int)])).length _ = _
          simp
        have e2 : nbHs w j (x :: l ++ [(k : Int)]) = nbH w j (celI (x :: l) ++ [iN k]) := by
          show nbH w j (celI (x :: (l ++ [(k : Int)]))) = _
          have := celI_snoc (x :: l) (k : Int)
          rw [List.cons_append] at this
          rw [this]
        show Goes _ _ _ _ _ _ _ (nbS w j (nbDs (x :: l ++ [(k : Int)])) (k + 1)) (nbHs w j (x :: l ++ [(k : Int)]))
        rw [e1, e2]
        refine zgm_ok tab_ok mixed fun_ok hC (nb1t w j k (x :: l).length (celI (x :: l))) (.cons (fun id o hid hg d hd => ?_) (.cons hd (.cons (calC_at _ rfl rfl) (.cons ?_ (.cons wr .nil)))))
        · obtain rfl := List.mem_singleton.1 hid
          cases hg
          rcases List.mem_append.1 hd with hd | hd
          · exact flatten_flat (i1_flat _) d hd
          · obtain rfl := List.mem_singleton.1 hd
            rfl
        · rw [app_tabI]
          exact appH_grow (id := 2) (n := (x :: l).length) (m := 0) (e := 3) (j := inT) (o := oJ 1 (celI (x :: l))) (news := [iN k]) rfl rfl rfl (.inl rfl) rfl (by rw [celI_length, Nat.mul_one]) (fit_at (by show (_ + (0 + 1)) * 8 ≤ _; omega) (by omega))
theorem nb_good (w : Wd) (va : Va w) (j : Int) (hj : Nd w j) (hk : Ans Try.prog fCk [wdD w] (iI 0) ⟨0, [], []⟩) (p1 : decide (j < 0) = false) (p2 : decide (j ≥ ((rsR w.r).length : Int)) = false) : Ans Try.prog fNb [wdD w, iI j] (.tuple [.list 1 (i1 (nbL w j w.r.length)), iI 0]) ⟨0, [], []⟩ := by
  obtain ⟨q, g⟩ := nb_loop w va j hj w.r.length 0 (by omega)
  have g := g.goes
  have g0 : Goes Try.prog tab kNb (.loop nbLp) (nbS w j .nil 0) (nbH0 w j) (.exit 0) (nbE (nbDs (nbL w j w.r.length))) (nbHs w j (nbL w j w.r.length)) := g
  cases hl : nbL w j w.r.length with
  | nil =>
    rw [hl] at g0
    exact (zans_ok tab_ok mixed fun_ok (calC_ok hk) (nbF0 w j) (.cons (calC_at _ rfl rfl) (.cons p1 (.cons p2 (.cons g0 .nil))))).frz rfl (FrzL.tuple ⟨.nl _, .flat _ rfl, trivial⟩)
  | cons x l =>
    rw [hl] at g0
    exact (zans_ok tab_ok mixed fun_ok (calC_ok hk) (nbF1 w j (x :: l).length (celI (x :: l))) (.cons (calC_at _ rfl rfl) (.cons p1 (.cons p2 (.cons g0 .nil))))).frz rfl (FrzL.tuple ⟨frz_rows rfl rfl (by show (1 : Nat) ≠ 2; decide) rfl (i1_length _) (i1_len1 _) (i1_flat _), .flat _ rfl, trivial⟩)
theorem nl_t (e : Int) (hp : Hp) : FrzD [] hp (.tuple [.nil, iI e]) (.tuple [.list 1 (i1 []), iI e]) := FrzL.tuple ⟨.nl _, .flat _ rfl, trivial⟩
theorem nb_ans (w : Wd) (ok : OkW w) (j : Int) : Ans Try.prog fNb [wdD w, iI j] (nbD w j) ⟨0, [], []⟩ := by
  have hk := ck_ans w ok
  unfold nbD nbV okA asE
  cases hc : chk w with
  | false =>
    rw [chE_f hc] at hk
    exact (zflat_ok tab_ok mixed fun_ok (calC_ok hk) (nbX0 w j) (.cons (calC_at _ rfl rfl) .nil)).frz rfl (nl_t 8 _)
  | true =>
    rw [chE_t hc] at hk
    have va := (va_iff w).1 hc
    cases h1 : inI w j with
    | false =>
      rcases inI_f h1 with q | ⟨q1, q2⟩
      · exact (zflat_ok tab_ok mixed fun_ok (calC_ok hk) (nbX1 w j) (.cons (calC_at _ rfl rfl) (.cons q .nil))).frz rfl (nl_t 2 _)
      · exact (zflat_ok tab_ok mixed fun_ok (calC_ok hk) (nbX2 w j) (.cons (calC_at _ rfl rfl) (.cons q1 (.cons q2 .nil)))).frz rfl (nl_t 2 _)
    | true =>
      obtain ⟨p1, p2⟩ := inI_t h1
      exact nb_good w va j ((nd_iff w j).1 h1) hk p1 p2
/-! ### the reference's Symmetric -/
section
variable {w : Wd} (va : Va w) (ok : OkW w)
include va ok
end
end
end Go.Proofs.Ytgjgihlfkpbdgaa
/- The reference's Twin: a contract; the law RadioTells over data. -/
namespace Go.Proofs.Ytgjgihlfkpbdgaa
open Go.RowKit

noncomputable section
/-! ### Objects kept with cells that have become lists -/
section
variable {L : List Nat} {hp hp' : Hp}
def MltL (L : List Nat) (hp : Hp) : List DV → List DV → Prop
  | [], [] => True
  | d :: ds, e :: es => (Mlt L hp d e ∧ scal e = true) ∧ MltL L hp ds es
  | _, _ => False
theorem MltL.len : ∀ {ds es : List DV}, MltL L hp ds es → es.length = ds.length
  | [], [], _ => rfl
  | _ :: _, _ :: _, h => by simp [MltL.len h.2]
  | [], _ :: _, h => h.elim
  | _ :: _, [], h => h.elim
theorem MltL.sc : ∀ {ds es : List DV}, MltL L hp ds es → scals es = true
  | [], [], _ => rfl
  | _ :: _, _ :: _, h => by
    simp only [scals, Bool.and_eq_true]
    exact ⟨h.1.2, MltL.sc h.2⟩
  | [], _ :: _, h => h.elim
  | _ :: _, [], h => h.elim
theorem MltL.at : ∀ {ds es : List DV}, MltL L hp ds es → ∀ (j : Nat) (d e : DV), ds[j]? = some d → es[j]? = some e → Mlt L hp d e
  | d :: _, e :: _, h, 0, d', e', hd, he => by
    simp only [List.getElem?_cons_zero, Option.some.injEq] at hd he
    subst hd he
    exact h.1.1
  | _ :: _, _ :: _, h, j + 1, d, e, hd, he => MltL.at h.2 j d e (by simpa using hd) (by simpa using he)
  | [], [], _, j, d, e, hd, _ => by simp at hd
  | [], _ :: _, h, _, _, _, _, _ => h.elim
  | _ :: _, [], h, _, _, _, _, _ => h.elim
theorem MltL.flat : ∀ {ds : List DV}, (∀ d ∈ ds, flat0 d = true) → MltL L hp ds ds
  | [], _ => trivial
  | d :: _ds, h => ⟨⟨.frz _ _ (.flat _ (h d (List.mem_cons_self ..))), flat0_scal (h d (List.mem_cons_self ..))⟩, MltL.flat fun q hq => h q (List.mem_cons_of_mem _ hq)⟩
theorem MltL.app : ∀ {ds es us bs : List DV}, MltL L hp ds es → MltL L hp us bs → MltL L hp (ds ++ us) (es ++ bs)
  | [], [], _, _, _, h => h
  | _ :: _, _ :: _, _, _, h, k => ⟨h.1, MltL.app h.2 k⟩
  | [], _ :: _, _, _, h, _ => h.elim
  | _ :: _, [], _, _, h, _ => h.elim
theorem melt_objs (h1 : hp.ls = []) (h2 : hp'.ls = []) (hn : nodupN L = true) (ob : ∀ (i id : Nat), L[i]? = some id → ∃ o o', hp.get id = some o ∧ o.k ≠ 2 ∧ hp'.get i = some o' ∧ o'.k = (oldOb o).k ∧ o'.t = o.t ∧ MltL L hp o.cs o'.cs) : MeltH L hp hp' :=
  ⟨fun id R hR => (by rw [h2] at hR; cases hR), fun i => (by rw [h1, h2]), fun i hi => (by rw [h1] at hi; cases hi), nodupN_ok hn, fun i id hi => by
    obtain ⟨o, o', a1, a2, a3, a4, a5, a6⟩ := ob i id hi
    exact ⟨o, o', a1, a2, a3, a4, a5, a6.len, a6.sc, a6.at⟩⟩
end
/-! ### Twin -/
theorem wdC_flat (w : Wd) : ∀ d ∈ wdC w, flat0 d = true := fun d h => by
  simp only [wdC, List.mem_cons, List.not_mem_nil, or_false] at h
  rcases h with rfl | rfl <;> rfl
structure Sm (w : Wd) : Prop where
  r : w.r.length ≤ 1000
  s : w.s.length ≤ 1000
  row : ∀ r ∈ w.s, r.length ≤ 1000
/-! ### RadioTells -/
end
end Go.Proofs.Ytgjgihlfkpbdgaa
