/- Tables, checked; contracts for calls without a heap. No function of the program is named here. -/
import Derived.Test.YtoghpmeoekbcbaaV23
import Derived.KernelRfl
namespace Go.Proofs.Ytoghpmeoekbcbaa
open Go.RowKit

noncomputable section
/-! ### The table of types -/
def fsChk (P : Program) : List (Nat × Nat × Nat) → List Field → Bool
  | [], [] => true
  | (t, off, sz) :: r, g :: s => Nat.beq g.type t && Nat.beq g.offset off && Nat.beq (P.cellsOf t) sz && Nat.blt 0 sz && !(g.name == "_") && fsChk P r s
  | _, _ => false
def tdChk (P : Program) : TD → TypeDesc → Bool
  | .int k, .int k' => k == k'
  | .bool, .bool => true
  | .str, .string => true
  | .slice e, .slice e' => Nat.beq e e'
  | .array n e, .array n' e' => Nat.beq n n' && Nat.beq e e'
  | .struct fs, .struct gs => fsChk P fs gs.toList
  | .ptr e, .pointer e' => Nat.beq e e'
  | .fn, .func _ _ _ => true
  | .iface, .interface _ => true
  | .other, .struct _ => false
  | .other, .array _ _ => false
  | .other, _ => true
  | _, _ => false
theorem fsChk_ok {P : Program} : ∀ {fs : List (Nat × Nat × Nat)} {gs : List Field}, fsChk P fs gs = true → fs.length = gs.length ∧ ∀ (j t off sz : Nat), fs[j]? = some (t, off, sz) → ∃ f, gs[j]? = some f ∧ f.type = t ∧ f.offset = off ∧ P.cellsOf t = sz ∧ 0 < sz ∧ f.name ≠ "_"
  | [], [], _ => ⟨rfl, fun j t off sz h => by simp at h⟩
  | (t, off, sz) :: r, g :: s, h => by
    simp only [fsChk, Bool.and_eq_true, Bool.not_eq_true'] at h
    obtain ⟨⟨⟨⟨⟨h1, h2⟩, h3⟩, h4⟩, h5⟩, h6⟩ := h
    obtain ⟨i1, i2⟩ := fsChk_ok h6
    refine ⟨by simp [i1], fun j t' off' sz' hj => ?_⟩
    cases j with
    | zero =>
      simp only [List.getElem?_cons_zero, Option.some.injEq, Prod.mk.injEq] at hj
      obtain ⟨rfl, rfl, rfl⟩ := hj
      refine ⟨g, rfl, Nat.eq_of_beq_eq_true h1, Nat.eq_of_beq_eq_true h2, Nat.eq_of_beq_eq_true h3, Nat.le_of_ble_eq_true h4, fun e => ?_⟩
      rw [e] at h5
      simp at h5
    | succ j => exact i2 j t' off' sz' (by simpa using hj)
theorem tdChk_ok {P : Program} {td : TD} {d : TypeDesc} (h : tdChk P td d = true) : tdOk P td d := by
  cases td <;> cases d <;> first | (simp [tdChk] at h; done) | (exact trivial) | (simpa [tdChk, tdOk] using h) | skip
  rename_i fs gs
  obtain ⟨h1, h2⟩ := fsChk_ok (P := P) (fs := fs) (gs := gs.toList) h
  refine ⟨by rw [h1]; simp, fun j t off sz hj => ?_⟩
  obtain ⟨f, f1, f2⟩ := h2 j t off sz hj
  exact ⟨f, by simpa using f1, f2⟩
def zChk : List DV → List Value → Bool
  | [], [] => true
  | .int k n :: r, .int k' n' :: r' => k == k' && n == n' && zChk r r'
  | .bool b :: r, .bool b' :: r' => b == b' && zChk r r'
  | .str s :: r, .string s' :: r' => s.data.toList == s'.data.toList && zChk r r'
  | .nil :: r, .slice none 0 0 :: r' => zChk r r'
  | .nilp :: r, .pointer none :: r' => zChk r r'
  | .nilf :: r, .nilFunc :: r' => zChk r r'
  | .nili :: r, .nilIface :: r' => zChk r r'
  | _, _ => false
theorem zChk_ok : ∀ {ds : List DV} {vs : List Value}, zChk ds vs = true → ∀ E w, VRs E w ds vs
  | ds, vs, h, E, w => by
    unfold zChk at h
    split at h
    · exact .nil _ _
    · simp only [Bool.and_eq_true, beq_iff_eq] at h
      obtain ⟨⟨rfl, rfl⟩, h⟩ := h
      exact .cons (.int _ _ _) (zChk_ok h E w)
    · simp only [Bool.and_eq_true, beq_iff_eq] at h
      obtain ⟨rfl, h⟩ := h
      exact .cons (.bool _ _) (zChk_ok h E w)
    · rename_i s r s' r'
      simp only [Bool.and_eq_true, beq_iff_eq] at h
      obtain ⟨h1, h⟩ := h
      have : s = s' := by
        obtain ⟨⟨x⟩⟩ := s
        obtain ⟨⟨y⟩⟩ := s'
        simp at h1
        rw [h1]
      subst this
      exact .cons (.str _ _) (zChk_ok h E w)
    · exact .cons (.nil _) (zChk_ok h E w)
    · exact .cons (.nilp _) (zChk_ok h E w)
    · exact .cons (.nilf _) (zChk_ok h E w)
    · exact .cons (.nili _) (zChk_ok h E w)
    · cases h
def tiChk (P : Program) (t : Nat) (i : TI) : Bool :=
  (match P.info? t, P.underlying t with
  | some info, some d => Nat.beq info.size i.size && Nat.beq info.bytes i.bytes && tdChk P i.td d && (i.zero.isEmpty || match info.zero with
    | some z => Nat.beq z.cells.toList.length i.size && scals i.zero && zChk i.zero z.cells.toList
    | none => false)
  | _, _ => false) && (!i.cmp || (!P.eqGuardType P.depth t && !P.stoodInHeld t))
theorem tiChk_ok {P : Program} {t : Nat} {i : TI} (h : tiChk P t i = true) : TiOk P t i := by
  unfold tiChk at h
  rw [Bool.and_eq_true] at h
  obtain ⟨h, hc⟩ := h
  split at h
  · rename_i info d h1 h2
    simp only [Bool.and_eq_true, Bool.or_eq_true, List.isEmpty_iff] at h
    obtain ⟨⟨⟨h3, h6⟩, h4⟩, h5⟩ := h
    refine ⟨info, d, h1, h2, Nat.eq_of_beq_eq_true h3, Nat.eq_of_beq_eq_true h6, tdChk_ok h4, fun ds hd hne => ?_, fun hcmp => ?_⟩
    · subst hd
      rcases h5 with h5 | h5
      · exact absurd h5 hne
      · split at h5
        · rename_i z hz
          simp only [Bool.and_eq_true] at h5
          obtain ⟨⟨h5, h7⟩, h8⟩ := h5
          exact ⟨z, hz, by simpa using Nat.eq_of_beq_eq_true h5, h7, fun E w => zChk_ok h8 E w⟩
        · cases h5
    · rw [hcmp] at hc
      simpa using hc
  · cases h
def cutT (n : Nat) (T : Tab) : Tab := fun t => match Nat.blt t n with
  | true => T t
  | false => none
def rowChk (P : Program) (T : Tab) (t : Nat) : Bool := match T t with
  | some i => tiChk P t i
  | none => true
theorem tabOk_of {P : Program} {T : Tab} {n : Nat} (h : (List.range n).all (rowChk P T) = true) : TabOk P (cutT n T) := by
  intro t i hi
  unfold cutT at hi
  split at hi
  · rename_i hlt
    have hlt : t < n := Nat.le_of_ble_eq_true hlt
    have := List.all_eq_true.1 h t (List.mem_range.2 hlt)
    unfold rowChk at this
    rw [hi] at this
    exact tiChk_ok this
  · cases hi
/-! ### The table of functions -/
def ftabOf (P : Program) (ksOf : Nat → List (Nat × Nat)) (n : Nat) : FTab := fun f => match Nat.blt f n with
  | true => match P.funcs[f]? with
    | some g => match g.body with
      | some c => some ⟨g.ntmps, c, g.results.toList, (65535, g.ntmps) :: ksOf f⟩
      | none => none
    | none => none
  | false => none
def funChk (P : Program) (T : Tab) (ksOf : Nat → List (Nat × Nat)) (f : Nat) : Bool := match P.funcs[f]? with
  | some g => match g.body with
    | some c => !(g.name == "runtime.NumGoroutine") && codeChk T g.ntmps ((65535, g.ntmps) :: ksOf f) c
    | none => true
  | none => true
theorem funOk_of {P : Program} {T : Tab} {ksOf : Nat → List (Nat × Nat)} {n : Nat} (h : (List.range n).all (funChk P T ksOf) = true) : FunOk P T (ftabOf P ksOf n) := by
  intro f fn hf
  unfold ftabOf at hf
  split at hf
  · rename_i hlt
    have hlt : f < n := Nat.le_of_ble_eq_true hlt
    have hc := List.all_eq_true.1 h f (List.mem_range.2 hlt)
    unfold funChk at hc
    split at hf
    · rename_i g hg
      rw [hg] at hc
      split at hf
      · rename_i c hb
        cases hf
        simp only [hb, Bool.and_eq_true, Bool.not_eq_true'] at hc
        exact ⟨g, hg, hb, hc.1, by simp, rfl, hc.2⟩
      · cases hf
    · cases hf
  · cases hf
/-! ### Contracts -/
def liftR (hp : Hp) : Option (DV × Hp × Mut) → Option (DV × Hp × Mut)
  | some (d, _, none) => match flatD d with
    | true => some (d, hp, none)
    | false => none
  | _ => none
/-- calls whose arguments and answer name no object: in whatever heap -/
def liftC (C : ConF) : ConF := fun f args hp => match flats2 args with
  | true => liftR hp (C f args ⟨0, [], []⟩)
  | false => none
variable {P : Program}
theorem hs_empty {W0 : World} {base : Nat} {S0 : Nat → Prop} {E : Env} {hp : Hp} {w : World} (hs : HS W0 base S0 E hp w) : HS w 0 E.S (ro E.S) ⟨0, [], []⟩ w :=
  ⟨Below.refl _ _, fun _ h => h.elim, fun _ h => h.elim, fun _ h => h.elim, fun _ _ _ _ h => h.elim, fun b hb => hs.ro b hb, fun _ h => .inl h, Nat.le_refl _, .none rfl fun _ => rfl⟩
/-- what a call without a heap leaves, in the heap that it is called in -/
def E2 (E E' : Env) : Env := { E with S := E'.S }
theorem liftC_ok {C : ConF} (hC : ConOk P C) : ConOk P (liftC C) := by
  intro f args hp r hp' mu h
  unfold liftC at h
  split at h
  · rename_i hfa
    unfold liftR at h
    split at h
    · rename_i d hp1 heq
      split at h
      · rename_i hfd
        cases h
        obtain ⟨hg, hext, hc⟩ := hC _ _ _ _ _ _ heq
        refine ⟨hg, fun base _ _ => Ext.refl _ _, fun W0 base S0 E w vs _ hs hv => ?_⟩
        refine (hc w 0 E.S (ro E.S) w vs trivial (hs_empty hs) (flats2_ok (E := E) (E' := ro E.S) (fun _ h => h) hv hfa)).mono ?_
        rintro e w' ⟨E', v, rfl, hst, hv'⟩
        have hbel : Below w.heap.size w w' := hst.hs.bel
        have hl : Later E w (E2 E E') w' := ⟨hst.later.S, fun id hd => ⟨hd, rfl, rfl, rfl, Iff.rfl⟩, fun p hp => hbel.cell (hs.ro _ hp), fun _ _ h => h⟩
        have hHS : HS W0 base S0 (E2 E E') hp w' := hs.move (fun id hd => hd) hl (hs.bel.trans (hbel.mono hs.bel.size)) (fun id hd => by
          obtain ⟨ob, _, hok⟩ := hs.ob id hd
          exact hbel.block _ hok.lt) hst.hs.olds hst.hs.ro (fun _ _ => rfl) hs.le (hs.ys.keep hl rfl rfl (Nat.le_refl _) fun k hk => hbel.block k (isO_lt hk))
        exact ⟨E2 E E', v, rfl, ⟨hl, hHS, Ext.refl _ _, fun _ _ hd => hd, .of_below hbel, rfl⟩, flatD_ok hv' hfd fun _ h => h⟩
      · cases h
    · cases h
  · cases h
/-- a table of calls grows by calls that are carried out -/
theorem grow_ok {T : Tab} {F : FTab} {C C' : ConF} (hT : TabOk P T) (hmix : P.follows .mixedOrders = true) (hF : FunOk P T F) (hC : ConOk P C) (h : ∀ f args hp r, C' f args hp = some r → C f args hp = some r ∨ ∃ n, callE T F C (exec T F C n) f args hp = some r) : ConOk P C' := by
  intro f args hp r hp' mu hr
  rcases h f args hp (r, hp', mu) hr with h | ⟨n, h⟩
  · exact hC _ _ _ _ _ _ h
  · exact callE_ok hT hF hC (exec_ok hT hmix hF hC n).1 _ _ _ _ _ _ h
end
end Go.Proofs.Ytoghpmeoekbcbaa
