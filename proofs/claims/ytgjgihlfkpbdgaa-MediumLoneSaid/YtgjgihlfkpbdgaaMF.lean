/- Tables, checked; contracts for calls without a heap. No function of the program is named here. -/
import Derived.Test.YtgjgihlfkpbdgaaME
import Derived.KernelRfl
namespace Go.Proofs.Ytgjgihlfkpbdgaa
open Go.RowKit

noncomputable section
/-! ### The table of types -/
def fsChk (P : Program) : List (Nat × Nat × Nat) → List Field → Bool
  | [], [] => true
  | (t, off, sz) :: r, g :: s => Nat.beq g.type t && Nat.beq g.offset off && Nat.beq (P.cellsOf t) sz && Nat.blt 0 sz && !(g.name == "_") && fsChk P r s
  | _, _ => false
def tdChk (P : Program) : TD → TypeDesc → Bool
  | .int k, .int k' => k == k'
  | .bool, .bool => true
  | .str, .string => true
  | .slice e, .slice e' => Nat.beq e e'
  | .array n e, .array n' e' => Nat.beq n n' && Nat.beq e e'
  | .struct fs, .struct gs => fsChk P fs gs.toList
  | .ptr e, .pointer e' => Nat.beq e e'
  | .fn, .func _ _ _ => true
  | .iface, .interface _ => true
  | .other, .struct _ => false
  | .other, .array _ _ => false
  | .other, _ => true
  | _, _ => false
theorem fsChk_ok {P : Program} : ∀ {fs : List (Nat × Nat × Nat)} {gs : List Field}, fsChk P fs gs = true → fs.length = gs.length ∧ ∀ (j t off sz : Nat), fs[j]? = some (t, off, sz) → ∃ f, gs[j]? = some f ∧ f.type = t ∧ f.offset = off ∧ P.cellsOf t = sz ∧ 0 < sz ∧ f.name ≠ "_"
  | [], [], _ => ⟨rfl, fun j t off sz h => by simp at h⟩
  | (t, off, sz) :: r, g :: s, h => by
    simp only [fsChk, Bool.and_eq_true, Bool.not_eq_true'] at h
    obtain ⟨⟨⟨⟨⟨h1, h2⟩, h3⟩, h4⟩, h5⟩, h6⟩ := h
    obtain ⟨i1, i2⟩ := fsChk_ok h6
    refine ⟨by simp [i1], fun j t' off' sz' hj => ?_⟩
    cases j with
    | zero =>
      simp only [List.getElem?_cons_zero, Option.some.injEq, Prod.mk.injEq] at hj
      obtain ⟨rfl, rfl, rfl⟩ := hj
      refine ⟨g, rfl, Nat.eq_of_beq_eq_true h1, Nat.eq_of_beq_eq_true h2, Nat.eq_of_beq_eq_true h3, Nat.le_of_ble_eq_true h4, fun e => ?_⟩
      rw [e] at h5
      simp at h5
    | succ j => exact i2 j t' off' sz' (by simpa using hj)
theorem tdChk_ok {P : Program} {td : TD} {d : TypeDesc} (h : tdChk P td d = true) : tdOk P td d := by
  cases td <;> cases d <;> first | (simp [tdChk] at h; done) | (exact trivial) | (simpa [tdChk, tdOk] using h) | skip
  rename_i fs gs
  obtain ⟨h1, h2⟩ := fsChk_ok (P := P) (fs := fs) (gs := gs.toList) h
  refine ⟨by rw [h1]; simp, fun j t off sz hj => ?_⟩
  obtain ⟨f, f1, f2⟩ := h2 j t off sz hj
  exact ⟨f, by simpa using f1, f2⟩
def zChk : List DV → List Value → Bool
  | [], [] => true
  | .int k n :: r, .int k' n' :: r' => k == k' && n == n' && zChk r r'
  | .bool b :: r, .bool b' :: r' => b == b' && zChk r r'
  | .str s :: r, .string s' :: r' => s.data.toList == s'.data.toList && zChk r r'
  | .nil :: r, .slice none 0 0 :: r' => zChk r r'
  | .nilp :: r, .pointer none :: r' => zChk r r'
  | .nilf :: r, .nilFunc :: r' => zChk r r'
  | .nili :: r, .nilIface :: r' => zChk r r'
  | _, _ => false
theorem zChk_ok : ∀ {ds : List DV} {vs : List Value}, zChk ds vs = true → ∀ E w, VRs E w ds vs
  | ds, vs, h, E, w => by
    unfold zChk at h
    split at h
    · exact .nil _ _
    · simp only [Bool.and_eq_true, beq_iff_eq] at h
      obtain ⟨⟨rfl, rfl⟩, h⟩ := h
      exact .cons (.int _ _ _) (zChk_ok h E w)
    · simp only [Bool.and_eq_true, beq_iff_eq] at h
      obtain ⟨rfl, h⟩ := h
      exact .cons (.bool _ _) (zChk_ok h E w)
    · rename_i s r s' r'
      simp only [Bool.and_eq_true, beq_iff_eq] at h
      obtain ⟨h1, h⟩ := h
      have : s = s' := by
        obtain ⟨⟨x⟩⟩ := s
        obtain ⟨⟨y⟩⟩ := s'
        simp at h1
        rw [h1]
      subst this
      exact .cons (.str _ _) (zChk_ok h E w)
    · exact .cons (.nil _) (zChk_ok h E w)
    · exact .cons (.nilp _) (zChk_ok h E w)
    · exact .cons (.nilf _) (zChk_ok h E w)
    · exact .cons (.nili _) (zChk_ok h E w)
    · cases h
def tiChk (P : Program) (t : Nat) (i : TI) : Bool :=
  (match P.info? t, P.underlying t with
  | some info, some d => Nat.beq info.size i.size && Nat.beq info.bytes i.bytes && tdChk P i.td d && (i.zero.isEmpty || match info.zero with
    | some z => Nat.beq z.cells.toList.length i.size && scals i.zero && zChk i.zero z.cells.toList
    | none => false)
  | _, _ => false) && (!i.cmp || (!P.eqGuardType P.depth t && !P.stoodInHeld t))
theorem tiChk_ok {P : Program} {t : Nat} {i : TI} (h : tiChk P t i = true) : TiOk P t i := by
  unfold tiChk at h
  rw [Bool.and_eq_true] at h
  obtain ⟨h, hc⟩ := h
  split at h
  · rename_i info d h1 h2
    simp only [Bool.and_eq_true, Bool.or_eq_true, List.isEmpty_iff] at h
    obtain ⟨⟨⟨h3, h6⟩, h4⟩, h5⟩ := h
    refine ⟨info, d, h1, h2, Nat.eq_of_beq_eq_true h3, Nat.eq_of_beq_eq_true h6, tdChk_ok h4, fun ds hd hne => ?_, fun hcmp => ?_⟩
    · subst hd
      rcases h5 with h5 | h5
      · exact absurd h5 hne
      · split at h5
        · rename_i z hz
          simp only [Bool.and_eq_true] at h5
          obtain ⟨⟨h5, h7⟩, h8⟩ := h5
          exact ⟨z, hz, by simpa using Nat.eq_of_beq_eq_true h5, h7, fun E w => zChk_ok h8 E w⟩
        · cases h5
    · rw [hcmp] at hc
      simpa using hc
  · cases h
def cutT (n : Nat) (T : Tab) : Tab := fun t => match Nat.blt t n with
  | true => T t
  | false => none
def rowChk (P : Program) (T : Tab) (t : Nat) : Bool := match T t with
  | some i => tiChk P t i
  | none => true
theorem tabOk_of {P : Program} {T : Tab} {n : Nat} (h : (List.range n).all (rowChk P T) = true) : TabOk P (cutT n T) := by
  intro t i hi
  unfold cutT at hi
  split at hi
  · rename_i hlt
    have hlt : t < n := Nat.le_of_ble_eq_true hlt
    have := List.all_eq_true.1 h t (List.mem_range.2 hlt)
    unfold rowChk at this
    rw [hi] at this
    exact tiChk_ok this
  · cases hi
/-! ### The table of functions -/
def ftabOf (P : Program) (ksOf : Nat → List (Nat × Nat)) (n : Nat) : FTab := fun f => match Nat.blt f n with
  | true => match P.funcs[f]? with
    | some g => match g.body with
      | some c => some ⟨g.ntmps, c, g.results.toList, (65535, g.ntmps) :: ksOf f⟩
      | none => none
    | none => none
  | false => none
def funChk (P : Program) (T : Tab) (ksOf : Nat → List (Nat × Nat)) (f : Nat) : Bool := match P.funcs[f]? with
  | some g => match g.body with
    | some c => !(g.name == "runtime.NumGoroutine") && codeChk T g.ntmps ((65535, g.ntmps) :: ksOf f) c
    | none => true
  | none => true
theorem funOk_of {P : Program} {T : Tab} {ksOf : Nat → List (Nat × Nat)} {n : Nat} (h : (List.range n).all (funChk P T ksOf) = true) : FunOk P T (ftabOf P ksOf n) := by
  intro f fn hf
  unfold ftabOf at hf
  split at hf
  · rename_i hlt
    have hlt : f < n := Nat.le_of_ble_eq_true hlt
    have hc := List.all_eq_true.1 h f (List.mem_range.2 hlt)
    unfold funChk at hc
    split at hf
    · rename_i g hg
      rw [hg] at hc
      split at hf
      · rename_i c hb
        cases hf
        simp only [hb, Bool.and_eq_true, Bool.not_eq_true'] at hc
        exact ⟨g, hg, hb, hc.1, by simp, rfl, hc.2⟩
      · cases hf
    · cases hf
  · cases hf
/-! ### Contracts -/
def liftR (hp : Hp) : Option (DV × Hp × Mut) → Option (DV × Hp × Mut)
  | some (d, _, none) => match flatD d with
    | true => some (d, hp, none)
    | false => none
  | _ => none
/-- calls whose arguments and answer name no object: in whatever heap -/
def liftC (C : ConF) : ConF := fun f args hp => match flats2 args with
  | true => liftR hp (C f args ⟨0, [], []⟩)
  | false => none
variable {P : Program}
theorem hs_empty {W0 : World} {base : Nat} {S0 : Nat → Prop} {E : Env} {hp : Hp} {w : World} (hs : HS W0 base S0 E hp w) : HS w 0 E.S (ro E.S) ⟨0, [], []⟩ w :=
  ⟨Below.refl _ _, fun _ h => h.elim, fun _ h => h.elim, fun _ h => h.elim, fun _ _ _ _ h => h.elim, fun b hb => hs.ro b hb, fun _ h => .inl h, Nat.le_refl _, .none rfl (fun _ => rfl) hs.gl⟩
/-- what a call without a heap leaves, in the heap that it is called in -/
def E2 (E E' : Env) : Env := { E with S := E'.S }
theorem liftC_ok {C : ConF} (hC : ConOk P C) : ConOk P (liftC C) := by
  intro f args hp r hp' mu h
  unfold liftC at h
  split at h
  · rename_i hfa
    unfold liftR at h
    split at h
    · rename_i d hp1 heq
      split at h
      · rename_i hfd
        cases h
        obtain ⟨hg, hext, hc⟩ := hC _ _ _ _ _ _ heq
        refine ⟨hg, fun base _ _ => Ext.refl _ _, fun W0 base S0 E w vs _ hs hv => ?_⟩
        refine (hc w 0 E.S (ro E.S) w vs trivial (hs_empty hs) (flats2_ok (E := E) (E' := ro E.S) (fun _ h => h) hv hfa)).mono ?_
        rintro e w' ⟨E', v, rfl, hst, hv'⟩
        have hbel : Below w.heap.size w w' := hst.hs.bel
        have hl : Later E w (E2 E E') w' := ⟨hst.later.S, fun id hd => ⟨hd, rfl, rfl, rfl, Iff.rfl⟩, fun p hp => hbel.cell (hs.ro _ hp), fun _ _ h => h⟩
        have hHS : HS W0 base S0 (E2 E E') hp w' := hs.move (fun id hd => hd) hl (hs.bel.trans (hbel.mono hs.bel.size)) (fun id hd => by
          obtain ⟨ob, _, hok⟩ := hs.ob id hd
          exact hbel.block _ hok.lt) hst.hs.olds hst.hs.ro (fun _ _ => rfl) hs.le (hs.ys.keep hl rfl rfl (Nat.le_refl _) fun k hk => hbel.block k (isO_lt hk))
        exact ⟨E2 E E', v, rfl, ⟨hl, hHS, Ext.refl _ _, fun _ _ hd => hd, .of_below hbel, rfl⟩, flatD_ok hv' hfd fun _ h => h⟩
      · cases h
    · cases h
  · cases h
end
end Go.Proofs.Ytgjgihlfkpbdgaa
/- Slots that know more. No function of the program is named here. -/
namespace Go.Proofs.Ytgjgihlfkpbdgaa
open Go.RowKit

noncomputable section
/-- sl' knows all that sl knows -/
def SLe (sl sl' : Slots) : Prop := ∀ t d, look sl t = some d → look sl' t = some d
/-- of one shape; what the first knows, the second knows -/
inductive Kn : Slots → Slots → Prop
  | lf : Kn .lf .lf
  | nd {u u' : Option DV} {l l' r r' : Slots} : (∀ d, u = some d → u' = some d) → Kn l l' → Kn r r' → Kn (.nd u l r) (.nd u' l' r')
theorem Kn.refl : ∀ s, Kn s s
  | .lf => .lf
  | .nd _ l r => .nd (fun _ h => h) (Kn.refl l) (Kn.refl r)
theorem Kn.trans {a b c : Slots} (h : Kn a b) (k : Kn b c) : Kn a c := by
  induction h generalizing c with
  | lf => exact k
  | nd h1 _ _ il ir =>
    cases k with
    | nd k1 k2 k3 => exact .nd (fun d hd => k1 d (h1 d hd)) (il k2) (ir k3)
theorem Kn.sle {s s' : Slots} (h : Kn s s') : SLe s s' := by
  induction h with
  | lf => exact fun t d h => h
  | nd h1 _ _ il ir =>
    intro t d h
    rw [look_nd] at h ⊢
    by_cases a : t = 0
    · rw [if_pos a] at h ⊢
      exact h1 d h
    · rw [if_neg a] at h ⊢
      by_cases b : t % 2 = 1
      · rw [if_pos b] at h ⊢
        exact il _ d h
      · rw [if_neg b] at h ⊢
        exact ir _ d h
theorem Kn.put {s s' : Slots} (h : Kn s s') (t : Nat) (d : DV) : Kn (putS s t d) (putS s' t d) := by
  induction h generalizing t with
  | lf => exact .lf
  | nd h1 h2 h3 il ir =>
    rw [putS_nd, putS_nd]
    split
    · exact .nd (fun _ h => h) h2 h3
    · split
      · exact .nd h1 (il _) h3
      · exact .nd h1 h2 (ir _)
theorem Kn.putO {s s' : Slots} (h : Kn s s') (o : Option Tmp) (d : DV) : Kn (putO s o d) (putO s' o d) := by
  cases o with
  | none => exact h
  | some t => exact h.put t d
theorem kn_restr : ∀ (s : Slots) (p : Nat → Bool), Kn (restr s p) s
  | .lf, _ => .lf
  | .nd u l r, p => by
    unfold restr
    refine .nd (fun d h => ?_) (kn_restr l _) (kn_restr r _)
    split at h
    · exact h
    · cases h
end
end Go.Proofs.Ytgjgihlfkpbdgaa
/- What a text does, from one shape of slots and objects to another: rules; loops. No function of the program is named here. -/
namespace Go.Proofs.Ytgjgihlfkpbdgaa
open Go.RowKit

noncomputable section
variable {P : Program} {T : Tab} {F : FTab} {C : ConF}
/-! ### What is to be shown -/
def AskedP (c : List Prop) : Prop := ∀ x ∈ c, x
theorem AskedP.left {a b : List Prop} (h : AskedP (a ++ b)) : AskedP a := fun x hx => h x (by simp [hx])
theorem AskedP.right {a b : List Prop} (h : AskedP (a ++ b)) : AskedP b := fun x hx => h x (by simp [hx])
theorem AskedP.nil : AskedP [] := fun _ h => by cases h
theorem AskedP.cons {x : Prop} {b : List Prop} (h : x) (k : AskedP b) : AskedP (x :: b) := fun y hy => by
  rcases List.mem_cons.1 hy with rfl | hy
  · exact h
  · exact k y hy
theorem AskedP.app {a b : List Prop} (h : AskedP a) (k : AskedP b) : AskedP (a ++ b) := fun x hx => by
  rcases List.mem_append.1 hx with hx | hx
  · exact h x hx
  · exact k x hx
/-- on from one place to another -/
structure Gon (E : Env) (hp : Hp) (w : World) (E' : Env) (hp' : Hp) (w' : World) : Prop where
  later : Later (ro E.S) w (ro E'.S) w'
  oth : Oth w w'
  yb : E'.yb = E.yb
  dm : ∀ i, (lfind i hp'.ls).isSome = (lfind i hp.ls).isSome
theorem Gon.refl (E : Env) (hp : Hp) (w : World) : Gon E hp w E hp w := ⟨Later.refl _ _, Oth.refl _, rfl, fun _ => rfl⟩
theorem Gon.trans {E E1 E2 : Env} {hp h1 h2 : Hp} {w w1 w2 : World} (h : Gon E hp w E1 h1 w1) (k : Gon E1 h1 w1 E2 h2 w2) : Gon E hp w E2 h2 w2 := ⟨h.later.trans k.later, h.oth.trans k.oth, k.yb.trans h.yb, fun i => (k.dm i).trans (h.dm i)⟩
theorem later_up {E E' : Env} (h : ∀ b, E.S b → E'.S b) (w : World) : Later (ro E.S) w (ro E'.S) w := ⟨h, fun _ h => h.elim, fun _ _ => rfl, fun _ _ h => by cases h⟩
theorem Gon.up {E E' : Env} (h : ∀ b, E.S b → E'.S b) (hy : E'.yb = E.yb) {hp hp' : Hp} (hd : ∀ i, (lfind i hp'.ls).isSome = (lfind i hp.ls).isSome) (w : World) : Gon E hp w E' hp' w := ⟨later_up h w, Oth.refl _, hy, hd⟩
theorem stp_gon {W0 : World} {S0 : Nat → Prop} {E E' : Env} {hp hp' : Hp} {w w' : World} (h : Stp W0 0 S0 E hp w E' hp' w') : Gon E hp w E' hp' w' := ⟨h.later.ro_ro, h.oth, h.yb, fun i => by
  have := congrArg Option.isSome (h.ext.ls i)
  simpa only [Option.isSome_map] using this⟩
theorem DfrOk.gon {W0 : World} {fl : Nat} {E E' : Env} {hp hp' : Hp} {w w' : World} {dl : List Deferred} (h : DfrOk W0 fl E w dl) (g : Gon E hp w E' hp' w') : DfrOk W0 fl E' w' dl := h.step g.oth g.yb
theorem RoOk.gon {fm : Fm} {E E' : Env} {hp hp' : Hp} {w w' : World} {dl : List Deferred} (h : RoOk fm E hp dl) (g : Gon E hp w E' hp' w') : RoOk fm E' hp' dl := fun b hb => by
  obtain ⟨h1, id, D, h2, h3⟩ := h b hb
  exact ⟨h1, id, D, by rw [g.yb]; exact h2, by rw [g.dm]; exact h3⟩
/-- all objects being the run's own: from (sl, hp) the text c comes to (sl', hp') by the exit e -/
def Goes (P : Program) (T : Tab) (ks : List (Nat × Nat)) (c : Code) (sl : Slots) (hp : Hp) (e : Ex) (sl' : Slots) (hp' : Hp) : Prop :=
  ∀ N, codeChk T N ks c = true → ∀ fm W0 S0 E a w (Q : Exit → Act → World → Prop), Sim fm W0 0 S0 E N sl hp a w →
    (∀ E' a' w', Gon E hp w E' hp' w' → Sim fm W0 0 S0 E' N sl' hp' a' w' → Q (exOf e) a' w') → c.wpIn (Fr fm.ro) 0 P Q a w
/-- what is known may be seen otherwise, with nothing done -/
def Seen (sl : Slots) (hp : Hp) (sl' : Slots) (hp' : Hp) : Prop :=
  ∀ fm W0 S0 E N a w, Sim fm W0 0 S0 E N sl hp a w → ∃ E', Gon E hp w E' hp' w ∧ Sim fm W0 0 S0 E' N sl' hp' a w
theorem Seen.refl (sl : Slots) (hp : Hp) : Seen sl hp sl hp := fun _ _ _ E _ _ _ h => ⟨E, .refl _ _ _, h⟩
theorem Seen.trans {s1 s2 s3 : Slots} {h1 h2 h3 : Hp} (h : Seen s1 h1 s2 h2) (k : Seen s2 h2 s3 h3) : Seen s1 h1 s3 h3 := by
  intro fm W0 S0 E N a w hs
  obtain ⟨E1, e1, hs1⟩ := h _ _ _ _ _ _ _ hs
  obtain ⟨E2, e2, hs2⟩ := k _ _ _ _ _ _ _ hs1
  exact ⟨E2, e1.trans e2, hs2⟩
theorem Seen.kn {sl sl' : Slots} (h : Kn sl' sl) (hp : Hp) : Seen sl hp sl' hp := fun _ _ _ E _ _ _ hs => ⟨E, .refl _ _ _, hs.hs, hs.dfr, hs.ro, hs.size, fun t d ht => hs.sl t d (h.sle t d ht)⟩
theorem Goes.pre {ks : List (Nat × Nat)} {c : Code} {s0 sl sl' : Slots} {h0 hp hp' : Hp} {e : Ex} (hw : Seen s0 h0 sl hp) (h : Goes P T ks c sl hp e sl' hp') : Goes P T ks c s0 h0 e sl' hp' := by
  intro N hN fm W0 S0 E a w Q hs hQ
  obtain ⟨E', hE, hs'⟩ := hw _ _ _ _ _ _ _ hs
  exact h N hN fm W0 S0 E' a w Q hs' fun E2 a2 w2 hl hs2 => hQ E2 a2 w2 (hE.trans hl) hs2
theorem Goes.post {ks : List (Nat × Nat)} {c : Code} {sl s1 s2 : Slots} {hp h1 h2 : Hp} {e : Ex} (h : Goes P T ks c sl hp e s1 h1) (hw : Seen s1 h1 s2 h2) : Goes P T ks c sl hp e s2 h2 := by
  intro N hN fm W0 S0 E a w Q hs hQ
  refine h N hN fm W0 S0 E a w Q hs fun E1 a1 w1 hl hs1 => ?_
  obtain ⟨E2, hE, hs2⟩ := hw _ _ _ _ _ _ _ hs1
  exact hQ E2 a1 w1 (hl.trans hE) hs2
theorem goes_exec (hT : TabOk P T) (hmix : P.follows .mixedOrders = true) (hF : FunOk P T F) (hC : ConOk P C) {n : Nat} {ks : List (Nat × Nat)} {c : Code} {sl sl' : Slots} {hp hp' : Hp} {e : Ex} {mu : Mut} (h : exec T F C n ks c sl hp = some (e, sl', hp', mu)) : Goes P T ks c sl hp e sl' hp' := by
  intro N hN fm W0 S0 E a w Q hs hQ
  obtain ⟨_, h2⟩ := (exec_ok hT hmix hF hC n).1 N ks c sl hp e sl' hp' mu h hN
  refine h2 fm W0 0 S0 E a w Q hs (by cases mu <;> simp [mutOk]) fun E' a' w' hst hs' => hQ E' a' w' (stp_gon hst) hs'
theorem Goes.seq {ks : List (Nat × Nat)} {x y : Code} {sl s1 s2 : Slots} {hp h1 h2 : Hp} {e : Ex} (h : Goes P T ks x sl hp .normal s1 h1) (k : Goes P T ks y s1 h1 e s2 h2) : Goes P T ks (.seq x y) sl hp e s2 h2 := by
  intro N hN fm W0 S0 E a w Q hs hQ
  have hN' : (codeChk T N ks x && codeChk T N ks y) = true := hN
  simp only [Bool.and_eq_true] at hN'
  refine wpIn_seq (h N hN'.1 fm W0 S0 E a w _ hs fun E1 a1 w1 hl hs1 => ?_)
  exact k N hN'.2 fm W0 S0 E1 a1 w1 Q hs1 fun E2 a2 w2 hl2 hs2 => hQ E2 a2 w2 (hl.trans hl2) hs2
theorem Goes.seqx {ks : List (Nat × Nat)} {x y : Code} {sl s1 : Slots} {hp h1 : Hp} {e : Ex} (h : Goes P T ks x sl hp e s1 h1) (hne : e ≠ .normal) : Goes P T ks (.seq x y) sl hp e s1 h1 := by
  intro N hN fm W0 S0 E a w Q hs hQ
  have hN' : (codeChk T N ks x && codeChk T N ks y) = true := hN
  simp only [Bool.and_eq_true] at hN'
  refine wpIn_seq (h N hN'.1 fm W0 S0 E a w _ hs fun E1 a1 w1 hl hs1 => ?_)
  have := hQ E1 a1 w1 hl hs1
  cases e with
  | normal => exact absurd rfl hne
  | exit id => exact this
  | ret => exact this
theorem Goes.cond {ks : List (Nat × Nat)} {x : Operand} {y z : Code} {v : Bool} {sl s1 : Slots} {hp h1 : Hp} {e : Ex} (hv : ev sl x = some (.bool v)) (h : Goes P T ks (if v = true then y else z) sl hp e s1 h1) : Goes P T ks (.cond x y z) sl hp e s1 h1 := by
  intro N hN fm W0 S0 E a w Q hs hQ
  have hN' : (codeChk T N ks y && codeChk T N ks z) = true := hN
  simp only [Bool.and_eq_true] at hN'
  cases v with
  | true => exact wpIn_cond_true (ev_ok hs.hs.gl hs.sl hv).of_bool (h N hN'.1 fm W0 S0 E a w Q hs hQ)
  | false => exact wpIn_cond_false (ev_ok hs.hs.gl hs.sl hv).of_bool (h N hN'.2 fm W0 S0 E a w Q hs hQ)
theorem Goes.block {ks : List (Nat × Nat)} {id : Nat} {x : Code} {sl s1 : Slots} {hp h1 : Hp} {e : Ex} (h : Goes P T ks x sl hp e s1 h1) (hne : ∀ i, e = .exit i → i ≠ id) : Goes P T ks (.block id x) sl hp e s1 h1 := by
  intro N hN fm W0 S0 E a w Q hs hQ
  refine wpIn_block (h N hN fm W0 S0 E a w _ hs fun E1 a1 w1 hl hs1 => ?_)
  have := hQ E1 a1 w1 hl hs1
  cases e with
  | normal => exact this
  | exit i => simpa [Exit.inBlock, exOf, hne i rfl] using this
  | ret => exact this
theorem Goes.blockx {ks : List (Nat × Nat)} {id : Nat} {x : Code} {sl s1 : Slots} {hp h1 : Hp} (h : Goes P T ks x sl hp (.exit id) s1 h1) : Goes P T ks (.block id x) sl hp .normal s1 h1 := by
  intro N hN fm W0 S0 E a w Q hs hQ
  refine wpIn_block (h N hN fm W0 S0 E a w _ hs fun E1 a1 w1 hl hs1 => ?_)
  have := hQ E1 a1 w1 hl hs1
  simpa [Exit.inBlock, exOf] using this
theorem Goes.scope {ks : List (Nat × Nat)} {x : Code} {sl s1 : Slots} {hp h1 : Hp} {e : Ex} (h : Goes P T ks x sl hp e s1 h1) : Goes P T ks (.scope x) sl hp e s1 h1 := by
  intro N hN fm W0 S0 E a w Q hs hQ
  refine wpIn_scope_straight (h N hN fm W0 S0 E a w _ hs fun E1 a1 w1 hl hs1 => ?_)
  have := hQ E1 a1 w1 hl hs1
  cases e with
  | normal => exact this
  | exit i => exact this
  | ret => exact this
/-- what a call answers, all objects being the caller's own -/
def AnsH (P : Program) (f : FuncId) (args : List DV) (hp : Hp) (d : DV) (hp' : Hp) : Prop :=
  FnOk P f ∧ ∀ W0 S0 E w vs, HS W0 0 S0 E hp w → VRs E w args vs → Calls P f vs.toArray w fun e w' => ∃ E' v, e = .returned v ∧ Gon E hp w E' hp' w' ∧ HS W0 0 S0 E' hp' w' ∧ VR w' E' d v
theorem dstsOk_of {n : Nat} : ∀ {ds : List (Option Tmp)}, (∀ t, some t ∈ ds → t < n) → dstsOk n ds = true
  | [], _ => rfl
  | none :: r, h => dstsOk_of (ds := r) fun t ht => h t (List.mem_cons_of_mem _ ht)
  | some s :: r, h => by
    simp only [dstsOk, Bool.and_eq_true]
    exact ⟨Nat.ble_eq_true_of_le (h s (List.mem_cons_self ..)), dstsOk_of (ds := r) fun t ht => h t (List.mem_cons_of_mem _ ht)⟩
/-- operations in the text's order, others behind them -/
theorem regE2_ok {k : Fm} {N base : Nat} {W0 : World} {S0 : Nat → Prop} {ro : Option Nat} (hT : TabOk P T) {call : CallF} (hcall : CallOk P call) {ops : Array Oper} {Q : Exit → Act → World → Prop} {dl : List (Option Tmp)} (hds : dl = ops.toList.map (·.dst)) {rest : List Oper} :
    ∀ (l : List Oper) (sl : Slots) (hp : Hp) (sl' : Slots) (hp' : Hp) (mu : Mut) (E : Env) (a : Act) (w : World), regE T call dl l sl hp = some (sl', hp', mu) → dstsOk N (l.map (·.dst)) = true → Sim k W0 base S0 E N sl hp a w → mutOk base mu →
      (∀ E' a' w', Stp W0 base S0 E hp w E' hp' w' → Sim k W0 base S0 E' N sl' hp' a' w' → wpListIn (Fr ro) 0 P ops Q rest a' w') → wpListIn (Fr ro) 0 P ops Q (l ++ rest) a w
  | [], sl, hp, sl', hp', mu, E, a, w, h, _, hs, _, hQ => by
    cases h
    exact hQ E a w (Stp.refl hs.hs) hs
  | o :: l, sl, hp, sl', hp', mu, E, a, w, h, hl, hs, hmu, hQ => by
    have hd : ∀ t, o.dst = some t → t < N := fun t ht => dstsOk_spec hl t (by simp [ht])
    have hl' : dstsOk N (l.map (·.dst)) = true := by
      simp only [List.map_cons] at hl
      cases ho : o.dst with
      | none => rw [ho] at hl; exact hl
      | some t => rw [ho] at hl; simp only [dstsOk, Bool.and_eq_true] at hl; exact hl.2
    rw [regE_cons] at h
    unfold gateX at h
    rw [List.cons_append]
    unfold wpListIn
    split at h
    · rename_i hg
      have hw := gate_ok (a := a) (w := w) (E := E) hds hg hs.sl
      rw [if_pos hw]
      unfold regE1 at h
      split at h
      · rename_i d hp1 m1 hop
        split at h
        · rename_i sl2 hp2 m2 hrest
          cases h
          obtain ⟨hm1, hm2⟩ := mutOk_mmin hmu
          refine opE_ok hT hcall hop hs.hs hs.sl hm1 fun E' v w' hst hv => ?_
          exact regE2_ok hT hcall hds l _ _ _ _ _ E' _ w' hrest hl' ((hs.step hst).put hd hv) hm2 fun E2 a2 w2 hst2 hs2 => hQ E2 a2 w2 (hst.trans hst2) hs2
        · cases h
      · cases h
    · rename_i hg
      have hw := gate_ok (a := a) (w := w) (E := E) hds hg hs.sl
      rw [if_neg (by rw [hw]; simp)]
      exact ⟨fun _ _ => trivial, regE2_ok hT hcall hds l _ _ _ _ _ E _ w h hl' (hs.put hd (vr_undef w E)) hmu hQ⟩
    · cases h
def memN (k : Nat) : List Nat → Bool
  | [] => false
  | a :: l => match Nat.beq a k with
    | true => true
    | false => memN k l
theorem memN_mem {k : Nat} : ∀ {l : List Nat}, memN k l = true → k ∈ l
  | [], h => by cases h
  | a :: l, h => by
    unfold memN at h
    split at h
    · rename_i hb
      have := Nat.eq_of_beq_eq_true hb
      subst this
      exact List.mem_cons_self ..
    · exact List.mem_cons_of_mem _ (memN_mem h)
def seeS (live : List Nat) (sl : Slots) : Slots := restr sl fun t => memN t live
/-- data that name no object, or a loop -/
def okT : DV → Bool
  | .yld _ => true
  | d => flat1 d
def okLive (sl : Slots) : List Nat → Bool
  | [] => true
  | t :: l => match look sl t with
    | some d => okT d && okLive sl l
    | none => okLive sl l
theorem okLive_at {sl : Slots} : ∀ {l : List Nat}, okLive sl l = true → ∀ {t : Nat} {d : DV}, t ∈ l → look sl t = some d → okT d = true
  | [], _, _, _, ht, _ => by cases ht
  | s :: l, h, t, d, ht, hd => by
    unfold okLive at h
    rcases List.mem_cons.1 ht with rfl | ht
    · rw [hd] at h
      simp only [Bool.and_eq_true] at h
      exact h.1
    · split at h
      · simp only [Bool.and_eq_true] at h
        exact okLive_at h.2 ht hd
      · exact okLive_at h ht hd
theorem okT_ok {E E' : Env} {hp hp' : Hp} {w w' : World} {d : DV} {v : Value} (h : VR w E d v) (hd : okT d = true) (g : Gon E hp w E' hp' w') : VR w' E' d v := by
  have flat : flat1 d = true → VR w' E' d v := fun hf => flat1_ok ((flat1_ok h hf (E' := _root_.Go.Proofs.Ytgjgihlfkpbdgaa.ro E.S) fun _ h => h).later g.later) hf fun _ h => h
  cases d with
  | yld id =>
    cases h
    rename_i hb
    exact .yld _ _ _ _ (by rw [g.yb]; exact hb)
  | _ => exact flat hd
/-- a call within a region, no object being named behind it that was named before it -/
theorem Goes.tail (hT : TabOk P T) {call : CallF} (hcall : CallOk P call) {ks : List (Nat × Nat)} {id : Nat} {ops : Array Oper} {pre post : List Oper} {o : Oper} (hops : ops.toList = pre ++ o :: post) {sl sl1 sl3 : Slots} {hp hp1 hp2 hp3 : Hp} {m1 m3 : Mut} {f : FuncId} {args : List DV} {d : DV} {live : List Nat}
    (h1 : regE T call (ops.toList.map (·.dst)) pre sl hp = some (sl1, hp1, m1)) (hg : gate (ops.toList.map (·.dst)) sl1 o.guard = some true) (ho : aop T hp1 sl1 o.op = .call f args) (hA : AnsH P f args hp1 d hp2) (hlive : okLive sl1 live = true)
    (h2 : regE T call (ops.toList.map (·.dst)) post (putO (seeS live sl1) o.dst d) hp2 = some (sl3, hp3, m3)) : Goes P T ks (.region id ops false) sl hp .normal sl3 hp3 := by
  intro N hN fm W0 S0 E a w Q hs hQ
  have hd : dstsOk N (ops.toList.map (·.dst)) = true := hN
  have hd0 := dstsOk_spec hd
  refine wpIn_region_list ?_
  rw [hops]
  have e1 : ∀ t, some t ∈ pre.map (·.dst) → t < N := fun t ht => hd0 t (by rw [hops, List.map_append]; exact List.mem_append_left _ ht)
  have e2 : ∀ t, some t ∈ post.map (·.dst) → t < N := fun t ht => hd0 t (by rw [hops, List.map_append]; exact List.mem_append_right _ (List.mem_cons_of_mem _ ht))
  have e3 : ∀ t, o.dst = some t → t < N := fun t ht => hd0 t (by rw [hops, List.map_append]; exact List.mem_append_right _ (by rw [List.map_cons, ht]; exact List.mem_cons_self ..))
  refine regE2_ok hT hcall rfl pre _ _ _ _ _ E a w h1 (dstsOk_of e1) hs (by cases m1 <;> simp [mutOk]) fun E1 a1 w1 hst1 hs1 => ?_
  unfold wpListIn
  have hw := gate_ok (a := a1) (w := w1) (E := E1) rfl hg hs1.sl
  rw [if_pos hw]
  have hok := aop_ok (P := P) (o := o) hT hs1.hs hs1.sl
  have hnd := aop_nodefer (T := T) (hp := hp1) (sl := sl1) (o := o)
  rw [ho] at hok hnd
  refine ⟨fun _ _ => trivial, ?_⟩
  rw [Oper.semAt_eq (Fr fm.ro).round a1.eval o (hnd (by intro e; cases e))]
  obtain ⟨vs, hv, he⟩ := hok
  rw [he, run_callFunc_ok hA.1, Oper.uponIn_enter]
  refine ⟨fun h => (by cases h), (callsIn_fr (hA.2 W0 S0 E1 w1 vs hs1.hs hv)).mono ?_⟩
  rintro e w2 ⟨E2, v, rfl, hgon, hh, hr⟩
  have hs2 : Sim fm W0 0 S0 E2 N (putO (seeS live sl1) o.dst d) hp2 (a1.put o.dst v) w2 := by
    refine Sim.put ⟨hh, hs1.dfr.gon hgon, hs1.ro.gon hgon, hs1.size, fun t d ht => ?_⟩ e3 hr
    unfold seeS at ht
    rw [look_restr] at ht
    split at ht
    · rename_i hm
      exact okT_ok (hs1.sl t d ht) (okLive_at hlive (memN_mem hm) ht) hgon
    · cases ht
  exact regE_ok hT hcall rfl post _ _ _ _ _ E2 _ w2 h2 (dstsOk_of e2) hs2 (by cases m3 <;> simp [mutOk]) fun E3 a3 w3 hst3 hs3 => hQ E3 a3 w3 (((stp_gon hst1).trans hgon).trans (stp_gon hst3)) hs3
/-- a loop: n rounds, and one that leaves it -/
theorem Goes.loop {ks : List (Nat × Nat)} {x : Code} (n : Nat) (S : Nat → Slots) (H : Nat → Hp) {s1 : Slots} {h1 : Hp} {e : Ex} (hr : ∀ k, k < n → Goes P T ks x (S k) (H k) .normal (S (k + 1)) (H (k + 1))) (hl : Goes P T ks x (S n) (H n) e s1 h1) (hne : e ≠ .normal) : Goes P T ks (.loop x) (S 0) (H 0) e s1 h1 := by
  intro N hN fm W0 S0 E a w Q hs hQ
  have hx : codeChk T N ks x = true := hN
  refine wpIn_loop_rounds (n + 1) ?_
  have key : ∀ m k, k + m = n → ∀ E1 a1 w1, Gon E (H 0) w E1 (H k) w1 → Sim fm W0 0 S0 E1 N (S k) (H k) a1 w1 → Code.roundsIn (Fr fm.ro) 0 P x Q (m + 1) a1 w1 := by
    intro m
    induction m with
    | zero =>
      intro k hk E1 a1 w1 hl1 hs1
      obtain rfl : k = n := hk
      rw [roundsIn_succ]
      refine hl N hx fm W0 S0 E1 a1 w1 _ hs1 fun E2 a2 w2 hl2 hs2 => ?_
      have := hQ E2 a2 w2 (hl1.trans hl2) hs2
      cases e with
      | normal => exact absurd rfl hne
      | exit id => exact this
      | ret => exact this
    | succ m ih =>
      intro k hk E1 a1 w1 hl1 hs1
      rw [roundsIn_succ]
      refine hr k (by omega) N hx fm W0 S0 E1 a1 w1 _ hs1 fun E2 a2 w2 hl2 hs2 => ?_
      exact ih (k + 1) (by omega) E2 a2 w2 (hl1.trans hl2) hs2
  exact key n 0 (by omega) E a w (.refl _ _ _) hs
end
end Go.Proofs.Ytgjgihlfkpbdgaa
/- Paths along which a text runs, keyed by the slots that operations write; loops by what is known of them. No function of the program is named here. -/
namespace Go.Proofs.Ytgjgihlfkpbdgaa
open Go.RowKit

noncomputable section
/-- of an operation: its bool; its answer, written otherwise; its answer (the heap stays, or becomes hp'); the path of the call that it is; what that call answers (the heap stays, or becomes hp'); of a loop: what is seen of the slots, the exit, the slots and the heap behind it; before the region whose number is the key: what is seen of the slots, as what they and the heap are seen then; t, its key being 60000 and the region's number: the operation number k of that region is a call that answers d and leaves the heap hp, of the slots those in live being used behind it. Operations that write no slot have the key 65535 -/
inductive YE where
  | b (v : Bool)
  | w (d : DV)
  | n (d : DV)
  | h (d : DV) (hp : Hp) (m : Mut)
  | c (p : List (Nat × YE))
  | q (d : DV)
  | r (d : DV) (hp : Hp)
  | l (live : List Nat) (e : Ex) (sl : Slots) (hp : Hp)
  | s (live : List Nat) (sl : Slots) (hp : Hp)
  | t (k : Nat) (live : List Nat) (d : DV) (hp : Hp)
abbrev Yath := List (Nat × YE)
abbrev Y0R := Option (Ex × Slots × Hp × Mut × Yath × List Prop)
abbrev Y0G := Option (Slots × Hp × Mut × Yath × List Prop)
abbrev Y0O := Option (DV × Hp × Mut × Yath × List Prop)
def yyAuto (p : Yath) : Option (DV × Hp × Mut) → Y0O
  | some (d, hp, m) => some (d, hp, m, p, [])
  | none => none
def yyBool (v : Bool) (p : Yath) : Option (DV × Hp × Mut) → Y0O
  | some (.bool x, hp, m) => some (.bool v, hp, m, p, [x = v])
  | _ => none
def yySame (d : DV) (p : Yath) : Option (DV × Hp × Mut) → Y0O
  | some (x, hp, m) => some (d, hp, m, p, [x = d])
  | none => none
def unO : Out → R
  | .done r => some r
  | _ => none
def yyDone (p : Yath) (r : DV × Hp × Mut) : Option (List Prop) → Y0O
  | some ps => some (r.1, r.2.1, r.2.2, p, ps)
  | none => none
/-- what is to be shown that an operation answers d and leaves the heap -/
def resid (T : Tab) (hp : Hp) (sl : Slots) (d : DV) : Op → Option (List Prop)
  | .indexAddr t x ix => match T t, ev sl x, ev sl ix with
    | some i, some x, some (.int _ n) => match i.td with
      | .slice e => match T e with
        | some j => match x with
          | .list s xs => match Nat.beq s j.size, d with
            | true, .fptr cs => some [idxOk n xs.length = true, nth xs n.toNat = some cs]
            | _, _ => none
          | .sl id off s m _ => match Nat.beq s j.size with
            | true => some [idxOk n m = true, DV.ptr id (off + n.toNat * s) = d]
            | false => none
          | _ => none
        | none => none
      | .array m e => match T e with
        | some j => match x with
          | .ptr id off => some [idxOk n m = true, DV.ptr id (off + n.toNat * j.size) = d]
          | .fptr cs => some [idxOk n m = true, DV.fptr (cs.drop (n.toNat * j.size)) = d]
          | _ => none
        | none => none
      | _ => none
    | _, _, _ => none
  | .index t x ix => match T t, ev sl x, ev sl ix with
    | some i, some (.agg cs), some (.int _ n) => match i.td with
      | .array m e => match T e with
        | some j => match isAggT j with
          | false => some [idxOk n m = true, nth cs (n.toNat * j.size) = some d]
          | true => some [idxOk n m = true, partD j cs (n.toNat * j.size) = some d]
        | none => none
      | _ => none
    | some i, some (.str s), some (.int _ n) => match i.td, d with
      | .str, .int .u8 z => some [∃ b : UInt8, decide (0 ≤ n) = true ∧ nth s.data.toList n.toNat = some b ∧ (b.toNat : Int) = z]
      | _, _ => none
    | _, _, _ => none
  | .load t x => match T t, ev sl x with
    | some i, some (.ptr id off) => match hp.get id with
      | some o => match isAggT i with
        | false => some [nth o.cs off = some d]
        | true => some [partD i o.cs off = some d]
      | none => none
    | some i, some (.fptr cs) => some [partD i cs 0 = some d]
    | _, _ => none
  | .binOp op t x y _ => match ev sl x, ev sl y with
    | some a, some b => some [binD T op t a b = some d]
    | _, _ => none
  | .slice t x lo hi mx => match T t, ev sl x, evO sl lo, evO sl hi, evO sl mx with
    | some i, some a, some lo, some hi, some mx => some [sliceD T hp i a lo hi mx = some d]
    | _, _, _, _, _ => none
  | _ => none
theorem resid_ok {T : Tab} {hp : Hp} {sl : Slots} {d : DV} {o : Op} {ps : List Prop} (h : resid T hp sl d o = some ps) (hc : AskedP ps) : aop T hp sl o = .done (d, hp, none) := by
  unfold resid at h
  split at h
  · rename_i t x ix
    simp only [aop, opIndexAddr]
    split at h
    · rename_i i x n k h1 h2 h3
      rw [h1, h2, h3]
      try simp only
      split at h
      · rename_i e htd
        rw [htd]
        try simp only
        split at h
        · rename_i j hj
          rw [hj]
          try simp only
          split at h
          · split at h
            · rename_i hb
              cases h
              simp only [hb, hc _ (List.mem_cons_self ..), hc _ (List.mem_cons_of_mem _ (List.mem_cons_self ..))]
            · cases h
          · split at h
            · rename_i hb
              cases h
              simp only [hb, hc _ (List.mem_cons_self ..), Bool.and_self]
              rw [hc _ (List.mem_cons_of_mem _ (List.mem_cons_self ..))]
            · cases h
          · cases h
        · cases h
      · rename_i m e htd
        rw [htd]
        try simp only
        split at h
        · rename_i j hj
          rw [hj]
          try simp only
          split at h
          · cases h
            simp only [hc _ (List.mem_cons_self ..)]
            rw [hc _ (List.mem_cons_of_mem _ (List.mem_cons_self ..))]
          · cases h
            simp only [hc _ (List.mem_cons_self ..)]
            rw [hc _ (List.mem_cons_of_mem _ (List.mem_cons_self ..))]
          · cases h
        · cases h
      · cases h
    · cases h
  · rename_i t x ix
    simp only [aop, opIndex]
    split at h
    · rename_i i cs n k h1 h2 h3
      rw [h1, h2, h3]
      try simp only
      split at h
      · rename_i m e htd
        rw [htd]
        try simp only
        split at h
        · rename_i j hj
          rw [hj]
          try simp only
          split at h
          · rename_i ha
            cases h
            simp only [hc _ (List.mem_cons_self ..), partD, ha, hc _ (List.mem_cons_of_mem _ (List.mem_cons_self ..)), keep, outR]
          · cases h
            simp only [hc _ (List.mem_cons_self ..), hc _ (List.mem_cons_of_mem _ (List.mem_cons_self ..)), keep, outR]
        · cases h
      · cases h
    · rename_i i s n k h1 h2 h3
      rw [h1, h2, h3]
      try simp only
      split at h
      · rename_i htd
        cases h
        obtain ⟨b, q1, q2, q3⟩ := hc _ (List.mem_singleton.2 rfl)
        simp only [htd, q1, q2, q3]
      · cases h
    · cases h
  · rename_i t x
    simp only [aop, opLoad]
    split at h
    · rename_i i id off h1 h2
      rw [h1, h2]
      try simp only
      split at h
      · rename_i o ho
        rw [ho]
        try simp only
        split at h
        · rename_i ha
          cases h
          simp only [partD, ha, hc _ (List.mem_singleton.2 rfl), keep, outR]
        · cases h
          simp only [hc _ (List.mem_singleton.2 rfl), keep, outR]
      · cases h
    · rename_i i cs h1 h2
      rw [h1, h2]
      cases h
      simp only [hc _ (List.mem_singleton.2 rfl), keep, outR]
    · cases h
  · simp only [aop, opBinOp]
    split at h
    · rename_i h1 h2
      rw [h1, h2]
      cases h
      simp only [hc _ (List.mem_singleton.2 rfl), keep, outR]
    · cases h
  · simp only [aop, opSlice]
    split at h
    · rename_i h1 h2 h3 h4 h5
      rw [h1, h2, h3, h4, h5]
      cases h
      simp only [hc _ (List.mem_singleton.2 rfl), keep, outR]
    · cases h
  · cases h
/-- and that it answers d and leaves the heap hp', m being written -/
def residH (T : Tab) (hp : Hp) (sl : Slots) (d : DV) (hp' : Hp) (m : Mut) (o : Op) : Option (List Prop) := match o with
  | .call c => match evs sl c.args.toList, c.callee with
    | some args, .builtin b => some [builtinD T hp b args c.argTypes.toList = some (d, hp', m)]
    | _, _ => none
  | .convert s t x => match ev sl x with
    | some a => some [convD T hp s t a = some (d, hp', m)]
    | none => none
  | .makeSlice t l c => match T t, ev sl l, ev sl c with
    | some i, some (.int _ l), some (.int _ c) => match i.td with
      | .slice e => match T e with
        | some j => match j.zero with
          | z :: zs => some [(decide (0 ≤ l) && decide (l ≤ c) && fitB c.toNat j.bytes) = true, mkRow hp e j.size (z :: zs) l.toNat c.toNat = (d, hp', m)]
          | [] => none
        | none => none
      | _ => none
    | _, _, _ => none
  | .store t x y => match T t, ev sl x, ev sl y with
    | some i, some (.ptr id off), some a => match cellsD a with
      | some cs => match Nat.beq cs.length i.size, d with
        | true, .tuple [] => some [storeH hp id off cs = some (hp', m)]
        | _, _ => none
      | none => none
    | _, _, _ => none
  | o => some [unO (aop T hp sl o) = some (d, hp', m)]
theorem unO_ok {x : Out} {r : DV × Hp × Mut} (h : unO x = some r) : x = .done r := by
  cases x with
  | done y => exact congrArg Out.done (Option.some.inj h)
  | _ => cases h
theorem residH_ok {T : Tab} {hp : Hp} {sl : Slots} {d : DV} {hp' : Hp} {m : Mut} {o : Op} {ps : List Prop} (h : residH T hp sl d hp' m o = some ps) (hc : AskedP ps) : aop T hp sl o = .done (d, hp', m) := by
  unfold residH at h
  split at h
  · split at h
    · rename_i h1 h2
      cases h
      simp only [aop, callD, h1, h2, hc _ (List.mem_singleton.2 rfl), outR]
    · cases h
  · split at h
    · rename_i h1
      cases h
      simp only [aop, opConvert, h1, hc _ (List.mem_singleton.2 rfl), outR]
    · cases h
  · simp only [aop, opMakeSlice]
    split at h
    · rename_i h1 h2 h3
      rw [h1, h2, h3]
      try simp only
      split at h
      · rename_i htd
        rw [htd]
        try simp only
        split at h
        · rename_i hj
          rw [hj]
          try simp only
          split at h
          · rename_i hz
            cases h
            rw [hz]
            simp only [hc _ (List.mem_cons_self ..)]
            rw [hc _ (List.mem_cons_of_mem _ (List.mem_cons_self ..))]
          · cases h
        · cases h
      · cases h
    · cases h
  · simp only [aop, opStore]
    split at h
    · rename_i h1 h2 h3
      rw [h1, h2, h3]
      try simp only
      split at h
      · rename_i hc1
        rw [hc1]
        try simp only
        split at h
        · rename_i hb
          cases h
          simp only [hb, hc _ (List.mem_singleton.2 rfl)]
        · cases h
      · cases h
    · cases h
  · cases h
    exact unO_ok (hc _ (List.mem_singleton.2 rfl))
def yyKnown (call : ConF) (hp : Hp) (p : Yath) (r : DV × Hp × Mut) : Out → Y0O
  | .call f args => some (r.1, r.2.1, r.2.2, p, [call f args hp = some r])
  | _ => none
def hit (dst : Option Tmp) (k : Nat) : Bool := match dst with
  | some t => Nat.beq t k
  | none => Nat.beq k 65535
def yyPop (dst : Option Tmp) (p : Yath) : Option YE × Yath := match p with
  | [] => (none, [])
  | (k, e) :: p' => match hit dst k with
    | true => (some e, p')
    | false => (none, p)
structure CallY where
  f : FuncId → List DV → Hp → Yath → Option ((DV × Hp × Mut) × List Prop)
  y : Nat → List DV → Hp → Yath → Option ((DV × Hp × Mut) × List Prop)
structure Y0Ok (kn : ConF) (qc : CallY) (call : CallF) : Prop where
  f : ∀ ⦃f args hp p r cs⦄, qc.f f args hp p = some (r, cs) → AskedP cs → call.f f args hp = some r
  kn : ∀ ⦃f args hp r⦄, kn f args hp = some r → call.f f args hp = some r
  y : ∀ ⦃k args hp p r cs⦄, qc.y k args hp p = some (r, cs) → AskedP cs → call.y k args hp = some r
def yyCall (p : Yath) : Option ((DV × Hp × Mut) × List Prop) → Y0O
  | some ((d, hp, m), cs) => some (d, hp, m, p, cs)
  | none => none
def yyCalls (qc : CallY) (hp : Hp) (p p' : Yath) : Out → Y0O
  | .call f args => yyCall p (qc.f f args hp p')
  | .yld k args => yyCall p (qc.y k args hp p')
  | _ => none
/-- a call of no builtin -/
def calls : Op → Bool
  | .call c => match c.callee with
    | .builtin _ => false
    | _ => true
  | _ => false
def yyOp2 (T : Tab) (kn : ConF) (call : CallF) (qc : CallY) (o : Oper) (sl : Slots) (hp : Hp) : Option YE × Yath → Y0O
  | (none, p) => yyAuto p (opE T call o sl hp)
  | (some (.b v), p) => yyBool v p (opE T call o sl hp)
  | (some (.w d), p) => yySame d p (opE T call o sl hp)
  | (some (.n d), p) => yyDone p (d, hp, none) (resid T hp sl d o.op)
  | (some (.h d hp' m), p) => match calls o.op with
    | true => yyKnown kn hp p (d, hp', m) (aop T hp sl o.op)
    | false => yyDone p (d, hp', m) (residH T hp sl d hp' m o.op)
  | (some (.c p'), p) => yyCalls qc hp p p' (aop T hp sl o.op)
  | (some (.q d), p) => yyKnown kn hp p (d, hp, none) (aop T hp sl o.op)
  | (some (.r d hp'), p) => yyKnown kn hp p (d, hp', none) (aop T hp sl o.op)
  | (some (.l ..), _) => none
  | (some (.s ..), _) => none
  | (some (.t ..), _) => none
def yyOp (T : Tab) (kn : ConF) (call : CallF) (qc : CallY) (o : Oper) (sl : Slots) (hp : Hp) (p : Yath) : Y0O := yyOp2 T kn call qc o sl hp (yyPop o.dst p)
theorem yyOp_ok {T : Tab} {kn : ConF} {call : CallF} {qc : CallY} (hqc : Y0Ok kn qc call) {o : Oper} {sl : Slots} {hp : Hp} {p : Yath} {d : DV} {hp' : Hp} {m : Mut} {p' : Yath} {cs : List Prop} (h : yyOp T kn call qc o sl hp p = some (d, hp', m, p', cs)) (hc : AskedP cs) : opE T call o sl hp = some (d, hp', m) := by
  have done : ∀ {p1 : Yath} {r : DV × Hp × Mut} {q : Option (List Prop)}, yyDone p1 r q = some (d, hp', m, p', cs) → (∀ ps, q = some ps → AskedP ps → aop T hp sl o.op = .done r) → opE T call o sl hp = some (d, hp', m) := by
    intro p1 r q h hq
    unfold yyDone at h
    split at h
    · cases h
      unfold opE
      rw [hq _ rfl hc]
    · cases h
  have known : ∀ {p1 : Yath} {r : DV × Hp × Mut}, yyKnown kn hp p1 r (aop T hp sl o.op) = some (d, hp', m, p', cs) → opE T call o sl hp = some (d, hp', m) := by
    intro p1 r h
    unfold yyKnown at h
    split at h
    · rename_i heq
      cases h
      unfold opE
      rw [heq]
      exact hqc.kn (hc _ (by simp))
    · cases h
  unfold yyOp yyOp2 at h
  split at h
  · unfold yyAuto at h
    split at h
    · rename_i heq
      cases h
      exact heq
    · cases h
  · unfold yyBool at h
    split at h
    · rename_i heq
      cases h
      rw [heq]
      exact congrArg (fun b => some (DV.bool b, hp', m)) (hc _ (List.mem_singleton.2 rfl))
    · cases h
  · unfold yySame at h
    split at h
    · rename_i heq
      cases h
      rw [heq, hc _ (List.mem_singleton.2 rfl)]
    · cases h
  · exact done h fun ps h1 h2 => resid_ok h1 h2
  · split at h
    · exact known h
    · exact done h fun ps h1 h2 => residH_ok h1 h2
  · unfold yyCalls at h
    split at h
    · rename_i f args heq
      unfold yyCall at h
      split at h
      · rename_i hq
        cases h
        unfold opE
        rw [heq]
        exact hqc.f hq hc
      · cases h
    · rename_i f args heq
      unfold yyCall at h
      split at h
      · rename_i hq
        cases h
        unfold opE
        rw [heq]
        exact hqc.y hq hc
      · cases h
    · cases h
  · exact known h
  · exact known h
  · cases h
  · cases h
  · cases h
def yyregE1 (r : Y0O) (k : DV → Hp → Yath → Y0G) : Y0G := match r with
  | some (d, hp1, m1, p1, c1) => match k d hp1 p1 with
    | some (sl2, hp2, m2, p2, c2) => some (sl2, hp2, mmin m1 m2, p2, c1 ++ c2)
    | none => none
  | none => none
def yyregE (T : Tab) (kn : ConF) (call : CallF) (qc : CallY) (ds : List (Option Tmp)) (l : List Oper) : Slots → Hp → Yath → Y0G :=
  List.rec (motive := fun _ => Slots → Hp → Yath → Y0G) (fun sl hp p => some (sl, hp, none, p, [])) (fun o _ ih sl hp p =>
    gateX (gate ds sl o.guard) (fun _ => yyregE1 (yyOp T kn call qc o sl hp p) (fun d => ih (putO sl o.dst d))) (fun _ => ih (putO sl o.dst (.tuple [])) hp p)) l
theorem yyregE_cons (T : Tab) (kn : ConF) (call : CallF) (qc : CallY) (ds : List (Option Tmp)) (o : Oper) (l : List Oper) (sl : Slots) (hp : Hp) (p : Yath) : yyregE T kn call qc ds (o :: l) sl hp p =
    gateX (gate ds sl o.guard) (fun _ => yyregE1 (yyOp T kn call qc o sl hp p) (fun d => yyregE T kn call qc ds l (putO sl o.dst d))) (fun _ => yyregE T kn call qc ds l (putO sl o.dst (.tuple [])) hp p) := rfl
def yyregP1 (r : Y0O) (k : DV → Hp → Yath → Y0G) : Y0G := match r with
  | some (d, hp1, none, p1, c1) => match k d hp1 p1 with
    | some (sl2, hp2, m2, p2, c2) => some (sl2, hp2, m2, p2, c1 ++ c2)
    | none => none
  | _ => none
def yyregP (T : Tab) (kn : ConF) (call : CallF) (qc : CallY) (ds : List (Option Tmp)) (l : List Oper) : Slots → Hp → Yath → Y0G :=
  List.rec (motive := fun _ => Slots → Hp → Yath → Y0G) (fun sl hp p => some (sl, hp, none, p, [])) (fun o _ ih sl hp p =>
    gateX (gate ds sl o.guard) (fun _ => yyregP1 (yyOp T kn call qc o sl hp p) (fun d => ih (putO sl o.dst d))) (fun _ => ih (putO sl o.dst (.tuple [])) hp p)) l
theorem yyregP_cons (T : Tab) (kn : ConF) (call : CallF) (qc : CallY) (ds : List (Option Tmp)) (o : Oper) (l : List Oper) (sl : Slots) (hp : Hp) (p : Yath) : yyregP T kn call qc ds (o :: l) sl hp p =
    gateX (gate ds sl o.guard) (fun _ => yyregP1 (yyOp T kn call qc o sl hp p) (fun d => yyregP T kn call qc ds l (putO sl o.dst d))) (fun _ => yyregP T kn call qc ds l (putO sl o.dst (.tuple [])) hp p) := rfl
def yyN : Y0G → Y0R
  | some (sl, hp, m, p, c) => some (.normal, sl, hp, m, p, c)
  | none => none
def yyApp (c1 : List Prop) : Y0R → Y0R
  | some (e, sl, hp, m, p, c) => some (e, sl, hp, m, p, c1 ++ c)
  | none => none
def yyregF1 (r : Y0O) (k : DV → Hp → Mut → Yath → Y0G) : Y0G := match r with
  | some (d, hp1, m1, p1, c1) => match k d hp1 m1 p1 with
    | some (sl2, hp2, m2, p2, c2) => some (sl2, hp2, m2, p2, c1 ++ c2)
    | none => none
  | none => none
def yyregF (T : Tab) (kn : ConF) (call : CallF) (qc : CallY) (sf : Nat) (ds : List (Option Tmp)) (l : List Oper) : Slots → Hp → List Nat → List (Nat × Bool) → Mut → Yath → Y0G :=
  List.rec (motive := fun _ => Slots → Hp → List Nat → List (Nat × Bool) → Mut → Yath → Y0G) (fun sl hp lds ms lo p => match lmOk ms lds with
    | true => some (sl, hp, lo, p, [])
    | false => none) (fun o _ ih sl hp lds ms lo p =>
    gateX (gate ds sl o.guard) (fun _ => yyregF1 (yyOp T kn call qc o sl hp p) (fun d hp1 m1 => ih (putO sl o.dst d) hp1 (ldAdd lds (ldOfS sf sl o)) (muAdd ms (stEx sl hp o.op) m1) (mmin lo m1))) (fun _ => ih (putO sl o.dst (.tuple [])) hp lds ms lo p)) l
theorem yyregF_cons (T : Tab) (kn : ConF) (call : CallF) (qc : CallY) (sf : Nat) (ds : List (Option Tmp)) (o : Oper) (l : List Oper) (sl : Slots) (hp : Hp) (lds : List Nat) (ms : List (Nat × Bool)) (lo : Mut) (p : Yath) : yyregF T kn call qc sf ds (o :: l) sl hp lds ms lo p =
    gateX (gate ds sl o.guard) (fun _ => yyregF1 (yyOp T kn call qc o sl hp p) (fun d hp1 m1 => yyregF T kn call qc sf ds l (putO sl o.dst d) hp1 (ldAdd lds (ldOfS sf sl o)) (muAdd ms (stEx sl hp o.op) m1) (mmin lo m1))) (fun _ => yyregF T kn call qc sf ds l (putO sl o.dst (.tuple [])) hp lds ms lo p) := rfl
def yyregA (T : Tab) (kn : ConF) (call : CallF) (qc : CallY) (ds : List (Option Tmp)) (l : List Oper) (sl : Slots) (hp : Hp) (p : Yath) (k : Nat) : Y0R := match yyregP T kn call qc ds (l.take k) sl hp p with
  | some (sl1, hp1, _, p1, c1) => yyApp c1 (yyN (yyregE T kn call qc ds (l.drop k) sl1 hp1 p1))
  | none => none
def yytrk1 (r : Y0O) (k : DV → Hp → Yath → Option (List Hp × List (Nat × Nat) × List Prop)) : Option (List Hp × List (Nat × Nat) × List Prop) := match r with
  | some (d, hp1, _, p1, c1) => match k d hp1 p1 with
    | some (hs, ss, c2) => some (hs, ss, c1 ++ c2)
    | none => none
  | none => none
def yytrk2 (hp : Hp) (x : Option (Nat × Nat)) : Option (List Hp × List (Nat × Nat) × List Prop) → Option (List Hp × List (Nat × Nat) × List Prop)
  | some (hs, ss, c) => some (hp :: hs, addS x ss, c)
  | none => none
/-- the heaps along the text's order, along a path -/
def yytrkF (T : Tab) (kn : ConF) (call : CallF) (qc : CallY) (ds : List (Option Tmp)) : List Oper → Slots → Hp → Yath → Option (List Hp × List (Nat × Nat) × List Prop)
  | [], _, hp, _ => some ([hp], [], [])
  | o :: l, sl, hp, p => match gate ds sl o.guard with
    | some true => yytrk2 hp (aslOf T sl o.op) (yytrk1 (yyOp T kn call qc o sl hp p) fun d hp1 p1 => yytrkF T kn call qc ds l (putO sl o.dst d) hp1 p1)
    | some false => yytrk2 hp none (yytrkF T kn call qc ds l (putO sl o.dst (.tuple [])) hp p)
    | none => none
theorem yytrkF_ok {T : Tab} {kn : ConF} {call : CallF} {qc : CallY} (hqc : Y0Ok kn qc call) {ds : List (Option Tmp)} : ∀ {l : List Oper} {sl : Slots} {hp : Hp} {p : Yath} {hs : List Hp} {ss : List (Nat × Nat)} {cs : List Prop}, yytrkF T kn call qc ds l sl hp p = some (hs, ss, cs) → AskedP cs → trkF T call ds l sl hp = some (hs, ss)
  | [], sl, hp, p, hs, ss, cs, h, _ => by
    simp only [yytrkF] at h
    cases h
    rfl
  | o :: l, sl, hp, p, hs, ss, cs, h, hc => by
    simp only [yytrkF] at h
    simp only [trkF]
    cases hg : gate ds sl o.guard with
    | none =>
      rw [hg] at h
      cases h
    | some v =>
      rw [hg] at h
      cases v with
      | true =>
        simp only at h
        unfold yytrk2 at h
        split at h
        · rename_i h1
          cases h
          unfold yytrk1 at h1
          split at h1
          · rename_i hop
            split at h1
            · rename_i h2
              cases h1
              rw [yyOp_ok hqc hop hc.left]
              simp only [trk1, yytrkF_ok hqc h2 hc.right, trk2]
            · cases h1
          · cases h1
        · cases h
      | false =>
        simp only at h
        unfold yytrk2 at h
        split at h
        · rename_i h1
          cases h
          rw [yytrkF_ok hqc h1 hc]
          rfl
        · cases h
def yyregM (T : Tab) (kn : ConF) (call : CallF) (qc : CallY) (ds : List (Option Tmp)) (N : Nat) (l : List Oper) : Slots → Hp → List DV → List Nat → List (Nat × Bool) → Mut → Yath → Y0G :=
  List.rec (motive := fun _ => Slots → Hp → List DV → List Nat → List (Nat × Bool) → Mut → Yath → Y0G) (fun sl hp _ lds ms lo p => match lmOk ms lds, topOk N ms with
    | true, true => some (sl, hp, lo, p, [])
    | _, _ => none) (fun o _ ih sl hp dl lds ms lo p => match isMk o, dl with
    | true, d :: dl => ih (putO sl o.dst d) hp dl lds ms lo p
    | true, [] => none
    | false, dl => gateX (gate ds sl o.guard) (fun _ => yyregF1 (yyOp T kn call qc o sl hp p) (fun d hp1 m1 => ih (putO sl o.dst d) hp1 dl (ldAdd lds (ldOf sl o.op)) (muAdd ms (stEx sl hp o.op) m1) (mmin lo m1))) (fun _ => ih (putO sl o.dst (.tuple [])) hp dl lds ms lo p)) l
theorem yyregM_cons (T : Tab) (kn : ConF) (call : CallF) (qc : CallY) (ds : List (Option Tmp)) (N : Nat) (o : Oper) (l : List Oper) (sl : Slots) (hp : Hp) (dl : List DV) (lds : List Nat) (ms : List (Nat × Bool)) (lo : Mut) (p : Yath) : yyregM T kn call qc ds N (o :: l) sl hp dl lds ms lo p = match isMk o, dl with
    | true, d :: dl => yyregM T kn call qc ds N l (putO sl o.dst d) hp dl lds ms lo p
    | true, [] => none
    | false, dl => gateX (gate ds sl o.guard) (fun _ => yyregF1 (yyOp T kn call qc o sl hp p) (fun d hp1 m1 => yyregM T kn call qc ds N l (putO sl o.dst d) hp1 dl (ldAdd lds (ldOf sl o.op)) (muAdd ms (stEx sl hp o.op) m1) (mmin lo m1))) (fun _ => yyregM T kn call qc ds N l (putO sl o.dst (.tuple [])) hp dl lds ms lo p) := rfl
def yyregMM (T : Tab) (kn : ConF) (call : CallF) (qc : CallY) (ds : List (Option Tmp)) (l : List Oper) (sl : Slots) (hp : Hp) (p : Yath) : Y0G := match regM1 T l hp with
  | some (dl, hp1) => match intsM (hp1.n - hp.n) hp1.l with
    | true => yyregM T kn call qc ds hp1.n l sl hp1 dl [] [] none p
    | false => none
  | none => none
def yyregD (T : Tab) (kn : ConF) (call : CallF) (qc : CallY) (ds : List (Option Tmp)) (l : List Oper) (sl : Slots) (hp : Hp) (p : Yath) : Option Nat → Y0R
  | some k => match Nat.ble 1000 k, Nat.ble 2000 k with
    | true, false => match hasSl T l with
      | false => yyN (yyregF T kn call qc (Nat.sub k 1000) ds l sl hp [] [] none p)
      | true => match yytrkF T kn call qc ds l sl hp p with
        | some (hs, ss, c1) => match slsOk hs ss with
          | true => yyApp c1 (yyN (yyregF T kn call qc (Nat.sub k 1000) ds l sl hp [] [] none p))
          | false => none
        | none => none
    | true, true => yyN (yyregMM T kn call qc ds l sl hp p)
    | false, _ => yyregA T kn call qc ds l sl hp p k
  | none => none
def yySeq (r : Y0R) (q : Slots → Hp → Yath → Y0R) : Y0R := match r with
  | some (.normal, sl1, hp1, m1, p1, c1) => match q sl1 hp1 p1 with
    | some (e, sl2, hp2, m2, p2, c2) => some (e, sl2, hp2, mmin m1 m2, p2, c1 ++ c2)
    | none => none
  | r => r
def yyCond (x : Option DV) (a b : Unit → Y0R) : Y0R := match x with
  | some (.bool true) => a ()
  | some (.bool false) => b ()
  | _ => none
def yyBlock (id : Nat) (r : Y0R) : Y0R := match r with
  | some (.exit i, sl1, hp1, m1, p, c) => match Nat.beq i id with
    | true => some (.normal, sl1, hp1, m1, p, c)
    | false => some (.exit i, sl1, hp1, m1, p, c)
  | r => r
def yyLeaf (p : Yath) : XR → Y0R
  | some (e, sl, hp, m) => some (e, sl, hp, m, p, [])
  | none => none
abbrev Y0F := List (Nat × Nat) → Code → Slots → Hp → Yath → Y0R
def yyEnd (hp : Hp) (T : Tab) (res : List ResultVar) : Y0R → Option ((DV × Hp × Mut) × List Prop)
  | some (.exit _, _, _, _, _, _) => none
  | some (_, sl, hp', mu, _, cs) => match resD T hp' sl res with
    | some ds => some (finish hp hp' mu (one ds), cs)
    | none => none
  | none => none
/-- a call along one path -/
def yycallE (T : Tab) (F : FTab) (C : ConF) (q : Y0F) (f : FuncId) (args : List DV) (hp : Hp) (p : Yath) : Option ((DV × Hp × Mut) × List Prop) := match C f args hp with
  | some _ => none
  | none => match F f with
    | some fn => match Nat.ble args.length fn.nt with
      | true => yyEnd hp T fn.res (q fn.ks fn.body (initS fn.nt args) hp p)
      | false => none
    | none => none
/-- a yield along one path: that of the assignments, and on with that of the round -/
def yyyld3 (k : Nat) (m1 : Mut) (c1 : List Prop) : Y0R → Option ((DV × Hp × Mut) × List Prop)
  | some (e, _, hp2, m2, _, c2) => match lfind k hp2.ls with
    | some _ => some ((.bool (goesOn e), hp2.lay k (stE e) (jumpOf e), mmin (some k) (mmin m1 m2)), c1 ++ c2)
    | none => none
  | none => none
def yyyld2 (q : Y0F) (R : LS) (k : Nat) : Y0R → Option ((DV × Hp × Mut) × List Prop)
  | some (.normal, sl1, hp1, m1, p1, c1) => match lfind k hp1.ls with
    | some R1 => match R1.st with
      | 0 => yyyld3 k m1 c1 (q R.ks R.body sl1 (hp1.lay k 1 R1.pe) p1)
      | _ => none
    | none => none
  | _ => none
def yyyldE (T : Tab) (q : Y0F) (k : Nat) (args : List DV) (hp : Hp) (p : Yath) : Option ((DV × Hp × Mut) × List Prop) := match lfind k hp.ls with
  | some R => match ychk T R && Nat.beq args.length R.ps.length with
    | true => yyyld2 q R k (q R.ks R.assign (putP R.sl R.ps args) hp p)
    | false => none
  | none => none
def yycallX (T : Tab) (F : FTab) (C : ConF) (q : Y0F) : CallY := ⟨yycallE T F C q, yyyldE T q⟩
def yyrng2 (sl : Slots) (hp : Hp) (p : Yath) : Option ((DV × Hp × Mut) × List Prop) → Y0R
  | some (r, cs) => match rngE2 sl hp (some r) with
    | some (e, sl', hp', m) => some (e, sl', hp', m, p, cs)
    | none => none
  | none => none
/-- a range over a function: the path of its call stands under 65534 -/
def yyrng (T : Tab) (F : FTab) (C : ConF) (q : Y0F) (ks : List (Nat × Nat)) (g : Operand) (ps : List Nat) (a b : Code) (sl : Slots) (hp : Hp) (p' p : Yath) : Y0R := match ev sl g, assoc ks 65535 with
  | some (.fn f first captured), some nc => match first with
    | [] => yyrng2 sl hp p (yycallE T F C q f (.yld hp.n :: captured) (hp.beg nc ks sl ps a b) p')
    | _ => none
  | _, _ => none
def yyRng (p : Yath) (f : Yath → Yath → Y0R) (other : Unit → Y0R) : Y0R := match p with
  | (k, .c p') :: p2 => match Nat.beq k 65534 with
    | true => f p' p2
    | false => other ()
  | _ => other ()
theorem yycallE_ok {T : Tab} {F : FTab} {C : ConF} {q : Y0F} {x : XF} (hq : ∀ ⦃ks c sl hp p e sl' hp' mu p' cs⦄, q ks c sl hp p = some (e, sl', hp', mu, p', cs) → AskedP cs → x ks c sl hp = some (e, sl', hp', mu)) {f : FuncId} {args : List DV} {hp : Hp} {p : Yath} {r : DV × Hp × Mut} {cs : List Prop} (h : yycallE T F C q f args hp p = some (r, cs)) (hc : AskedP cs) : callE T F C x f args hp = some r := by
  unfold yycallE at h
  unfold callE
  split at h
  · cases h
  · rename_i hC
    rw [hC]
    split at h
    · rename_i fn hF
      rw [hF]
      split at h
      · rename_i hl
        simp only [hl]
        unfold yyEnd at h
        split at h
        · cases h
        · rename_i e sl hp' mu p' cs' hne hr
          split at h
          · rename_i ds hds
            cases h
            rw [hq hr hc]
            cases e with
            | exit i => exact (hne i rfl).elim
            | normal => simp only [hds]
            | ret => simp only [hds]
          · cases h
        · cases h
      · cases h
    · cases h
theorem yyyldE_ok {T : Tab} {q : Y0F} {x : XF} (hq : ∀ ⦃ks c sl hp p e sl' hp' mu p' cs⦄, q ks c sl hp p = some (e, sl', hp', mu, p', cs) → AskedP cs → x ks c sl hp = some (e, sl', hp', mu)) {k : Nat} {args : List DV} {hp : Hp} {p : Yath} {r : DV × Hp × Mut} {cs : List Prop} (h : yyyldE T q k args hp p = some (r, cs)) (hc : AskedP cs) : yldE T x k args hp = some r := by
  unfold yyyldE at h
  unfold yldE
  split at h
  · rename_i R hR
    rw [hR]
    try simp only
    split at h
    · rename_i hb
      rw [hb]
      try simp only
      unfold yyyld2 at h
      split at h
      · rename_i h1
        split at h
        · rename_i R1 hR1
          split at h
          · rename_i hst
            unfold yyyld3 at h
            split at h
            · rename_i h2
              split at h
              · rename_i hR2
                cases h
                rw [hq h1 hc.left]
                simp only [yldE2, hR1, hst, hq h2 hc.right, yldE3, hR2]
              · cases h
            · cases h
          · cases h
        · cases h
      · cases h
    · cases h
  · cases h
theorem yycallX_ok {T : Tab} {F : FTab} {C : ConF} {q : Y0F} {x : XF} (hq : ∀ ⦃ks c sl hp p e sl' hp' mu p' cs⦄, q ks c sl hp p = some (e, sl', hp', mu, p', cs) → AskedP cs → x ks c sl hp = some (e, sl', hp', mu)) : Y0Ok C (yycallX T F C q) (callX T F C x) :=
  ⟨fun _ _ _ _ _ _ h hc => yycallE_ok hq h hc, fun f args hp r h => by show callE T F C x f args hp = _; unfold callE; rw [h], fun _ _ _ _ _ _ h hc => yyyldE_ok hq h hc⟩
theorem yyrng_ok {T : Tab} {F : FTab} {C : ConF} {q : Y0F} {x : XF} (hq : ∀ ⦃ks c sl hp p e sl' hp' mu p' cs⦄, q ks c sl hp p = some (e, sl', hp', mu, p', cs) → AskedP cs → x ks c sl hp = some (e, sl', hp', mu)) {ks : List (Nat × Nat)} {g : Operand} {ps : List Nat} {a b : Code} {sl : Slots} {hp : Hp} {p0 p : Yath} {e : Ex} {sl' : Slots} {hp' : Hp} {mu : Mut} {p' : Yath} {cs : List Prop}
    (h : yyrng T F C q ks g ps a b sl hp p0 p = some (e, sl', hp', mu, p', cs)) (hc : AskedP cs) : rngE T F C x ks g ps a b sl hp = some (e, sl', hp', mu) := by
  unfold yyrng at h
  unfold rngE
  split at h
  · rename_i h1 h2
    rw [h1, h2]
    try simp only
    split at h
    · unfold yyrng2 at h
      split at h
      · rename_i h3
        split at h
        · rename_i h4
          cases h
          simp only [yycallE_ok hq h3 hc, h4]
        · cases h
      · cases h
    · cases h
  · cases h
def yyexec1 (T : Tab) (F : FTab) (C : ConF) (n : Nat) (q : Y0F) : Y0F := fun ks c sl hp p => match c with
  | .seq a b => yySeq (q ks a sl hp p) (q ks b)
  | .cond x a b => yyCond (ev sl x) (fun _ => q ks a sl hp p) (fun _ => q ks b sl hp p)
  | .region _ ops false => yyN (yyregE T C (callX T F C (exec T F C n)) (yycallX T F C q) (ops.toList.map (·.dst)) ops.toList sl hp p)
  | .region id ops true => yyregD T C (callX T F C (exec T F C n)) (yycallX T F C q) (ops.toList.map (·.dst)) ops.toList sl hp p (assoc ks id)
  | .block id a => yyBlock id (q ks a sl hp p)
  | .loop a => yySeq (q ks a sl hp p) (q ks (.loop a))
  | .scope a => q ks a sl hp p
  | .rangeFunc g ps a b => yyRng p (fun p' p2 => yyrng T F C q ks g ps.toList a b sl hp p' p2) (fun _ => yyLeaf p (exec T F C (n + 1) ks (.rangeFunc g ps a b) sl hp))
  | c => yyLeaf p (exec T F C (n + 1) ks c sl hp)
def yyexec (T : Tab) (F : FTab) (C : ConF) (n : Nat) : Y0F := Nat.rec (motive := fun _ => Y0F) (fun _ _ _ _ _ => none) (fun n ih => yyexec1 T F C n ih) n
theorem yyexec_succ (T : Tab) (F : FTab) (C : ConF) (n : Nat) : yyexec T F C (n + 1) = yyexec1 T F C n (yyexec T F C n) := rfl
theorem yyregE_ok {T : Tab} {kn : ConF} {call : CallF} {qc : CallY} (hqc : Y0Ok kn qc call) {ds : List (Option Tmp)} : ∀ {l : List Oper} {sl : Slots} {hp : Hp} {p : Yath} {sl' : Slots} {hp' : Hp} {mu : Mut} {p' : Yath} {cs : List Prop}, yyregE T kn call qc ds l sl hp p = some (sl', hp', mu, p', cs) → AskedP cs → regE T call ds l sl hp = some (sl', hp', mu)
  | [], sl, hp, p, sl', hp', mu, p', cs, h, _ => by cases h; rfl
  | o :: l, sl, hp, p, sl', hp', mu, p', cs, h, hc => by
    rw [yyregE_cons] at h
    rw [regE_cons]
    unfold gateX at h ⊢
    split at h
    · unfold yyregE1 at h
      split at h
      · rename_i d hp1 m1 p1 c1 hop
        split at h
        · rename_i hrest
          cases h
          rw [yyOp_ok hqc hop hc.left]
          simp only [regE1, yyregE_ok hqc hrest hc.right]
        · cases h
      · cases h
    · exact yyregE_ok hqc h hc
    · cases h
theorem yyregP_ok {T : Tab} {kn : ConF} {call : CallF} {qc : CallY} (hqc : Y0Ok kn qc call) {ds : List (Option Tmp)} : ∀ {l : List Oper} {sl : Slots} {hp : Hp} {p : Yath} {sl' : Slots} {hp' : Hp} {mu : Mut} {p' : Yath} {cs : List Prop}, yyregP T kn call qc ds l sl hp p = some (sl', hp', mu, p', cs) → AskedP cs → regP T call ds l sl hp = some (sl', hp')
  | [], sl, hp, p, sl', hp', mu, p', cs, h, _ => by cases h; rfl
  | o :: l, sl, hp, p, sl', hp', mu, p', cs, h, hc => by
    rw [yyregP_cons] at h
    rw [regP_cons]
    unfold gateX at h ⊢
    split at h
    · unfold yyregP1 at h
      split at h
      · rename_i d hp1 p1 c1 hop
        split at h
        · rename_i hrest
          cases h
          rw [yyOp_ok hqc hop hc.left]
          simp only [regP1, yyregP_ok hqc hrest hc.right]
        · cases h
      · cases h
    · exact yyregP_ok hqc h hc
    · cases h
theorem yyregF_ok {T : Tab} {kn : ConF} {call : CallF} {qc : CallY} (hqc : Y0Ok kn qc call) {sf : Nat} {ds : List (Option Tmp)} : ∀ {l : List Oper} {sl : Slots} {hp : Hp} {lds : List Nat} {ms : List (Nat × Bool)} {lo : Mut} {p : Yath} {sl' : Slots} {hp' : Hp} {mu : Mut} {p' : Yath} {cs : List Prop}, yyregF T kn call qc sf ds l sl hp lds ms lo p = some (sl', hp', mu, p', cs) → AskedP cs → regF T call sf ds l sl hp lds ms lo = some (sl', hp', mu)
  | [], sl, hp, lds, ms, lo, p, sl', hp', mu, p', cs, h, _ => by
    have h : (match lmOk ms lds with | true => some (sl, hp, lo, p, []) | false => none) = some (sl', hp', mu, p', cs) := h
    show (match lmOk ms lds with | true => some (sl, hp, lo) | false => none) = some (sl', hp', mu)
    split at h
    · rename_i ht
      cases h
      rfl
    · cases h
  | o :: l, sl, hp, lds, ms, lo, p, sl', hp', mu, p', cs, h, hc => by
    rw [yyregF_cons] at h
    rw [regF_cons]
    unfold gateX at h ⊢
    split at h
    · unfold yyregF1 at h
      split at h
      · rename_i d hp1 m1 p1 c1 hop
        split at h
        · rename_i hrest
          cases h
          rw [yyOp_ok hqc hop hc.left]
          simp only [regF1, yyregF_ok hqc hrest hc.right]
        · cases h
      · cases h
    · exact yyregF_ok hqc h hc
    · cases h
theorem yyregM_ok {T : Tab} {kn : ConF} {call : CallF} {qc : CallY} (hqc : Y0Ok kn qc call) {ds : List (Option Tmp)} {N : Nat} : ∀ {l : List Oper} {sl : Slots} {hp : Hp} {dl : List DV} {lds : List Nat} {ms : List (Nat × Bool)} {lo : Mut} {p : Yath} {sl' : Slots} {hp' : Hp} {mu : Mut} {p' : Yath} {cs : List Prop}, yyregM T kn call qc ds N l sl hp dl lds ms lo p = some (sl', hp', mu, p', cs) → AskedP cs → regM T call ds N l sl hp dl lds ms lo = some (sl', hp', mu)
  | [], sl, hp, dl, lds, ms, lo, p, sl', hp', mu, p', cs, h, _ => by
    have h : (match lmOk ms lds, topOk N ms with | true, true => some (sl, hp, lo, p, []) | _, _ => none) = some (sl', hp', mu, p', cs) := h
    show (match lmOk ms lds, topOk N ms with | true, true => some (sl, hp, lo) | _, _ => none) = some (sl', hp', mu)
    split at h
    · rename_i ht ht2
      cases h
      rfl
    · cases h
  | o :: l, sl, hp, dl, lds, ms, lo, p, sl', hp', mu, p', cs, h, hc => by
    rw [yyregM_cons] at h
    rw [regM_cons]
    split at h
    · rename_i hm
      rw [hm]
      exact yyregM_ok hqc h hc
    · cases h
    · rename_i hm
      rw [hm]
      simp only
      unfold gateX at h ⊢
      split at h
      · unfold yyregF1 at h
        split at h
        · rename_i d hp1 m1 p1 c1 hop
          split at h
          · rename_i hrest
            cases h
            rw [yyOp_ok hqc hop hc.left]
            simp only [regF1, yyregM_ok hqc hrest hc.right]
          · cases h
        · cases h
      · exact yyregM_ok hqc h hc
      · cases h
theorem yyregMM_ok {T : Tab} {kn : ConF} {call : CallF} {qc : CallY} (hqc : Y0Ok kn qc call) {ds : List (Option Tmp)} {l : List Oper} {sl : Slots} {hp : Hp} {p : Yath} {sl' : Slots} {hp' : Hp} {mu : Mut} {p' : Yath} {cs : List Prop} (h : yyregMM T kn call qc ds l sl hp p = some (sl', hp', mu, p', cs)) (hc : AskedP cs) : regMM T call ds l sl hp = some (sl', hp', mu) := by
  unfold yyregMM at h
  split at h
  · rename_i h1
    split at h
    · rename_i h2
      unfold regMM
      rw [h1]
      simp only [h2]
      exact yyregM_ok hqc h hc
    · cases h
  · cases h
theorem yySeq_ok {r : Y0R} {q : Slots → Hp → Yath → Y0R} {r' : XR} {q' : Slots → Hp → XR} (hr : ∀ {e sl hp mu p cs}, r = some (e, sl, hp, mu, p, cs) → AskedP cs → r' = some (e, sl, hp, mu)) (hq : ∀ {sl hp p e sl' hp' mu p' cs}, q sl hp p = some (e, sl', hp', mu, p', cs) → AskedP cs → q' sl hp = some (e, sl', hp', mu))
    {e : Ex} {sl : Slots} {hp : Hp} {mu : Mut} {p : Yath} {cs : List Prop} (h : yySeq r q = some (e, sl, hp, mu, p, cs)) (hc : AskedP cs) : seqX r' q' = some (e, sl, hp, mu) := by
  unfold yySeq at h
  split at h
  · split at h
    · rename_i hq1
      cases h
      rw [hr rfl hc.left]
      simp only [seqX, hq hq1 hc.right]
    · cases h
  · rename_i hne
    rw [hr h hc]
    cases e with
    | normal => exact absurd h (fun h => hne _ _ _ _ _ h)
    | exit i => rfl
    | ret => rfl
theorem yyexec_ok (T : Tab) (F : FTab) (C : ConF) : ∀ n ⦃ks c sl hp p e sl' hp' mu p' cs⦄, yyexec T F C n ks c sl hp p = some (e, sl', hp', mu, p', cs) → AskedP cs → exec T F C n ks c sl hp = some (e, sl', hp', mu)
  | 0 => by intro ks c sl hp p e sl' hp' mu p' cs h; cases h
  | n + 1 => by
    have ih := yyexec_ok T F C n
    have hqc := yycallX_ok (T := T) (F := F) (C := C) ih
    intro ks c sl hp p e sl' hp' mu p' cs h hc
    rw [yyexec_succ] at h
    unfold yyexec1 at h
    split at h
    · rw [exec_succ]
      exact yySeq_ok (fun h hc => ih h hc) (fun h hc => ih h hc) h hc
    · rename_i x a b
      rw [exec_succ]
      simp only [exec1]
      unfold yyCond at h
      unfold condX
      split at h
      · rename_i hv
        rw [hv]
        exact ih h hc
      · rename_i hv
        rw [hv]
        exact ih h hc
      · cases h
    · rename_i id ops
      rw [exec_succ]
      simp only [exec1]
      unfold yyN at h
      split at h
      · rename_i h1
        cases h
        rw [yyregE_ok hqc h1 hc]
        rfl
      · cases h
    · rename_i id ops
      rw [exec_succ]
      simp only [exec1]
      unfold yyregD at h
      split at h
      · rename_i k hk
        rw [hk]
        cases hk1 : Nat.ble 1000 k with
        | true =>
          cases hk2 : Nat.ble 2000 k with
          | false =>
            simp only [hk1, hk2] at h
            split at h
            · rename_i hns
              unfold yyN at h
              split at h
              · rename_i h3
                cases h
                simp only [regD, hk1, hk2, slF, hns, yyregF_ok hqc h3 hc]
                rfl
              · cases h
            · rename_i hns
              split at h
              · rename_i ht
                split at h
                · rename_i hok
                  unfold yyApp at h
                  split at h
                  · rename_i h2
                    cases h
                    unfold yyN at h2
                    split at h2
                    · rename_i h3
                      cases h2
                      simp only [regD, hk1, hk2, slF, hns, yytrkF_ok hqc ht hc.left, hok, yyregF_ok hqc h3 hc.right]
                      rfl
                    · cases h2
                  · cases h
                · cases h
              · cases h
          | true =>
            simp only [hk1, hk2] at h
            unfold yyN at h
            split at h
            · rename_i h3
              cases h
              simp only [regD, hk1, hk2, yyregMM_ok hqc h3 hc]
              rfl
            · cases h
        | false =>
          simp only [hk1, yyregA] at h
          split at h
          · rename_i h1
            unfold yyApp at h
            split at h
            · rename_i h2
              cases h
              unfold yyN at h2
              split at h2
              · rename_i h3
                cases h2
                simp only [regD, hk1, regA, yyregP_ok hqc h1 hc.left, yyregE_ok hqc h3 hc.right]
                rfl
              · cases h2
            · cases h
          · cases h
      · cases h
    · rename_i id a
      rw [exec_succ]
      simp only [exec1]
      unfold yyBlock at h
      split at h
      · rename_i h1
        split at h
        · rename_i hb
          cases h
          rw [ih h1 hc]
          simp only [blockX, hb]
        · rename_i hb
          cases h
          rw [ih h1 hc]
          simp only [blockX, hb]
      · rename_i hne
        rw [ih h hc]
        cases e with
        | exit i => exact absurd h (fun h => hne _ _ _ _ _ _ h)
        | normal => rfl
        | ret => rfl
    · rw [exec_succ]
      exact yySeq_ok (fun h hc => ih h hc) (fun h hc => ih h hc) h hc
    · rw [exec_succ]
      exact ih h hc
    · rename_i g ps a b
      have leaf : ∀ {r : Y0R}, r = yyLeaf p (exec T F C (n + 1) ks (.rangeFunc g ps a b) sl hp) → r = some (e, sl', hp', mu, p', cs) → exec T F C (n + 1) ks (.rangeFunc g ps a b) sl hp = some (e, sl', hp', mu) := by
        intro r hr h
        rw [hr] at h
        unfold yyLeaf at h
        split at h
        · rename_i h1
          cases h
          exact h1
        · cases h
      unfold yyRng at h
      split at h
      · split at h
        · rw [exec_succ]
          exact yyrng_ok ih h hc
        · exact leaf rfl h
      · exact leaf rfl h
    · unfold yyLeaf at h
      split at h
      · rename_i h1
        cases h
        exact h1
      · cases h
/-! ### The text of a function, with loops -/
abbrev ZR := Option (Ex × Slots × Hp × Yath × List Prop)
abbrev ZF := Code → Slots → Hp → Yath → ZR
def zSeq (r : ZR) (q : Slots → Hp → Yath → ZR) : ZR := match r with
  | some (.normal, sl1, hp1, p1, c1) => match q sl1 hp1 p1 with
    | some (e, sl2, hp2, p2, c2) => some (e, sl2, hp2, p2, c1 ++ c2)
    | none => none
  | r => r
def zCond (x : Option DV) (a b : Unit → ZR) : ZR := match x with
  | some (.bool true) => a ()
  | some (.bool false) => b ()
  | _ => none
def zBlock (id : Nat) (r : ZR) : ZR := match r with
  | some (.exit i, sl1, hp1, p, c) => match Nat.beq i id with
    | true => some (.normal, sl1, hp1, p, c)
    | false => some (.exit i, sl1, hp1, p, c)
  | r => r
def zLeaf : Y0R → ZR
  | some (e, sl, hp, _, p, c) => some (e, sl, hp, p, c)
  | none => none
def zLoop (P : Program) (T : Tab) (ks : List (Nat × Nat)) (a : Code) (sl : Slots) (hp : Hp) (other : Unit → ZR) (p : Yath) : ZR := match p with
  | (_, .l live e sl' hp') :: p' => some (e, sl', hp', p', [Goes P T ks (.loop a) (seeS live sl) hp e sl' hp'])
  | _ => other ()
def zRng (P : Program) (T : Tab) (ks : List (Nat × Nat)) (g : Operand) (ps : Array Tmp) (a b : Code) (sl : Slots) (hp : Hp) (other : Unit → ZR) (p : Yath) : ZR := match p with
  | (_, .l live e sl' hp') :: p' => some (e, sl', hp', p', [Goes P T ks (.rangeFunc g ps a b) (seeS live sl) hp e sl' hp'])
  | _ => other ()
def zSee (id : Nat) (p : Yath) (c : ZF) (other : Unit → ZR) (d : Code) (sl : Slots) (hp : Hp) : ZR := match p with
  | (k, .s live sl' hp') :: p' => match Nat.beq k id with
    | true => match c d sl' hp' p' with
      | some (e, sl2, hp2, p2, cs) => some (e, sl2, hp2, p2, Seen (seeS live sl) hp sl' hp' :: cs)
      | none => none
    | false => other ()
  | _ => other ()
/-- a call within a region, by what it answers -/
def zTl (P : Program) (T : Tab) (F : FTab) (C : ConF) (m : Nat) (ops : Array Oper) (k : Nat) (live : List Nat) (d : DV) (hp2 : Hp) (sl : Slots) (hp : Hp) (p : Yath) : ZR := match ops.toList.drop k with
  | o :: post => match yyregE T C (callX T F C (exec T F C m)) (yycallX T F C (yyexec T F C m)) (ops.toList.map (·.dst)) (ops.toList.take k) sl hp p with
    | some (sl1, hp1, _, p1, c1) => match gate (ops.toList.map (·.dst)) sl1 o.guard, aop T hp1 sl1 o.op, okLive sl1 live with
      | some true, .call f args, true => match yyregE T C (callX T F C (exec T F C m)) (yycallX T F C (yyexec T F C m)) (ops.toList.map (·.dst)) post (putO (seeS live sl1) o.dst d) hp2 p1 with
        | some (sl3, hp3, _, p3, c3) => some (.normal, sl3, hp3, p3, c1 ++ (AnsH P f args hp1 d hp2 :: c3))
        | none => none
      | _, _, _ => none
    | none => none
  | [] => none
def zCut (id : Nat) (p : Yath) (f : Nat → List Nat → DV → Hp → Yath → ZR) (other : Unit → ZR) : ZR := match p with
  | (k, .t n live d hp2) :: p' => match Nat.beq k (id + 60000) with
    | true => f n live d hp2 p'
    | false => other ()
  | _ => other ()
def zReg (P : Program) (T : Tab) (F : FTab) (C : ConF) (m : Nat) (ks : List (Nat × Nat)) (id : Nat) (ops : Array Oper) (b : Bool) (sl : Slots) (hp : Hp) (p : Yath) : ZR := match b with
  | false => zCut id p (fun k live d hp2 p' => zTl P T F C m ops k live d hp2 sl hp p') (fun _ => zLeaf (yyexec T F C m ks (.region id ops false) sl hp p))
  | true => zLeaf (yyexec T F C m ks (.region id ops true) sl hp p)
def zz1 (P : Program) (T : Tab) (F : FTab) (C : ConF) (m : Nat) (ks : List (Nat × Nat)) (q : ZF) : ZF := fun c sl hp p => match c with
  | .seq a b => zSeq (q a sl hp p) (q b)
  | .cond x a b => zCond (ev sl x) (fun _ => q a sl hp p) (fun _ => q b sl hp p)
  | .block id a => zBlock id (q a sl hp p)
  | .loop a => zLoop P T ks a sl hp (fun _ => zLeaf (yyexec T F C m ks (.loop a) sl hp p)) p
  | .scope a => q a sl hp p
  | .region id ops b => zSee id p q (fun _ => zReg P T F C m ks id ops b sl hp p) (.region id ops b) sl hp
  | .rangeFunc g ps a b => zRng P T ks g ps a b sl hp (fun _ => zLeaf (yyexec T F C m ks (.rangeFunc g ps a b) sl hp p)) p
  | c => zLeaf (yyexec T F C m ks c sl hp p)
def zz (P : Program) (T : Tab) (F : FTab) (C : ConF) (m : Nat) (ks : List (Nat × Nat)) (n : Nat) : ZF := Nat.rec (motive := fun _ => ZF) (fun _ _ _ _ => none) (fun _ ih => zz1 P T F C m ks ih) n
theorem zz_succ (P : Program) (T : Tab) (F : FTab) (C : ConF) (m : Nat) (ks : List (Nat × Nat)) (n : Nat) : zz P T F C m ks (n + 1) = zz1 P T F C m ks (zz P T F C m ks n) := rfl
section
variable {P : Program} {T : Tab} {F : FTab} {C : ConF}
theorem zLeaf_ok (hT : TabOk P T) (hmix : P.follows .mixedOrders = true) (hF : FunOk P T F) (hC : ConOk P C) {m : Nat} {ks : List (Nat × Nat)} {c : Code} {sl : Slots} {hp : Hp} {p : Yath} {e : Ex} {sl' : Slots} {hp' : Hp} {p' : Yath} {cs : List Prop} (h : zLeaf (yyexec T F C m ks c sl hp p) = some (e, sl', hp', p', cs)) (hc : AskedP cs) : Goes P T ks c sl hp e sl' hp' := by
  unfold zLeaf at h
  split at h
  · rename_i heq
    cases h
    exact goes_exec hT hmix hF hC (yyexec_ok T F C m heq hc)
  · cases h
theorem zTl_ok (hT : TabOk P T) (hmix : P.follows .mixedOrders = true) (hF : FunOk P T F) (hC : ConOk P C) {m k id : Nat} {live : List Nat} {d : DV} {hp2 : Hp} {ops : Array Oper} {ks : List (Nat × Nat)} {sl : Slots} {hp : Hp} {p : Yath} {e : Ex} {sl' : Slots} {hp' : Hp} {p' : Yath} {cs : List Prop} (h : zTl P T F C m ops k live d hp2 sl hp p = some (e, sl', hp', p', cs)) (hc : AskedP cs) : Goes P T ks (.region id ops false) sl hp e sl' hp' := by
  have hcall : CallOk P (callX T F C (exec T F C m)) := ⟨callE_ok hT hF hC (exec_ok hT hmix hF hC m).1, yldE_ok (exec_ok hT hmix hF hC m).1⟩
  have hqc := yycallX_ok (T := T) (F := F) (C := C) (yyexec_ok T F C m)
  unfold zTl at h
  split at h
  · rename_i o post hdrop
    split at h
    · rename_i h1
      split at h
      · rename_i hg ho hlive
        split at h
        · rename_i h2
          cases h
          have hops : ops.toList = ops.toList.take k ++ o :: post := by rw [← hdrop, List.take_append_drop]
          exact Goes.tail hT hcall hops (yyregE_ok hqc h1 hc.left) hg ho (hc.right _ (List.mem_cons_self ..)) hlive (yyregE_ok hqc h2 fun x hx => hc.right x (List.mem_cons_of_mem _ hx))
        · cases h
      · cases h
    · cases h
  · cases h
theorem zReg_ok (hT : TabOk P T) (hmix : P.follows .mixedOrders = true) (hF : FunOk P T F) (hC : ConOk P C) {m id : Nat} {ops : Array Oper} {b : Bool} {ks : List (Nat × Nat)} {sl : Slots} {hp : Hp} {p : Yath} {e : Ex} {sl' : Slots} {hp' : Hp} {p' : Yath} {cs : List Prop} (h : zReg P T F C m ks id ops b sl hp p = some (e, sl', hp', p', cs)) (hc : AskedP cs) : Goes P T ks (.region id ops b) sl hp e sl' hp' := by
  unfold zReg at h
  split at h
  · unfold zCut at h
    split at h
    · split at h
      · exact zTl_ok hT hmix hF hC h hc
      · exact zLeaf_ok hT hmix hF hC h hc
    · exact zLeaf_ok hT hmix hF hC h hc
  · exact zLeaf_ok hT hmix hF hC h hc
theorem zz_ok (hT : TabOk P T) (hmix : P.follows .mixedOrders = true) (hF : FunOk P T F) (hC : ConOk P C) {m : Nat} {ks : List (Nat × Nat)} : ∀ n ⦃c sl hp p e sl' hp' p' cs⦄, zz P T F C m ks n c sl hp p = some (e, sl', hp', p', cs) → AskedP cs → Goes P T ks c sl hp e sl' hp'
  | 0 => by intro c sl hp p e sl' hp' p' cs h; cases h
  | n + 1 => by
    have ih := zz_ok hT hmix hF hC (m := m) (ks := ks) n
    intro c sl hp p e sl' hp' p' cs h hc
    rw [zz_succ] at h
    unfold zz1 at h
    split at h
    · unfold zSeq at h
      split at h
      · rename_i h1
        split at h
        · rename_i h2
          cases h
          exact (ih h1 hc.left).seq (ih h2 hc.right)
        · cases h
      · rename_i hne
        exact (ih h hc).seqx fun he => by
          subst he
          exact hne _ _ _ _ h
    · unfold zCond at h
      split at h
      · rename_i hv
        exact .cond hv (ih h hc)
      · rename_i hv
        exact .cond hv (ih h hc)
      · cases h
    · unfold zBlock at h
      split at h
      · rename_i h1
        split at h
        · rename_i hb
          cases h
          have := Nat.eq_of_beq_eq_true hb
          subst this
          exact .blockx (ih h1 hc)
        · rename_i hb
          cases h
          exact .block (ih h1 hc) fun i he hi => by
            cases he
            rw [beqT hi] at hb
            cases hb
      · rename_i hne
        exact .block (ih h hc) fun i he _ => by
          subst he
          exact hne _ _ _ _ _ h
    · unfold zLoop at h
      split at h
      · cases h
        exact .pre (.kn (kn_restr _ _) _) (hc _ (List.mem_singleton.2 rfl))
      · exact zLeaf_ok hT hmix hF hC h hc
    · exact .scope (ih h hc)
    · unfold zSee at h
      split at h
      · split at h
        · split at h
          · rename_i h1
            cases h
            exact .pre ((Seen.kn (kn_restr _ _) _).trans (hc _ (List.mem_cons_self ..))) (ih h1 fun x hx => hc x (List.mem_cons_of_mem _ hx))
          · cases h
        · exact zReg_ok hT hmix hF hC h hc
      · exact zReg_ok hT hmix hF hC h hc
    · unfold zRng at h
      split at h
      · cases h
        exact .pre (.kn (kn_restr _ _) _) (hc _ (List.mem_singleton.2 rfl))
      · exact zLeaf_ok hT hmix hF hC h hc
    · exact zLeaf_ok hT hmix hF hC h hc
end
/-- a text's end, as far as it is to be seen -/
def zEnd (live : List Nat) : ZR → Option (Ex × Slots × Hp × List Prop)
  | some (e, sl, hp, _, cs) => some (e, seeS live sl, hp, cs)
  | none => none
def zsee (P : Program) (T : Tab) (F : FTab) (C : ConF) (ks : List (Nat × Nat)) (live : List Nat) (c : Code) (sl : Slots) (hp : Hp) (p : Yath) : Option (Ex × Slots × Hp × List Prop) := zEnd live (zz P T F C 1000 ks 1000 c sl hp p)
theorem zsee_ok {P : Program} {T : Tab} {F : FTab} {C : ConF} (hT : TabOk P T) (hmix : P.follows .mixedOrders = true) (hF : FunOk P T F) (hC : ConOk P C) {ks : List (Nat × Nat)} {live : List Nat} {c : Code} {sl : Slots} {hp : Hp} {p : Yath} {e : Ex} {sl' : Slots} {hp' : Hp} {cs : List Prop} (h : zsee P T F C ks live c sl hp p = some (e, sl', hp', cs)) (hc : AskedP cs) : Goes P T ks c sl hp e sl' hp' := by
  unfold zsee zEnd at h
  split at h
  · rename_i h1
    cases h
    exact (zz_ok hT hmix hF hC 1000 h1 hc).post (.kn (kn_restr _ _) _)
  · cases h
/-- slots, by a list -/
def mkT (nt : Nat) (l : List (Nat × DV)) : Slots := l.foldr (fun x s => putS s x.1 x.2) (mkS (Nat.log2 nt + 2))
def loopsOf : Code → List Code
  | .seq a b => loopsOf a ++ loopsOf b
  | .cond _ a b => loopsOf a ++ loopsOf b
  | .block _ a => loopsOf a
  | .loop a => [a]
  | .scope a => loopsOf a
  | _ => []
def bodyOf (F : FTab) (f : Nat) : Code := match F f with
  | some fn => fn.body
  | none => .skip
def ksF (F : FTab) (f : Nat) : List (Nat × Nat) := match F f with
  | some fn => fn.ks
  | none => []
/-- the loop number k of a text, those inside of others not counted -/
def loopAt (c : Code) (k : Nat) : Code := (loopsOf c).getD k .skip
end
end Go.Proofs.Ytgjgihlfkpbdgaa
/- What a call answers where no object is: said once, used in every heap. No function of the program is named here. -/
namespace Go.Proofs.Ytgjgihlfkpbdgaa
open Go.RowKit

noncomputable section
variable {P : Program} {T : Tab} {F : FTab} {C : ConF}
/-- what a call answers, its caller having no objects -/
abbrev Ans (P : Program) (f : FuncId) (args : List DV) (d : DV) (hp' : Hp) : Prop := AnsH P f args ⟨0, [], []⟩ d hp'
theorem gon_take {W0 : World} {S0 : Nat → Prop} {E E' : Env} {hp hp0 : Hp} {w0 w : World} {D : Nat} {x : Option (List Deferred)} (hs : HS W0 0 S0 E' hp w) (g : Gon E hp0 w0 E' hp w) (hD : W0.heap.size ≤ D) (hD0 : w0.heap.size ≤ D) (hk : w.heap[D]? = some (.deferred x)) (hn : ∀ id b D', E'.yb id = some (b, D') → D' ≠ D) :
    HS W0 0 S0 E' hp (w.putObj D (.deferred none)) ∧ Gon E hp0 w0 E' hp (w.putObj D (.deferred none)) ∧ Later E' w E' (w.putObj D (.deferred none)) := by
  have t2 := later_putO E' (o' := .deferred none) hk trivial trivial
  refine ⟨hs.putO hk trivial trivial hD (fun _ => rfl) rfl ⟨fun id R hR => ?_, hs.ys.inj, hs.ys.lt, hs.gl.later t2⟩, ⟨g.later.trans t2.ro_ro, ⟨by have := g.oth.1; simpa using this, fun k y hk0 => ?_, fun k r hk0 => ?_⟩, g.yb, g.dm⟩, t2⟩
  · obtain ⟨b2, D2, r2, p1, p2, p3, p4, p5⟩ := hs.ys.ok id R hR
    exact ⟨b2, D2, r2, p1, p2, (World.putObj_heap_other (fun e => by rw [e, hk] at p3; cases p3)).trans p3, (World.putObj_heap_other (hn _ _ _ p1)).trans p4, p5.1, p5.2.1, p5.2.2.1, p5.2.2.2.1, p5.2.2.2.2.1, p5.2.2.2.2.2.1, p5.2.2.2.2.2.2.1, fun t d ht => (p5.2.2.2.2.2.2.2 t d ht).later (t2.cut _)⟩
  · have := (Array.getElem?_eq_some_iff.1 hk0).1
    exact (World.putObj_heap_other (by omega)).trans (g.oth.2.1 k y hk0)
  · have := (Array.getElem?_eq_some_iff.1 hk0).1
    obtain ⟨r', h1, h2⟩ := g.oth.2.2 k r hk0
    exact ⟨r', (World.putObj_heap_other (by omega)).trans h1, h2⟩
theorem leavesG_ok (hT : TabOk P T) {g : Func} {ts : List ResultVar} (hr : g.results = ts.toArray) {W0 : World} {S0 : Nat → Prop} {E E' : Env} {N : Nat} {sl : Slots} {hp hp1 : Hp} {a : Act} {w w' : World} (hst : Gon E hp w E' hp1 w') (hs : Sim ⟨none, w.heap.size⟩ W0 0 S0 E' N sl hp1 a w')
    {ds : List DV} (hds : resD T hp1 sl ts = some ds) {R : Ending → World → Prop} (hR : ∀ E' v w', Gon E hp w E' hp1 w' → HS W0 0 S0 E' hp1 w' → VR w' E' (one ds) v → R (.returned v) w') : LeavesInM (Fr none) 0 P g a.tmps R a.defers .returning w' := by
  obtain ⟨h0, Ds, h1, h2, h3⟩ := hs.dfr
  clear h0
  rw [h1]
  have hsl := hs.sl
  have hhs := hs.hs
  clear h1 hs
  induction Ds generalizing w' with
  | nil =>
    obtain ⟨v, hv1, hv2⟩ := results_ok (P := P) hT hhs hsl hds hr
    exact ⟨v, hv1, hR E' v w' hst hhs hv2⟩
  | cons D Ds ih =>
    obtain ⟨q1, q2, q3, q4⟩ := h3 D (List.mem_cons_self ..)
    obtain ⟨t1, t2, t3⟩ := gon_take hhs hst q1 q2 q3 q4
    have h2' := List.nodup_cons.1 h2
    refine ⟨by simp, .inl ⟨D, _, rfl, run_takeDeferred q3, ih t2 h2'.2 (fun D' hD' => ?_) (fun t d ht => (hsl t d ht).later t3) t1⟩⟩
    obtain ⟨r1, r2, r3, r4⟩ := h3 D' (List.mem_cons_of_mem _ hD')
    exact ⟨r1, r2, (World.putObj_heap_other (fun e => h2'.1 (by rw [← e]; exact hD'))).trans r3, r4⟩
theorem ansH_of_goes (hT : TabOk P T) (hF : FunOk P T F) {f : FuncId} {fn : FnT} {args : List DV} {hp : Hp} {e : Ex} {sl' : Slots} {hp' : Hp} {ds : List DV} (hfn : F f = some fn) (hlen : Nat.ble args.length fn.nt = true) (h : Goes P T fn.ks fn.body (initS fn.nt args) hp e sl' hp') (hex : ∀ i, e ≠ .exit i) (hds : resD T hp' sl' fn.res = some ds) : AnsH P f args hp (one ds) hp' := by
  obtain ⟨g, g1, g2, g3, g4, g5, g6⟩ := hF f fn hfn
  have hlen := Nat.le_of_ble_eq_true hlen
  refine ⟨⟨g, g1, by rw [g2]; rfl, g3⟩, fun W0 S0 E w vs hs hv => ?_⟩
  refine calls_fr (ro := none) (callsIn_of_wp_marks g1 g2 trivial ?_ rfl)
  have hl := hv.1
  have hsim : Sim ⟨none, w.heap.size⟩ W0 0 S0 E fn.nt (initS fn.nt args) hp { tmps := vs.toArray ++ Array.replicate (g.ntmps - vs.toArray.size) undef, defers := [] } w := by
    refine ⟨hs, .nil _ _ (Nat.le_refl _), fun b hb => (by cases hb), (by simp; omega), fun t d ht => ?_⟩
    obtain ⟨v, hv1, hv2⟩ := hv.get (look_initS ht)
    have hlt := (List.getElem?_eq_some_iff.1 hv1).1
    have : (vs.toArray ++ Array.replicate (g.ntmps - vs.toArray.size) undef).getD t undef = v := by
      rw [Array.getD_eq_getD_getElem?, Array.getElem?_append_left (by simpa using hlt)]
      simp [hv1]
    rw [this]
    exact hv2
  refine h fn.nt g6 ⟨none, w.heap.size⟩ W0 S0 E _ w _ hsim fun E' a' w' hl hs' => ?_
  have hlv := leavesG_ok (ds := ds) (R := fun e w' => ∃ E' v, e = .returned v ∧ Gon E hp w E' hp' w' ∧ HS W0 0 S0 E' hp' w' ∧ VR w' E' (one ds) v) hT g4 hl hs' hds fun E' v w' h1 h2 h3 => ⟨E', v, rfl, h1, h2, h3⟩
  cases e with
  | normal => exact hlv
  | ret => exact hlv
  | exit id => exact (hex id rfl).elim
theorem ans_of_goes (hT : TabOk P T) (hF : FunOk P T F) {f : FuncId} {fn : FnT} {args : List DV} {e : Ex} {sl' : Slots} {hp' : Hp} {ds : List DV} (hfn : F f = some fn) (hlen : Nat.ble args.length fn.nt = true) (h : Goes P T fn.ks fn.body (initS fn.nt args) ⟨0, [], []⟩ e sl' hp') (hex : ∀ i, e ≠ .exit i) (hds : resD T hp' sl' fn.res = some ds) : Ans P f args (one ds) hp' := ansH_of_goes hT hF hfn hlen h hex hds
/-- a datum and a heap seen otherwise -/
def SeenV (d : DV) (hp : Hp) (d' : DV) (hp' : Hp) : Prop := ∀ W0 S0 E w v, HS W0 0 S0 E hp w → VR w E d v → ∃ E', Gon E hp w E' hp' w ∧ HS W0 0 S0 E' hp' w ∧ VR w E' d' v
theorem AnsH.see {f : FuncId} {args : List DV} {d d' : DV} {h0 hp hp' : Hp} (h : AnsH P f args h0 d hp) (hs : SeenV d hp d' hp') : AnsH P f args h0 d' hp' := by
  refine ⟨h.1, fun W0 S0 E w vs hh hv => (h.2 W0 S0 E w vs hh hv).mono ?_⟩
  rintro e w' ⟨E1, v, rfl, h1, h2, h3⟩
  obtain ⟨E2, e2, h4, h5⟩ := hs _ _ _ _ _ h2 h3
  exact ⟨E2, v, rfl, h1.trans e2, h4, h5⟩
theorem yb_none {W0 : World} {base : Nat} {E : Env} {hp : Hp} {w : World} (h : YsOk W0 base E hp w) (hl : hp.ls = []) : ∀ id, E.yb id = none := fun id => by
  cases hy : E.yb id with
  | none => rfl
  | some x =>
    have := (h.lt id x hy).2
    rw [hl] at this
    cases this
theorem hs_none {W0 : World} {S0 : Nat → Prop} {E : Env} {hp : Hp} {w : World} (hs : HS W0 0 S0 E hp w) : HS W0 0 S0 (ro E.S) ⟨0, [], []⟩ w :=
  ⟨hs.bel, fun _ h => h.elim, fun _ h => h.elim, fun _ h => h.elim, fun _ _ _ _ h => h.elim, hs.ro, hs.olds, Nat.le_refl _, .none rfl (fun _ => rfl) hs.gl⟩
theorem seenV_flat {d : DV} {hp : Hp} (hl : hp.ls = []) (h : flatD d = true) : SeenV d hp d ⟨0, [], []⟩ := fun _ _ E _ _ hs hv => ⟨ro E.S, .up (E := E) (E' := ro E.S) (fun _ h => h) (funext fun id => (yb_none hs.ys hl id).symm) (fun i => by rw [hl]) _, hs_none hs, flatD_ok hv h fun _ h => h⟩
theorem AnsH.flat {f : FuncId} {args : List DV} {d : DV} {h0 hp : Hp} (h : AnsH P f args h0 d hp) (hl : hp.ls = []) (hd : flatD d = true) : AnsH P f args h0 d ⟨0, [], []⟩ := h.see (seenV_flat hl hd)

/-! ### Objects numbered anew -/
def posN (id : Nat) : List Nat → Option Nat
  | [] => none
  | a :: l => match Nat.beq a id with
    | true => some 0
    | false => match posN id l with
      | some k => some (k + 1)
      | none => none
theorem posN_ok {id : Nat} : ∀ {L : List Nat} {k : Nat}, posN id L = some k → L[k]? = some id
  | a :: l, k, h => by
    simp only [posN] at h
    split at h
    · rename_i hb
      cases h
      simp [Nat.eq_of_beq_eq_true hb]
    · split at h
      · rename_i hk
        cases h
        simpa using posN_ok hk
      · cases h
def rens (q : DV → Option DV) : List DV → Option (List DV)
  | [] => some []
  | d :: l => match q d, rens q l with
    | some d', some l' => some (d' :: l')
    | _, _ => none
def ren0 (L : List Nat) : DV → Option DV
  | .sl id off s n c => match posN id L with
    | some k => some (.sl k off s n c)
    | none => none
  | .ptr id off => match posN id L with
    | some k => some (.ptr k off)
    | none => none
  | .int k n => some (.int k n)
  | .bool b => some (.bool b)
  | .str s => some (.str s)
  | .nil => some .nil
  | .list s xs => some (.list s xs)
  | .nilp => some .nilp
  | .nilf => some .nilf
  | .nili => some .nili
  | .yld k => some (.yld k)
  | _ => none
def ren1 (L : List Nat) : DV → Option DV
  | .fn f fs cs => match rens (ren0 L) fs, rens (ren0 L) cs with
    | some fs', some cs' => some (.fn f fs' cs')
    | _, _ => none
  | d => ren0 L d
def ren2 (L : List Nat) : DV → Option DV
  | .agg cs => match rens (ren1 L) cs with
    | some cs' => some (.agg cs')
    | none => none
  | d => ren1 L d
def ren3 (L : List Nat) : DV → Option DV
  | .tuple cs => match rens (ren2 L) cs with
    | some cs' => some (.tuple cs')
    | none => none
  | d => ren2 L d
/-- the environment of the objects numbered anew -/
def Env.ren (E : Env) (L : List Nat) (X : Nat → Prop) : Env := ⟨E.S, fun i => E.b (L.getD i 0), fun i => E.base (L.getD i 0), fun i => E.sz (L.getD i 0), X, fun i => ∃ id, L[i]? = some id ∧ E.D id, E.yb⟩
/-- cells as they are, where they name no object -/
def plain : DV → Bool
  | .int _ _ | .bool _ | .str _ | .nil | .nilp | .nilf | .nili => true
  | _ => false
section
variable {E : Env} {w : World} {L : List Nat} {X : Nat → Prop}
theorem ren_getD {i id : Nat} (h : L[i]? = some id) : L.getD i 0 = id := by simp [List.getD, h]
end
/-- an object as it is seen when those before it are forgotten -/
def oldOb (o : Ob) : Ob := match o.k with
  | 3 => ⟨1, 0, o.t, o.cs⟩
  | k => ⟨k, 0, o.t, o.cs⟩
def nodupN : List Nat → Bool
  | [] => true
  | a :: l => (match posN a l with
    | some _ => false
    | none => true) && nodupN l
theorem posN_none {a : Nat} : ∀ {l : List Nat}, posN a l = none → a ∉ l
  | [], _ => by simp
  | b :: l, h => by
    simp only [posN] at h
    split at h
    · cases h
    · rename_i hb
      split at h
      · cases h
      · rename_i hn
        have : b ≠ a := fun e => by rw [beqT e] at hb; cases hb
        simp [posN_none hn, Ne.symm this]
theorem nodupN_ok : ∀ {l : List Nat}, nodupN l = true → l.Nodup
  | [], _ => List.nodup_nil
  | a :: l, h => by
    simp only [nodupN, Bool.and_eq_true] at h
    obtain ⟨h1, h2⟩ := h
    split at h1
    · cases h1
    · rename_i hp
      exact List.nodup_cons.2 ⟨posN_none hp, nodupN_ok h2⟩
/-- slots, with objects numbered anew -/
def renS (L : List Nat) : Slots → Slots
  | .lf => .lf
  | .nd u l r => .nd (match u with
    | some d => ren3 L d
    | none => none) (renS L l) (renS L r)
theorem look_renS {L : List Nat} {d' : DV} : ∀ {s : Slots} {t : Nat}, look (renS L s) t = some d' → ∃ d, look s t = some d ∧ ren3 L d = some d'
  | .lf, t, h => by
    unfold renS at h
    cases h
  | .nd u l r, t, h => by
    unfold renS at h
    rw [look_nd] at h ⊢
    by_cases a : t = 0
    · rw [if_pos a] at h ⊢
      cases u with
      | none => cases h
      | some d => exact ⟨d, rfl, h⟩
    · rw [if_neg a] at h ⊢
      by_cases b : t % 2 = 1
      · rw [if_pos b] at h ⊢
        exact look_renS h
      · rw [if_neg b] at h ⊢
        exact look_renS h
def ltIds (n : Nat) : List LS → Bool
  | [] => true
  | R :: l => Nat.blt R.id n && ltIds n l
def renLs (L : List Nat) : List LS → List LS
  | [] => []
  | R :: l => { R with sl := renS L R.sl } :: renLs L l
theorem ltIds_ok {n id : Nat} : ∀ {l : List LS}, ltIds n l = true → (lfind id l).isSome = true → id < n
  | [], _, h => by cases h
  | R :: l, h, hs => by
    simp only [ltIds, Bool.and_eq_true] at h
    simp only [lfind] at hs
    split at hs
    · rename_i hb
      have := Nat.eq_of_beq_eq_true hb
      have h1 : R.id < n := Nat.le_of_ble_eq_true h.1
      omega
    · exact ltIds_ok h.2 hs
theorem lfind_renLs (L : List Nat) (id : Nat) : ∀ l, lfind id (renLs L l) = (lfind id l).map fun R => { R with sl := renS L R.sl }
  | [] => rfl
  | R :: l => by
    simp only [renLs, lfind]
    split
    · rfl
    · exact lfind_renLs L id l
/-- no cell of the heap names an object -/
def Plain (hp : Hp) : Prop := ∀ id o, hp.get id = some o → ∀ d ∈ o.cs, plain d = true
theorem oldOb_k (o : Ob) : (oldOb o).k = if o.k = 3 then 1 else o.k := by
  unfold oldOb
  split
  · rename_i h; simp [h]
  · rename_i h; rw [if_neg h]
end
end Go.Proofs.Ytgjgihlfkpbdgaa
