/- A call's answer, carried into every heap: slices of the caller's are read as they stand. No function of the program is named here. -/
import Derived.Test.YtgjgihlfkpbdgaaMF
namespace Go.Proofs.Ytgjgihlfkpbdgaa
open Go.RowKit

noncomputable section
variable {P : Program}
/-! ### Answers laid upon a heap -/
def cl1 : DV → Bool
  | .sl .. => true
  | .ptr .. => true
  | d => plain d
def cl2 : DV → Bool
  | .agg cs => cs.all cl1
  | d => cl1 d
def cl3 : DV → Bool
  | .tuple cs => cs.all cl2
  | d => cl2 d
def Env.lay (E E' : Env) (n B : Nat) : Env := ⟨fun b => E.S b ∨ (B ≤ b ∧ E'.S b), fun i => if i < n then E.b i else E'.b (i - n), fun i => if i < n then E.base i else E'.base (i - n), fun i => if i < n then E.sz i else E'.sz (i - n),
  fun i => (i < n ∧ E.X i) ∨ (n ≤ i ∧ E'.X (i - n)), fun i => (i < n ∧ E.D i) ∨ (n ≤ i ∧ E'.D (i - n)), E.yb⟩
section
variable {E E' : Env} {n B : Nat} {w : World}
theorem VRs.map {g : DV → DV} {c : DV → Bool} {E2 : Env} (hg : ∀ {d v}, VR w E' d v → c d = true → VR w E2 (g d) v) {ds : List DV} {vs : List Value} (h : VRs E' w ds vs) (hc : ds.all c = true) : VRs E2 w (ds.map g) vs :=
  ⟨by rw [List.length_map]; exact h.1, fun j d v hd hv => by
    rw [List.getElem?_map] at hd
    cases hj : ds[j]? with
    | none => rw [hj] at hd; cases hd
    | some d0 =>
      rw [hj] at hd
      cases hd
      exact hg (h.2 j d0 v hj hv) (List.all_eq_true.1 hc d0 (List.mem_of_getElem? hj))⟩
end
/-- what a contract's answers must be -/
structure Fine (d : DV) (hp : Hp) : Prop where
  cl : cl3 d = true
  pl : Plain hp
  ln : hp.l.length = hp.n
end
end Go.Proofs.Ytgjgihlfkpbdgaa
/- A function's answer along a path. No function of the program is named here. -/
namespace Go.Proofs.Ytgjgihlfkpbdgaa
open Go.RowKit

noncomputable section
def zRes (T : Tab) (res : List ResultVar) : ZR → Option (DV × Hp × List Prop)
  | some (.exit _, _, _, _, _) => none
  | some (_, sl, hp, _, cs) => match resD T hp sl res with
    | some ds => some (one ds, hp, cs)
    | none => none
  | none => none
/-- the function f, called with args where no object is, along the path p: its answer, the objects then, what is to be shown -/
def zans (P : Program) (T : Tab) (F : FTab) (C : ConF) (f : FuncId) (args : List DV) (p : Yath) : Option (DV × Hp × List Prop) := match F f with
  | some fn => match Nat.ble args.length fn.nt with
    | true => zRes T fn.res (zz P T F C 1000 fn.ks 1000 fn.body (initS fn.nt args) ⟨0, [], []⟩ p)
    | false => none
  | none => none
variable {P : Program} {T : Tab} {F : FTab} {C : ConF}
theorem zans_ok (hT : TabOk P T) (hmix : P.follows .mixedOrders = true) (hF : FunOk P T F) (hC : ConOk P C) {f : FuncId} {args : List DV} {p : Yath} {d : DV} {hp : Hp} {cs : List Prop} (h : zans P T F C f args p = some (d, hp, cs)) (hc : AskedP cs) : Ans P f args d hp := by
  unfold zans at h
  split at h
  · rename_i fn hfn
    split at h
    · rename_i hl
      unfold zRes at h
      split at h
      · cases h
      · rename_i e sl hp1 p1 cs1 hne hz
        split at h
        · rename_i ds hds
          cases h
          exact ans_of_goes hT hF hfn hl (zz_ok hT hmix hF hC 1000 hz hc) hne hds
        · cases h
      · cases h
    · cases h
  · cases h
/-- the same, where the answer names no object -/
def zflat : Option (DV × Hp × List Prop) → Option (DV × List Prop)
  | some (d, hp, cs) => match flatD d, hp.ls with
    | true, [] => some (d, cs)
    | _, _ => none
  | none => none
theorem zflat_ok (hT : TabOk P T) (hmix : P.follows .mixedOrders = true) (hF : FunOk P T F) (hC : ConOk P C) {f : FuncId} {args : List DV} {p : Yath} {d : DV} {cs : List Prop} (h : zflat (zans P T F C f args p) = some (d, cs)) (hc : AskedP cs) : Ans P f args d ⟨0, [], []⟩ := by
  unfold zflat at h
  split at h
  · rename_i h1
    split at h
    · rename_i hd hl
      cases h
      exact (zans_ok hT hmix hF hC h1 hc).flat hl hd
    · cases h
  · cases h
/-- a law's call, its arguments being seen -/
theorem law_ok {f : FuncId} {args : List DV} (h : Ans P f args (.bool true) ⟨0, [], []⟩) {w : World} {vs : List Value} (hv : VRs (ro fun b => b < w.heap.size) w args vs) (hg : GlOk (fun b => b < w.heap.size) w := by exact gl_none fun _ => rfl) : Calls P f vs.toArray w fun e w' => e = .returned (.bool true) ∧ Below w.heap.size w w' := by
  have hs : HS w 0 (fun b => b < w.heap.size) (ro fun b => b < w.heap.size) ⟨0, [], []⟩ w := ⟨Below.refl _ _, fun _ h => h.elim, fun _ h => h.elim, fun _ h => h.elim, fun _ _ _ _ h => h.elim, fun _ h => h, fun _ h => .inl h, Nat.le_refl _, .none rfl (fun _ => rfl) hg⟩
  refine (h.2 w _ _ w vs hs hv).mono ?_
  rintro e w' ⟨E', v, rfl, _, hh, hr⟩
  rw [hr.of_bool]
  exact ⟨rfl, hh.bel⟩
/-! ### Tables of contracts -/
def orK (C1 C2 : ConF) : ConF := fun f args hp => match C1 f args hp with
  | some r => some r
  | none => C2 f args hp
theorem orK_ok {C1 C2 : ConF} (h1 : ConOk P C1) (h2 : ConOk P C2) : ConOk P (orK C1 C2) := by
  intro f args hp r hp' mu h
  unfold orK at h
  split at h
  · rename_i heq
    cases h
    exact h1 _ _ _ _ _ _ heq
  · exact h2 _ _ _ _ _ _ h
theorem orK_left {C1 C2 : ConF} {f : FuncId} {args : List DV} {hp : Hp} {r : DV × Hp × Mut} (h : C1 f args hp = some r) : orK C1 C2 f args hp = some r := by
  unfold orK
  rw [h]
theorem orK_right {C1 C2 : ConF} {f : FuncId} {args : List DV} {hp : Hp} {r : DV × Hp × Mut} (h1 : C1 f args hp = none) (h : C2 f args hp = some r) : orK C1 C2 f args hp = some r := by
  unfold orK
  rw [h1]
  exact h
end
end Go.Proofs.Ytgjgihlfkpbdgaa
/- Loops by what holds before each round. No function of the program is named here. -/
namespace Go.Proofs.Ytgjgihlfkpbdgaa
open Go.RowKit

noncomputable section
variable {P : Program} {T : Tab}
/-- m rounds at most, the last one leaving by e -/
def GoesR (P : Program) (T : Tab) (ks : List (Nat × Nat)) (x : Code) (m : Nat) (sl : Slots) (hp : Hp) (e : Ex) (s1 : Slots) (h1 : Hp) : Prop :=
  ∀ N, codeChk T N ks x = true → ∀ fm W0 S0 E a w (Q : Exit → Act → World → Prop), Sim fm W0 0 S0 E N sl hp a w →
    (∀ E' a' w', Gon E hp w E' h1 w' → Sim fm W0 0 S0 E' N s1 h1 a' w' → Q (exOf e) a' w') → Code.roundsIn (Fr fm.ro) 0 P x Q m a w
theorem GoesR.last {ks : List (Nat × Nat)} {x : Code} {sl s1 : Slots} {hp h1 : Hp} {e : Ex} (h : Goes P T ks x sl hp e s1 h1) (hne : e ≠ .normal) : GoesR P T ks x 1 sl hp e s1 h1 := by
  intro N hN fm W0 S0 E a w Q hs hQ
  rw [roundsIn_succ]
  refine h N hN fm W0 S0 E a w _ hs fun E2 a2 w2 hl2 hs2 => ?_
  have := hQ E2 a2 w2 hl2 hs2
  cases e with
  | normal => exact absurd rfl hne
  | exit id => exact this
  | ret => exact this
theorem GoesR.step {ks : List (Nat × Nat)} {x : Code} {m : Nat} {sl s s1 : Slots} {hp h h1 : Hp} {e : Ex} (g : Goes P T ks x sl hp .normal s h) (k : GoesR P T ks x m s h e s1 h1) : GoesR P T ks x (m + 1) sl hp e s1 h1 := by
  intro N hN fm W0 S0 E a w Q hs hQ
  rw [roundsIn_succ]
  refine g N hN fm W0 S0 E a w _ hs fun E2 a2 w2 hl2 hs2 => ?_
  exact k N hN fm W0 S0 E2 a2 w2 Q hs2 fun E3 a3 w3 hl3 hs3 => hQ E3 a3 w3 (hl2.trans hl3) hs3
theorem GoesR.pre {ks : List (Nat × Nat)} {x : Code} {m : Nat} {s0 sl s1 : Slots} {h0 hp h1 : Hp} {e : Ex} (hw : Seen s0 h0 sl hp) (h : GoesR P T ks x m sl hp e s1 h1) : GoesR P T ks x m s0 h0 e s1 h1 := by
  intro N hN fm W0 S0 E a w Q hs hQ
  obtain ⟨E', hE, hs'⟩ := hw _ _ _ _ _ _ _ hs
  exact h N hN fm W0 S0 E' a w Q hs' fun E2 a2 w2 hl hs2 => hQ E2 a2 w2 (hE.trans hl) hs2
theorem GoesR.goes {ks : List (Nat × Nat)} {x : Code} {m : Nat} {sl s1 : Slots} {hp h1 : Hp} {e : Ex} (h : GoesR P T ks x m sl hp e s1 h1) : Goes P T ks (.loop x) sl hp e s1 h1 := by
  intro N hN fm W0 S0 E a w Q hs hQ
  have hx : codeChk T N ks x = true := hN
  exact wpIn_loop_rounds m (h N hx fm W0 S0 E a w Q hs hQ)
/-! ### Slots by a list -/
theorem look_mkT {nt : Nat} : ∀ {l : List (Nat × DV)} {t : Nat} {d : DV}, look (mkT nt l) t = some d → (t, d) ∈ l
  | [], t, d, h => by
    have : look (mkS (Nat.log2 nt + 2)) t = some d := h
    rw [look_mkS] at this
    cases this
  | (x, u) :: l, t, d, h => by
    have h : look (putS (mkT nt l) x u) t = some d := h
    rcases look_put h with ⟨rfl, rfl⟩ | ⟨_, h⟩
    · exact List.mem_cons_self ..
    · exact List.mem_cons_of_mem _ (look_mkT h)
/-- slots seen otherwise, one by one -/
theorem seen_slots {sl : Slots} {hp hp' : Hp} {nt : Nat} {l : List (Nat × DV)} (h : ∀ W0 S0 E w, HS W0 0 S0 E hp w → ∃ E', Gon E hp w E' hp' w ∧ HS W0 0 S0 E' hp' w ∧ ∀ t d, (t, d) ∈ l → ∃ d0, look sl t = some d0 ∧ ∀ v, VR w E d0 v → VR w E' d v) : Seen sl hp (mkT nt l) hp' := by
  intro fm W0 S0 E N a w hs
  obtain ⟨E', e, h1, h2⟩ := h W0 S0 E w hs.hs
  refine ⟨E', e, h1, hs.dfr.gon e, hs.ro.gon e, hs.size, fun t d ht => ?_⟩
  obtain ⟨d0, k1, k2⟩ := h2 t d (look_mkT ht)
  exact k2 _ (hs.sl t d0 k1)
/-- the table of one function's contract, used where no object is -/
def eqC {α : Type} (f0 : FuncId) (A : α → List DV) (B : α → DV × Hp) : ConF := fun f args hp => match Nat.beq f f0 with
  | true => @dite _ (∃ x, args = A x ∧ hp = ⟨0, [], []⟩) (Classical.propDecidable _) (fun h => some ((B h.choose).1, (B h.choose).2, none)) (fun _ => none)
  | false => none
theorem eqC_at {α : Type} {f0 : FuncId} {A : α → List DV} {B : α → DV × Hp} (hinj : ∀ x y, A x = A y → B x = B y) (x : α) : eqC f0 A B f0 (A x) ⟨0, [], []⟩ = some ((B x).1, (B x).2, none) := by
  have hex : ∃ y, A x = A y ∧ (⟨0, [], []⟩ : Hp) = ⟨0, [], []⟩ := ⟨x, rfl, rfl⟩
  have hB : B hex.choose = B x := hinj _ _ hex.choose_spec.1.symm
  have hb : Nat.beq f0 f0 = true := beqT rfl
  unfold eqC
  rw [hb]
  show @dite _ (∃ y, A x = A y ∧ (⟨0, [], []⟩ : Hp) = ⟨0, [], []⟩) (Classical.propDecidable _) _ _ = _
  rw [dif_pos hex, hB]
theorem eqC_other {α : Type} {f0 f : FuncId} {A : α → List DV} {B : α → DV × Hp} {args : List DV} {hp : Hp} (h : Nat.beq f f0 = false) : eqC f0 A B f args hp = none := by
  unfold eqC
  rw [h]
theorem eqC_ok {α : Type} {f0 : FuncId} {A : α → List DV} {B : α → DV × Hp} (h : ∀ x, Ans P f0 (A x) (B x).1 (B x).2) (hls : ∀ x, (B x).2.ls = []) : ConOk P (eqC f0 A B) := by
  intro f args hp r hp' mu heq
  unfold eqC at heq
  split at heq
  · rename_i hb
    have hb := Nat.eq_of_beq_eq_true hb
    subst hb
    by_cases hex : ∃ x, args = A x ∧ hp = ⟨0, [], []⟩
    · rw [dif_pos hex] at heq
      cases heq
      have hA := h hex.choose
      obtain ⟨ha, rfl⟩ := hex.choose_spec
      refine ⟨hA.1, fun base _ hb => ⟨Nat.zero_le _, fun id hid => absurd hid (by simp only at hb; omega), fun i => by rw [hls], fun i hi => absurd hi (by simp only at hb; omega)⟩, fun W0 base S0 E w vs _ hs hv => ?_⟩
      have hb0 : base = 0 := by
        have := hs.le
        simp only at this
        omega
      subst hb0
      rw [ha] at hv
      refine (hA.2 W0 S0 E w vs hs hv).mono ?_
      rintro e w' ⟨E', v, rfl, hl, hh, hr⟩
      have hD : ∀ id, ¬ E.D id := fun id hd => by
        obtain ⟨o, ho, _⟩ := hs.ob id hd
        simp [Hp.get_eq] at ho
      have hyn := yb_none hs.ys rfl
      exact ⟨E', v, rfl, ⟨⟨hl.later.S, fun id hd => (hD id hd).elim, hl.later.cell, fun id x hx => by rw [hyn] at hx; cases hx⟩, hh, ⟨Nat.zero_le _, fun id hid => absurd hid (by omega), fun i => by rw [hls], fun i hi => absurd hi (by omega)⟩, fun id hid => absurd hid (by simp), hl.oth, hl.yb⟩, hr⟩
    · rw [dif_neg hex] at heq
      cases heq
  · cases heq
end
end Go.Proofs.Ytgjgihlfkpbdgaa
/- A closed call's contract that the kernel reads. No function of the program is named here. -/
namespace Go.Proofs.Ytgjgihlfkpbdgaa
open Go.RowKit

noncomputable section
variable {P : Program}
/-- a contract that is computed, where no object is -/
def comC (f0 : FuncId) (g : List DV → Option DV) : ConF := fun f args hp => match Nat.beq f f0, hp with
  | true, ⟨0, [], []⟩ => match g args with
    | some d => some (d, ⟨0, [], []⟩, none)
    | none => none
  | _, _ => none
theorem comC_ok {f0 : FuncId} {g : List DV → Option DV} (h : ∀ args d, g args = some d → Ans P f0 args d ⟨0, [], []⟩) : ConOk P (comC f0 g) := by
  intro f args hp r hp' mu heq
  unfold comC at heq
  split at heq
  · rename_i hb
    have hb := Nat.eq_of_beq_eq_true hb
    subst hb
    split at heq
    · rename_i d hg
      cases heq
      exact eqC_ok (α := Unit) (A := fun _ => args) (B := fun _ => (r, ⟨0, [], []⟩)) (fun _ => h args r hg) (fun _ => rfl) f _ _ _ _ _ (eqC_at (fun _ _ _ => rfl) ())
    · cases heq
  · cases heq
end
end Go.Proofs.Ytgjgihlfkpbdgaa
