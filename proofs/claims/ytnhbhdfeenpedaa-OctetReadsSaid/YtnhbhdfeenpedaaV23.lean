/- Code over abstract data: the whole. No function of the program is named here. -/
import Derived.Test.YtnhbhdfeenpedaaV22
import Derived.Scope
namespace Go.Proofs.Ytnhbhdfeenpedaa
open Go.RowKit

noncomputable section
def exOf : Ex → Exit
  | .normal => .normal
  | .exit id => .exit id
  | .ret => .ret
/-- what is asked of a function's text -/
def codeChk (T : Tab) (nt : Nat) (ks : List (Nat × Nat)) : Code → Bool
  | .region _ ops false => dstsOk nt (ops.toList.map (·.dst))
  | .region id ops true => dstsOk nt (ops.toList.map (·.dst)) && (match assoc ks id with
    | some k => anyChk T ops k
    | none => false)
  | .seq a b => codeChk T nt ks a && codeChk T nt ks b
  | .cond _ a b => codeChk T nt ks a && codeChk T nt ks b
  | .block _ a => codeChk T nt ks a
  | .loop a => codeChk T nt ks a
  | .scope a => codeChk T nt ks a
  | _ => true
def FunOk (P : Program) (T : Tab) (F : FTab) : Prop := ∀ f fn, F f = some fn → ∃ g, P.funcs[f]? = some g ∧ g.body = some fn.body ∧ (g.name == "runtime.NumGoroutine") = false ∧ g.results = fn.res.toArray ∧ g.ntmps = fn.nt ∧ codeChk T fn.nt fn.ks fn.body = true
variable {P : Program} {T : Tab} {F : FTab} {C : CallF}
theorem opE_ext {call : CallF} (hcall : CallOk P call) {o : Oper} {sl : Slots} {hp : Hp} {d : DV} {hp' : Hp} {mu : Mut} (h : opE T call o sl hp = some (d, hp', mu)) {b : Nat} (hmu : mutOk b mu) (hb : b ≤ hp.n) : Ext b hp hp' := by
  unfold opE at h
  split at h
  · rename_i q hq
    have : q = (d, hp', mu) := by simpa using h
    subst this
    exact aop_ext hq hmu hb
  · exact (hcall _ _ _ _ _ _ h).2.1 b hmu hb
  · cases h
theorem regE_ext {call : CallF} (hcall : CallOk P call) {ds : List (Option Tmp)} : ∀ {l : List Oper} {sl : Slots} {hp : Hp} {sl' : Slots} {hp' : Hp} {mu : Mut}, regE T call ds l sl hp = some (sl', hp', mu) → ∀ b, mutOk b mu → b ≤ hp.n → Ext b hp hp'
  | [], sl, hp, sl', hp', mu, h, b, _, _ => by cases h; exact Ext.refl _ _
  | o :: l, sl, hp, sl', hp', mu, h, b, hmu, hb => by
    rw [regE_cons] at h
    unfold gateX at h
    split at h
    · unfold regE1 at h
      split at h
      · rename_i d hp1 m1 hop
        split at h
        · rename_i sl2 hp2 m2 hrest
          cases h
          obtain ⟨h1, h2⟩ := mutOk_mmin hmu
          have e1 := opE_ext hcall hop h1 hb
          exact e1.trans (regE_ext hcall hrest b h2 (Nat.le_trans hb e1.1))
        · cases h
      · cases h
    · exact regE_ext hcall h b hmu hb
    · cases h
theorem regP_ext {call : CallF} (hcall : CallOk P call) {ds : List (Option Tmp)} : ∀ {l : List Oper} {sl : Slots} {hp : Hp} {sl' : Slots} {hp' : Hp}, regP T call ds l sl hp = some (sl', hp') → ∀ b, b ≤ hp.n → Ext b hp hp'
  | [], sl, hp, sl', hp', h, b, _ => by cases h; exact Ext.refl _ _
  | o :: l, sl, hp, sl', hp', h, b, hb => by
    rw [regP_cons] at h
    unfold gateX at h
    split at h
    · unfold regP1 at h
      split at h
      · rename_i d hp1 hop
        have e1 := opE_ext hcall hop (b := b) trivial hb
        exact e1.trans (regP_ext hcall h b (Nat.le_trans hb e1.1))
      · cases h
    · exact regP_ext hcall h b hb
    · cases h
/-- the evaluator is right -/
def ExecOk (P : Program) (T : Tab) (q : XF) : Prop := ∀ N ks c sl hp e sl' hp' mu, q ks c sl hp = some (e, sl', hp', mu) → codeChk T N ks c = true → (∀ base, mutOk base mu → base ≤ hp.n → Ext base hp hp') ∧
  ∀ W0 base S0 E a w (Q : Exit → Act → World → Prop), Sim W0 base S0 E N sl hp a w → mutOk base mu → (∀ E' a' w', Stp W0 base S0 E hp w E' hp' w' → Sim W0 base S0 E' N sl' hp' a' w' → Q (exOf e) a' w') → c.wp P Q a w
def LoopOk (P : Program) (T : Tab) (q : XF) (n : Nat) : Prop := ∀ N ks c sl hp e sl' hp' mu, q ks (.loop c) sl hp = some (e, sl', hp', mu) → codeChk T N ks c = true → (∀ base, mutOk base mu → base ≤ hp.n → Ext base hp hp') ∧
  ∀ W0 base S0 E a w (Q : Exit → Act → World → Prop), Sim W0 base S0 E N sl hp a w → mutOk base mu → (∀ E' a' w', Stp W0 base S0 E hp w E' hp' w' → Sim W0 base S0 E' N sl' hp' a' w' → Q (exOf e) a' w') → Code.rounds P c Q n a w
theorem flat1_ok {E E' : Env} {w : World} {d : DV} {v : Value} (h : VR w E d v) (hf : flat1 d = true) (hS : ∀ b, E.S b → E'.S b) : VR w E' d v := by
  cases d with
  | list s xs =>
    obtain ⟨A, c, b, off, g, rfl, h1, h2, h3, h4, h5, h6, h7, h8⟩ := h.of_list
    exact .list _ s xs A c b off g h1 h2 h3 (fun h => ⟨(h4 h).1, hS _ (h4 h).2⟩) h5 h6 (fun i cs j d hi hj => (h7 i cs j d hi hj).later ⟨hS, fun _ h => h.elim, fun _ _ => rfl⟩) h8
  | int k n => cases h; exact .int _ k n
  | bool b => cases h; exact .bool _ b
  | str s => cases h; exact .str _ s
  | nil => cases h; exact .nil _
  | nilp => cases h; exact .nilp _
  | nilf => cases h; exact .nilf _
  | nili => cases h; exact .nili _
  | _ => cases hf
theorem flats1_ok {E E' : Env} {w : World} (hS : ∀ b, E.S b → E'.S b) : ∀ {ds : List DV} {vs : List Value}, VRs E w ds vs → flats1 ds = true → VRs E' w ds vs
  | [], vs, h, _ => by rw [h.unnil]; exact .nil _ _
  | d :: ds, vs, h, hf => by
    simp only [flats1, Bool.and_eq_true] at hf
    obtain ⟨v, vs', rfl, h1, h2⟩ := h.uncons
    exact .cons (flat1_ok h1 hf.1 hS) (flats1_ok hS h2 hf.2)
theorem flat2_ok {E E' : Env} {w : World} {d : DV} {v : Value} (h : VR w E d v) (hf : flat2 d = true) (hS : ∀ b, E.S b → E'.S b) : VR w E' d v := by
  cases d with
  | agg cs =>
    obtain ⟨vs, rfl, hvs⟩ := h.of_agg
    exact (flats1_ok hS hvs hf).agg
  | _ => exact flat1_ok h hf hS
theorem flats2_ok {E E' : Env} {w : World} (hS : ∀ b, E.S b → E'.S b) : ∀ {ds : List DV} {vs : List Value}, VRs E w ds vs → flats2 ds = true → VRs E' w ds vs
  | [], vs, h, _ => by rw [h.unnil]; exact .nil _ _
  | d :: ds, vs, h, hf => by
    simp only [flats2, Bool.and_eq_true] at hf
    obtain ⟨v, vs', rfl, h1, h2⟩ := h.uncons
    exact .cons (flat2_ok h1 hf.1 hS) (flats2_ok hS h2 hf.2)
theorem flatD_ok {E E' : Env} {w : World} {d : DV} {v : Value} (h : VR w E d v) (hf : flatD d = true) (hS : ∀ b, E.S b → E'.S b) : VR w E' d v := by
  cases d with
  | tuple cs =>
    obtain ⟨vs, rfl, hvs⟩ := h.of_tuple
    exact (flats2_ok hS hvs hf).tuple
  | _ => exact flat2_ok h hf hS
theorem look_initL : ∀ (ds : List DV) (s : Slots) (k t : Nat) (d : DV), look (initS.initL s k ds) t = some d → (k ≤ t ∧ ds[t - k]? = some d) ∨ look s t = some d
  | [], s, k, t, d, h => .inr h
  | e :: ds, s, k, t, d, h => by
    rcases look_initL ds (putS s k e) (k + 1) t d h with ⟨h1, h2⟩ | h
    · refine .inl ⟨by omega, ?_⟩
      rw [show t - k = (t - (k + 1)) + 1 by omega]
      simpa using h2
    · rcases look_put h with ⟨rfl, rfl⟩ | ⟨_, h⟩
      · exact .inl ⟨Nat.le_refl _, by simp⟩
      · exact .inr h
theorem look_initS {nt : Nat} {ds : List DV} {t : Nat} {d : DV} (h : look (initS nt ds) t = some d) : ds[t]? = some d := by
  rcases look_initL ds _ 0 t d h with ⟨_, h⟩ | h
  · simpa using h
  · rw [look_mkS] at h; cases h
def resSem (tmps : Array Value) (x : ResultVar) : Sem Value :=
  match x with
  | .tmp t => pure (tmps.getD t undef)
  | .cell b t => do loadVar t (← asAddr (tmps.getD b undef))
theorem resOne_ok (hT : TabOk P T) {W0 : World} {base : Nat} {S0 : Nat → Prop} {E : Env} {w : World} {a : Act} {hp : Hp} {sl : Slots} (hs : HS W0 base S0 E hp w) (hsl : ∀ t d, look sl t = some d → VR w E d (a.tmps.getD t undef)) {x : ResultVar} {d : DV} (h : resOne T hp sl x = some d) :
    ∃ v, VR w E d v ∧ (resSem a.tmps x).run P w = .ok v w := by
  cases x with
  | tmp t => exact ⟨_, hsl t d h, rfl⟩
  | cell b t =>
    simp only [resOne] at h
    split at h
    · rename_i id off i hb hi
      split at h
      · rename_i o ho
        obtain ⟨hv, hD⟩ := (hsl b _ hb).of_ptr
        obtain ⟨o', ho', hok⟩ := hs.ob id hD
        rw [ho] at ho'
        cases ho'
        obtain ⟨u, hu, hud⟩ := load_run (P := P) (hT _ _ hi) (Lies.of_ob hok) h
        exact ⟨u, hud, by simp only [resSem, hv, asAddr, Sem.run_bind, Sem.run_pure, Result.andThen_ok, hu]⟩
      · cases h
    · cases h
theorem resD_ok (hT : TabOk P T) {W0 : World} {base : Nat} {S0 : Nat → Prop} {E : Env} {w : World} {a : Act} {hp : Hp} {sl : Slots} (hs : HS W0 base S0 E hp w) (hsl : ∀ t d, look sl t = some d → VR w E d (a.tmps.getD t undef)) : ∀ {ts : List ResultVar} {ds : List DV}, resD T hp sl ts = some ds →
    ∃ vs : List Value, VRs E w ds vs ∧ (ts.mapM (resSem a.tmps)).run P w = .ok vs w
  | [], ds, h => by simp [resD] at h; subst h; exact ⟨[], .nil _ _, rfl⟩
  | t :: ts, ds, h => by
    simp only [resD] at h
    split at h
    · rename_i d ds' h1 h2
      cases h
      obtain ⟨v, hv, hr⟩ := resOne_ok (P := P) hT hs hsl h1
      obtain ⟨vs, hvs, hrs⟩ := resD_ok hT hs hsl h2
      exact ⟨v :: vs, .cons hv hvs, by simp only [List.mapM_cons, Sem.run_bind, hr, hrs, Result.andThen_ok, Sem.run_pure]⟩
    · cases h
theorem results_ok (hT : TabOk P T) {W0 : World} {base : Nat} {S0 : Nat → Prop} {E : Env} {w : World} {a : Act} {hp : Hp} {sl : Slots} (hs : HS W0 base S0 E hp w) (hsl : ∀ t d, look sl t = some d → VR w E d (a.tmps.getD t undef)) {ts : List ResultVar} {ds : List DV} (h : resD T hp sl ts = some ds) {fn : Func} (hr : fn.results = ts.toArray) :
    ∃ v, (results fn a.tmps).run P w = .ok v w ∧ VR w E (one ds) v := by
  obtain ⟨us, hus, hrun⟩ := resD_ok (P := P) hT hs hsl h
  have hm : (fn.results.mapM (resSem a.tmps)).run P w = .ok us.toArray w := by
    rw [hr, List.mapM_toArray, Sem.run_map, hrun]
    rfl
  unfold results
  rw [Sem.run_bind]
  refine ⟨(if h : us.toArray.size = 1 then us.toArray[0] else .tuple us.toArray), (congrArg (fun x => Result.andThen x _) hm).trans rfl, ?_⟩
  match us, ds, hus with
  | [u], [e], hus => exact hus.2 0 e u rfl rfl
  | [], [], hus => exact hus.tuple
  | u :: u' :: us, e :: e' :: es, hus =>
    have h1 : ¬ (u :: u' :: us).toArray.size = 1 := by simp
    rw [dif_neg h1]
    exact hus.tuple
  | [], _ :: _, hus => exact absurd hus.1 (by simp)
  | _ :: _, [], hus => exact absurd hus.1 (by simp)
  | [_], _ :: _ :: _, hus => exact absurd hus.1 (by simp)
  | _ :: _ :: _, [_], hus => exact absurd hus.1 (by simp)
theorem mnorm_ok {n base : Nat} {mu : Mut} (h : mutOk base (mnorm n mu)) (hb : base ≤ n) : mutOk base mu := by
  cases mu with
  | none => trivial
  | some k =>
    show base ≤ k
    by_cases hle : n ≤ k
    · omega
    · have : mnorm n (some k) = some k := by simp only [mnorm, bleF hle]
      rw [this] at h
      exact h
theorem mnorm_none {n : Nat} {mu : Mut} (h : mnorm n mu = none) : mutOk n mu := by
  cases mu with
  | none => trivial
  | some k =>
    by_cases hle : n ≤ k
    · exact hle
    · have : mnorm n (some k) = some k := by simp only [mnorm, bleF hle]
      rw [this] at h
      cases h
theorem callE_ok (hT : TabOk P T) (hF : FunOk P T F) (hC : CallOk P C) {q : XF} (hq : ExecOk P T q) : CallOk P (callE T F C q) := by
  intro f args hp r hp' mu h
  unfold callE at h
  split at h
  · rename_i x hx
    cases h
    exact hC _ _ _ _ _ _ hx
  · split at h
    · rename_i fn hfn
      obtain ⟨g, g1, g2, g3, g4, g5, g6⟩ := hF f fn hfn
      split at h
      · rename_i hlen
        have hlen := Nat.le_of_ble_eq_true hlen
        split at h
        · cases h
        · rename_i ex sl hp1 mu1 hex hrun
          split at h
          · rename_i ds hds
            have h : finish hp hp1 mu1 (one ds) = (r, hp', mu) := by simpa using h
            obtain ⟨hext, hwp⟩ := hq fn.nt fn.ks fn.body _ _ _ _ _ _ hrun g6
            -- the call, wherever it is run
            have core : ∀ W0 base S0 E w vs, mutOk base mu1 → HS W0 base S0 E hp w → VRs E w args vs → ∀ R : Ending → World → Prop, (∀ E' v w', Stp W0 base S0 E hp w E' hp1 w' → VR w' E' (one ds) v → R (.returned v) w') → Calls P f vs.toArray w R := by
              intro W0 base S0 E w vs hmu hs hv R hR
              refine calls_of_wp g1 g2 ?_
              have hl := hv.1
              have hsim : Sim W0 base S0 E fn.nt (initS fn.nt args) hp { tmps := vs.toArray ++ Array.replicate (g.ntmps - vs.toArray.size) undef, defers := [] } w := by
                refine ⟨hs, rfl, by simp; omega, fun t d ht => ?_⟩
                obtain ⟨v, hv1, hv2⟩ := hv.get (look_initS ht)
                have hlt := (List.getElem?_eq_some_iff.1 hv1).1
                have : (vs.toArray ++ Array.replicate (g.ntmps - vs.toArray.size) undef).getD t undef = v := by
                  rw [Array.getD_eq_getD_getElem?, Array.getElem?_append_left (by simpa using hlt)]
                  simp [hv1]
                rw [this]
                exact hv2
              refine hwp W0 base S0 E _ w _ hsim hmu fun E' a' w' hst hs' => ?_
              obtain ⟨v, hv1, hv2⟩ := results_ok (P := P) hT hs'.hs hs'.sl hds g4
              have := hR E' v w' hst hv2
              cases ex with
              | normal => exact ⟨hs'.defers, v, hv1, this⟩
              | ret => exact ⟨hs'.defers, v, hv1, this⟩
              | exit id => exact (hex id rfl).elim
            refine ⟨⟨g, g1, by rw [g2]; rfl, g3⟩, ?_⟩
            unfold finish at h
            split at h
            · -- nothing of it is left but the answer
              rename_i hmn hfl
              cases h
              have hmn := mnorm_none hmn
              refine ⟨fun base _ _ => Ext.refl _ _, fun W0 base S0 E w vs _ hs hv => ?_⟩
              refine core w hp.n E.S E w vs hmn hs.pure hv _ fun E' v w' hst hr => ?_
              have hD : ∀ id, E.D id → id < hp.n := fun id hd => hs.dlt hd
              have hl : Later E w (E'.lim hp.n) w' := ⟨hst.later.S, fun id hd => by
                obtain ⟨q0, q1, q2, q3, q4⟩ := hst.later.D id hd
                exact ⟨⟨q0, hD id hd⟩, q1, q2, q3, q4⟩, hst.later.cell⟩
              have hHS : HS W0 base S0 (E'.lim hp.n) hp w' := hs.move (fun id hd => hst.dom id hd.2 hd.1) hl (hs.bel.trans (hst.hs.bel.mono hs.bel.size)) (fun id hd => by
                obtain ⟨ob, _, hok⟩ := hs.ob id hd
                exact hst.hs.bel.block _ hok.lt) (fun b hb => hst.hs.olds b hb) hst.hs.ro (fun _ _ => rfl) hs.le
              exact ⟨E'.lim hp.n, v, rfl, ⟨hl, hHS, Ext.refl _ _, fun id hid hd => hst.dom id hid hd.1⟩, flatD_ok hr hfl fun _ h => h⟩
            · rename_i m b hne
              cases h
              refine ⟨fun base hmu hb => hext base (mnorm_ok hmu hb) hb, fun W0 base S0 E w vs hmu hs hv => ?_⟩
              exact core W0 base S0 E w vs (mnorm_ok hmu hs.le) hs hv _ fun E' v w' hst hr => ⟨E', v, rfl, hst, hr⟩
          · cases h
        · cases h
      · cases h
    · cases h
theorem seqX_ok {r : XR} {q : Slots → Hp → XR} {e : Ex} {sl' : Slots} {hp' : Hp} {mu : Mut} (h : seqX r q = some (e, sl', hp', mu)) : (∃ sl1 hp1 m1 m2, r = some (.normal, sl1, hp1, m1) ∧ q sl1 hp1 = some (e, sl', hp', m2) ∧ mu = mmin m1 m2) ∨ (e ≠ .normal ∧ r = some (e, sl', hp', mu)) := by
  unfold seqX at h
  split at h
  · rename_i sl1 hp1 m1
    split at h
    · rename_i e2 sl2 hp2 m2 hq
      cases h
      exact .inl ⟨sl1, hp1, m1, m2, rfl, hq, rfl⟩
    · cases h
  · rename_i hne
    refine .inr ⟨fun he => ?_, h⟩
    subst he
    exact hne _ _ _ h
theorem wp_ex {c : Code} {Q Q' : Exit → Act → World → Prop} {a : Act} {w : World} (h : c.wp P Q a w) (hq : ∀ e a w, Q e a w → Q' e a w) : c.wp P Q' a w := wp_mono h hq
theorem exec_ok (hT : TabOk P T) (hmix : P.follows .mixedOrders = true) (hF : FunOk P T F) (hC : CallOk P C) : ∀ n, ExecOk P T (exec T F C n) ∧ LoopOk P T (exec T F C n) n
  | 0 => ⟨(by intro N ks c sl hp e sl' hp' mu h; cases h), (by intro N ks c sl hp e sl' hp' mu h; cases h)⟩
  | n + 1 => by
    obtain ⟨ih, ihl⟩ := exec_ok hT hmix hF hC n
    have hcall := callE_ok hT hF hC ih
    have hloop : LoopOk P T (exec T F C (n + 1)) (n + 1) := by
      intro N ks c sl hp e sl' hp' mu h hchk
      have h : seqX (exec T F C n ks c sl hp) (exec T F C n ks (.loop c)) = some (e, sl', hp', mu) := h
      rcases seqX_ok h with ⟨sl1, hp1, m1, m2, h1, h2, rfl⟩ | ⟨hne, h1⟩
      · obtain ⟨x1, w1⟩ := ih N ks c _ _ _ _ _ _ h1 hchk
        obtain ⟨x2, w2⟩ := ihl N ks c _ _ _ _ _ _ h2 hchk
        refine ⟨fun base hmu hb => ?_, fun W0 base S0 E a w Q hs hmu hQ => ?_⟩
        · obtain ⟨q1, q2⟩ := mutOk_mmin hmu
          have e1 := x1 base q1 hb
          exact e1.trans (x2 base q2 (Nat.le_trans hb e1.1))
        · obtain ⟨q1, q2⟩ := mutOk_mmin hmu
          rw [rounds_succ]
          exact w1 W0 base S0 E a w _ hs q1 fun E' a' w' hst hs' => w2 W0 base S0 E' a' w' Q hs' q2 fun E2 a2 w2' hst2 hs2 => hQ E2 a2 w2' (hst.trans hst2) hs2
      · obtain ⟨x1, w1⟩ := ih N ks c _ _ _ _ _ _ h1 hchk
        refine ⟨x1, fun W0 base S0 E a w Q hs hmu hQ => ?_⟩
        rw [rounds_succ]
        refine w1 W0 base S0 E a w _ hs hmu fun E' a' w' hst hs' => ?_
        have := hQ E' a' w' hst hs'
        cases e with
        | normal => exact absurd rfl hne
        | exit id => exact this
        | ret => exact this
    refine ⟨?_, hloop⟩
    intro N ks c sl hp e sl' hp' mu h hchk
    rw [exec_succ] at h
    unfold exec1 at h
    split at h
    · cases h
      exact ⟨fun _ _ _ => Ext.refl _ _, fun W0 base S0 E a w Q hs _ hQ => wp_skip (hQ E a w (Stp.refl hs.hs) hs)⟩
    · cases h
      exact ⟨fun _ _ _ => Ext.refl _ _, fun W0 base S0 E a w Q hs _ hQ => wp_label (hQ E a w (Stp.refl hs.hs) hs)⟩
    · cases h
      exact ⟨fun _ _ _ => Ext.refl _ _, fun W0 base S0 E a w Q hs _ hQ => wp_ret (hQ E a w (Stp.refl hs.hs) hs)⟩
    · cases h
      exact ⟨fun _ _ _ => Ext.refl _ _, fun W0 base S0 E a w Q hs _ hQ => wp_exit (hQ E a w (Stp.refl hs.hs) hs)⟩
    · -- a region in the text's order
      rename_i id ops
      unfold regN at h
      split at h
      · rename_i sl2 hp2 m2 hreg
        cases h
        have hd : dstsOk N (ops.toList.map (·.dst)) = true := hchk
        refine ⟨fun base hmu hb => regE_ext hcall hreg base hmu hb, fun W0 base S0 E a w Q hs hmu hQ => wp_region_list ?_⟩
        exact regE_ok hT hcall rfl ops.toList _ _ _ _ _ E a w hreg hd hs hmu hQ
      · cases h
    · -- a region in any order
      rename_i id ops
      have hchk' : (dstsOk N (ops.toList.map (·.dst)) && (match assoc ks id with | some k => anyChk T ops k | none => false)) = true := hchk
      simp only [Bool.and_eq_true] at hchk'
      obtain ⟨hd, hk⟩ := hchk'
      split at hk
      · rename_i k hks
        rw [hks] at h
        refine ⟨fun base hmu hb => ?_, fun W0 base S0 E a w Q hs hmu hQ => ?_⟩
        · simp only [regD] at h
          split at h
          · rename_i sl1 hp1 hpre
            unfold regN at h
            split at h
            · rename_i sl2 hp2 m2 hrest
              cases h
              have e1 := regP_ext hcall hpre base hb
              exact e1.trans (regE_ext hcall hrest base hmu (Nat.le_trans hb e1.1))
            · cases h
          · cases h
        · have he : e = .normal := by
            simp only [regD] at h
            split at h
            · unfold regN at h
              split at h
              · cases h; rfl
              · cases h
            · cases h
          subst he
          exact (regD_ok (id := id) hT hmix hcall hk hd h hs hmu hQ).2
      · cases hk
    · -- one behind the other
      rename_i x y
      have hchk' : (codeChk T N ks x && codeChk T N ks y) = true := hchk
      simp only [Bool.and_eq_true] at hchk'
      obtain ⟨hx, hy⟩ := hchk'
      rcases seqX_ok h with ⟨sl1, hp1, m1, m2, h1, h2, rfl⟩ | ⟨hne, h1⟩
      · obtain ⟨x1, w1⟩ := ih N ks x _ _ _ _ _ _ h1 hx
        obtain ⟨x2, w2⟩ := ih N ks y _ _ _ _ _ _ h2 hy
        refine ⟨fun base hmu hb => ?_, fun W0 base S0 E a w Q hs hmu hQ => wp_seq ?_⟩
        · obtain ⟨q1, q2⟩ := mutOk_mmin hmu
          have e1 := x1 base q1 hb
          exact e1.trans (x2 base q2 (Nat.le_trans hb e1.1))
        · obtain ⟨q1, q2⟩ := mutOk_mmin hmu
          exact w1 W0 base S0 E a w _ hs q1 fun E' a' w' hst hs' => w2 W0 base S0 E' a' w' Q hs' q2 fun E2 a2 w2' hst2 hs2 => hQ E2 a2 w2' (hst.trans hst2) hs2
      · obtain ⟨x1, w1⟩ := ih N ks x _ _ _ _ _ _ h1 hx
        refine ⟨x1, fun W0 base S0 E a w Q hs hmu hQ => wp_seq ?_⟩
        refine w1 W0 base S0 E a w _ hs hmu fun E' a' w' hst hs' => ?_
        have := hQ E' a' w' hst hs'
        cases e with
        | normal => exact absurd rfl hne
        | exit id => exact this
        | ret => exact this
    · -- one of two
      rename_i x y z
      have hchk' : (codeChk T N ks y && codeChk T N ks z) = true := hchk
      simp only [Bool.and_eq_true] at hchk'
      obtain ⟨hy, hz⟩ := hchk'
      unfold condX at h
      split at h
      · rename_i hc
        obtain ⟨x1, w1⟩ := ih N ks y _ _ _ _ _ _ h hy
        exact ⟨x1, fun W0 base S0 E a w Q hs hmu hQ => wp_cond_true (ev_ok hs.sl hc).of_bool (w1 W0 base S0 E a w Q hs hmu hQ)⟩
      · rename_i hc
        obtain ⟨x1, w1⟩ := ih N ks z _ _ _ _ _ _ h hz
        exact ⟨x1, fun W0 base S0 E a w Q hs hmu hQ => wp_cond_false (ev_ok hs.sl hc).of_bool (w1 W0 base S0 E a w Q hs hmu hQ)⟩
      · cases h
    · -- a block
      rename_i id x
      have hx : codeChk T N ks x = true := hchk
      unfold blockX at h
      split at h
      · rename_i i sl1 hp1 m1 hin
        obtain ⟨x1, w1⟩ := ih N ks x _ _ _ _ _ _ hin hx
        split at h
        · rename_i hb
          have hb := Nat.eq_of_beq_eq_true hb
          subst hb
          cases h
          refine ⟨x1, fun W0 base S0 E a w Q hs hmu hQ => wp_block ?_⟩
          refine w1 W0 base S0 E a w _ hs hmu fun E' a' w' hst hs' => ?_
          have := hQ E' a' w' hst hs'
          simpa [Exit.inBlock, exOf] using this
        · rename_i hb
          cases h
          refine ⟨x1, fun W0 base S0 E a w Q hs hmu hQ => wp_block ?_⟩
          refine w1 W0 base S0 E a w _ hs hmu fun E' a' w' hst hs' => ?_
          have := hQ E' a' w' hst hs'
          have hne : i ≠ id := fun e => by rw [beqT e] at hb; cases hb
          simpa [Exit.inBlock, exOf, hne] using this
      · rename_i hne
        obtain ⟨x1, w1⟩ := ih N ks x _ _ _ _ _ _ h hx
        refine ⟨x1, fun W0 base S0 E a w Q hs hmu hQ => wp_block ?_⟩
        refine w1 W0 base S0 E a w _ hs hmu fun E' a' w' hst hs' => ?_
        have := hQ E' a' w' hst hs'
        cases e with
        | normal => exact this
        | exit i => exact (hne _ _ _ _ h).elim
        | ret => exact this
    · -- a loop
      rename_i x
      have hx : codeChk T N ks x = true := hchk
      obtain ⟨x1, w1⟩ := hloop N ks x sl hp e sl' hp' mu h hx
      exact ⟨x1, fun W0 base S0 E a w Q hs hmu hQ => wp_loop_rounds (n + 1) (w1 W0 base S0 E a w Q hs hmu hQ)⟩
    · -- a scope
      rename_i x
      have hx : codeChk T N ks x = true := hchk
      obtain ⟨x1, w1⟩ := ih N ks x _ _ _ _ _ _ h hx
      refine ⟨x1, fun W0 base S0 E a w Q hs hmu hQ => wp_scope_straight ?_⟩
      refine w1 W0 base S0 E a w _ hs hmu fun E' a' w' hst hs' => ?_
      have := hQ E' a' w' hst hs'
      cases e with
      | normal => exact this
      | exit i => exact this
      | ret => exact this
    · cases h
theorem noC_ok : CallOk P noC := fun f args hp r hp' mu h => by cases h
/-- a law without arguments -/
theorem closed_ok (hT : TabOk P T) (hmix : P.follows .mixedOrders = true) (hF : FunOk P T F) (hC : CallOk P C) {n : Nat} {f : FuncId} {hp' : Hp} {mu : Mut} (h : callE T F C (exec T F C n) f [] ⟨0, []⟩ = some (.bool true, hp', mu)) (hmu : mu = none) (w : World) :
    Calls P f #[] w fun e w' => e = .returned (.bool true) ∧ Below w.heap.size w w' := by
  subst hmu
  obtain ⟨_, _, hc⟩ := callE_ok hT hF hC (exec_ok hT hmix hF hC n).1 _ _ _ _ _ _ h
  have hs : HS w 0 (fun _ => False) (ro fun _ => False) ⟨0, []⟩ w := ⟨Below.refl _ _, fun _ h => h.elim, fun _ h => h.elim, fun _ h => h.elim, fun _ _ _ _ h => h.elim, fun _ h => h.elim, fun _ h => h.elim, Nat.le_refl _⟩
  refine (hc w 0 _ _ w [] trivial hs (.nil _ _)).mono ?_
  rintro e w' ⟨E', v, rfl, hst, hv⟩
  rw [hv.of_bool]
  exact ⟨rfl, hst.hs.bel⟩
end
end Go.Proofs.Ytnhbhdfeenpedaa
