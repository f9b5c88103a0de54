/- Code over abstract data: the whole. No function of the program is named here. -/
import Derived.Test.YtoghpmeoekbcbaaVa
import Derived.Scope
namespace Go.Proofs.Ytoghpmeoekbcbaa
open Go.RowKit

noncomputable section
def exOf : Ex → Exit
  | .normal => .normal
  | .exit id => .exit id
  | .ret => .ret
def FunOk (P : Program) (T : Tab) (F : FTab) : Prop := ∀ f fn, F f = some fn → ∃ g, P.funcs[f]? = some g ∧ g.body = some fn.body ∧ (g.name == "runtime.NumGoroutine") = false ∧ g.results = fn.res.toArray ∧ g.ntmps = fn.nt ∧ codeChk T fn.nt fn.ks fn.body = true
theorem stepR_scope {P : Program} {b : Frame} {a : Act} {k : List Item} {cs : List Frame} {w : World} {c : Code} : step P (lone (b.atR a (.code (.scope c) :: k)) cs w) = .next (lone (b.atR a (.code c :: .inScope c :: k)) cs w) :=
  step_lone_go (by simp [stepG, stepG.exec, Frame.atR])
theorem stepR_inScope {P : Program} {b : Frame} {a : Act} {k : List Item} {cs : List Frame} {w : World} {c : Code} : step P (lone (b.atR a (.inScope c :: k)) cs w) = .next (lone (b.atR a k) cs w) :=
  step_lone_go (by simp [stepG, stepG.exec, Frame.atR])
theorem wpIn_scope_straight {F : Fence} {n : Nat} {P : Program} {Q : Exit → Act → World → Prop} {a : Act} {w : World} {c : Code} (h : c.wpIn F n P (Exit.noGoto Q) a w) : (Code.scope c).wpIn F n P Q a w := by
  intro b k cs hro hb hr
  have h0 : (lone (b.atR a (.code (.scope c) :: k)) cs w).fenced P F := fenced_calm hb hr rfl
  obtain ⟨e, a₁, w₁, hq, harr⟩ := h b (.inScope c :: k) cs hro hb hr
  cases e with
  | normal => exact ⟨.normal, a₁, w₁, hq, .head h0 stepR_scope (StepsIn.trans harr (.one (fenced_calm hb hr rfl) stepR_inScope))⟩
  | exit id =>
    have hx : exitTo id (.inScope c :: k) = exitTo id k := by simp [exitTo]
    exact ⟨_, a₁, w₁, hq, fun k' hk => .head h0 stepR_scope (harr.1 k' (by rw [hx]; exact hk)),
      fun hr' hk => let ⟨k₁, h1, h2⟩ := harr.2 hr' (by rw [hx]; exact hk); ⟨k₁, h1, .head h0 stepR_scope h2⟩⟩
  | goto l => exact hq.elim
  | ret => exact ⟨_, a₁, w₁, hq, .of_steps (.one h0 stepR_scope) harr⟩
  | panic ch => exact ⟨_, a₁, w₁, hq, .of_steps (.one h0 stepR_scope) harr⟩
  | outgrown => exact ⟨_, a₁, w₁, hq, .of_steps (.one h0 stepR_scope) harr⟩
variable {P : Program} {T : Tab} {F : FTab} {C : ConF}
theorem opE_ext {call : CallF} (hcall : CallOk P call) {o : Oper} {sl : Slots} {hp : Hp} {d : DV} {hp' : Hp} {mu : Mut} (h : opE T call o sl hp = some (d, hp', mu)) {b : Nat} (hmu : mutOk b mu) (hb : b ≤ hp.n) : Ext b hp hp' := by
  unfold opE at h
  split at h
  · rename_i q hq
    have : q = (d, hp', mu) := by simpa using h
    subst this
    exact aop_ext hq hmu hb
  · exact (hcall.f _ _ _ _ _ _ h).2.1 b hmu hb
  · exact (hcall.y _ _ _ _ _ _ h).1 b hmu hb
  · cases h
theorem regE_ext {call : CallF} (hcall : CallOk P call) {ds : List (Option Tmp)} : ∀ {l : List Oper} {sl : Slots} {hp : Hp} {sl' : Slots} {hp' : Hp} {mu : Mut}, regE T call ds l sl hp = some (sl', hp', mu) → ∀ b, mutOk b mu → b ≤ hp.n → Ext b hp hp'
  | [], sl, hp, sl', hp', mu, h, b, _, _ => by cases h; exact Ext.refl _ _
  | o :: l, sl, hp, sl', hp', mu, h, b, hmu, hb => by
    rw [regE_cons] at h
    unfold gateX at h
    split at h
    · unfold regE1 at h
      split at h
      · rename_i d hp1 m1 hop
        split at h
        · rename_i sl2 hp2 m2 hrest
          cases h
          obtain ⟨h1, h2⟩ := mutOk_mmin hmu
          have e1 := opE_ext hcall hop h1 hb
          exact e1.trans (regE_ext hcall hrest b h2 (Nat.le_trans hb e1.1))
        · cases h
      · cases h
    · exact regE_ext hcall h b hmu hb
    · cases h
theorem regP_ext {call : CallF} (hcall : CallOk P call) {ds : List (Option Tmp)} : ∀ {l : List Oper} {sl : Slots} {hp : Hp} {sl' : Slots} {hp' : Hp}, regP T call ds l sl hp = some (sl', hp') → ∀ b, b ≤ hp.n → Ext b hp hp'
  | [], sl, hp, sl', hp', h, b, _ => by cases h; exact Ext.refl _ _
  | o :: l, sl, hp, sl', hp', h, b, hb => by
    rw [regP_cons] at h
    unfold gateX at h
    split at h
    · unfold regP1 at h
      split at h
      · rename_i d hp1 hop
        have e1 := opE_ext hcall hop (b := b) trivial hb
        exact e1.trans (regP_ext hcall h b (Nat.le_trans hb e1.1))
      · cases h
    · exact regP_ext hcall h b hb
    · cases h
/-- the evaluator is right -/
def ExecOk (P : Program) (T : Tab) (q : XF) : Prop := ∀ N ks c sl hp e sl' hp' mu, q ks c sl hp = some (e, sl', hp', mu) → codeChk T N ks c = true → (∀ base, mutOk base mu → base ≤ hp.n → Ext base hp hp') ∧
  ∀ fm W0 base S0 E a w (Q : Exit → Act → World → Prop), Sim fm W0 base S0 E N sl hp a w → mutOk base mu → (∀ E' a' w', Stp W0 base S0 E hp w E' hp' w' → Sim fm W0 base S0 E' N sl' hp' a' w' → Q (exOf e) a' w') → c.wpIn (Fr fm.ro) 0 P Q a w
def LoopOk (P : Program) (T : Tab) (q : XF) (n : Nat) : Prop := ∀ N ks c sl hp e sl' hp' mu, q ks (.loop c) sl hp = some (e, sl', hp', mu) → codeChk T N ks c = true → (∀ base, mutOk base mu → base ≤ hp.n → Ext base hp hp') ∧
  ∀ fm W0 base S0 E a w (Q : Exit → Act → World → Prop), Sim fm W0 base S0 E N sl hp a w → mutOk base mu → (∀ E' a' w', Stp W0 base S0 E hp w E' hp' w' → Sim fm W0 base S0 E' N sl' hp' a' w' → Q (exOf e) a' w') → Code.roundsIn (Fr fm.ro) 0 P c Q n a w
theorem flat1_ok {E E' : Env} {w : World} {d : DV} {v : Value} (h : VR w E d v) (hf : flat1 d = true) (hS : ∀ b, E.S b → E'.S b) : VR w E' d v := by
  cases d with
  | list s xs =>
    obtain ⟨A, c, b, off, g, rfl, h1, h2, h3, h4, h5, h6, h7, h8⟩ := h.of_list
    exact .list _ s xs A c b off g h1 h2 h3 (fun h => ⟨(h4 h).1, hS _ (h4 h).2⟩) h5 h6 (fun i cs j d hi hj => (h7 i cs j d hi hj).later ⟨hS, fun _ h => h.elim, fun _ _ => rfl, fun _ _ h => (by cases h)⟩) h8
  | int k n => cases h; exact .int _ k n
  | bool b => cases h; exact .bool _ b
  | str s => cases h; exact .str _ s
  | nil => cases h; exact .nil _
  | nilp => cases h; exact .nilp _
  | nilf => cases h; exact .nilf _
  | nili => cases h; exact .nili _
  | _ => cases hf
theorem flats1_ok {E E' : Env} {w : World} (hS : ∀ b, E.S b → E'.S b) : ∀ {ds : List DV} {vs : List Value}, VRs E w ds vs → flats1 ds = true → VRs E' w ds vs
  | [], vs, h, _ => by rw [h.unnil]; exact .nil _ _
  | d :: ds, vs, h, hf => by
    simp only [flats1, Bool.and_eq_true] at hf
    obtain ⟨v, vs', rfl, h1, h2⟩ := h.uncons
    exact .cons (flat1_ok h1 hf.1 hS) (flats1_ok hS h2 hf.2)
theorem flat2_ok {E E' : Env} {w : World} {d : DV} {v : Value} (h : VR w E d v) (hf : flat2 d = true) (hS : ∀ b, E.S b → E'.S b) : VR w E' d v := by
  cases d with
  | agg cs =>
    obtain ⟨vs, rfl, hvs⟩ := h.of_agg
    exact (flats1_ok hS hvs hf).agg
  | _ => exact flat1_ok h hf hS
theorem flats2_ok {E E' : Env} {w : World} (hS : ∀ b, E.S b → E'.S b) : ∀ {ds : List DV} {vs : List Value}, VRs E w ds vs → flats2 ds = true → VRs E' w ds vs
  | [], vs, h, _ => by rw [h.unnil]; exact .nil _ _
  | d :: ds, vs, h, hf => by
    simp only [flats2, Bool.and_eq_true] at hf
    obtain ⟨v, vs', rfl, h1, h2⟩ := h.uncons
    exact .cons (flat2_ok h1 hf.1 hS) (flats2_ok hS h2 hf.2)
theorem flatD_ok {E E' : Env} {w : World} {d : DV} {v : Value} (h : VR w E d v) (hf : flatD d = true) (hS : ∀ b, E.S b → E'.S b) : VR w E' d v := by
  cases d with
  | tuple cs =>
    obtain ⟨vs, rfl, hvs⟩ := h.of_tuple
    exact (flats2_ok hS hvs hf).tuple
  | _ => exact flat2_ok h hf hS
theorem look_initL : ∀ (ds : List DV) (s : Slots) (k t : Nat) (d : DV), look (initS.initL s k ds) t = some d → (k ≤ t ∧ ds[t - k]? = some d) ∨ look s t = some d
  | [], s, k, t, d, h => .inr h
  | e :: ds, s, k, t, d, h => by
    rcases look_initL ds (putS s k e) (k + 1) t d h with ⟨h1, h2⟩ | h
    · refine .inl ⟨by omega, ?_⟩
      rw [show t - k = (t - (k + 1)) + 1 by omega]
      simpa using h2
    · rcases look_put h with ⟨rfl, rfl⟩ | ⟨_, h⟩
      · exact .inl ⟨Nat.le_refl _, by simp⟩
      · exact .inr h
theorem look_initS {nt : Nat} {ds : List DV} {t : Nat} {d : DV} (h : look (initS nt ds) t = some d) : ds[t]? = some d := by
  rcases look_initL ds _ 0 t d h with ⟨_, h⟩ | h
  · simpa using h
  · rw [look_mkS] at h; cases h
def resSem (tmps : Array Value) (x : ResultVar) : Sem Value :=
  match x with
  | .tmp t => pure (tmps.getD t undef)
  | .cell b t => do loadVar t (← asAddr (tmps.getD b undef))
theorem resOne_ok (hT : TabOk P T) {W0 : World} {base : Nat} {S0 : Nat → Prop} {E : Env} {w : World} {a : Act} {hp : Hp} {sl : Slots} (hs : HS W0 base S0 E hp w) (hsl : ∀ t d, look sl t = some d → VR w E d (a.tmps.getD t undef)) {x : ResultVar} {d : DV} (h : resOne T hp sl x = some d) :
    ∃ v, VR w E d v ∧ (resSem a.tmps x).run P w = .ok v w := by
  cases x with
  | tmp t => exact ⟨_, hsl t d h, rfl⟩
  | cell b t =>
    simp only [resOne] at h
    split at h
    · rename_i id off i hb hi
      split at h
      · rename_i o ho
        obtain ⟨hv, hD⟩ := (hsl b _ hb).of_ptr
        obtain ⟨o', ho', hok⟩ := hs.ob id hD
        rw [ho] at ho'
        cases ho'
        obtain ⟨u, hu, hud⟩ := load_run (P := P) (hT _ _ hi) (Lies.of_ob hok) h
        exact ⟨u, hud, by simp only [resSem, hv, asAddr, Sem.run_bind, Sem.run_pure, Result.andThen_ok, hu]⟩
      · cases h
    · cases h
theorem resD_ok (hT : TabOk P T) {W0 : World} {base : Nat} {S0 : Nat → Prop} {E : Env} {w : World} {a : Act} {hp : Hp} {sl : Slots} (hs : HS W0 base S0 E hp w) (hsl : ∀ t d, look sl t = some d → VR w E d (a.tmps.getD t undef)) : ∀ {ts : List ResultVar} {ds : List DV}, resD T hp sl ts = some ds →
    ∃ vs : List Value, VRs E w ds vs ∧ (ts.mapM (resSem a.tmps)).run P w = .ok vs w
  | [], ds, h => by simp [resD] at h; subst h; exact ⟨[], .nil _ _, rfl⟩
  | t :: ts, ds, h => by
    simp only [resD] at h
    split at h
    · rename_i d ds' h1 h2
      cases h
      obtain ⟨v, hv, hr⟩ := resOne_ok (P := P) hT hs hsl h1
      obtain ⟨vs, hvs, hrs⟩ := resD_ok hT hs hsl h2
      exact ⟨v :: vs, .cons hv hvs, by simp only [List.mapM_cons, Sem.run_bind, hr, hrs, Result.andThen_ok, Sem.run_pure]⟩
    · cases h
theorem results_ok (hT : TabOk P T) {W0 : World} {base : Nat} {S0 : Nat → Prop} {E : Env} {w : World} {a : Act} {hp : Hp} {sl : Slots} (hs : HS W0 base S0 E hp w) (hsl : ∀ t d, look sl t = some d → VR w E d (a.tmps.getD t undef)) {ts : List ResultVar} {ds : List DV} (h : resD T hp sl ts = some ds) {fn : Func} (hr : fn.results = ts.toArray) :
    ∃ v, (results fn a.tmps).run P w = .ok v w ∧ VR w E (one ds) v := by
  obtain ⟨us, hus, hrun⟩ := resD_ok (P := P) hT hs hsl h
  have hm : (fn.results.mapM (resSem a.tmps)).run P w = .ok us.toArray w := by
    rw [hr, List.mapM_toArray, Sem.run_map, hrun]
    rfl
  unfold results
  rw [Sem.run_bind]
  refine ⟨(if h : us.toArray.size = 1 then us.toArray[0] else .tuple us.toArray), (congrArg (fun x => Result.andThen x _) hm).trans rfl, ?_⟩
  match us, ds, hus with
  | [u], [e], hus => exact hus.2 0 e u rfl rfl
  | [], [], hus => exact hus.tuple
  | u :: u' :: us, e :: e' :: es, hus =>
    have h1 : ¬ (u :: u' :: us).toArray.size = 1 := by simp
    rw [dif_neg h1]
    exact hus.tuple
  | [], _ :: _, hus => exact absurd hus.1 (by simp)
  | _ :: _, [], hus => exact absurd hus.1 (by simp)
  | [_], _ :: _ :: _, hus => exact absurd hus.1 (by simp)
  | _ :: _ :: _, [_], hus => exact absurd hus.1 (by simp)
theorem mnorm_ok {n base : Nat} {mu : Mut} (h : mutOk base (mnorm n mu)) (hb : base ≤ n) : mutOk base mu := by
  cases mu with
  | none => trivial
  | some k =>
    show base ≤ k
    by_cases hle : n ≤ k
    · omega
    · have : mnorm n (some k) = some k := by simp only [mnorm, bleF hle]
      rw [this] at h
      exact h
theorem mnorm_none {n : Nat} {mu : Mut} (h : mnorm n mu = none) : mutOk n mu := by
  cases mu with
  | none => trivial
  | some k =>
    by_cases hle : n ≤ k
    · exact hle
    · have : mnorm n (some k) = some k := by simp only [mnorm, bleF hle]
      rw [this] at h
      cases h
/-- a frame is left: its marks are taken up -/
theorem leaves_ok (hT : TabOk P T) {g : Func} {ts : List ResultVar} (hr : g.results = ts.toArray) {W0 : World} {base : Nat} {S0 : Nat → Prop} {E E' : Env} {N : Nat} {sl : Slots} {hp hp1 : Hp} {a : Act} {w w' : World} (hst : Stp W0 base S0 E hp w E' hp1 w') (hs : Sim ⟨none, w.heap.size⟩ W0 base S0 E' N sl hp1 a w')
    {ds : List DV} (hds : resD T hp1 sl ts = some ds) {R : Ending → World → Prop} (hR : ∀ E' v w', Stp W0 base S0 E hp w E' hp1 w' → VR w' E' (one ds) v → R (.returned v) w') : LeavesInM (Fr none) 0 P g a.tmps R a.defers .returning w' := by
  obtain ⟨h0, Ds, h1, h2, h3⟩ := hs.dfr
  clear h0
  rw [h1]
  have hsl := hs.sl
  clear h1 hs
  induction Ds generalizing w' with
  | nil =>
    obtain ⟨v, hv1, hv2⟩ := results_ok (P := P) hT hst.hs hsl hds hr
    exact ⟨v, hv1, hR E' v w' hst hv2⟩
  | cons D Ds ih =>
    obtain ⟨q1, q2, q3, q4⟩ := h3 D (List.mem_cons_self ..)
    obtain ⟨t1, t2⟩ := stp_take hst q1 q2 q3 q4
    have h2' := List.nodup_cons.1 h2
    refine ⟨by simp, .inl ⟨D, _, rfl, run_takeDeferred q3, ih t1 h2'.2 (fun D' hD' => ?_) fun t d ht => (hsl t d ht).later t2⟩⟩
    obtain ⟨r1, r2, r3, r4⟩ := h3 D' (List.mem_cons_of_mem _ hD')
    exact ⟨r1, r2, (World.putObj_heap_other (fun e => h2'.1 (by rw [← e]; exact hD'))).trans r3, r4⟩
theorem callE_ok (hT : TabOk P T) (hF : FunOk P T F) (hC : ConOk P C) {q : XF} (hq : ExecOk P T q) : ConOk P (callE T F C q) := by
  intro f args hp r hp' mu h
  unfold callE at h
  split at h
  · rename_i x hx
    cases h
    exact hC _ _ _ _ _ _ hx
  · split at h
    · rename_i fn hfn
      obtain ⟨g, g1, g2, g3, g4, g5, g6⟩ := hF f fn hfn
      split at h
      · rename_i hlen
        have hlen := Nat.le_of_ble_eq_true hlen
        split at h
        · cases h
        · rename_i ex sl hp1 mu1 hex hrun
          split at h
          · rename_i ds hds
            have h : finish hp hp1 mu1 (one ds) = (r, hp', mu) := by simpa using h
            obtain ⟨hext, hwp⟩ := hq fn.nt fn.ks fn.body _ _ _ _ _ _ hrun g6
            -- the call, wherever it is run
            have core : ∀ W0 base S0 E w vs, mutOk base mu1 → HS W0 base S0 E hp w → VRs E w args vs → ∀ R : Ending → World → Prop, (∀ E' v w', Stp W0 base S0 E hp w E' hp1 w' → VR w' E' (one ds) v → R (.returned v) w') → Calls P f vs.toArray w R := by
              intro W0 base S0 E w vs hmu hs hv R hR
              refine calls_fr (ro := none) (callsIn_of_wp_marks g1 g2 trivial ?_ rfl)
              have hl := hv.1
              have hsim : Sim ⟨none, w.heap.size⟩ W0 base S0 E fn.nt (initS fn.nt args) hp { tmps := vs.toArray ++ Array.replicate (g.ntmps - vs.toArray.size) undef, defers := [] } w := by
                refine ⟨hs, .nil _ _ (Nat.le_refl _), fun b hb => (by cases hb), (by simp; omega), fun t d ht => ?_⟩
                obtain ⟨v, hv1, hv2⟩ := hv.get (look_initS ht)
                have hlt := (List.getElem?_eq_some_iff.1 hv1).1
                have : (vs.toArray ++ Array.replicate (g.ntmps - vs.toArray.size) undef).getD t undef = v := by
                  rw [Array.getD_eq_getD_getElem?, Array.getElem?_append_left (by simpa using hlt)]
                  simp [hv1]
                rw [this]
                exact hv2
              refine hwp ⟨none, w.heap.size⟩ W0 base S0 E _ w _ hsim hmu fun E' a' w' hst hs' => ?_
              have hlv := leaves_ok (ds := ds) (R := R) hT g4 hst hs' hds hR
              cases ex with
              | normal => exact hlv
              | ret => exact hlv
              | exit id => exact (hex id rfl).elim
            refine ⟨⟨g, g1, by rw [g2]; rfl, g3⟩, ?_⟩
            unfold finish at h
            split at h
            · -- nothing of it is left but the answer
              rename_i hmn hfl
              cases h
              have hmn := mnorm_none hmn
              refine ⟨fun base _ _ => Ext.refl _ _, fun W0 base S0 E w vs _ hs hv => ?_⟩
              refine core w hp.n E.S E w vs hmn hs.pure hv _ fun E' v w' hst hr => ?_
              have hD : ∀ id, E.D id → id < hp.n := fun id hd => hs.dlt hd
              have hl : Later E w (E'.lim hp.n) w' := ⟨hst.later.S, fun id hd => by
                obtain ⟨q0, q1, q2, q3, q4⟩ := hst.later.D id hd
                exact ⟨⟨q0, hD id hd⟩, q1, q2, q3, q4⟩, hst.later.cell, hst.later.y⟩
              have hHS : HS W0 base S0 (E'.lim hp.n) hp w' := hs.move (fun id hd => hst.dom id hd.2 hd.1) hl (hs.bel.trans (hst.hs.bel.mono hs.bel.size)) (fun id hd => by
                obtain ⟨ob, _, hok⟩ := hs.ob id hd
                exact hst.hs.bel.block _ hok.lt) (fun b hb => hst.hs.olds b hb) hst.hs.ro (fun _ _ => rfl) hs.le (hs.ys.keep hl hst.yb rfl (Nat.le_refl _) fun k hk => hst.hs.bel.block k (isO_lt hk))
              exact ⟨E'.lim hp.n, v, rfl, ⟨hl, hHS, Ext.refl _ _, fun id hid hd => hst.dom id hid hd.1, hst.oth, hst.yb⟩, flatD_ok hr hfl fun _ h => h⟩
            · rename_i m b hne
              cases h
              refine ⟨fun base hmu hb => hext base (mnorm_ok hmu hb) hb, fun W0 base S0 E w vs hmu hs hv => ?_⟩
              exact core W0 base S0 E w vs (mnorm_ok hmu hs.le) hs hv _ fun E' v w' hst hr => ⟨E', v, rfl, hst, hr⟩
          · cases h
        · cases h
      · cases h
    · cases h
/-- what a yield does is what its loop's text does -/
theorem yldE_ok {q : XF} (hq : ExecOk P T q) : YldOk P (yldE T q) := by
  intro k args hp r hp' mu h
  unfold yldE at h
  split at h
  · rename_i R hR
    split at h
    · rename_i hchk
      simp only [ychk, Bool.and_eq_true] at hchk
      obtain ⟨⟨c1, c2, c3⟩, c4⟩ := hchk
      have c4 := Nat.eq_of_beq_eq_true c4
      unfold yldE2 at h
      split at h
      · rename_i sl1 hp1 m1 hass
        split at h
        · rename_i R1 hR1
          split at h
          · rename_i hst0
            unfold yldE3 at h
            split at h
            · rename_i e sl2 hp2 m2 hbody
              split at h
              · rename_i R2 hR2
                cases h
                obtain ⟨x1, w1⟩ := hq R.nc R.ks R.assign _ _ _ _ _ _ hass c2
                obtain ⟨x2, w2⟩ := hq R.nc R.ks R.body _ _ _ _ _ _ hbody c3
                refine ⟨fun base hmu hb => ?_, fun W0 base S0 E w vs b D hmu hs hv hb => ?_⟩
                · obtain ⟨g1, g2⟩ := mutOk_mmin hmu
                  obtain ⟨g2, g3⟩ := mutOk_mmin g2
                  have e1 := x1 base g2 hb
                  have e2 := ext_lay hp1 (base := base) (k := k) g1 1 R1.pe
                  have e3 := x2 base g3 (Nat.le_trans hb (e1.trans e2).1)
                  exact ((e1.trans e2).trans e3).trans (ext_lay hp2 (base := base) (k := k) g1 _ _)
                · obtain ⟨g1, g2⟩ := mutOk_mmin hmu
                  obtain ⟨g2, g3⟩ := mutOk_mmin g2
                  have g1 : base ≤ k := g1
                  obtain ⟨b', D', r, p1, p2, p3, p4, p5, p6, p7, p8, p9, p10, p11, p12⟩ := hs.ys.ok k R hR
                  have hid := (lfind_mem hR).2
                  rw [hid, hb] at p1
                  cases p1
                  have hy := run_yield (P := P) (args := vs.toArray) p3 (by rw [p8]; simp [← hv.1, c4])
                  rw [p8, p9, p10] at hy
                  rw [List.zip_toArray, List.foldl_toArray] at hy
                  obtain ⟨z1, z2⟩ := putP_ok R.ps args vs R.sl r.tmps (ltAll_ok c1) p11 hv fun t d ht => (p12 t d ht).later (Env.cut_later _ _ _)
                  refine ⟨_, _, _, _, hy, roundIn_of_wpIn trivial ?_⟩
                  refine w1 ⟨some b, w.heap.size⟩ W0 base S0 E _ w _ ⟨hs, .nil _ _ (Nat.le_refl _), fun b0 hb0 => ?_, z1, z2⟩ g2 fun E1 a1 w1' hst1 hs1 => ?_
                  · cases hb0
                    exact ⟨rfl, k, D, hb, by rw [hR]; rfl⟩
                  obtain ⟨b1, D1, r1, s1, s2, s3, s4, s5, s6, s7⟩ := hs1.hs.ys.ok k R1 hR1
                  have hid1 := (lfind_mem hR1).2
                  have hb1 : E1.yb k = some (b, D) := by rw [hst1.yb]; exact hb
                  rw [hid1, hb1] at s1
                  cases s1
                  have hready : r1.state = .ready := by rw [s6, hst0]; rfl
                  refine ⟨_, run_beginRound s3 hready, ?_⟩
                  have hstb := stp_lay hs1.hs hR1 hb1 s3 g1 1 R1.pe
                  have hrec : ({ r1 with state := stOf 1, pending := R1.pe } : Loop) = { r1 with state := .busy } := by rw [← s7.1]; rfl
                  rw [hrec] at hstb
                  have hd1 := (hs1.ro b rfl).1
                  have hsb := hs1.step hstb
                  refine w2 ⟨some b, w.heap.size⟩ W0 base S0 E1 a1 _ _ hsb g3 fun E2 a2 w2' hst2 hs2 => ?_
                  obtain ⟨b2, D2, r2, u1, u2, u3, u4, u5⟩ := hs2.hs.ys.ok k R2 hR2
                  have hid2 := (lfind_mem hR2).2
                  have hb2 : E2.yb k = some (b, D) := by rw [hst2.yb]; exact hb1
                  rw [hid2, hb2] at u1
                  cases u1
                  have fin : ∀ (jump : Option Code), jump = jumpOf e → jump.isNone = goesOn e → ∃ v w3, (Instr.endRound b jump).run P w2' = .ok v w3 ∧ ∃ E' v', Ending.returned v = .returned v' ∧ Stp W0 base S0 E hp w E' (hp2.lay k (stE e) (jumpOf e)) w3 ∧ VR w3 E' (.bool (goesOn e)) v' := by
                    intro jump j1 j2
                    refine ⟨_, _, run_endRound jump u3, E2, _, rfl, ?_, by rw [j2]; exact .bool _ _⟩
                    have hstl := stp_lay hs2.hs hR2 hb2 u3 g1 (stE e) (jumpOf e)
                    have hrec2 : ({ r2 with state := stOf (stE e), pending := jumpOf e } : Loop) = { r2 with state := if jump.isNone then .ready else .done, pending := jump } := by
                      rw [j1]
                      cases e <;> rfl
                    rw [hrec2] at hstl
                    exact ((hst1.trans hstb).trans hst2).trans hstl
                  cases e with
                  | normal => exact fin none rfl rfl
                  | exit id => exact fin (some (.exit id)) rfl rfl
                  | ret => exact fin (some .ret) rfl rfl
              · cases h
            · cases h
          · cases h
        · cases h
      · cases h
    · cases h
  · cases h
theorem outOf_some {st : Nat} {pe : Option Code} {e : Ex} (h : outOf st pe = some e) : pe = jumpOf e ∧ stOf st ≠ .busy := by
  unfold outOf at h
  split at h <;> cases h <;> exact ⟨rfl, by simp [stOf]⟩
/-- a range over a function -/
theorem rngE_ok (hT : TabOk P T) (hF : FunOk P T F) (hC : ConOk P C) {q : XF} (hq : ExecOk P T q) {N : Nat} {ks : List (Nat × Nat)} {g : Operand} {ps : Array Tmp} {x y : Code} {sl : Slots} {hp : Hp} {e : Ex} {sl' : Slots} {hp' : Hp} {mu : Mut} (h : rngE T F C q ks g ps.toList x y sl hp = some (e, sl', hp', mu))
    (hchk : codeChk T N ks (.rangeFunc g ps x y) = true) : (∀ base, mutOk base mu → base ≤ hp.n → Ext base hp hp') ∧
    ∀ fm W0 base S0 E a w (Q : Exit → Act → World → Prop), Sim fm W0 base S0 E N sl hp a w → mutOk base mu → (∀ E' a' w', Stp W0 base S0 E hp w E' hp' w' → Sim fm W0 base S0 E' N sl' hp' a' w' → Q (exOf e) a' w') → (Code.rangeFunc g ps x y).wpIn (Fr fm.ro) 0 P Q a w := by
  have hcon := callE_ok hT hF hC hq
  unfold rngE at h
  split at h
  · rename_i f first captured nc hg hks
    split at h
    · have hnc : nc = N := by
        simp only [codeChk, hks, Bool.and_eq_true] at hchk
        exact Nat.eq_of_beq_eq_true hchk.1
      subst hnc
      unfold rngE2 at h
      split at h
      · rename_i d1 hp1 m1 hcall
        split at h
        · rename_i R ls hR hls
          split at h
          · rename_i e1 hout
            cases h
            obtain ⟨hf, hext, hc⟩ := hcon _ _ _ _ _ _ hcall
            obtain ⟨ho1, ho2⟩ := outOf_some hout
            have hbn : (hp.beg nc ks sl ps.toList x y).n = hp.n + 1 := rfl
            -- the loops that were there, as they stand now
            have hrel : (∀ i, (lfind i hp1.ls).map LS.stat = (lfind i (hp.beg nc ks sl ps.toList x y).ls).map LS.stat) → ∀ id R', id ≠ hp.n → lfind id ls = some R' → lfind id hp1.ls = some R' := by
              intro hx id R' hne hR'
              rcases lfind_relay (i := id) hls with ⟨_, h2⟩ | ⟨R0, R1, h1, h2, h3⟩
              · rw [hR'] at h2; cases h2
              · rw [hR'] at h3
                cases h3
                have := hx id
                rw [h2, lfind_beg, if_neg (fun e => hne e.symm), h1] at this
                have this : R1.stat = R0.stat := Option.some.inj this
                rw [h2]
                obtain ⟨i0, i1, i2, i3, i4, i5, i6, i7, i8⟩ := R0
                obtain ⟨j0, j1, j2, j3, j4, j5, j6, j7, j8⟩ := R1
                simp only [LS.stat, LS.mk.injEq, and_true] at this
                obtain ⟨rfl, rfl, rfl, rfl, rfl, rfl, rfl⟩ := this
                rfl
            have hE : ∀ base, mutOk base m1 → base ≤ hp.n → Ext base hp (hp1.wls ls) := by
              intro base hmu hb
              have e1 := hext base hmu (by rw [hbn]; omega)
              refine ⟨by have := e1.1; rw [hbn] at this; show hp.n ≤ hp1.n; omega, fun id hid => (e1.2 id hid).trans (Hp.get_beg _ _ _ _ _ _ _ id (by omega)), fun i => relay_stat i hls, fun i hi => ?_⟩
              show lfind i ls = lfind i hp.ls
              rcases lfind_relay (i := i) hls with ⟨h1, h2⟩ | ⟨R0, R1, h1, h2, h3⟩
              · rw [h1, h2]
              · have h4 := e1.4 i hi
                rw [h2, lfind_beg, if_neg (by omega), h1] at h4
                cases h4
                rw [h1, h3]
            refine ⟨fun base hmu hb => hE base (mnorm_ok hmu hb) hb, fun fm W0 base S0 E a w Q hs hmu hQ => ?_⟩
            have hmu := mnorm_ok hmu hs.hs.le
            obtain ⟨us, vs, hgv, hus, hvs⟩ := (ev_ok hs.sl hg).of_fn
            rw [hus.unnil] at hgv
            have hold : ∀ id b' D', E.yb id = some (b', D') → b' < w.heap.size ∧ D' < w.heap.size := fun id b' D' hb' => by
              obtain ⟨k1, k2⟩ := hs.hs.ys.lt id _ hb'
              cases h7 : lfind id hp.ls with
              | none => rw [h7] at k2; cases k2
              | some R7 =>
                obtain ⟨b7, D7, r7, p1, p2, p3, p4, p5⟩ := hs.hs.ys.ok id R7 h7
                rw [(lfind_mem h7).2, hb'] at p1
                cases p1
                exact ⟨(Array.getElem?_eq_some_iff.1 p3).1, (Array.getElem?_eq_some_iff.1 p4).1⟩
            refine wpIn_rangeFunc fun fn _ => ?_
            -- the record is laid
            obtain ⟨b, mk, w2, D, r, k1, k2, k3, k4, k5, k6, k7, k8, k9, k10, k11, k12, k13, k14⟩ : ∃ (b : Nat) (mk : List Deferred) (w2 : World) (D : Nat) (r : Loop), (Instr.enterLoop fn a.tmps ps x y (Fr fm.ro).round).run P w = .ok (b, mk) w2 ∧ w2.heap[b]? = some (.loop r) ∧ w2.heap[D]? = some (.deferred (some [])) ∧ r.defers = D ∧
                r.state = .ready ∧ r.pending = none ∧ r.params = ps ∧ r.assign = x ∧ r.body = y ∧ r.tmps = a.tmps ∧ HS W0 base S0 E hp w2 ∧ Later E w E w2 ∧ (w.heap.size ≤ b ∧ Oth w w2) ∧ ((mk = [] ∧ a.defers = [] ∧ fm.ro.isSome = true) ∨ (mk = [mark w.heap.size] ∧ D = w.heap.size ∧ fm.ro = none)) := by
              cases hro : fm.ro with
              | none =>
                have a1 := hs.hs.allocO (.deferred (some []))
                have a2 := a1.allocO (.loop { state := .ready, pending := none, fn, tmps := a.tmps, params := ps, assign := x, body := y, defers := w.heap.size })
                refine ⟨w.heap.size + 1, [mark w.heap.size], _, w.heap.size, { state := .ready, pending := none, fn, tmps := a.tmps, params := ps, assign := x, body := y, defers := w.heap.size }, run_enterLoop_outer _ _ _ _ _, ?_, ?_, rfl, rfl, rfl, rfl, rfl, rfl, rfl, a2, ?_, ⟨by omega, (oth_allocO _).trans (oth_allocO _)⟩, .inr ⟨rfl, rfl, rfl⟩⟩
                · have := World.alloc_heap_new (w.alloc (.deferred (some []))) (.loop { state := .ready, pending := none, fn, tmps := a.tmps, params := ps, assign := x, body := y, defers := w.heap.size })
                  rwa [World.size_alloc] at this
                · exact (Below.heap_alloc _ _ _ (by simp)).trans (World.alloc_heap_new w _)
                · exact (later_allocO E _ hs.hs.ro).trans (later_allocO E _ a1.ro)
              | some b0 =>
                obtain ⟨d1, id0, D0, d2, d3⟩ := hs.ro b0 hro
                cases h7 : lfind id0 hp.ls with
                | none => rw [h7] at d3; cases d3
                | some R7 =>
                  obtain ⟨b7, D7, r7, p1, p2, p3, p4, p5⟩ := hs.hs.ys.ok id0 R7 h7
                  rw [(lfind_mem h7).2, d2] at p1
                  cases p1
                  have a1 := hs.hs.allocO (.loop { state := .ready, pending := none, fn, tmps := a.tmps, params := ps, assign := x, body := y, defers := r7.defers })
                  refine ⟨w.heap.size, [], _, r7.defers, { state := .ready, pending := none, fn, tmps := a.tmps, params := ps, assign := x, body := y, defers := r7.defers }, run_enterLoop_inner p3 _ _ _ _ _, World.alloc_heap_new w _, ?_, rfl, rfl, rfl, rfl, rfl, rfl, rfl, a1, later_allocO E _ hs.hs.ro, ⟨Nat.le_refl _, oth_allocO _⟩, .inl ⟨rfl, d1, rfl⟩⟩
                  rw [p5.1]
                  exact (Below.heap_alloc _ _ _ (Array.getElem?_eq_some_iff.1 p4).1).trans p4
            have hW0 := hs.hs.bel.size
            have hsb : HS W0 base S0 (E.withY hp.n b D) (hp.beg nc ks sl ps.toList x y) w2 := k11.beg (by omega) k2 k3 k4 k5 k6 (by rw [k7]) k8 k9 (by rw [k10]; exact hs.size) (fun t d ht => by rw [k10]; exact (hs.sl t d ht).later k12) fun id b' D' hb' => by
              have := (hold id b' D' hb').1
              omega
            have hly := k11.ys.later_withY b D
            refine ⟨b, mk, w2, { target := .fn (.func f) vs.toArray, args := #[.func (.yield b) #[] #[]] }, w2, f, #[.func (.yield b) #[] #[]] ++ vs.toArray, w2, k1, ?_, fun _ _ => trivial, ?_, fun h => (by cases h), ?_⟩
            · simp only [resolve, hgv]
              simp [go_sem]
            · simp [invoke, go_sem, run_callFunc_ok hf]
            have hargs : VRs (E.withY hp.n b D) w2 (.yld hp.n :: captured) (.func (.yield b) #[] #[] :: vs) := .cons (.yld _ hp.n b D (by show (if hp.n = hp.n then _ else _) = _; rw [if_pos rfl])) (hvs.later (k12.trans hly))
            have hcc := hc W0 base S0 _ w2 _ hmu hsb hargs
            have he1 : (#[.func (.yield b) #[] #[]] ++ vs.toArray : Array Value) = (Value.func (.yield b) #[] #[] :: vs).toArray := by simp
            rw [he1]
            refine (callsIn_fr hcc).mono ?_
            rintro en w3 ⟨E', v, rfl, hst, _⟩
            -- it has come back
            have hRid := (lfind_mem hR).2
            obtain ⟨b3, D3, r3, p1, p2, p3, p4, p5, p6, p7, p8⟩ := hst.hs.ys.ok _ R hR
            have hyb : E'.yb hp.n = some (b, D) := by
              rw [hst.yb]
              show (if hp.n = hp.n then _ else _) = _
              rw [if_pos rfl]
            rw [hRid, hyb] at p1
            cases p1
            have hlE : ∀ id z, E.yb id = some z → (E'.cut hp.n).yb id = some z := fun id z hz => by
              have := (hs.hs.ys.lt id z hz).1
              show (if id < hp.n then E'.yb id else none) = some z
              rw [if_pos this, hst.yb]
              show (if id = hp.n then _ else E.yb id) = some z
              rw [if_neg (by omega)]
              exact hz
            have hyE : (E'.cut hp.n).yb = E.yb := by
              funext id
              cases hz : E.yb id with
              | some z => exact hlE id z hz
              | none =>
                show (if id < hp.n then E'.yb id else none) = none
                split
                · rw [hst.yb]
                  show (if id = hp.n then _ else E.yb id) = none
                  rw [if_neg (by omega)]
                  exact hz
                · rfl
            have hys : YsOk W0 base (E'.cut hp.n) (hp1.wls ls) w3 := by
              refine ⟨fun id R' hR' => ?_, fun i j c1 c2 c3 q1 q2 => ?_, fun id z hz => ?_⟩
              · replace hR' : lfind id ls = some R' := hR'
                have hlt : id < hp.n := by
                  rcases lfind_relay (i := id) hls with ⟨_, h2⟩ | ⟨R0, R1, h1, h2, h3⟩
                  · rw [hR'] at h2; cases h2
                  · exact hs.hs.ys.lsub h1
                have hR2 := hrel hst.ext.ls id R' (by omega) hR'
                have hid := (lfind_mem hR2).2
                obtain ⟨b4, D4, r4, q1, q2, q3, q4, q5, q6, q7, q8, q9, q10, q11, q12⟩ := hst.hs.ys.ok id R' hR2
                refine ⟨b4, D4, r4, ?_, q2, q3, q4, q5, q6, q7, q8, q9, q10, q11, fun t d ht => ?_⟩
                · show (if R'.id < hp.n then E'.yb R'.id else none) = _
                  rw [if_pos (by omega)]
                  exact q1
                · rw [Env.cut_cut _ (by omega)]
                  exact q12 t d ht
              · replace q1 : (if i < hp.n then E'.yb i else none) = some (c1, c2) := q1
                replace q2 : (if j < hp.n then E'.yb j else none) = some (c1, c3) := q2
                split at q1
                · split at q2
                  · exact hst.hs.ys.inj _ _ _ _ _ (by assumption) (by assumption)
                  · cases q2
                · cases q1
              · rw [hyE] at hz
                obtain ⟨q1, q2⟩ := hs.hs.ys.lt id z hz
                refine ⟨by have := hst.ext.1; rw [hbn] at this; show id < hp1.n; omega, ?_⟩
                have := congrArg Option.isSome (relay_stat id hls)
                simp only [Option.isSome_map] at this
                show (lfind id ls).isSome = true
                rw [this]
                exact q2
            have hs3 : HS W0 base S0 (E'.cut hp.n) (hp1.wls ls) w3 := hst.hs.cut (fun _ => rfl) rfl hys
            have hlp := later_putO (E'.cut hp.n) (o' := .loop { r3 with state := .exhausted }) p3 trivial trivial
            have hbo : ∀ id c1 c2, (E'.cut hp.n).yb id = some (c1, c2) → c1 ≠ b := fun id c1 c2 hz e => by
              rw [hyE] at hz
              have := (hold id c1 c2 hz).1
              have := k13.1
              omega
            have hs4 : HS W0 base S0 (E'.cut hp.n) (hp1.wls ls) (w3.putObj b (.loop { r3 with state := .exhausted })) := by
              refine hs3.putO p3 trivial trivial (by have := k13.1; omega) (fun _ => rfl) rfl ⟨fun id R' hR' => ?_, hys.inj, hys.lt⟩
              obtain ⟨b4, D4, r4, q1, q2, q3, q4, q5⟩ := hys.ok id R' hR'
              exact ⟨b4, D4, r4, q1, q2, (World.putObj_heap_other (hbo _ _ _ q1)).trans q3, (World.putObj_heap_other (fun e => by rw [e, p3] at q4; cases q4)).trans q4, q5.1, q5.2.1, q5.2.2.1, q5.2.2.2.1, q5.2.2.2.2.1, q5.2.2.2.2.2.1, q5.2.2.2.2.2.2.1, fun t d ht => (q5.2.2.2.2.2.2.2 t d ht).later (hlp.cut _)⟩
            have hl0 : Later E w (E'.cut hp.n) w3 := by
              have hl1 := (k12.trans hly).trans hst.later
              exact ⟨hl1.S, hl1.D, hl1.cell, hlE⟩
            have hoth : Oth w (w3.putObj b (.loop { r3 with state := .exhausted })) := (k13.2.trans hst.oth).trans (oth_putL p3)
            have hstp : Stp W0 base S0 E hp w (E'.cut hp.n) (hp1.wls ls) (w3.putObj b (.loop { r3 with state := .exhausted })) :=
              ⟨hl0.trans hlp, hs4, hE base hmu hs.hs.le, fun id hid hd => hst.dom id (by rw [hbn]; omega) hd, hoth, hyE⟩
            have hsim : Sim fm W0 base S0 (E'.cut hp.n) nc sl (hp1.wls ls) { a with defers := mk ++ a.defers } (w3.putObj b (.loop { r3 with state := .exhausted })) := by
              refine ⟨hs4, ?_, ?_, hs.size, fun t d ht => (hs.sl t d ht).later (hl0.trans hlp)⟩
              · rcases k14 with ⟨rfl, _, _⟩ | ⟨rfl, rfl, hro⟩
                · exact hs.dfr.step hoth hyE
                · obtain ⟨f0, ds, f1, f2, f3⟩ := hs.dfr
                  refine ⟨Nat.le_trans f0 hoth.1, w.heap.size :: ds, by simp [f1], ?_, fun D4 hD4 => ?_⟩
                  · rw [List.nodup_cons]
                    refine ⟨fun hm => ?_, f2⟩
                    have := (Array.getElem?_eq_some_iff.1 (f3 _ hm).2.2.1).1
                    omega
                  · rcases List.mem_cons.1 hD4 with rfl | hD4
                    · refine ⟨hW0, f0, (oth_putL p3).2 _ _ p4, fun id c1 c2 hz e => ?_⟩
                      rw [hyE] at hz
                      have := (hold id c1 c2 hz).2
                      omega
                    · obtain ⟨f4, f5, f6, f7⟩ := f3 D4 hD4
                      exact ⟨f4, f5, hoth.2 _ _ f6, by rw [hyE]; exact f7⟩
              · rcases k14 with ⟨rfl, _, _⟩ | ⟨rfl, rfl, hro⟩
                · exact hs.ro.step hyE (fun i => relay_stat i hls)
                · intro b0 hb0
                  rw [hro] at hb0
                  cases hb0
            have hend := run_endLoop (P := P) p3 (by rw [p6]; exact ho2)
            have hend2 : (Instr.endLoop b).run P w3 = .ok (jumpOf e) (w3.putObj b (.loop { r3 with state := .exhausted })) := by
              rw [← p7.trans ho1]
              exact hend
            refine ⟨jumpOf e, _, hend2, ?_⟩
            have hfin := hQ _ _ _ hstp hsim
            cases e with
            | normal => exact hfin
            | exit id => exact wpIn_exit hfin
            | ret => exact wpIn_ret hfin
          · cases h
        · cases h
      · cases h
    · cases h
  · cases h
theorem seqX_ok {r : XR} {q : Slots → Hp → XR} {e : Ex} {sl' : Slots} {hp' : Hp} {mu : Mut} (h : seqX r q = some (e, sl', hp', mu)) : (∃ sl1 hp1 m1 m2, r = some (.normal, sl1, hp1, m1) ∧ q sl1 hp1 = some (e, sl', hp', m2) ∧ mu = mmin m1 m2) ∨ (e ≠ .normal ∧ r = some (e, sl', hp', mu)) := by
  unfold seqX at h
  split at h
  · rename_i sl1 hp1 m1
    split at h
    · rename_i e2 sl2 hp2 m2 hq
      cases h
      exact .inl ⟨sl1, hp1, m1, m2, rfl, hq, rfl⟩
    · cases h
  · rename_i hne
    refine .inr ⟨fun he => ?_, h⟩
    subst he
    exact hne _ _ _ h
theorem exec_ok (hT : TabOk P T) (hmix : P.follows .mixedOrders = true) (hF : FunOk P T F) (hC : ConOk P C) : ∀ n, ExecOk P T (exec T F C n) ∧ LoopOk P T (exec T F C n) n
  | 0 => ⟨(by intro N ks c sl hp e sl' hp' mu h; cases h), (by intro N ks c sl hp e sl' hp' mu h; cases h)⟩
  | n + 1 => by
    obtain ⟨ih, ihl⟩ := exec_ok hT hmix hF hC n
    have hcall : CallOk P (callX T F C (exec T F C n)) := ⟨callE_ok hT hF hC ih, yldE_ok ih⟩
    have hloop : LoopOk P T (exec T F C (n + 1)) (n + 1) := by
      intro N ks c sl hp e sl' hp' mu h hchk
      have h : seqX (exec T F C n ks c sl hp) (exec T F C n ks (.loop c)) = some (e, sl', hp', mu) := h
      rcases seqX_ok h with ⟨sl1, hp1, m1, m2, h1, h2, rfl⟩ | ⟨hne, h1⟩
      · obtain ⟨x1, w1⟩ := ih N ks c _ _ _ _ _ _ h1 hchk
        obtain ⟨x2, w2⟩ := ihl N ks c _ _ _ _ _ _ h2 hchk
        refine ⟨fun base hmu hb => ?_, fun fm W0 base S0 E a w Q hs hmu hQ => ?_⟩
        · obtain ⟨q1, q2⟩ := mutOk_mmin hmu
          have e1 := x1 base q1 hb
          exact e1.trans (x2 base q2 (Nat.le_trans hb e1.1))
        · obtain ⟨q1, q2⟩ := mutOk_mmin hmu
          rw [roundsIn_succ]
          exact w1 fm W0 base S0 E a w _ hs q1 fun E' a' w' hst hs' => w2 fm W0 base S0 E' a' w' Q hs' q2 fun E2 a2 w2' hst2 hs2 => hQ E2 a2 w2' (hst.trans hst2) hs2
      · obtain ⟨x1, w1⟩ := ih N ks c _ _ _ _ _ _ h1 hchk
        refine ⟨x1, fun fm W0 base S0 E a w Q hs hmu hQ => ?_⟩
        rw [roundsIn_succ]
        refine w1 fm W0 base S0 E a w _ hs hmu fun E' a' w' hst hs' => ?_
        have := hQ E' a' w' hst hs'
        cases e with
        | normal => exact absurd rfl hne
        | exit id => exact this
        | ret => exact this
    refine ⟨?_, hloop⟩
    intro N ks c sl hp e sl' hp' mu h hchk
    rw [exec_succ] at h
    unfold exec1 at h
    split at h
    · cases h
      exact ⟨fun _ _ _ => Ext.refl _ _, fun fm W0 base S0 E a w Q hs _ hQ => wpIn_skip (hQ E a w (Stp.refl hs.hs) hs)⟩
    · cases h
      exact ⟨fun _ _ _ => Ext.refl _ _, fun fm W0 base S0 E a w Q hs _ hQ => wpIn_label (hQ E a w (Stp.refl hs.hs) hs)⟩
    · cases h
      exact ⟨fun _ _ _ => Ext.refl _ _, fun fm W0 base S0 E a w Q hs _ hQ => wpIn_ret (hQ E a w (Stp.refl hs.hs) hs)⟩
    · cases h
      exact ⟨fun _ _ _ => Ext.refl _ _, fun fm W0 base S0 E a w Q hs _ hQ => wpIn_exit (hQ E a w (Stp.refl hs.hs) hs)⟩
    · -- a region in the text's order
      rename_i id ops
      unfold regN at h
      split at h
      · rename_i sl2 hp2 m2 hreg
        cases h
        have hd : dstsOk N (ops.toList.map (·.dst)) = true := hchk
        refine ⟨fun base hmu hb => regE_ext hcall hreg base hmu hb, fun fm W0 base S0 E a w Q hs hmu hQ => wpIn_region_list ?_⟩
        exact regE_ok hT hcall rfl ops.toList _ _ _ _ _ E a w hreg hd hs hmu hQ
      · cases h
    · -- a region in any order
      rename_i id ops
      have hchk' : (dstsOk N (ops.toList.map (·.dst)) && (match assoc ks id with | some k => chkK T ops k | none => false)) = true := hchk
      simp only [Bool.and_eq_true] at hchk'
      obtain ⟨hd, hk⟩ := hchk'
      split at hk
      · rename_i k hks
        rw [hks] at h
        refine ⟨fun base hmu hb => ?_, fun fm W0 base S0 E a w Q hs hmu hQ => ?_⟩
        · exact regD_ext hcall (fun h => regP_ext hcall h) (fun h => regE_ext hcall h) h base hmu hb
        · obtain ⟨he, hwp⟩ := regD_ok (id := id) (ro := fm.ro) (Q := Q) hT hmix hcall hk hd h hs hmu (fun E' a' w' h1 h2 => by
            have he := regD_normal h
            subst he
            exact hQ E' a' w' h1 h2)
          exact hwp
      · cases hk
    · -- one behind the other
      rename_i x y
      have hchk' : (codeChk T N ks x && codeChk T N ks y) = true := hchk
      simp only [Bool.and_eq_true] at hchk'
      obtain ⟨hx, hy⟩ := hchk'
      rcases seqX_ok h with ⟨sl1, hp1, m1, m2, h1, h2, rfl⟩ | ⟨hne, h1⟩
      · obtain ⟨x1, w1⟩ := ih N ks x _ _ _ _ _ _ h1 hx
        obtain ⟨x2, w2⟩ := ih N ks y _ _ _ _ _ _ h2 hy
        refine ⟨fun base hmu hb => ?_, fun fm W0 base S0 E a w Q hs hmu hQ => wpIn_seq ?_⟩
        · obtain ⟨q1, q2⟩ := mutOk_mmin hmu
          have e1 := x1 base q1 hb
          exact e1.trans (x2 base q2 (Nat.le_trans hb e1.1))
        · obtain ⟨q1, q2⟩ := mutOk_mmin hmu
          exact w1 fm W0 base S0 E a w _ hs q1 fun E' a' w' hst hs' => w2 fm W0 base S0 E' a' w' Q hs' q2 fun E2 a2 w2' hst2 hs2 => hQ E2 a2 w2' (hst.trans hst2) hs2
      · obtain ⟨x1, w1⟩ := ih N ks x _ _ _ _ _ _ h1 hx
        refine ⟨x1, fun fm W0 base S0 E a w Q hs hmu hQ => wpIn_seq ?_⟩
        refine w1 fm W0 base S0 E a w _ hs hmu fun E' a' w' hst hs' => ?_
        have := hQ E' a' w' hst hs'
        cases e with
        | normal => exact absurd rfl hne
        | exit id => exact this
        | ret => exact this
    · -- one of two
      rename_i x y z
      have hchk' : (codeChk T N ks y && codeChk T N ks z) = true := hchk
      simp only [Bool.and_eq_true] at hchk'
      obtain ⟨hy, hz⟩ := hchk'
      unfold condX at h
      split at h
      · rename_i hc
        obtain ⟨x1, w1⟩ := ih N ks y _ _ _ _ _ _ h hy
        exact ⟨x1, fun fm W0 base S0 E a w Q hs hmu hQ => wpIn_cond_true (ev_ok hs.sl hc).of_bool (w1 fm W0 base S0 E a w Q hs hmu hQ)⟩
      · rename_i hc
        obtain ⟨x1, w1⟩ := ih N ks z _ _ _ _ _ _ h hz
        exact ⟨x1, fun fm W0 base S0 E a w Q hs hmu hQ => wpIn_cond_false (ev_ok hs.sl hc).of_bool (w1 fm W0 base S0 E a w Q hs hmu hQ)⟩
      · cases h
    · -- a block
      rename_i id x
      have hx : codeChk T N ks x = true := hchk
      unfold blockX at h
      split at h
      · rename_i i sl1 hp1 m1 hin
        obtain ⟨x1, w1⟩ := ih N ks x _ _ _ _ _ _ hin hx
        split at h
        · rename_i hb
          have hb := Nat.eq_of_beq_eq_true hb
          subst hb
          cases h
          refine ⟨x1, fun fm W0 base S0 E a w Q hs hmu hQ => wpIn_block ?_⟩
          refine w1 fm W0 base S0 E a w _ hs hmu fun E' a' w' hst hs' => ?_
          have := hQ E' a' w' hst hs'
          simpa [Exit.inBlock, exOf] using this
        · rename_i hb
          cases h
          refine ⟨x1, fun fm W0 base S0 E a w Q hs hmu hQ => wpIn_block ?_⟩
          refine w1 fm W0 base S0 E a w _ hs hmu fun E' a' w' hst hs' => ?_
          have := hQ E' a' w' hst hs'
          have hne : i ≠ id := fun e => by rw [beqT e] at hb; cases hb
          simpa [Exit.inBlock, exOf, hne] using this
      · rename_i hne
        obtain ⟨x1, w1⟩ := ih N ks x _ _ _ _ _ _ h hx
        refine ⟨x1, fun fm W0 base S0 E a w Q hs hmu hQ => wpIn_block ?_⟩
        refine w1 fm W0 base S0 E a w _ hs hmu fun E' a' w' hst hs' => ?_
        have := hQ E' a' w' hst hs'
        cases e with
        | normal => exact this
        | exit i => exact (hne _ _ _ _ h).elim
        | ret => exact this
    · -- a loop
      rename_i x
      have hx : codeChk T N ks x = true := hchk
      obtain ⟨x1, w1⟩ := hloop N ks x sl hp e sl' hp' mu h hx
      exact ⟨x1, fun fm W0 base S0 E a w Q hs hmu hQ => wpIn_loop_rounds (n + 1) (w1 fm W0 base S0 E a w Q hs hmu hQ)⟩
    · -- a scope
      rename_i x
      have hx : codeChk T N ks x = true := hchk
      obtain ⟨x1, w1⟩ := ih N ks x _ _ _ _ _ _ h hx
      refine ⟨x1, fun fm W0 base S0 E a w Q hs hmu hQ => wpIn_scope_straight ?_⟩
      refine w1 fm W0 base S0 E a w _ hs hmu fun E' a' w' hst hs' => ?_
      have := hQ E' a' w' hst hs'
      cases e with
      | normal => exact this
      | exit i => exact this
      | ret => exact this
    · -- a range over a function
      rename_i g ps x y
      exact rngE_ok hT hF hC ih h hchk
    · cases h
theorem noC_ok : ConOk P noC := fun f args hp r hp' mu h => by cases h
/-- a law without arguments -/
theorem closed_ok (hT : TabOk P T) (hmix : P.follows .mixedOrders = true) (hF : FunOk P T F) (hC : ConOk P C) {n : Nat} {f : FuncId} {hp' : Hp} {mu : Mut} (h : callE T F C (exec T F C n) f [] ⟨0, [], []⟩ = some (.bool true, hp', mu)) (hmu : mu = none) (w : World) :
    Calls P f #[] w fun e w' => e = .returned (.bool true) ∧ Below w.heap.size w w' := by
  subst hmu
  obtain ⟨_, _, hc⟩ := callE_ok hT hF hC (exec_ok hT hmix hF hC n).1 _ _ _ _ _ _ h
  have hs : HS w 0 (fun _ => False) (ro fun _ => False) ⟨0, [], []⟩ w := ⟨Below.refl _ _, fun _ h => h.elim, fun _ h => h.elim, fun _ h => h.elim, fun _ _ _ _ h => h.elim, fun _ h => h.elim, fun _ h => h.elim, Nat.le_refl _, .none rfl fun _ => rfl⟩
  refine (hc w 0 _ _ w [] trivial hs (.nil _ _)).mono ?_
  rintro e w' ⟨E', v, rfl, hst, hv⟩
  rw [hv.of_bool]
  exact ⟨rfl, hst.hs.bel⟩
end
end Go.Proofs.Ytoghpmeoekbcbaa
