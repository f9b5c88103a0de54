/- Texts along which the first K objects stay where they are. No function of the program is named here. -/
import Derived.Test.YtmnpkgonanpgfaaMJ
namespace Go.Proofs.Ytmnpkgonanpgfaa
open Go.RowKit

noncomputable section
variable {P : Program} {T : Tab}
/-- the first K objects lie where they lay -/
def Kept (K : Nat) (E E' : Env) : Prop := ∀ id, id < K → (E'.D id ↔ E.D id) ∧ (E.D id → E'.b id = E.b id ∧ E'.base id = E.base id ∧ E'.sz id = E.sz id ∧ (E'.X id ↔ E.X id))
theorem Kept.refl (K : Nat) (E : Env) : Kept K E E := fun _ _ => ⟨.rfl, fun _ => ⟨rfl, rfl, rfl, .rfl⟩⟩
theorem Kept.trans {K : Nat} {E E1 E2 : Env} (h : Kept K E E1) (k : Kept K E1 E2) : Kept K E E2 := fun id hid => by
  obtain ⟨h1, h2⟩ := h id hid
  obtain ⟨k1, k2⟩ := k id hid
  refine ⟨k1.trans h1, fun hd => ?_⟩
  obtain ⟨a1, a2, a3, a4⟩ := h2 hd
  obtain ⟨b1, b2, b3, b4⟩ := k2 (h1.2 hd)
  exact ⟨b1.trans a1, b2.trans a2, b3.trans a3, b4.trans a4⟩
structure GonK (K : Nat) (E : Env) (hp : Hp) (w : World) (E' : Env) (hp' : Hp) (w' : World) : Prop where
  g : Gon E hp w E' hp' w'
  k : K ≤ hp.n → K ≤ hp'.n ∧ Kept K E E'
theorem GonK.refl {K : Nat} (E : Env) (hp : Hp) (w : World) : GonK K E hp w E hp w := ⟨.refl _ _ _, fun h => ⟨h, .refl _ _⟩⟩
theorem GonK.trans {K : Nat} {E E1 E2 : Env} {hp h1 h2 : Hp} {w w1 w2 : World} (h : GonK K E hp w E1 h1 w1) (k : GonK K E1 h1 w1 E2 h2 w2) : GonK K E hp w E2 h2 w2 := ⟨h.g.trans k.g, fun hn => by
  obtain ⟨a1, a2⟩ := h.k hn
  obtain ⟨b1, b2⟩ := k.k a1
  exact ⟨b1, a2.trans b2⟩⟩
theorem stp_gonK {K : Nat} {W0 : World} {S0 : Nat → Prop} {E E' : Env} {hp hp' : Hp} {w w' : World} (h : Stp W0 0 S0 E hp w E' hp' w') : GonK K E hp w E' hp' w' := ⟨stp_gon h, fun hn => ⟨Nat.le_trans hn h.ext.le, fun id hid => ⟨⟨h.dom id (by omega), fun hd => (h.later.D id hd).1⟩, fun hd => (h.later.D id hd).2⟩⟩⟩
theorem DfrOk.gonK {K : Nat} {W0 : World} {fl : Nat} {E E' : Env} {hp hp' : Hp} {w w' : World} {dl : List Deferred} (h : DfrOk W0 fl E w dl) (g : GonK K E hp w E' hp' w') : DfrOk W0 fl E' w' dl := h.gon g.g
theorem RoOk.gonK {K : Nat} {fm : Fm} {E E' : Env} {hp hp' : Hp} {w w' : World} {dl : List Deferred} (h : RoOk fm E hp dl) (g : GonK K E hp w E' hp' w') : RoOk fm E' hp' dl := h.gon g.g
section
variable {K : Nat} {F : FTab} {C : ConF}
/-- all objects being the run's own: from (sl, hp) the text c comes to (sl', hp') by the exit e -/
def GoesK (K : Nat) (P : Program) (T : Tab) (ks : List (Nat × Nat)) (c : Code) (sl : Slots) (hp : Hp) (e : Ex) (sl' : Slots) (hp' : Hp) : Prop :=
  ∀ N, codeChk T N ks c = true → ∀ fm W0 S0 E a w (Q : Exit → Act → World → Prop), Sim fm W0 0 S0 E N sl hp a w →
    (∀ E' a' w', GonK K E hp w E' hp' w' → Sim fm W0 0 S0 E' N sl' hp' a' w' → Q (exOf e) a' w') → c.wpIn (Fr fm.ro) 0 P Q a w
/-- what is known may be seen otherwise, with nothing done -/
def SeenK (K : Nat) (sl : Slots) (hp : Hp) (sl' : Slots) (hp' : Hp) : Prop :=
  ∀ fm W0 S0 E N a w, Sim fm W0 0 S0 E N sl hp a w → ∃ E', GonK K E hp w E' hp' w ∧ Sim fm W0 0 S0 E' N sl' hp' a w
theorem SeenK.refl (sl : Slots) (hp : Hp) : SeenK K sl hp sl hp := fun _ _ _ E _ _ _ h => ⟨E, .refl _ _ _, h⟩
theorem SeenK.trans {s1 s2 s3 : Slots} {h1 h2 h3 : Hp} (h : SeenK K s1 h1 s2 h2) (k : SeenK K s2 h2 s3 h3) : SeenK K s1 h1 s3 h3 := by
  intro fm W0 S0 E N a w hs
  obtain ⟨E1, e1, hs1⟩ := h _ _ _ _ _ _ _ hs
  obtain ⟨E2, e2, hs2⟩ := k _ _ _ _ _ _ _ hs1
  exact ⟨E2, e1.trans e2, hs2⟩
theorem SeenK.kn {sl sl' : Slots} (h : Kn sl' sl) (hp : Hp) : SeenK K sl hp sl' hp := fun _ _ _ E _ _ _ hs => ⟨E, .refl _ _ _, hs.hs, hs.dfr, hs.ro, hs.size, fun t d ht => hs.sl t d (h.sle t d ht)⟩
theorem GoesK.pre {ks : List (Nat × Nat)} {c : Code} {s0 sl sl' : Slots} {h0 hp hp' : Hp} {e : Ex} (hw : SeenK K s0 h0 sl hp) (h : GoesK K P T ks c sl hp e sl' hp') : GoesK K P T ks c s0 h0 e sl' hp' := by
  intro N hN fm W0 S0 E a w Q hs hQ
  obtain ⟨E', hE, hs'⟩ := hw _ _ _ _ _ _ _ hs
  exact h N hN fm W0 S0 E' a w Q hs' fun E2 a2 w2 hl hs2 => hQ E2 a2 w2 (hE.trans hl) hs2
theorem GoesK.post {ks : List (Nat × Nat)} {c : Code} {sl s1 s2 : Slots} {hp h1 h2 : Hp} {e : Ex} (h : GoesK K P T ks c sl hp e s1 h1) (hw : SeenK K s1 h1 s2 h2) : GoesK K P T ks c sl hp e s2 h2 := by
  intro N hN fm W0 S0 E a w Q hs hQ
  refine h N hN fm W0 S0 E a w Q hs fun E1 a1 w1 hl hs1 => ?_
  obtain ⟨E2, hE, hs2⟩ := hw _ _ _ _ _ _ _ hs1
  exact hQ E2 a1 w1 (hl.trans hE) hs2
theorem goesK_exec (hT : TabOk P T) (hmix : P.follows .mixedOrders = true) (hF : FunOk P T F) (hC : ConOk P C) {n : Nat} {ks : List (Nat × Nat)} {c : Code} {sl sl' : Slots} {hp hp' : Hp} {e : Ex} {mu : Mut} (h : exec T F C n ks c sl hp = some (e, sl', hp', mu)) : GoesK K P T ks c sl hp e sl' hp' := by
  intro N hN fm W0 S0 E a w Q hs hQ
  obtain ⟨_, h2⟩ := (exec_ok hT hmix hF hC n).1 N ks c sl hp e sl' hp' mu h hN
  refine h2 fm W0 0 S0 E a w Q hs (by cases mu <;> simp [mutOk]) fun E' a' w' hst hs' => hQ E' a' w' (stp_gonK hst) hs'
theorem GoesK.seq {ks : List (Nat × Nat)} {x y : Code} {sl s1 s2 : Slots} {hp h1 h2 : Hp} {e : Ex} (h : GoesK K P T ks x sl hp .normal s1 h1) (k : GoesK K P T ks y s1 h1 e s2 h2) : GoesK K P T ks (.seq x y) sl hp e s2 h2 := by
  intro N hN fm W0 S0 E a w Q hs hQ
  have hN' : (codeChk T N ks x && codeChk T N ks y) = true := hN
  simp only [Bool.and_eq_true] at hN'
  refine wpIn_seq (h N hN'.1 fm W0 S0 E a w _ hs fun E1 a1 w1 hl hs1 => ?_)
  exact k N hN'.2 fm W0 S0 E1 a1 w1 Q hs1 fun E2 a2 w2 hl2 hs2 => hQ E2 a2 w2 (hl.trans hl2) hs2
theorem GoesK.seqx {ks : List (Nat × Nat)} {x y : Code} {sl s1 : Slots} {hp h1 : Hp} {e : Ex} (h : GoesK K P T ks x sl hp e s1 h1) (hne : e ≠ .normal) : GoesK K P T ks (.seq x y) sl hp e s1 h1 := by
  intro N hN fm W0 S0 E a w Q hs hQ
  have hN' : (codeChk T N ks x && codeChk T N ks y) = true := hN
  simp only [Bool.and_eq_true] at hN'
  refine wpIn_seq (h N hN'.1 fm W0 S0 E a w _ hs fun E1 a1 w1 hl hs1 => ?_)
  have := hQ E1 a1 w1 hl hs1
  cases e with
  | normal => exact absurd rfl hne
  | exit id => exact this
  | ret => exact this
theorem GoesK.cond {ks : List (Nat × Nat)} {x : Operand} {y z : Code} {v : Bool} {sl s1 : Slots} {hp h1 : Hp} {e : Ex} (hv : ev sl x = some (.bool v)) (h : GoesK K P T ks (if v = true then y else z) sl hp e s1 h1) : GoesK K P T ks (.cond x y z) sl hp e s1 h1 := by
  intro N hN fm W0 S0 E a w Q hs hQ
  have hN' : (codeChk T N ks y && codeChk T N ks z) = true := hN
  simp only [Bool.and_eq_true] at hN'
  cases v with
  | true => exact wpIn_cond_true (ev_ok hs.hs.gl hs.sl hv).of_bool (h N hN'.1 fm W0 S0 E a w Q hs hQ)
  | false => exact wpIn_cond_false (ev_ok hs.hs.gl hs.sl hv).of_bool (h N hN'.2 fm W0 S0 E a w Q hs hQ)
theorem GoesK.block {ks : List (Nat × Nat)} {id : Nat} {x : Code} {sl s1 : Slots} {hp h1 : Hp} {e : Ex} (h : GoesK K P T ks x sl hp e s1 h1) (hne : ∀ i, e = .exit i → i ≠ id) : GoesK K P T ks (.block id x) sl hp e s1 h1 := by
  intro N hN fm W0 S0 E a w Q hs hQ
  refine wpIn_block (h N hN fm W0 S0 E a w _ hs fun E1 a1 w1 hl hs1 => ?_)
  have := hQ E1 a1 w1 hl hs1
  cases e with
  | normal => exact this
  | exit i => simpa [Exit.inBlock, exOf, hne i rfl] using this
  | ret => exact this
theorem GoesK.blockx {ks : List (Nat × Nat)} {id : Nat} {x : Code} {sl s1 : Slots} {hp h1 : Hp} (h : GoesK K P T ks x sl hp (.exit id) s1 h1) : GoesK K P T ks (.block id x) sl hp .normal s1 h1 := by
  intro N hN fm W0 S0 E a w Q hs hQ
  refine wpIn_block (h N hN fm W0 S0 E a w _ hs fun E1 a1 w1 hl hs1 => ?_)
  have := hQ E1 a1 w1 hl hs1
  simpa [Exit.inBlock, exOf] using this
theorem GoesK.scope {ks : List (Nat × Nat)} {x : Code} {sl s1 : Slots} {hp h1 : Hp} {e : Ex} (h : GoesK K P T ks x sl hp e s1 h1) : GoesK K P T ks (.scope x) sl hp e s1 h1 := by
  intro N hN fm W0 S0 E a w Q hs hQ
  refine wpIn_scope_straight (h N hN fm W0 S0 E a w _ hs fun E1 a1 w1 hl hs1 => ?_)
  have := hQ E1 a1 w1 hl hs1
  cases e with
  | normal => exact this
  | exit i => exact this
  | ret => exact this
/-- what a call answers, all objects being the caller's own -/
def AnsK (K : Nat) (P : Program) (f : FuncId) (args : List DV) (hp : Hp) (d : DV) (hp' : Hp) : Prop :=
  FnOk P f ∧ ∀ W0 S0 E w vs, HS W0 0 S0 E hp w → VRs E w args vs → Calls P f vs.toArray w fun e w' => ∃ E' v, e = .returned v ∧ GonK K E hp w E' hp' w' ∧ HS W0 0 S0 E' hp' w' ∧ VR w' E' d v
/-- a call within a region, no object being named behind it that was named before it -/
theorem GoesK.tail (hT : TabOk P T) {call : CallF} (hcall : CallOk P call) {ks : List (Nat × Nat)} {id : Nat} {ops : Array Oper} {pre post : List Oper} {o : Oper} (hops : ops.toList = pre ++ o :: post) {sl sl1 sl3 : Slots} {hp hp1 hp2 hp3 : Hp} {m1 m3 : Mut} {f : FuncId} {args : List DV} {d : DV} {live : List Nat}
    (h1 : regE T call (ops.toList.map (·.dst)) pre sl hp = some (sl1, hp1, m1)) (hg : gate (ops.toList.map (·.dst)) sl1 o.guard = some true) (ho : aop T hp1 sl1 o.op = .call f args) (hA : AnsK K P f args hp1 d hp2) (hlive : okLive sl1 live = true)
    (h2 : regE T call (ops.toList.map (·.dst)) post (putO (seeS live sl1) o.dst d) hp2 = some (sl3, hp3, m3)) : GoesK K P T ks (.region id ops false) sl hp .normal sl3 hp3 := by
  intro N hN fm W0 S0 E a w Q hs hQ
  have hd : dstsOk N (ops.toList.map (·.dst)) = true := hN
  have hd0 := dstsOk_spec hd
  refine wpIn_region_list ?_
  rw [hops]
  have e1 : ∀ t, some t ∈ pre.map (·.dst) → t < N := fun t ht => hd0 t (by rw [hops, List.map_append]; exact List.mem_append_left _ ht)
  have e2 : ∀ t, some t ∈ post.map (·.dst) → t < N := fun t ht => hd0 t (by rw [hops, List.map_append]; exact List.mem_append_right _ (List.mem_cons_of_mem _ ht))
  have e3 : ∀ t, o.dst = some t → t < N := fun t ht => hd0 t (by rw [hops, List.map_append]; exact List.mem_append_right _ (by rw [List.map_cons, ht]; exact List.mem_cons_self ..))
  refine regE2_ok hT hcall rfl pre _ _ _ _ _ E a w h1 (dstsOk_of e1) hs (by cases m1 <;> simp [mutOk]) fun E1 a1 w1 hst1 hs1 => ?_
  unfold wpListIn
  have hw := gate_ok (a := a1) (w := w1) (E := E1) rfl hg hs1.sl
  rw [if_pos hw]
  have hok := aop_ok (P := P) (o := o) hT hs1.hs hs1.sl
  have hnd := aop_nodefer (T := T) (hp := hp1) (sl := sl1) (o := o)
  rw [ho] at hok hnd
  refine ⟨fun _ _ => trivial, ?_⟩
  rw [Oper.semAt_eq (Fr fm.ro).round a1.eval o (hnd (by intro e; cases e))]
  obtain ⟨vs, hv, he⟩ := hok
  rw [he, run_callFunc_ok hA.1, Oper.uponIn_enter]
  refine ⟨fun h => (by cases h), (callsIn_fr (hA.2 W0 S0 E1 w1 vs hs1.hs hv)).mono ?_⟩
  rintro e w2 ⟨E2, v, rfl, hgon, hh, hr⟩
  have hs2 : Sim fm W0 0 S0 E2 N (putO (seeS live sl1) o.dst d) hp2 (a1.put o.dst v) w2 := by
    refine Sim.put ⟨hh, hs1.dfr.gon hgon.g, hs1.ro.gon hgon.g, hs1.size, fun t d ht => ?_⟩ e3 hr
    unfold seeS at ht
    rw [look_restr] at ht
    split at ht
    · rename_i hm
      exact okT_ok (hs1.sl t d ht) (okLive_at hlive (memN_mem hm) ht) hgon.g
    · cases ht
  exact regE_ok hT hcall rfl post _ _ _ _ _ E2 _ w2 h2 (dstsOk_of e2) hs2 (by cases m3 <;> simp [mutOk]) fun E3 a3 w3 hst3 hs3 => hQ E3 a3 w3 (((stp_gonK hst1).trans hgon).trans (stp_gonK hst3)) hs3
/-- a loop: n rounds, and one that leaves it -/
theorem GoesK.loop {ks : List (Nat × Nat)} {x : Code} (n : Nat) (S : Nat → Slots) (H : Nat → Hp) {s1 : Slots} {h1 : Hp} {e : Ex} (hr : ∀ k, k < n → GoesK K P T ks x (S k) (H k) .normal (S (k + 1)) (H (k + 1))) (hl : GoesK K P T ks x (S n) (H n) e s1 h1) (hne : e ≠ .normal) : GoesK K P T ks (.loop x) (S 0) (H 0) e s1 h1 := by
  intro N hN fm W0 S0 E a w Q hs hQ
  have hx : codeChk T N ks x = true := hN
  refine wpIn_loop_rounds (n + 1) ?_
  have key : ∀ m k, k + m = n → ∀ E1 a1 w1, GonK K E (H 0) w E1 (H k) w1 → Sim fm W0 0 S0 E1 N (S k) (H k) a1 w1 → Code.roundsIn (Fr fm.ro) 0 P x Q (m + 1) a1 w1 := by
    intro m
    induction m with
    | zero =>
      intro k hk E1 a1 w1 hl1 hs1
      obtain rfl : k = n := hk
      rw [roundsIn_succ]
      refine hl N hx fm W0 S0 E1 a1 w1 _ hs1 fun E2 a2 w2 hl2 hs2 => ?_
      have := hQ E2 a2 w2 (hl1.trans hl2) hs2
      cases e with
      | normal => exact absurd rfl hne
      | exit id => exact this
      | ret => exact this
    | succ m ih =>
      intro k hk E1 a1 w1 hl1 hs1
      rw [roundsIn_succ]
      refine hr k (by omega) N hx fm W0 S0 E1 a1 w1 _ hs1 fun E2 a2 w2 hl2 hs2 => ?_
      exact ih (k + 1) (by omega) E2 a2 w2 (hl1.trans hl2) hs2
  exact key n 0 (by omega) E a w (.refl _ _ _) hs
end
def zLoopK (K : Nat) (P : Program) (T : Tab) (ks : List (Nat × Nat)) (a : Code) (sl : Slots) (hp : Hp) (other : Unit → ZR) (p : Yath) : ZR := match p with
  | (_, .l live e sl' hp') :: p' => some (e, sl', hp', p', [GoesK K P T ks (.loop a) (seeS live sl) hp e sl' hp'])
  | _ => other ()
def zRngK (K : Nat) (P : Program) (T : Tab) (ks : List (Nat × Nat)) (g : Operand) (ps : Array Tmp) (a b : Code) (sl : Slots) (hp : Hp) (other : Unit → ZR) (p : Yath) : ZR := match p with
  | (_, .l live e sl' hp') :: p' => some (e, sl', hp', p', [GoesK K P T ks (.rangeFunc g ps a b) (seeS live sl) hp e sl' hp'])
  | _ => other ()
def zSeeK (K : Nat) (id : Nat) (p : Yath) (c : ZF) (other : Unit → ZR) (d : Code) (sl : Slots) (hp : Hp) : ZR := match p with
  | (k, .s live sl' hp') :: p' => match Nat.beq k id with
    | true => match c d sl' hp' p' with
      | some (e, sl2, hp2, p2, cs) => some (e, sl2, hp2, p2, SeenK K (seeS live sl) hp sl' hp' :: cs)
      | none => none
    | false => other ()
  | _ => other ()
/-- a call within a region, by what it answers -/
def zTlK (K : Nat) (P : Program) (T : Tab) (F : FTab) (C : ConF) (m : Nat) (ops : Array Oper) (k : Nat) (live : List Nat) (d : DV) (hp2 : Hp) (sl : Slots) (hp : Hp) (p : Yath) : ZR := match ops.toList.drop k with
  | o :: post => match yyregE T C (callX T F C (exec T F C m)) (yycallX T F C (yyexec T F C m)) (ops.toList.map (·.dst)) (ops.toList.take k) sl hp p with
    | some (sl1, hp1, _, p1, c1) => match gate (ops.toList.map (·.dst)) sl1 o.guard, aop T hp1 sl1 o.op, okLive sl1 live with
      | some true, .call f args, true => match yyregE T C (callX T F C (exec T F C m)) (yycallX T F C (yyexec T F C m)) (ops.toList.map (·.dst)) post (putO (seeS live sl1) o.dst d) hp2 p1 with
        | some (sl3, hp3, _, p3, c3) => some (.normal, sl3, hp3, p3, c1 ++ (AnsK K P f args hp1 d hp2 :: c3))
        | none => none
      | _, _, _ => none
    | none => none
  | [] => none
def zRegK (K : Nat) (P : Program) (T : Tab) (F : FTab) (C : ConF) (m : Nat) (ks : List (Nat × Nat)) (id : Nat) (ops : Array Oper) (b : Bool) (sl : Slots) (hp : Hp) (p : Yath) : ZR := match b with
  | false => zCut id p (fun k live d hp2 p' => zTlK K P T F C m ops k live d hp2 sl hp p') (fun _ => zLeaf (yyexec T F C m ks (.region id ops false) sl hp p))
  | true => zLeaf (yyexec T F C m ks (.region id ops true) sl hp p)
def zzK1 (K : Nat) (P : Program) (T : Tab) (F : FTab) (C : ConF) (m : Nat) (ks : List (Nat × Nat)) (q : ZF) : ZF := fun c sl hp p => match c with
  | .seq a b => zSeq (q a sl hp p) (q b)
  | .cond x a b => zCond (ev sl x) (fun _ => q a sl hp p) (fun _ => q b sl hp p)
  | .block id a => zBlock id (q a sl hp p)
  | .loop a => zLoopK K P T ks a sl hp (fun _ => zLeaf (yyexec T F C m ks (.loop a) sl hp p)) p
  | .scope a => q a sl hp p
  | .region id ops b => zSeeK K id p q (fun _ => zRegK K P T F C m ks id ops b sl hp p) (.region id ops b) sl hp
  | .rangeFunc g ps a b => zRngK K P T ks g ps a b sl hp (fun _ => zLeaf (yyexec T F C m ks (.rangeFunc g ps a b) sl hp p)) p
  | c => zLeaf (yyexec T F C m ks c sl hp p)
def zzK (K : Nat) (P : Program) (T : Tab) (F : FTab) (C : ConF) (m : Nat) (ks : List (Nat × Nat)) (n : Nat) : ZF := Nat.rec (motive := fun _ => ZF) (fun _ _ _ _ => none) (fun _ ih => zzK1 K P T F C m ks ih) n
section
variable {K : Nat} {F : FTab} {C : ConF}
theorem zzK_succ (K : Nat) (P : Program) (T : Tab) (F : FTab) (C : ConF) (m : Nat) (ks : List (Nat × Nat)) (n : Nat) : zzK K P T F C m ks (n + 1) = zzK1 K P T F C m ks (zzK K P T F C m ks n) := rfl
theorem zLeafK_ok (hT : TabOk P T) (hmix : P.follows .mixedOrders = true) (hF : FunOk P T F) (hC : ConOk P C) {m : Nat} {ks : List (Nat × Nat)} {c : Code} {sl : Slots} {hp : Hp} {p : Yath} {e : Ex} {sl' : Slots} {hp' : Hp} {p' : Yath} {cs : List Prop} (h : zLeaf (yyexec T F C m ks c sl hp p) = some (e, sl', hp', p', cs)) (hc : AskedP cs) : GoesK K P T ks c sl hp e sl' hp' := by
  unfold zLeaf at h
  split at h
  · rename_i heq
    cases h
    exact goesK_exec hT hmix hF hC (yyexec_ok T F C m heq hc)
  · cases h
theorem zTlK_ok (hT : TabOk P T) (hmix : P.follows .mixedOrders = true) (hF : FunOk P T F) (hC : ConOk P C) {m k id : Nat} {live : List Nat} {d : DV} {hp2 : Hp} {ops : Array Oper} {ks : List (Nat × Nat)} {sl : Slots} {hp : Hp} {p : Yath} {e : Ex} {sl' : Slots} {hp' : Hp} {p' : Yath} {cs : List Prop} (h : zTlK K P T F C m ops k live d hp2 sl hp p = some (e, sl', hp', p', cs)) (hc : AskedP cs) : GoesK K P T ks (.region id ops false) sl hp e sl' hp' := by
  have hcall : CallOk P (callX T F C (exec T F C m)) := ⟨callE_ok hT hF hC (exec_ok hT hmix hF hC m).1, yldE_ok (exec_ok hT hmix hF hC m).1⟩
  have hqc := yycallX_ok (T := T) (F := F) (C := C) (yyexec_ok T F C m)
  unfold zTlK at h
  split at h
  · rename_i o post hdrop
    split at h
    · rename_i h1
      split at h
      · rename_i hg ho hlive
        split at h
        · rename_i h2
          cases h
          have hops : ops.toList = ops.toList.take k ++ o :: post := by rw [← hdrop, List.take_append_drop]
          exact GoesK.tail hT hcall hops (yyregE_ok hqc h1 hc.left) hg ho (hc.right _ (List.mem_cons_self ..)) hlive (yyregE_ok hqc h2 fun x hx => hc.right x (List.mem_cons_of_mem _ hx))
        · cases h
      · cases h
    · cases h
  · cases h
theorem zRegK_ok (hT : TabOk P T) (hmix : P.follows .mixedOrders = true) (hF : FunOk P T F) (hC : ConOk P C) {m id : Nat} {ops : Array Oper} {b : Bool} {ks : List (Nat × Nat)} {sl : Slots} {hp : Hp} {p : Yath} {e : Ex} {sl' : Slots} {hp' : Hp} {p' : Yath} {cs : List Prop} (h : zRegK K P T F C m ks id ops b sl hp p = some (e, sl', hp', p', cs)) (hc : AskedP cs) : GoesK K P T ks (.region id ops b) sl hp e sl' hp' := by
  unfold zRegK at h
  split at h
  · unfold zCut at h
    split at h
    · split at h
      · exact zTlK_ok hT hmix hF hC h hc
      · exact zLeafK_ok hT hmix hF hC h hc
    · exact zLeafK_ok hT hmix hF hC h hc
  · exact zLeafK_ok hT hmix hF hC h hc
theorem zzK_ok (hT : TabOk P T) (hmix : P.follows .mixedOrders = true) (hF : FunOk P T F) (hC : ConOk P C) {m : Nat} {ks : List (Nat × Nat)} : ∀ n ⦃c sl hp p e sl' hp' p' cs⦄, zzK K P T F C m ks n c sl hp p = some (e, sl', hp', p', cs) → AskedP cs → GoesK K P T ks c sl hp e sl' hp'
  | 0 => by intro c sl hp p e sl' hp' p' cs h; cases h
  | n + 1 => by
    have ih := zzK_ok hT hmix hF hC (m := m) (ks := ks) n
    intro c sl hp p e sl' hp' p' cs h hc
    rw [zzK_succ] at h
    unfold zzK1 at h
    split at h
    · unfold zSeq at h
      split at h
      · rename_i h1
        split at h
        · rename_i h2
          cases h
          exact (ih h1 hc.left).seq (ih h2 hc.right)
        · cases h
      · rename_i hne
        exact (ih h hc).seqx fun he => by
          subst he
          exact hne _ _ _ _ h
    · unfold zCond at h
      split at h
      · rename_i hv
        exact .cond hv (ih h hc)
      · rename_i hv
        exact .cond hv (ih h hc)
      · cases h
    · unfold zBlock at h
      split at h
      · rename_i h1
        split at h
        · rename_i hb
          cases h
          have := Nat.eq_of_beq_eq_true hb
          subst this
          exact .blockx (ih h1 hc)
        · rename_i hb
          cases h
          exact .block (ih h1 hc) fun i he hi => by
            cases he
            rw [beqT hi] at hb
            cases hb
      · rename_i hne
        exact .block (ih h hc) fun i he _ => by
          subst he
          exact hne _ _ _ _ _ h
    · unfold zLoopK at h
      split at h
      · cases h
        exact .pre (.kn (kn_restr _ _) _) (hc _ (List.mem_singleton.2 rfl))
      · exact zLeafK_ok hT hmix hF hC h hc
    · exact .scope (ih h hc)
    · unfold zSeeK at h
      split at h
      · split at h
        · split at h
          · rename_i h1
            cases h
            exact .pre ((SeenK.kn (kn_restr _ _) _).trans (hc _ (List.mem_cons_self ..))) (ih h1 fun x hx => hc x (List.mem_cons_of_mem _ hx))
          · cases h
        · exact zRegK_ok hT hmix hF hC h hc
      · exact zRegK_ok hT hmix hF hC h hc
    · unfold zRngK at h
      split at h
      · cases h
        exact .pre (.kn (kn_restr _ _) _) (hc _ (List.mem_singleton.2 rfl))
      · exact zLeafK_ok hT hmix hF hC h hc
    · exact zLeafK_ok hT hmix hF hC h hc
def zseeK (K : Nat) (P : Program) (T : Tab) (F : FTab) (C : ConF) (ks : List (Nat × Nat)) (live : List Nat) (c : Code) (sl : Slots) (hp : Hp) (p : Yath) : Option (Ex × Slots × Hp × List Prop) := zEnd live (zzK K P T F C 1000 ks 1000 c sl hp p)
theorem zseeK_ok (hT : TabOk P T) (hmix : P.follows .mixedOrders = true) (hF : FunOk P T F) (hC : ConOk P C) {ks : List (Nat × Nat)} {live : List Nat} {c : Code} {sl : Slots} {hp : Hp} {p : Yath} {e : Ex} {sl' : Slots} {hp' : Hp} {cs : List Prop} (h : zseeK K P T F C ks live c sl hp p = some (e, sl', hp', cs)) (hc : AskedP cs) : GoesK K P T ks c sl hp e sl' hp' := by
  unfold zseeK zEnd at h
  split at h
  · rename_i h1
    cases h
    exact (zzK_ok hT hmix hF hC 1000 h1 hc).post (.kn (kn_restr _ _) _)
  · cases h
theorem gonK_take {W0 : World} {S0 : Nat → Prop} {E E' : Env} {hp hp0 : Hp} {w0 w : World} {D : Nat} {x : Option (List Deferred)} (hs : HS W0 0 S0 E' hp w) (g : GonK K E hp0 w0 E' hp w) (hD : W0.heap.size ≤ D) (hD0 : w0.heap.size ≤ D) (hk : w.heap[D]? = some (.deferred x)) (hn : ∀ id b D', E'.yb id = some (b, D') → D' ≠ D) :
    HS W0 0 S0 E' hp (w.putObj D (.deferred none)) ∧ GonK K E hp0 w0 E' hp (w.putObj D (.deferred none)) ∧ Later E' w E' (w.putObj D (.deferred none)) := by
  obtain ⟨t1, t2, t3⟩ := gon_take hs g.g hD hD0 hk hn
  exact ⟨t1, ⟨t2, g.k⟩, t3⟩
theorem leavesK_ok (hT : TabOk P T) {g : Func} {ts : List ResultVar} (hr : g.results = ts.toArray) {W0 : World} {S0 : Nat → Prop} {E E' : Env} {N : Nat} {sl : Slots} {hp hp1 : Hp} {a : Act} {w w' : World} (hst : GonK K E hp w E' hp1 w') (hs : Sim ⟨none, w.heap.size⟩ W0 0 S0 E' N sl hp1 a w')
    {ds : List DV} (hds : resD T hp1 sl ts = some ds) {R : Ending → World → Prop} (hR : ∀ E' v w', GonK K E hp w E' hp1 w' → HS W0 0 S0 E' hp1 w' → VR w' E' (one ds) v → R (.returned v) w') : LeavesInM (Fr none) 0 P g a.tmps R a.defers .returning w' := by
  obtain ⟨h0, Ds, h1, h2, h3⟩ := hs.dfr
  clear h0
  rw [h1]
  have hsl := hs.sl
  have hhs := hs.hs
  clear h1 hs
  induction Ds generalizing w' with
  | nil =>
    obtain ⟨v, hv1, hv2⟩ := results_ok (P := P) hT hhs hsl hds hr
    exact ⟨v, hv1, hR E' v w' hst hhs hv2⟩
  | cons D Ds ih =>
    obtain ⟨q1, q2, q3, q4⟩ := h3 D (List.mem_cons_self ..)
    obtain ⟨t1, t2, t3⟩ := gonK_take hhs hst q1 q2 q3 q4
    have h2' := List.nodup_cons.1 h2
    refine ⟨by simp, .inl ⟨D, _, rfl, run_takeDeferred q3, ih t2 h2'.2 (fun D' hD' => ?_) (fun t d ht => (hsl t d ht).later t3) t1⟩⟩
    obtain ⟨r1, r2, r3, r4⟩ := h3 D' (List.mem_cons_of_mem _ hD')
    exact ⟨r1, r2, (World.putObj_heap_other (fun e => h2'.1 (by rw [← e]; exact hD'))).trans r3, r4⟩
theorem ansK_of_goes (hT : TabOk P T) (hF : FunOk P T F) {f : FuncId} {fn : FnT} {args : List DV} {hp : Hp} {e : Ex} {sl' : Slots} {hp' : Hp} {ds : List DV} (hfn : F f = some fn) (hlen : Nat.ble args.length fn.nt = true) (h : GoesK K P T fn.ks fn.body (initS fn.nt args) hp e sl' hp') (hex : ∀ i, e ≠ .exit i) (hds : resD T hp' sl' fn.res = some ds) : AnsK K P f args hp (one ds) hp' := by
  obtain ⟨g, g1, g2, g3, g4, g5, g6⟩ := hF f fn hfn
  have hlen := Nat.le_of_ble_eq_true hlen
  refine ⟨⟨g, g1, by rw [g2]; rfl, g3⟩, fun W0 S0 E w vs hs hv => ?_⟩
  refine calls_fr (ro := none) (callsIn_of_wp_marks g1 g2 trivial ?_ rfl)
  have hl := hv.1
  have hsim : Sim ⟨none, w.heap.size⟩ W0 0 S0 E fn.nt (initS fn.nt args) hp { tmps := vs.toArray ++ Array.replicate (g.ntmps - vs.toArray.size) undef, defers := [] } w := by
    refine ⟨hs, .nil _ _ (Nat.le_refl _), fun b hb => (by cases hb), (by simp; omega), fun t d ht => ?_⟩
    obtain ⟨v, hv1, hv2⟩ := hv.get (look_initS ht)
    have hlt := (List.getElem?_eq_some_iff.1 hv1).1
    have : (vs.toArray ++ Array.replicate (g.ntmps - vs.toArray.size) undef).getD t undef = v := by
      rw [Array.getD_eq_getD_getElem?, Array.getElem?_append_left (by simpa using hlt)]
      simp [hv1]
    rw [this]
    exact hv2
  refine h fn.nt g6 ⟨none, w.heap.size⟩ W0 S0 E _ w _ hsim fun E' a' w' hl hs' => ?_
  have hlv := leavesK_ok (ds := ds) (R := fun e w' => ∃ E' v, e = .returned v ∧ GonK K E hp w E' hp' w' ∧ HS W0 0 S0 E' hp' w' ∧ VR w' E' (one ds) v) hT g4 hl hs' hds fun E' v w' h1 h2 h3 => ⟨E', v, rfl, h1, h2, h3⟩
  cases e with
  | normal => exact hlv
  | ret => exact hlv
  | exit id => exact (hex id rfl).elim
/-- m rounds at most, the last one leaving by e -/
def GoesRK (K : Nat) (P : Program) (T : Tab) (ks : List (Nat × Nat)) (x : Code) (m : Nat) (sl : Slots) (hp : Hp) (e : Ex) (s1 : Slots) (h1 : Hp) : Prop :=
  ∀ N, codeChk T N ks x = true → ∀ fm W0 S0 E a w (Q : Exit → Act → World → Prop), Sim fm W0 0 S0 E N sl hp a w →
    (∀ E' a' w', GonK K E hp w E' h1 w' → Sim fm W0 0 S0 E' N s1 h1 a' w' → Q (exOf e) a' w') → Code.roundsIn (Fr fm.ro) 0 P x Q m a w
theorem GoesRK.last {ks : List (Nat × Nat)} {x : Code} {sl s1 : Slots} {hp h1 : Hp} {e : Ex} (h : GoesK K P T ks x sl hp e s1 h1) (hne : e ≠ .normal) : GoesRK K P T ks x 1 sl hp e s1 h1 := by
  intro N hN fm W0 S0 E a w Q hs hQ
  rw [roundsIn_succ]
  refine h N hN fm W0 S0 E a w _ hs fun E2 a2 w2 hl2 hs2 => ?_
  have := hQ E2 a2 w2 hl2 hs2
  cases e with
  | normal => exact absurd rfl hne
  | exit id => exact this
  | ret => exact this
theorem GoesRK.step {ks : List (Nat × Nat)} {x : Code} {m : Nat} {sl s s1 : Slots} {hp h h1 : Hp} {e : Ex} (g : GoesK K P T ks x sl hp .normal s h) (k : GoesRK K P T ks x m s h e s1 h1) : GoesRK K P T ks x (m + 1) sl hp e s1 h1 := by
  intro N hN fm W0 S0 E a w Q hs hQ
  rw [roundsIn_succ]
  refine g N hN fm W0 S0 E a w _ hs fun E2 a2 w2 hl2 hs2 => ?_
  exact k N hN fm W0 S0 E2 a2 w2 Q hs2 fun E3 a3 w3 hl3 hs3 => hQ E3 a3 w3 (hl2.trans hl3) hs3
theorem GoesRK.pre {ks : List (Nat × Nat)} {x : Code} {m : Nat} {s0 sl s1 : Slots} {h0 hp h1 : Hp} {e : Ex} (hw : SeenK K s0 h0 sl hp) (h : GoesRK K P T ks x m sl hp e s1 h1) : GoesRK K P T ks x m s0 h0 e s1 h1 := by
  intro N hN fm W0 S0 E a w Q hs hQ
  obtain ⟨E', hE, hs'⟩ := hw _ _ _ _ _ _ _ hs
  exact h N hN fm W0 S0 E' a w Q hs' fun E2 a2 w2 hl hs2 => hQ E2 a2 w2 (hE.trans hl) hs2
theorem GoesRK.goes {ks : List (Nat × Nat)} {x : Code} {m : Nat} {sl s1 : Slots} {hp h1 : Hp} {e : Ex} (h : GoesRK K P T ks x m sl hp e s1 h1) : GoesK K P T ks (.loop x) sl hp e s1 h1 := by
  intro N hN fm W0 S0 E a w Q hs hQ
  have hx : codeChk T N ks x = true := hN
  exact wpIn_loop_rounds m (h N hx fm W0 S0 E a w Q hs hQ)
/-- a text's end, the objects L being kept, the first K among them at their places -/
def pre0 : Nat → Nat → List Nat → Bool
  | 0, _, _ => true
  | _ + 1, _, [] => false
  | K + 1, i, a :: L => Nat.beq a i && pre0 K (i + 1) L
theorem pre0_ok : ∀ {K i : Nat} {L : List Nat}, pre0 K i L = true → ∀ id, id < K → L[id]? = some (i + id)
  | 0, _, _, _, id, h => absurd h (Nat.not_lt_zero _)
  | _ + 1, _, [], h, _, _ => by cases h
  | K + 1, i, a :: L, h, id, hid => by
    simp only [pre0, Bool.and_eq_true] at h
    obtain ⟨h1, h2⟩ := h
    have h1 := Nat.eq_of_beq_eq_true h1
    subst h1
    cases id with
    | zero => rfl
    | succ id =>
      have := pre0_ok h2 id (by omega)
      simp only [List.getElem?_cons_succ, this, Option.some.injEq]
      omega
theorem kept_melt {E : Env} {L : List Nat} {hp : Hp} (h : pre0 K 0 L = true) : Kept K E (meltE E L hp) := fun id hid => by
  have hL := pre0_ok h id hid
  rw [Nat.zero_add] at hL
  have hg : L.getD id 0 = id := by simp [List.getD, hL]
  refine ⟨⟨fun hd => ?_, fun hd => ⟨id, hL, hd⟩⟩, fun hd => ⟨congrArg E.b hg, congrArg E.base hg, congrArg E.sz hg, ?_⟩⟩
  · obtain ⟨i, h1, h2⟩ := hd
    rw [hL] at h1
    cases h1
    exact h2
  · constructor
    · rintro ⟨i, h1, h2⟩
      rw [hL] at h1
      cases h1
      exact h2
    · exact fun hx => ⟨id, hL, hx⟩
theorem pre0_le {L fl : List Nat} {hp hp' : Hp} (hK : pre0 K 0 L = true) (h : renHC L fl hp = some hp') : K ≤ hp'.n := by
  have hn : hp'.n = L.length := by
    unfold renHC at h
    split at h
    · cases h
      rfl
    · cases h
  rw [hn]
  cases K with
  | zero => exact Nat.zero_le _
  | succ k =>
    have := pre0_ok hK k (Nat.lt_succ_self k)
    exact (List.getElem?_eq_some_iff.1 this).1
theorem seenK_renC {L fl : List Nat} {sl : Slots} {hp hp' : Hp} (hK : pre0 K 0 L = true) (hfl : FlatIn fl hp) (h : renHC L fl hp = some hp') : SeenK K sl hp (renS L sl) hp' := fun _ _ _ E _ _ w hs =>
  have hm := renHC_melt hfl h
  ⟨meltE E L hp, ⟨gon_melt hm E w, fun _ => ⟨pre0_le hK h, kept_melt hK⟩⟩, hs_melt hs.hs hm, hs.dfr.gon (gon_melt hm E w), hs.ro.gon (gon_melt hm E w), hs.size, fun t d ht => by
    obtain ⟨d0, h1, h2⟩ := look_renS ht
    exact mlt_ok hs.hs (ren3_mlt h2) (hs.sl t d0 h1)⟩
def zgmK (K : Nat) (L fl : List Nat) : Option (Ex × Slots × Hp × List Prop) → Option (Ex × Slots × Hp × List Prop)
  | some (e, sl, hp, cs) => match pre0 K 0 L, renHC L fl hp with
    | true, some hp' => some (e, renS L sl, hp', FlatIn fl hp :: cs)
    | _, _ => none
  | none => none
theorem zgmK_ok (hT : TabOk P T) (hmix : P.follows .mixedOrders = true) (hF : FunOk P T F) (hC : ConOk P C) {ks : List (Nat × Nat)} {live : List Nat} {c : Code} {sl : Slots} {hp : Hp} {p : Yath} {L fl : List Nat} {e : Ex} {sl' : Slots} {hp' : Hp} {cs : List Prop} (h : zgmK K L fl (zseeK K P T F C ks live c sl hp p) = some (e, sl', hp', cs)) (hc : AskedP cs) : GoesK K P T ks c sl hp e sl' hp' := by
  unfold zgmK at h
  split at h
  · rename_i h1
    split at h
    · rename_i h2 h3
      cases h
      exact (zseeK_ok hT hmix hF hC h1 fun x hx => hc x (List.mem_cons_of_mem _ hx)).post (seenK_renC h2 (hc _ (List.mem_cons_self ..)) h3)
    · cases h
  · cases h
end
end
end Go.Proofs.Ytmnpkgonanpgfaa
