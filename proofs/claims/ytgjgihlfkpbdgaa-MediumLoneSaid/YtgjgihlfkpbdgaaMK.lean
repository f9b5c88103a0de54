/- Texts along which the first K objects stay where they are. No function of the program is named here. -/
import Derived.Test.YtgjgihlfkpbdgaaMJ
namespace Go.Proofs.Ytgjgihlfkpbdgaa
open Go.RowKit

noncomputable section
variable {P : Program} {T : Tab}
/-- the first K objects lie where they lay -/
def Kept (K : Nat) (E E' : Env) : Prop := ∀ id, id < K → (E'.D id ↔ E.D id) ∧ (E.D id → E'.b id = E.b id ∧ E'.base id = E.base id ∧ E'.sz id = E.sz id ∧ (E'.X id ↔ E.X id))
theorem Kept.refl (K : Nat) (E : Env) : Kept K E E := fun _ _ => ⟨.rfl, fun _ => ⟨rfl, rfl, rfl, .rfl⟩⟩
theorem Kept.trans {K : Nat} {E E1 E2 : Env} (h : Kept K E E1) (k : Kept K E1 E2) : Kept K E E2 := fun id hid => by
  obtain ⟨h1, h2⟩ := h id hid
  obtain ⟨k1, k2⟩ := k id hid
  refine ⟨k1.trans h1, fun hd => ?_⟩
  obtain ⟨a1, a2, a3, a4⟩ := h2 hd
  obtain ⟨b1, b2, b3, b4⟩ := k2 (h1.2 hd)
  exact ⟨b1.trans a1, b2.trans a2, b3.trans a3, b4.trans a4⟩
structure GonK (K : Nat) (E : Env) (hp : Hp) (w : World) (E' : Env) (hp' : Hp) (w' : World) : Prop where
  g : Gon E hp w E' hp' w'
  k : K ≤ hp.n → K ≤ hp'.n ∧ Kept K E E'
theorem GonK.refl {K : Nat} (E : Env) (hp : Hp) (w : World) : GonK K E hp w E hp w := ⟨.refl _ _ _, fun h => ⟨h, .refl _ _⟩⟩
theorem GonK.trans {K : Nat} {E E1 E2 : Env} {hp h1 h2 : Hp} {w w1 w2 : World} (h : GonK K E hp w E1 h1 w1) (k : GonK K E1 h1 w1 E2 h2 w2) : GonK K E hp w E2 h2 w2 := ⟨h.g.trans k.g, fun hn => by
  obtain ⟨a1, a2⟩ := h.k hn
  obtain ⟨b1, b2⟩ := k.k a1
  exact ⟨b1, a2.trans b2⟩⟩
theorem stp_gonK {K : Nat} {W0 : World} {S0 : Nat → Prop} {E E' : Env} {hp hp' : Hp} {w w' : World} (h : Stp W0 0 S0 E hp w E' hp' w') : GonK K E hp w E' hp' w' := ⟨stp_gon h, fun hn => ⟨Nat.le_trans hn h.ext.le, fun id hid => ⟨⟨h.dom id (by omega), fun hd => (h.later.D id hd).1⟩, fun hd => (h.later.D id hd).2⟩⟩⟩
section
variable {K : Nat} {F : FTab} {C : ConF}
/-- all objects being the run's own: from (sl, hp) the text c comes to (sl', hp') by the exit e -/
def GoesK (K : Nat) (P : Program) (T : Tab) (ks : List (Nat × Nat)) (c : Code) (sl : Slots) (hp : Hp) (e : Ex) (sl' : Slots) (hp' : Hp) : Prop :=
  ∀ N, codeChk T N ks c = true → ∀ fm W0 S0 E a w (Q : Exit → Act → World → Prop), Sim fm W0 0 S0 E N sl hp a w →
    (∀ E' a' w', GonK K E hp w E' hp' w' → Sim fm W0 0 S0 E' N sl' hp' a' w' → Q (exOf e) a' w') → c.wpIn (Fr fm.ro) 0 P Q a w
/-- what is known may be seen otherwise, with nothing done -/
def SeenK (K : Nat) (sl : Slots) (hp : Hp) (sl' : Slots) (hp' : Hp) : Prop :=
  ∀ fm W0 S0 E N a w, Sim fm W0 0 S0 E N sl hp a w → ∃ E', GonK K E hp w E' hp' w ∧ Sim fm W0 0 S0 E' N sl' hp' a w
theorem SeenK.refl (sl : Slots) (hp : Hp) : SeenK K sl hp sl hp := fun _ _ _ E _ _ _ h => ⟨E, .refl _ _ _, h⟩
theorem SeenK.trans {s1 s2 s3 : Slots} {h1 h2 h3 : Hp} (h : SeenK K s1 h1 s2 h2) (k : SeenK K s2 h2 s3 h3) : SeenK K s1 h1 s3 h3 := by
  intro fm W0 S0 E N a w hs
  obtain ⟨E1, e1, hs1⟩ := h _ _ _ _ _ _ _ hs
  obtain ⟨E2, e2, hs2⟩ := k _ _ _ _ _ _ _ hs1
  exact ⟨E2, e1.trans e2, hs2⟩
theorem SeenK.kn {sl sl' : Slots} (h : Kn sl' sl) (hp : Hp) : SeenK K sl hp sl' hp := fun _ _ _ E _ _ _ hs => ⟨E, .refl _ _ _, hs.hs, hs.dfr, hs.ro, hs.size, fun t d ht => hs.sl t d (h.sle t d ht)⟩
theorem GoesK.pre {ks : List (Nat × Nat)} {c : Code} {s0 sl sl' : Slots} {h0 hp hp' : Hp} {e : Ex} (hw : SeenK K s0 h0 sl hp) (h : GoesK K P T ks c sl hp e sl' hp') : GoesK K P T ks c s0 h0 e sl' hp' := by
  intro N hN fm W0 S0 E a w Q hs hQ
  obtain ⟨E', hE, hs'⟩ := hw _ _ _ _ _ _ _ hs
  exact h N hN fm W0 S0 E' a w Q hs' fun E2 a2 w2 hl hs2 => hQ E2 a2 w2 (hE.trans hl) hs2
theorem GoesK.post {ks : List (Nat × Nat)} {c : Code} {sl s1 s2 : Slots} {hp h1 h2 : Hp} {e : Ex} (h : GoesK K P T ks c sl hp e s1 h1) (hw : SeenK K s1 h1 s2 h2) : GoesK K P T ks c sl hp e s2 h2 := by
  intro N hN fm W0 S0 E a w Q hs hQ
  refine h N hN fm W0 S0 E a w Q hs fun E1 a1 w1 hl hs1 => ?_
  obtain ⟨E2, hE, hs2⟩ := hw _ _ _ _ _ _ _ hs1
  exact hQ E2 a1 w1 (hl.trans hE) hs2
theorem GoesK.seq {ks : List (Nat × Nat)} {x y : Code} {sl s1 s2 : Slots} {hp h1 h2 : Hp} {e : Ex} (h : GoesK K P T ks x sl hp .normal s1 h1) (k : GoesK K P T ks y s1 h1 e s2 h2) : GoesK K P T ks (.seq x y) sl hp e s2 h2 := by
  intro N hN fm W0 S0 E a w Q hs hQ
  have hN' : (codeChk T N ks x && codeChk T N ks y) = true := hN
  simp only [Bool.and_eq_true] at hN'
  refine wpIn_seq (h N hN'.1 fm W0 S0 E a w _ hs fun E1 a1 w1 hl hs1 => ?_)
  exact k N hN'.2 fm W0 S0 E1 a1 w1 Q hs1 fun E2 a2 w2 hl2 hs2 => hQ E2 a2 w2 (hl.trans hl2) hs2
theorem GoesK.seqx {ks : List (Nat × Nat)} {x y : Code} {sl s1 : Slots} {hp h1 : Hp} {e : Ex} (h : GoesK K P T ks x sl hp e s1 h1) (hne : e ≠ .normal) : GoesK K P T ks (.seq x y) sl hp e s1 h1 := by
  intro N hN fm W0 S0 E a w Q hs hQ
  have hN' : (codeChk T N ks x && codeChk T N ks y) = true := hN
  simp only [Bool.and_eq_true] at hN'
  refine wpIn_seq (h N hN'.1 fm W0 S0 E a w _ hs fun E1 a1 w1 hl hs1 => ?_)
  have := hQ E1 a1 w1 hl hs1
  cases e with
  | normal => exact absurd rfl hne
  | exit id => exact this
  | ret => exact this
theorem GoesK.cond {ks : List (Nat × Nat)} {x : Operand} {y z : Code} {v : Bool} {sl s1 : Slots} {hp h1 : Hp} {e : Ex} (hv : ev sl x = some (.bool v)) (h : GoesK K P T ks (if v = true then y else z) sl hp e s1 h1) : GoesK K P T ks (.cond x y z) sl hp e s1 h1 := by
  intro N hN fm W0 S0 E a w Q hs hQ
  have hN' : (codeChk T N ks y && codeChk T N ks z) = true := hN
  simp only [Bool.and_eq_true] at hN'
  cases v with
  | true => exact wpIn_cond_true (ev_ok hs.hs.gl hs.sl hv).of_bool (h N hN'.1 fm W0 S0 E a w Q hs hQ)
  | false => exact wpIn_cond_false (ev_ok hs.hs.gl hs.sl hv).of_bool (h N hN'.2 fm W0 S0 E a w Q hs hQ)
theorem GoesK.block {ks : List (Nat × Nat)} {id : Nat} {x : Code} {sl s1 : Slots} {hp h1 : Hp} {e : Ex} (h : GoesK K P T ks x sl hp e s1 h1) (hne : ∀ i, e = .exit i → i ≠ id) : GoesK K P T ks (.block id x) sl hp e s1 h1 := by
  intro N hN fm W0 S0 E a w Q hs hQ
  refine wpIn_block (h N hN fm W0 S0 E a w _ hs fun E1 a1 w1 hl hs1 => ?_)
  have := hQ E1 a1 w1 hl hs1
  cases e with
  | normal => exact this
  | exit i => simpa [Exit.inBlock, exOf, hne i rfl] using this
  | ret => exact this
theorem GoesK.blockx {ks : List (Nat × Nat)} {id : Nat} {x : Code} {sl s1 : Slots} {hp h1 : Hp} (h : GoesK K P T ks x sl hp (.exit id) s1 h1) : GoesK K P T ks (.block id x) sl hp .normal s1 h1 := by
  intro N hN fm W0 S0 E a w Q hs hQ
  refine wpIn_block (h N hN fm W0 S0 E a w _ hs fun E1 a1 w1 hl hs1 => ?_)
  have := hQ E1 a1 w1 hl hs1
  simpa [Exit.inBlock, exOf] using this
theorem GoesK.scope {ks : List (Nat × Nat)} {x : Code} {sl s1 : Slots} {hp h1 : Hp} {e : Ex} (h : GoesK K P T ks x sl hp e s1 h1) : GoesK K P T ks (.scope x) sl hp e s1 h1 := by
  intro N hN fm W0 S0 E a w Q hs hQ
  refine wpIn_scope_straight (h N hN fm W0 S0 E a w _ hs fun E1 a1 w1 hl hs1 => ?_)
  have := hQ E1 a1 w1 hl hs1
  cases e with
  | normal => exact this
  | exit i => exact this
  | ret => exact this
/-- what a call answers, all objects being the caller's own -/
def AnsK (K : Nat) (P : Program) (f : FuncId) (args : List DV) (hp : Hp) (d : DV) (hp' : Hp) : Prop :=
  FnOk P f ∧ ∀ W0 S0 E w vs, HS W0 0 S0 E hp w → VRs E w args vs → Calls P f vs.toArray w fun e w' => ∃ E' v, e = .returned v ∧ GonK K E hp w E' hp' w' ∧ HS W0 0 S0 E' hp' w' ∧ VR w' E' d v
/-- a call within a region, no object being named behind it that was named before it -/
theorem GoesK.tail (hT : TabOk P T) {call : CallF} (hcall : CallOk P call) {ks : List (Nat × Nat)} {id : Nat} {ops : Array Oper} {pre post : List Oper} {o : Oper} (hops : ops.toList = pre ++ o :: post) {sl sl1 sl3 : Slots} {hp hp1 hp2 hp3 : Hp} {m1 m3 : Mut} {f : FuncId} {args : List DV} {d : DV} {live : List Nat}
    (h1 : regE T call (ops.toList.map (·.dst)) pre sl hp = some (sl1, hp1, m1)) (hg : gate (ops.toList.map (·.dst)) sl1 o.guard = some true) (ho : aop T hp1 sl1 o.op = .call f args) (hA : AnsK K P f args hp1 d hp2) (hlive : okLive sl1 live = true)
    (h2 : regE T call (ops.toList.map (·.dst)) post (putO (seeS live sl1) o.dst d) hp2 = some (sl3, hp3, m3)) : GoesK K P T ks (.region id ops false) sl hp .normal sl3 hp3 := by
  intro N hN fm W0 S0 E a w Q hs hQ
  have hd : dstsOk N (ops.toList.map (·.dst)) = true := hN
  have hd0 := dstsOk_spec hd
  refine wpIn_region_list ?_
  rw [hops]
  have e1 : ∀ t, some t ∈ pre.map (·.dst) → t < N := fun t ht => hd0 t (by rw [hops, List.map_append]; exact List.mem_append_left _ ht)
  have e2 : ∀ t, some t ∈ post.map (·.dst) → t < N := fun t ht => hd0 t (by rw [hops, List.map_append]; exact List.mem_append_right _ (List.mem_cons_of_mem _ ht))
  have e3 : ∀ t, o.dst = some t → t < N := fun t ht => hd0 t (by rw [hops, List.map_append]; exact List.mem_append_right _ (by rw [List.map_cons, ht]; exact List.mem_cons_self ..))
  refine regE2_ok hT hcall rfl pre _ _ _ _ _ E a w h1 (dstsOk_of e1) hs (by cases m1 <;> simp [mutOk]) fun E1 a1 w1 hst1 hs1 => ?_
  unfold wpListIn
  have hw := gate_ok (a := a1) (w := w1) (E := E1) rfl hg hs1.sl
  rw [if_pos hw]
  have hok := aop_ok (P := P) (o := o) hT hs1.hs hs1.sl
  have hnd := aop_nodefer (T := T) (hp := hp1) (sl := sl1) (o := o)
  rw [ho] at hok hnd
  refine ⟨fun _ _ => trivial, ?_⟩
  rw [Oper.semAt_eq (Fr fm.ro).round a1.eval o (hnd (by intro e; cases e))]
  obtain ⟨vs, hv, he⟩ := hok
  rw [he, run_callFunc_ok hA.1, Oper.uponIn_enter]
  refine ⟨fun h => (by cases h), (callsIn_fr (hA.2 W0 S0 E1 w1 vs hs1.hs hv)).mono ?_⟩
  rintro e w2 ⟨E2, v, rfl, hgon, hh, hr⟩
  have hs2 : Sim fm W0 0 S0 E2 N (putO (seeS live sl1) o.dst d) hp2 (a1.put o.dst v) w2 := by
    refine Sim.put ⟨hh, hs1.dfr.gon hgon.g, hs1.ro.gon hgon.g, hs1.size, fun t d ht => ?_⟩ e3 hr
    unfold seeS at ht
    rw [look_restr] at ht
    split at ht
    · rename_i hm
      exact okT_ok (hs1.sl t d ht) (okLive_at hlive (memN_mem hm) ht) hgon.g
    · cases ht
  exact regE_ok hT hcall rfl post _ _ _ _ _ E2 _ w2 h2 (dstsOk_of e2) hs2 (by cases m3 <;> simp [mutOk]) fun E3 a3 w3 hst3 hs3 => hQ E3 a3 w3 (((stp_gonK hst1).trans hgon).trans (stp_gonK hst3)) hs3
/-- a loop: n rounds, and one that leaves it -/
theorem GoesK.loop {ks : List (Nat × Nat)} {x : Code} (n : Nat) (S : Nat → Slots) (H : Nat → Hp) {s1 : Slots} {h1 : Hp} {e : Ex} (hr : ∀ k, k < n → GoesK K P T ks x (S k) (H k) .normal (S (k + 1)) (H (k + 1))) (hl : GoesK K P T ks x (S n) (H n) e s1 h1) (hne : e ≠ .normal) : GoesK K P T ks (.loop x) (S 0) (H 0) e s1 h1 := by
  intro N hN fm W0 S0 E a w Q hs hQ
  have hx : codeChk T N ks x = true := hN
  refine wpIn_loop_rounds (n + 1) ?_
  have key : ∀ m k, k + m = n → ∀ E1 a1 w1, GonK K E (H 0) w E1 (H k) w1 → Sim fm W0 0 S0 E1 N (S k) (H k) a1 w1 → Code.roundsIn (Fr fm.ro) 0 P x Q (m + 1) a1 w1 := by
    intro m
    induction m with
    | zero =>
      intro k hk E1 a1 w1 hl1 hs1
      obtain rfl : k = n := hk
      rw [roundsIn_succ]
      refine hl N hx fm W0 S0 E1 a1 w1 _ hs1 fun E2 a2 w2 hl2 hs2 => ?_
      have := hQ E2 a2 w2 (hl1.trans hl2) hs2
      cases e with
      | normal => exact absurd rfl hne
      | exit id => exact this
      | ret => exact this
    | succ m ih =>
      intro k hk E1 a1 w1 hl1 hs1
      rw [roundsIn_succ]
      refine hr k (by omega) N hx fm W0 S0 E1 a1 w1 _ hs1 fun E2 a2 w2 hl2 hs2 => ?_
      exact ih (k + 1) (by omega) E2 a2 w2 (hl1.trans hl2) hs2
  exact key n 0 (by omega) E a w (.refl _ _ _) hs
end
section
variable {K : Nat} {F : FTab} {C : ConF}
/-- m rounds at most, the last one leaving by e -/
def GoesRK (K : Nat) (P : Program) (T : Tab) (ks : List (Nat × Nat)) (x : Code) (m : Nat) (sl : Slots) (hp : Hp) (e : Ex) (s1 : Slots) (h1 : Hp) : Prop :=
  ∀ N, codeChk T N ks x = true → ∀ fm W0 S0 E a w (Q : Exit → Act → World → Prop), Sim fm W0 0 S0 E N sl hp a w →
    (∀ E' a' w', GonK K E hp w E' h1 w' → Sim fm W0 0 S0 E' N s1 h1 a' w' → Q (exOf e) a' w') → Code.roundsIn (Fr fm.ro) 0 P x Q m a w
theorem GoesRK.last {ks : List (Nat × Nat)} {x : Code} {sl s1 : Slots} {hp h1 : Hp} {e : Ex} (h : GoesK K P T ks x sl hp e s1 h1) (hne : e ≠ .normal) : GoesRK K P T ks x 1 sl hp e s1 h1 := by
  intro N hN fm W0 S0 E a w Q hs hQ
  rw [roundsIn_succ]
  refine h N hN fm W0 S0 E a w _ hs fun E2 a2 w2 hl2 hs2 => ?_
  have := hQ E2 a2 w2 hl2 hs2
  cases e with
  | normal => exact absurd rfl hne
  | exit id => exact this
  | ret => exact this
theorem GoesRK.step {ks : List (Nat × Nat)} {x : Code} {m : Nat} {sl s s1 : Slots} {hp h h1 : Hp} {e : Ex} (g : GoesK K P T ks x sl hp .normal s h) (k : GoesRK K P T ks x m s h e s1 h1) : GoesRK K P T ks x (m + 1) sl hp e s1 h1 := by
  intro N hN fm W0 S0 E a w Q hs hQ
  rw [roundsIn_succ]
  refine g N hN fm W0 S0 E a w _ hs fun E2 a2 w2 hl2 hs2 => ?_
  exact k N hN fm W0 S0 E2 a2 w2 Q hs2 fun E3 a3 w3 hl3 hs3 => hQ E3 a3 w3 (hl2.trans hl3) hs3
theorem GoesRK.pre {ks : List (Nat × Nat)} {x : Code} {m : Nat} {s0 sl s1 : Slots} {h0 hp h1 : Hp} {e : Ex} (hw : SeenK K s0 h0 sl hp) (h : GoesRK K P T ks x m sl hp e s1 h1) : GoesRK K P T ks x m s0 h0 e s1 h1 := by
  intro N hN fm W0 S0 E a w Q hs hQ
  obtain ⟨E', hE, hs'⟩ := hw _ _ _ _ _ _ _ hs
  exact h N hN fm W0 S0 E' a w Q hs' fun E2 a2 w2 hl hs2 => hQ E2 a2 w2 (hE.trans hl) hs2
theorem GoesRK.goes {ks : List (Nat × Nat)} {x : Code} {m : Nat} {sl s1 : Slots} {hp h1 : Hp} {e : Ex} (h : GoesRK K P T ks x m sl hp e s1 h1) : GoesK K P T ks (.loop x) sl hp e s1 h1 := by
  intro N hN fm W0 S0 E a w Q hs hQ
  have hx : codeChk T N ks x = true := hN
  exact wpIn_loop_rounds m (h N hx fm W0 S0 E a w Q hs hQ)
end
end
end Go.Proofs.Ytgjgihlfkpbdgaa
