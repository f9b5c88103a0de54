/- What a text does, from one shape of slots and objects to another: rules; loops. No function of the program is named here. -/
import Derived.Test.YtoghpmeoekbcbaaV27
namespace Go.Proofs.Ytoghpmeoekbcbaa
open Go.RowKit

noncomputable section
variable {P : Program} {T : Tab} {F : FTab} {C : ConF}
/-! ### What is to be shown -/
def AskedP (c : List Prop) : Prop := ∀ x ∈ c, x
theorem AskedP.left {a b : List Prop} (h : AskedP (a ++ b)) : AskedP a := fun x hx => h x (by simp [hx])
theorem AskedP.right {a b : List Prop} (h : AskedP (a ++ b)) : AskedP b := fun x hx => h x (by simp [hx])
theorem AskedP.nil : AskedP [] := fun _ h => by cases h
theorem AskedP.cons {x : Prop} {b : List Prop} (h : x) (k : AskedP b) : AskedP (x :: b) := fun y hy => by
  rcases List.mem_cons.1 hy with rfl | hy
  · exact h
  · exact k y hy
theorem AskedP.app {a b : List Prop} (h : AskedP a) (k : AskedP b) : AskedP (a ++ b) := fun x hx => by
  rcases List.mem_append.1 hx with hx | hx
  · exact h x hx
  · exact k x hx
/-- on from one place to another -/
structure Gon (E : Env) (hp : Hp) (w : World) (E' : Env) (hp' : Hp) (w' : World) : Prop where
  later : Later (ro E.S) w (ro E'.S) w'
  oth : Oth w w'
  yb : E'.yb = E.yb
  dm : ∀ i, (lfind i hp'.ls).isSome = (lfind i hp.ls).isSome
theorem Gon.refl (E : Env) (hp : Hp) (w : World) : Gon E hp w E hp w := ⟨Later.refl _ _, Oth.refl _, rfl, fun _ => rfl⟩
theorem Gon.trans {E E1 E2 : Env} {hp h1 h2 : Hp} {w w1 w2 : World} (h : Gon E hp w E1 h1 w1) (k : Gon E1 h1 w1 E2 h2 w2) : Gon E hp w E2 h2 w2 := ⟨h.later.trans k.later, h.oth.trans k.oth, k.yb.trans h.yb, fun i => (k.dm i).trans (h.dm i)⟩
theorem later_up {E E' : Env} (h : ∀ b, E.S b → E'.S b) (w : World) : Later (ro E.S) w (ro E'.S) w := ⟨h, fun _ h => h.elim, fun _ _ => rfl, fun _ _ h => by cases h⟩
theorem Gon.up {E E' : Env} (h : ∀ b, E.S b → E'.S b) (hy : E'.yb = E.yb) {hp hp' : Hp} (hd : ∀ i, (lfind i hp'.ls).isSome = (lfind i hp.ls).isSome) (w : World) : Gon E hp w E' hp' w := ⟨later_up h w, Oth.refl _, hy, hd⟩
theorem stp_gon {W0 : World} {S0 : Nat → Prop} {E E' : Env} {hp hp' : Hp} {w w' : World} (h : Stp W0 0 S0 E hp w E' hp' w') : Gon E hp w E' hp' w' := ⟨h.later.ro_ro, h.oth, h.yb, fun i => by
  have := congrArg Option.isSome (h.ext.ls i)
  simpa only [Option.isSome_map] using this⟩
theorem DfrOk.gon {W0 : World} {fl : Nat} {E E' : Env} {hp hp' : Hp} {w w' : World} {dl : List Deferred} (h : DfrOk W0 fl E w dl) (g : Gon E hp w E' hp' w') : DfrOk W0 fl E' w' dl := h.step g.oth g.yb
theorem RoOk.gon {fm : Fm} {E E' : Env} {hp hp' : Hp} {w w' : World} {dl : List Deferred} (h : RoOk fm E hp dl) (g : Gon E hp w E' hp' w') : RoOk fm E' hp' dl := fun b hb => by
  obtain ⟨h1, id, D, h2, h3⟩ := h b hb
  exact ⟨h1, id, D, by rw [g.yb]; exact h2, by rw [g.dm]; exact h3⟩
/-- all objects being the run's own: from (sl, hp) the text c comes to (sl', hp') by the exit e -/
def Goes (P : Program) (T : Tab) (ks : List (Nat × Nat)) (c : Code) (sl : Slots) (hp : Hp) (e : Ex) (sl' : Slots) (hp' : Hp) : Prop :=
  ∀ N, codeChk T N ks c = true → ∀ fm W0 S0 E a w (Q : Exit → Act → World → Prop), Sim fm W0 0 S0 E N sl hp a w →
    (∀ E' a' w', Gon E hp w E' hp' w' → Sim fm W0 0 S0 E' N sl' hp' a' w' → Q (exOf e) a' w') → c.wpIn (Fr fm.ro) 0 P Q a w
/-- what is known may be seen otherwise, with nothing done -/
def Seen (sl : Slots) (hp : Hp) (sl' : Slots) (hp' : Hp) : Prop :=
  ∀ fm W0 S0 E N a w, Sim fm W0 0 S0 E N sl hp a w → ∃ E', Gon E hp w E' hp' w ∧ Sim fm W0 0 S0 E' N sl' hp' a w
theorem Seen.refl (sl : Slots) (hp : Hp) : Seen sl hp sl hp := fun _ _ _ E _ _ _ h => ⟨E, .refl _ _ _, h⟩
theorem Seen.trans {s1 s2 s3 : Slots} {h1 h2 h3 : Hp} (h : Seen s1 h1 s2 h2) (k : Seen s2 h2 s3 h3) : Seen s1 h1 s3 h3 := by
  intro fm W0 S0 E N a w hs
  obtain ⟨E1, e1, hs1⟩ := h _ _ _ _ _ _ _ hs
  obtain ⟨E2, e2, hs2⟩ := k _ _ _ _ _ _ _ hs1
  exact ⟨E2, e1.trans e2, hs2⟩
theorem Seen.kn {sl sl' : Slots} (h : Kn sl' sl) (hp : Hp) : Seen sl hp sl' hp := fun _ _ _ E _ _ _ hs => ⟨E, .refl _ _ _, hs.hs, hs.dfr, hs.ro, hs.size, fun t d ht => hs.sl t d (h.sle t d ht)⟩
theorem Goes.pre {ks : List (Nat × Nat)} {c : Code} {s0 sl sl' : Slots} {h0 hp hp' : Hp} {e : Ex} (hw : Seen s0 h0 sl hp) (h : Goes P T ks c sl hp e sl' hp') : Goes P T ks c s0 h0 e sl' hp' := by
  intro N hN fm W0 S0 E a w Q hs hQ
  obtain ⟨E', hE, hs'⟩ := hw _ _ _ _ _ _ _ hs
  exact h N hN fm W0 S0 E' a w Q hs' fun E2 a2 w2 hl hs2 => hQ E2 a2 w2 (hE.trans hl) hs2
theorem Goes.post {ks : List (Nat × Nat)} {c : Code} {sl s1 s2 : Slots} {hp h1 h2 : Hp} {e : Ex} (h : Goes P T ks c sl hp e s1 h1) (hw : Seen s1 h1 s2 h2) : Goes P T ks c sl hp e s2 h2 := by
  intro N hN fm W0 S0 E a w Q hs hQ
  refine h N hN fm W0 S0 E a w Q hs fun E1 a1 w1 hl hs1 => ?_
  obtain ⟨E2, hE, hs2⟩ := hw _ _ _ _ _ _ _ hs1
  exact hQ E2 a1 w1 (hl.trans hE) hs2
theorem goes_exec (hT : TabOk P T) (hmix : P.follows .mixedOrders = true) (hF : FunOk P T F) (hC : ConOk P C) {n : Nat} {ks : List (Nat × Nat)} {c : Code} {sl sl' : Slots} {hp hp' : Hp} {e : Ex} {mu : Mut} (h : exec T F C n ks c sl hp = some (e, sl', hp', mu)) : Goes P T ks c sl hp e sl' hp' := by
  intro N hN fm W0 S0 E a w Q hs hQ
  obtain ⟨_, h2⟩ := (exec_ok hT hmix hF hC n).1 N ks c sl hp e sl' hp' mu h hN
  refine h2 fm W0 0 S0 E a w Q hs (by cases mu <;> simp [mutOk]) fun E' a' w' hst hs' => hQ E' a' w' (stp_gon hst) hs'
theorem Goes.seq {ks : List (Nat × Nat)} {x y : Code} {sl s1 s2 : Slots} {hp h1 h2 : Hp} {e : Ex} (h : Goes P T ks x sl hp .normal s1 h1) (k : Goes P T ks y s1 h1 e s2 h2) : Goes P T ks (.seq x y) sl hp e s2 h2 := by
  intro N hN fm W0 S0 E a w Q hs hQ
  have hN' : (codeChk T N ks x && codeChk T N ks y) = true := hN
  simp only [Bool.and_eq_true] at hN'
  refine wpIn_seq (h N hN'.1 fm W0 S0 E a w _ hs fun E1 a1 w1 hl hs1 => ?_)
  exact k N hN'.2 fm W0 S0 E1 a1 w1 Q hs1 fun E2 a2 w2 hl2 hs2 => hQ E2 a2 w2 (hl.trans hl2) hs2
theorem Goes.seqx {ks : List (Nat × Nat)} {x y : Code} {sl s1 : Slots} {hp h1 : Hp} {e : Ex} (h : Goes P T ks x sl hp e s1 h1) (hne : e ≠ .normal) : Goes P T ks (.seq x y) sl hp e s1 h1 := by
  intro N hN fm W0 S0 E a w Q hs hQ
  have hN' : (codeChk T N ks x && codeChk T N ks y) = true := hN
  simp only [Bool.and_eq_true] at hN'
  refine wpIn_seq (h N hN'.1 fm W0 S0 E a w _ hs fun E1 a1 w1 hl hs1 => ?_)
  have := hQ E1 a1 w1 hl hs1
  cases e with
  | normal => exact absurd rfl hne
  | exit id => exact this
  | ret => exact this
theorem Goes.cond {ks : List (Nat × Nat)} {x : Operand} {y z : Code} {v : Bool} {sl s1 : Slots} {hp h1 : Hp} {e : Ex} (hv : ev sl x = some (.bool v)) (h : Goes P T ks (if v = true then y else z) sl hp e s1 h1) : Goes P T ks (.cond x y z) sl hp e s1 h1 := by
  intro N hN fm W0 S0 E a w Q hs hQ
  have hN' : (codeChk T N ks y && codeChk T N ks z) = true := hN
  simp only [Bool.and_eq_true] at hN'
  cases v with
  | true => exact wpIn_cond_true (ev_ok hs.sl hv).of_bool (h N hN'.1 fm W0 S0 E a w Q hs hQ)
  | false => exact wpIn_cond_false (ev_ok hs.sl hv).of_bool (h N hN'.2 fm W0 S0 E a w Q hs hQ)
theorem Goes.block {ks : List (Nat × Nat)} {id : Nat} {x : Code} {sl s1 : Slots} {hp h1 : Hp} {e : Ex} (h : Goes P T ks x sl hp e s1 h1) (hne : ∀ i, e = .exit i → i ≠ id) : Goes P T ks (.block id x) sl hp e s1 h1 := by
  intro N hN fm W0 S0 E a w Q hs hQ
  refine wpIn_block (h N hN fm W0 S0 E a w _ hs fun E1 a1 w1 hl hs1 => ?_)
  have := hQ E1 a1 w1 hl hs1
  cases e with
  | normal => exact this
  | exit i => simpa [Exit.inBlock, exOf, hne i rfl] using this
  | ret => exact this
theorem Goes.blockx {ks : List (Nat × Nat)} {id : Nat} {x : Code} {sl s1 : Slots} {hp h1 : Hp} (h : Goes P T ks x sl hp (.exit id) s1 h1) : Goes P T ks (.block id x) sl hp .normal s1 h1 := by
  intro N hN fm W0 S0 E a w Q hs hQ
  refine wpIn_block (h N hN fm W0 S0 E a w _ hs fun E1 a1 w1 hl hs1 => ?_)
  have := hQ E1 a1 w1 hl hs1
  simpa [Exit.inBlock, exOf] using this
theorem Goes.scope {ks : List (Nat × Nat)} {x : Code} {sl s1 : Slots} {hp h1 : Hp} {e : Ex} (h : Goes P T ks x sl hp e s1 h1) : Goes P T ks (.scope x) sl hp e s1 h1 := by
  intro N hN fm W0 S0 E a w Q hs hQ
  refine wpIn_scope_straight (h N hN fm W0 S0 E a w _ hs fun E1 a1 w1 hl hs1 => ?_)
  have := hQ E1 a1 w1 hl hs1
  cases e with
  | normal => exact this
  | exit i => exact this
  | ret => exact this
/-- a loop: n rounds, and one that leaves it -/
theorem Goes.loop {ks : List (Nat × Nat)} {x : Code} (n : Nat) (S : Nat → Slots) (H : Nat → Hp) {s1 : Slots} {h1 : Hp} {e : Ex} (hr : ∀ k, k < n → Goes P T ks x (S k) (H k) .normal (S (k + 1)) (H (k + 1))) (hl : Goes P T ks x (S n) (H n) e s1 h1) (hne : e ≠ .normal) : Goes P T ks (.loop x) (S 0) (H 0) e s1 h1 := by
  intro N hN fm W0 S0 E a w Q hs hQ
  have hx : codeChk T N ks x = true := hN
  refine wpIn_loop_rounds (n + 1) ?_
  have key : ∀ m k, k + m = n → ∀ E1 a1 w1, Gon E (H 0) w E1 (H k) w1 → Sim fm W0 0 S0 E1 N (S k) (H k) a1 w1 → Code.roundsIn (Fr fm.ro) 0 P x Q (m + 1) a1 w1 := by
    intro m
    induction m with
    | zero =>
      intro k hk E1 a1 w1 hl1 hs1
      obtain rfl : k = n := hk
      rw [roundsIn_succ]
      refine hl N hx fm W0 S0 E1 a1 w1 _ hs1 fun E2 a2 w2 hl2 hs2 => ?_
      have := hQ E2 a2 w2 (hl1.trans hl2) hs2
      cases e with
      | normal => exact absurd rfl hne
      | exit id => exact this
      | ret => exact this
    | succ m ih =>
      intro k hk E1 a1 w1 hl1 hs1
      rw [roundsIn_succ]
      refine hr k (by omega) N hx fm W0 S0 E1 a1 w1 _ hs1 fun E2 a2 w2 hl2 hs2 => ?_
      exact ih (k + 1) (by omega) E2 a2 w2 (hl1.trans hl2) hs2
  exact key n 0 (by omega) E a w (.refl _ _ _) hs
end
end Go.Proofs.Ytoghpmeoekbcbaa
