/- Loops by what holds before each round. No function of the program is named here. -/
import Derived.Test.YtoghpmeoekbcbaaV36
namespace Go.Proofs.Ytoghpmeoekbcbaa
open Go.RowKit

noncomputable section
variable {P : Program} {T : Tab}
/-- m rounds at most, the last one leaving by e -/
def GoesR (P : Program) (T : Tab) (ks : List (Nat × Nat)) (x : Code) (m : Nat) (sl : Slots) (hp : Hp) (e : Ex) (s1 : Slots) (h1 : Hp) : Prop :=
  ∀ N, codeChk T N ks x = true → ∀ fm W0 S0 E a w (Q : Exit → Act → World → Prop), Sim fm W0 0 S0 E N sl hp a w →
    (∀ E' a' w', Gon E hp w E' h1 w' → Sim fm W0 0 S0 E' N s1 h1 a' w' → Q (exOf e) a' w') → Code.roundsIn (Fr fm.ro) 0 P x Q m a w
theorem GoesR.last {ks : List (Nat × Nat)} {x : Code} {sl s1 : Slots} {hp h1 : Hp} {e : Ex} (h : Goes P T ks x sl hp e s1 h1) (hne : e ≠ .normal) : GoesR P T ks x 1 sl hp e s1 h1 := by
  intro N hN fm W0 S0 E a w Q hs hQ
  rw [roundsIn_succ]
  refine h N hN fm W0 S0 E a w _ hs fun E2 a2 w2 hl2 hs2 => ?_
  have := hQ E2 a2 w2 hl2 hs2
  cases e with
  | normal => exact absurd rfl hne
  | exit id => exact this
  | ret => exact this
theorem GoesR.step {ks : List (Nat × Nat)} {x : Code} {m : Nat} {sl s s1 : Slots} {hp h h1 : Hp} {e : Ex} (g : Goes P T ks x sl hp .normal s h) (k : GoesR P T ks x m s h e s1 h1) : GoesR P T ks x (m + 1) sl hp e s1 h1 := by
  intro N hN fm W0 S0 E a w Q hs hQ
  rw [roundsIn_succ]
  refine g N hN fm W0 S0 E a w _ hs fun E2 a2 w2 hl2 hs2 => ?_
  exact k N hN fm W0 S0 E2 a2 w2 Q hs2 fun E3 a3 w3 hl3 hs3 => hQ E3 a3 w3 (hl2.trans hl3) hs3
theorem GoesR.pre {ks : List (Nat × Nat)} {x : Code} {m : Nat} {s0 sl s1 : Slots} {h0 hp h1 : Hp} {e : Ex} (hw : Seen s0 h0 sl hp) (h : GoesR P T ks x m sl hp e s1 h1) : GoesR P T ks x m s0 h0 e s1 h1 := by
  intro N hN fm W0 S0 E a w Q hs hQ
  obtain ⟨E', hE, hs'⟩ := hw _ _ _ _ _ _ _ hs
  exact h N hN fm W0 S0 E' a w Q hs' fun E2 a2 w2 hl hs2 => hQ E2 a2 w2 (hE.trans hl) hs2
theorem GoesR.goes {ks : List (Nat × Nat)} {x : Code} {m : Nat} {sl s1 : Slots} {hp h1 : Hp} {e : Ex} (h : GoesR P T ks x m sl hp e s1 h1) : Goes P T ks (.loop x) sl hp e s1 h1 := by
  intro N hN fm W0 S0 E a w Q hs hQ
  have hx : codeChk T N ks x = true := hN
  exact wpIn_loop_rounds m (h N hx fm W0 S0 E a w Q hs hQ)
/-- n rounds, and one that leaves: what holds before each of them, what holds behind -/
theorem Goes.loopI {ks : List (Nat × Nat)} {x : Code} {e : Ex} (n : Nat) (I : Nat → Slots → Hp → Prop) (J : Slots → Hp → Prop) (hne : e ≠ .normal)
    (hr : ∀ k sl hp, k < n → I k sl hp → ∃ sl' hp', Goes P T ks x sl hp .normal sl' hp' ∧ I (k + 1) sl' hp') (hl : ∀ sl hp, I n sl hp → ∃ s1 h1, Goes P T ks x sl hp e s1 h1 ∧ J s1 h1)
    {sl : Slots} {hp : Hp} (h0 : I 0 sl hp) : ∃ s1 h1, Goes P T ks (.loop x) sl hp e s1 h1 ∧ J s1 h1 := by
  have key : ∀ m k, k + m = n → ∀ sl hp, I k sl hp → ∃ s1 h1, GoesR P T ks x (m + 1) sl hp e s1 h1 ∧ J s1 h1 := by
    intro m
    induction m with
    | zero =>
      intro k hk sl hp h
      obtain rfl : k = n := hk
      obtain ⟨s1, h1, g, j⟩ := hl sl hp h
      exact ⟨s1, h1, GoesR.last g hne, j⟩
    | succ m ih =>
      intro k hk sl hp h
      obtain ⟨s, h', g, i⟩ := hr k sl hp (by omega) h
      obtain ⟨s1, h1, r, j⟩ := ih (k + 1) (by omega) s h' i
      exact ⟨s1, h1, GoesR.step g r, j⟩
  obtain ⟨s1, h1, r, j⟩ := key n 0 (by omega) sl hp h0
  exact ⟨s1, h1, r.goes, j⟩
/-- a loop by a measure that falls -/
theorem Goes.loopM {ks : List (Nat × Nat)} {x : Code} {e : Ex} (I : Nat → Slots → Hp → Prop) (J : Slots → Hp → Prop) (hne : e ≠ .normal)
    (h : ∀ m sl hp, I m sl hp → (∃ s1 h1, Goes P T ks x sl hp e s1 h1 ∧ J s1 h1) ∨ ∃ m' sl' hp', m' < m ∧ Goes P T ks x sl hp .normal sl' hp' ∧ I m' sl' hp') {m : Nat} {sl : Slots} {hp : Hp} (h0 : I m sl hp) : ∃ s1 h1, Goes P T ks (.loop x) sl hp e s1 h1 ∧ J s1 h1 := by
  have key : ∀ m sl hp, I m sl hp → ∃ r s1 h1, GoesR P T ks x r sl hp e s1 h1 ∧ J s1 h1 := by
    intro m
    induction m using Nat.strongRecOn with
    | ind m ih =>
      intro sl hp hi
      rcases h m sl hp hi with ⟨s1, h1, g, j⟩ | ⟨m', sl', hp', hm, g, hi'⟩
      · exact ⟨1, s1, h1, GoesR.last g hne, j⟩
      · obtain ⟨r, s1, h1, gr, j⟩ := ih m' hm sl' hp' hi'
        exact ⟨r + 1, s1, h1, GoesR.step g gr, j⟩
  obtain ⟨r, s1, h1, g, j⟩ := key m sl hp h0
  exact ⟨s1, h1, g.goes, j⟩
/-! ### Slots by a list -/
theorem look_mkT {nt : Nat} : ∀ {l : List (Nat × DV)} {t : Nat} {d : DV}, look (mkT nt l) t = some d → (t, d) ∈ l
  | [], t, d, h => by
    have : look (mkS (Nat.log2 nt + 2)) t = some d := h
    rw [look_mkS] at this
    cases this
  | (x, u) :: l, t, d, h => by
    have h : look (putS (mkT nt l) x u) t = some d := h
    rcases look_put h with ⟨rfl, rfl⟩ | ⟨_, h⟩
    · exact List.mem_cons_self ..
    · exact List.mem_cons_of_mem _ (look_mkT h)
/-- slots seen otherwise, one by one -/
theorem seen_slots {sl : Slots} {hp hp' : Hp} {nt : Nat} {l : List (Nat × DV)} (h : ∀ W0 S0 E w, HS W0 0 S0 E hp w → ∃ E', Gon E hp w E' hp' w ∧ HS W0 0 S0 E' hp' w ∧ ∀ t d, (t, d) ∈ l → ∃ d0, look sl t = some d0 ∧ ∀ v, VR w E d0 v → VR w E' d v) : Seen sl hp (mkT nt l) hp' := by
  intro fm W0 S0 E N a w hs
  obtain ⟨E', e, h1, h2⟩ := h W0 S0 E w hs.hs
  refine ⟨E', e, h1, hs.dfr.gon e, hs.ro.gon e, hs.size, fun t d ht => ?_⟩
  obtain ⟨d0, k1, k2⟩ := h2 t d (look_mkT ht)
  exact k2 _ (hs.sl t d0 k1)
/-- all objects frozen: slices of them become lists -/
theorem seen_freeze {sl : Slots} {hp : Hp} (hl : hp.ls = []) {nt : Nat} {l : List (Nat × DV)} (h : ∀ t d, (t, d) ∈ l → ∃ d0, look sl t = some d0 ∧ frz1 hp d0 d) : Seen sl hp (mkT nt l) ⟨0, [], []⟩ := by
  refine seen_slots fun W0 S0 E w hs => ⟨ro (roS E), .up (E := E) (E' := ro (roS E)) (fun b hb => .inl hb) (funext fun id => (yb_none hs.ys hl id).symm) (fun i => by rw [hl]) _, ?_, fun t d ht => ?_⟩
  · refine ⟨hs.bel, fun _ h => h.elim, fun _ h => h.elim, fun _ h => h.elim, fun _ _ _ _ h => h.elim, (hs_frz hs).ro, fun b hb => ?_, Nat.le_refl _, .none rfl fun _ => rfl⟩
    rcases hb with hb | ⟨id, hd, rfl⟩
    · exact hs.olds b hb
    · exact .inr (hs.own id hd (Nat.zero_le _)).1
  · obtain ⟨d0, h1, h2⟩ := h t d ht
    exact ⟨d0, h1, fun v hv => frz1_ok hs hv h2⟩
/-- the table of one function's contract, used where no object is -/
def eqC {α : Type} (f0 : FuncId) (A : α → List DV) (B : α → DV × Hp) : ConF := fun f args hp => match Nat.beq f f0 with
  | true => @dite _ (∃ x, args = A x ∧ hp = ⟨0, [], []⟩) (Classical.propDecidable _) (fun h => some ((B h.choose).1, (B h.choose).2, none)) (fun _ => none)
  | false => none
theorem eqC_at {α : Type} {f0 : FuncId} {A : α → List DV} {B : α → DV × Hp} (hinj : ∀ x y, A x = A y → B x = B y) (x : α) : eqC f0 A B f0 (A x) ⟨0, [], []⟩ = some ((B x).1, (B x).2, none) := by
  have hex : ∃ y, A x = A y ∧ (⟨0, [], []⟩ : Hp) = ⟨0, [], []⟩ := ⟨x, rfl, rfl⟩
  have hB : B hex.choose = B x := hinj _ _ hex.choose_spec.1.symm
  have hb : Nat.beq f0 f0 = true := beqT rfl
  unfold eqC
  rw [hb]
  show @dite _ (∃ y, A x = A y ∧ (⟨0, [], []⟩ : Hp) = ⟨0, [], []⟩) (Classical.propDecidable _) _ _ = _
  rw [dif_pos hex, hB]
theorem eqC_other {α : Type} {f0 f : FuncId} {A : α → List DV} {B : α → DV × Hp} {args : List DV} {hp : Hp} (h : Nat.beq f f0 = false) : eqC f0 A B f args hp = none := by
  unfold eqC
  rw [h]
theorem eqC_ok {α : Type} {f0 : FuncId} {A : α → List DV} {B : α → DV × Hp} (h : ∀ x, Ans P f0 (A x) (B x).1 (B x).2) (hls : ∀ x, (B x).2.ls = []) : ConOk P (eqC f0 A B) := by
  intro f args hp r hp' mu heq
  unfold eqC at heq
  split at heq
  · rename_i hb
    have hb := Nat.eq_of_beq_eq_true hb
    subst hb
    by_cases hex : ∃ x, args = A x ∧ hp = ⟨0, [], []⟩
    · rw [dif_pos hex] at heq
      cases heq
      have hA := h hex.choose
      obtain ⟨ha, rfl⟩ := hex.choose_spec
      refine ⟨hA.1, fun base _ hb => ⟨Nat.zero_le _, fun id hid => absurd hid (by simp only at hb; omega), fun i => by rw [hls], fun i hi => absurd hi (by simp only at hb; omega)⟩, fun W0 base S0 E w vs _ hs hv => ?_⟩
      have hb0 : base = 0 := by
        have := hs.le
        simp only at this
        omega
      subst hb0
      rw [ha] at hv
      refine (hA.2 W0 S0 E w vs hs hv).mono ?_
      rintro e w' ⟨E', v, rfl, hl, hh, hr⟩
      have hD : ∀ id, ¬ E.D id := fun id hd => by
        obtain ⟨o, ho, _⟩ := hs.ob id hd
        simp [Hp.get_eq] at ho
      have hyn := yb_none hs.ys rfl
      exact ⟨E', v, rfl, ⟨⟨hl.later.S, fun id hd => (hD id hd).elim, hl.later.cell, fun id x hx => by rw [hyn] at hx; cases hx⟩, hh, ⟨Nat.zero_le _, fun id hid => absurd hid (by omega), fun i => by rw [hls], fun i hi => absurd hi (by omega)⟩, fun id hid => absurd hid (by simp), hl.oth, hl.yb⟩, hr⟩
    · rw [dif_neg hex] at heq
      cases heq
  · cases heq
end
end Go.Proofs.Ytoghpmeoekbcbaa
