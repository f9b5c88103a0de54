/- Code over abstract data: operations in any order that the edges allow; one step. No function of the program is named here. -/
import Derived.Test.YtoghpmeoekbcbaaV18
namespace Go.Proofs.Ytoghpmeoekbcbaa
open Go.RowKit

noncomputable section
variable {P : Program} {T : Tab} {W0 : World} {base : Nat} {S0 : Nat → Prop} {E : Env} {hp : Hp} {w : World}
def Env.lim (E : Env) (n : Nat) : Env := { E with D := fun id => E.D id ∧ id < n }
theorem Env.lim_later (E : Env) (w : World) (n : Nat) : Later (E.lim n) w E w := ⟨fun _ h => h, fun _ h => ⟨h.1, rfl, rfl, rfl, Iff.rfl⟩, fun _ _ => rfl, fun _ _ h => h⟩
theorem Later.lim {E E' : Env} {w w' : World} (h : Later E w E' w') {n m : Nat} (hnm : n ≤ m) : Later (E.lim n) w (E'.lim m) w' :=
  ⟨h.S, fun id hd => ⟨⟨(h.D id hd.1).1, Nat.lt_of_lt_of_le hd.2 hnm⟩, (h.D id hd.1).2⟩, h.cell, h.y⟩
theorem Later.lim_id {E : Env} {w : World} {n : Nat} (h : ∀ id, E.D id → id < n) : Later E w (E.lim n) w := ⟨fun _ h => h, fun id hd => ⟨⟨hd, h id hd⟩, rfl, rfl, rfl, Iff.rfl⟩, fun _ _ => rfl, fun _ _ h => h⟩
/-- the same in a later world, where all that is named is as it was -/
theorem HS.move (h : HS W0 base S0 E hp w) {E' : Env} {w' : World} {hp' : Hp} (hD : ∀ id, E'.D id → E.D id) (hl : Later E w E' w') (hb : Below W0.heap.size W0 w') (hh : ∀ id, E.D id → w'.heap[E.b id]? = w.heap[E.b id]?) (hS : ∀ b, E'.S b → E.S b ∨ w.heap.size ≤ b) (hr : ∀ b, E'.S b → b < w'.heap.size)
    (hg : ∀ id, E.D id → hp'.get id = hp.get id) (hle : base ≤ hp'.n) (hys : YsOk W0 base E' hp' w') : HS W0 base S0 E' hp' w' := by
  refine ⟨hb, fun id hd => ?_, fun id hd hbi => ?_, fun id hd hbi => ?_, fun i j oi oj hi hj hne hbi hoi hoj hk he => ?_, hr, fun b hs => ?_, hle, hys⟩
  · obtain ⟨o, ho, hok⟩ := h.ob id (hD id hd)
    exact ⟨o, by rw [hg id (hD id hd)]; exact ho, hok.keep (hD id hd) hl (hh id (hD id hd))⟩
  · have hd' := hD id hd
    obtain ⟨_, e1, _⟩ := hl.D id hd'
    obtain ⟨q1, q2⟩ := h.own id hd' hbi
    rw [e1]
    refine ⟨q1, fun hs => ?_⟩
    rcases hS _ hs with hs | hs
    · exact q2 hs
    · obtain ⟨o, ho, hok⟩ := h.ob id hd'
      have := hok.lt
      omega
  · have hd' := hD id hd
    obtain ⟨_, e1, _⟩ := hl.D id hd'
    rw [e1]
    exact h.old id hd' hbi
  · have hi' := hD i hi
    have hj' := hD j hj
    obtain ⟨_, e1, e2, _⟩ := hl.D i hi'
    obtain ⟨_, f1, f2, _⟩ := hl.D j hj'
    rw [hg i hi'] at hoi
    rw [hg j hj'] at hoj
    rw [e1, f1] at he
    rw [e2, f2]
    exact h.inj i j oi oj hi' hj' hne hbi hoi hoj hk he
  · rcases hS b hs with hs | hs
    · exact h.olds b hs
    · have := h.bel.size
      exact .inr (by omega)
/-- the run of one operation, or of a call, for itself -/
theorem HS.pure (h : HS W0 base S0 E hp w) : HS w hp.n E.S E hp w := by
  refine ⟨Below.refl _ _, h.ob, fun id hd hb => ?_, fun id hd _ => ?_, fun i j oi oj hi hj hne hb => ?_, h.ro, fun b hs => .inl hs, Nat.le_refl _, h.ys.pure⟩
  · have := h.dlt hd; omega
  · obtain ⟨o, ho, hok⟩ := h.ob id hd
    exact hok.lt
  · have := h.dlt hi; omega
/-- two places put together: E, and from a to b what E' names -/
def mrg (E E' : Env) (a b : Nat) : Env :=
  ⟨E'.S, fun id => if a ≤ id ∧ id < b then E'.b id else E.b id, fun id => if a ≤ id ∧ id < b then E'.base id else E.base id, fun id => if a ≤ id ∧ id < b then E'.sz id else E.sz id, fun id => (a ≤ id ∧ id < b ∧ E'.X id) ∨ (¬ (a ≤ id ∧ id < b) ∧ E.X id), fun id => E.D id ∨ (a ≤ id ∧ id < b ∧ E'.D id), E'.yb⟩
theorem mrg_in (E E' : Env) {a b id : Nat} (h : a ≤ id ∧ id < b) : (mrg E E' a b).b id = E'.b id ∧ (mrg E E' a b).base id = E'.base id ∧ (mrg E E' a b).sz id = E'.sz id ∧ ((mrg E E' a b).X id ↔ E'.X id) :=
  ⟨if_pos h, if_pos h, if_pos h, ⟨fun k => k.elim (·.2.2) (fun k => absurd h k.1), fun k => .inl ⟨h.1, h.2, k⟩⟩⟩
theorem mrg_out (E E' : Env) {a b id : Nat} (h : ¬ (a ≤ id ∧ id < b)) : (mrg E E' a b).b id = E.b id ∧ (mrg E E' a b).base id = E.base id ∧ (mrg E E' a b).sz id = E.sz id ∧ ((mrg E E' a b).X id ↔ E.X id) :=
  ⟨if_neg h, if_neg h, if_neg h, ⟨fun k => k.elim (fun k => absurd ⟨k.1, k.2.1⟩ h) (·.2), fun k => .inr ⟨h, k⟩⟩⟩
theorem mrg_old {E E' : Env} {w w' : World} {a b : Nat} (hS : ∀ x, E.S x → E'.S x) (hc : ∀ p : Addr, E.S p.block → w'.cell? p = w.cell? p) (hD : ∀ id, E.D id → ¬ (a ≤ id ∧ id < b)) (hy : E'.yb = E.yb) : Later E w (mrg E E' a b) w' :=
  ⟨hS, fun id hd => by
    obtain ⟨h1, h2, h3, h4⟩ := mrg_out E E' (hD id hd)
    exact ⟨.inl hd, h1, h2, h3, h4⟩, hc, fun id x hx => (by show E'.yb id = some x; rw [hy]; exact hx)⟩
theorem mrg_new {E E1 E' : Env} {w1 w' : World} {a b : Nat} (hl : Later E1 w1 E' w') (h1 : ∀ id, E1.D id → E.D id ∧ E1.b id = E.b id ∧ E1.base id = E.base id ∧ E1.sz id = E.sz id ∧ (E1.X id ↔ E.X id)) (hD : ∀ id, E.D id → ¬ (a ≤ id ∧ id < b)) (hdom : ∀ id, E'.D id → E1.D id ∨ (a ≤ id ∧ id < b)) : Later E' w' (mrg E E' a b) w' :=
  ⟨fun _ h => h, fun id hd => by
    rcases hdom id hd with h | h
    · obtain ⟨q0, q1, q2, q3, q4⟩ := h1 id h
      obtain ⟨r0, r1, r2, r3, r4⟩ := hl.D id h
      obtain ⟨m1, m2, m3, m4⟩ := mrg_out E E' (hD id q0)
      exact ⟨.inl q0, by rw [m1, r1, q1], by rw [m2, r2, q2], by rw [m3, r3, q3], m4.trans ((r4.trans q4).symm)⟩
    · obtain ⟨m1, m2, m3, m4⟩ := mrg_in E E' h
      exact ⟨.inr ⟨h.1, h.2, hd⟩, m1, m2, m3, m4⟩, fun _ _ => rfl, fun _ _ h => h⟩
/-- a run for itself, put beside what is there -/
theorem HS.merge {Em : Env} {hpM : Hp} (h : HS W0 base S0 Em hpM w) {E1 E' : Env} {hpX hpY : Hp} {w' : World} {a b : Nat} (_hX : HS w a Em.S E1 hpX w) (hY : HS w a Em.S E' hpY w') (hl : Later E1 w E' w') (h1 : ∀ id, E1.D id → Em.D id ∧ E1.b id = Em.b id ∧ E1.base id = Em.base id ∧ E1.sz id = Em.sz id ∧ (E1.X id ↔ Em.X id)) (hS1 : E1.S = Em.S)
    (hdom : ∀ id, E'.D id → E1.D id ∨ (a ≤ id ∧ id < b)) (hD : ∀ id, Em.D id → ¬ (a ≤ id ∧ id < b)) (hg : ∀ id, a ≤ id → id < b → E'.D id → hpM.get id = hpY.get id) (hba : base ≤ a) (hy : E'.yb = Em.yb) : HS W0 base S0 (mrg Em E' a b) hpM w' ∧ Later Em w (mrg Em E' a b) w' ∧ Later E' w' (mrg Em E' a b) w' := by
  have hbel := hY.bel
  have hcell : ∀ p : Addr, Em.S p.block → w'.cell? p = w.cell? p := fun p hp => hl.cell p (by rw [hS1]; exact hp)
  have hSS : ∀ x, Em.S x → E'.S x := fun x hx => hl.S x (by rw [hS1]; exact hx)
  have hold := mrg_old (E := Em) (E' := E') (w := w) (w' := w') (a := a) (b := b) hSS hcell hD hy
  have hnew := mrg_new (E := Em) hl h1 hD hdom
  have hblk : ∀ k, k < w.heap.size → w'.heap[k]? = w.heap[k]? := hbel.block
  have hEb : ∀ id, Em.D id → Em.b id < w.heap.size := fun id hd => by
    obtain ⟨o, ho, hok⟩ := h.ob id hd
    exact hok.lt
  refine ⟨⟨?_, fun id hd => ?_, fun id hd hbi => ?_, fun id hd hbi => ?_, fun i j oi oj hi hj hne hbi hoi hoj hk he => ?_, fun x hx => hY.ro x hx, fun x hx => ?_, h.le, h.ys.keep hold hy rfl (Nat.le_refl _) fun k hk => hblk k (isO_lt hk)⟩, hold, hnew⟩
  · exact h.bel.trans (hbel.mono h.bel.size)
  · rcases hd with hd | ⟨q1, q2, hd⟩
    · obtain ⟨o, ho, hok⟩ := h.ob id hd
      exact ⟨o, ho, hok.keep hd hold (hblk _ hok.lt)⟩
    · obtain ⟨o, ho, hok⟩ := hY.ob id hd
      exact ⟨o, by rw [hg id q1 q2 hd]; exact ho, hok.keep hd hnew rfl⟩
  · rcases hd with hd | ⟨q1, q2, hd⟩
    · obtain ⟨m1, _⟩ := mrg_out Em E' (hD id hd)
      obtain ⟨o1, o2⟩ := h.own id hd hbi
      rw [m1]
      refine ⟨o1, fun hs => ?_⟩
      rcases hY.olds _ hs with hs | hs
      · exact o2 hs
      · have := hEb id hd; omega
    · obtain ⟨m1, _⟩ := mrg_in Em E' ⟨q1, q2⟩
      obtain ⟨o1, o2⟩ := hY.own id hd q1
      rw [m1]
      have := h.bel.size
      exact ⟨by omega, o2⟩
  · rcases hd with hd | ⟨q1, q2, hd⟩
    · obtain ⟨m1, _⟩ := mrg_out Em E' (hD id hd)
      rw [m1]
      exact h.old id hd hbi
    · omega
  · rcases hi with hi | ⟨i1, i2, hi⟩ <;> rcases hj with hj | ⟨j1, j2, hj⟩
    · obtain ⟨m1, m2, _⟩ := mrg_out Em E' (hD i hi)
      obtain ⟨n1, n2, _⟩ := mrg_out Em E' (hD j hj)
      rw [m1, n1] at he
      rw [m2, n2]
      exact h.inj i j oi oj hi hj hne hbi hoi hoj hk he
    · obtain ⟨m1, m2, _⟩ := mrg_out Em E' (hD i hi)
      obtain ⟨n1, n2, _⟩ := mrg_in Em E' ⟨j1, j2⟩
      rw [m1, n1] at he
      have := hEb i hi
      have := (hY.own j hj j1).1
      omega
    · obtain ⟨m1, m2, _⟩ := mrg_in Em E' ⟨i1, i2⟩
      obtain ⟨n1, n2, _⟩ := mrg_out Em E' (hD j hj)
      rw [m1, n1] at he
      have := hEb j hj
      have := (hY.own i hi i1).1
      omega
    · obtain ⟨m1, m2, _⟩ := mrg_in Em E' ⟨i1, i2⟩
      obtain ⟨n1, n2, _⟩ := mrg_in Em E' ⟨j1, j2⟩
      rw [m1, n1] at he
      rw [m2, n2]
      rw [hg i i1 i2 hi] at hoi
      rw [hg j j1 j2 hj] at hoj
      exact hY.inj i j oi oj hi hj hne i1 hoi hoj hk he
  · rcases hY.olds x hx with hx | hx
    · exact h.olds x hx
    · have := h.bel.size
      exact .inr (by omega)
theorem HS.drew (h : HS W0 base S0 E hp w) : HS W0 base S0 E hp { w with drawn := w.drawn + 1 } ∧ Later E w E { w with drawn := w.drawn + 1 } := by
  have hl : Later E w E { w with drawn := w.drawn + 1 } := ⟨fun _ h => h, fun _ h => ⟨h, rfl, rfl, rfl, Iff.rfl⟩, fun _ _ => rfl, fun _ _ h => h⟩
  exact ⟨h.move (fun _ h => h) hl ⟨h.bel.os, h.bel.tape, h.bel.output, h.bel.size, h.bel.block⟩ (fun _ _ => rfl) (fun _ h => .inl h) h.ro (fun _ _ => rfl) h.le (h.ys.keep hl rfl rfl (Nat.le_refl _) fun _ _ => rfl), hl⟩
end
end Go.Proofs.Ytoghpmeoekbcbaa
