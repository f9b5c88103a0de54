/- Contracts whose arguments name no object and whose answers have objects of their own, which may hold lists and name each other. No function of the program is named here. -/
import Derived.Test.YtmnpkgonanpgfaaML
namespace Go.Proofs.Ytmnpkgonanpgfaa
open Go.RowKit

noncomputable section
def cf1 : DV → Bool
  | .sl .. => true
  | .ptr .. => true
  | d => flat0 d
def cf2 : DV → Bool
  | .agg cs => cs.all cf1
  | d => cf1 d
def cf3 : DV → Bool
  | .tuple cs => cs.all cf2
  | d => cf2 d
def shO (n : Nat) (o : Ob) : Ob := ⟨o.k, o.r, o.t, o.cs.map (sh1 n)⟩
def layF (hp hp' : Hp) : Hp := ⟨hp.n + hp'.n, hp'.l.map (shO hp.n) ++ hp.l, hp.ls⟩
theorem layF_get {hp hp' : Hp} (hl : hp'.l.length = hp'.n) (id : Nat) : (layF hp hp').get id = if id < hp.n then hp.get id else (hp'.get (id - hp.n)).map (shO hp.n) := by
  simp only [Hp.get_eq, layF]
  have hl2 : (hp'.l.map (shO hp.n)).length = hp'.n := by rw [List.length_map, hl]
  by_cases h : id < hp.n
  · rw [if_pos h, if_pos h, if_pos (by omega), List.getElem?_append_right (by omega), show hp.n + hp'.n - 1 - id - (hp'.l.map (shO hp.n)).length = hp.n - 1 - id by omega]
  · rw [if_neg h]
    by_cases h' : id < hp.n + hp'.n
    · rw [if_pos h', if_pos (by omega), List.getElem?_append_left (by omega), show hp.n + hp'.n - 1 - id = hp'.n - 1 - (id - hp.n) by omega, List.getElem?_map]
    · rw [if_neg h', if_neg (by omega)]
      rfl
/-- the objects of an answer behind those of its caller -/
def Env.layF (E E' : Env) (n : Nat) : Env := ⟨E'.S, fun i => if i < n then E.b i else E'.b (i - n), fun i => if i < n then E.base i else E'.base (i - n), fun i => if i < n then E.sz i else E'.sz (i - n),
  fun i => (i < n ∧ E.X i) ∨ (n ≤ i ∧ E'.X (i - n)), fun i => (i < n ∧ E.D i) ∨ (n ≤ i ∧ E'.D (i - n)), E.yb⟩
section
variable {E E' : Env} {n : Nat} {w : World}
theorem layF_new (E E' : Env) (n : Nat) (id : Nat) : (E.layF E' n).b (n + id) = E'.b id ∧ (E.layF E' n).base (n + id) = E'.base id ∧ (E.layF E' n).sz (n + id) = E'.sz id ∧ ((E.layF E' n).X (n + id) ↔ E'.X id) ∧ ((E.layF E' n).D (n + id) ↔ E'.D id) := by
  have h : ¬ n + id < n := by omega
  simp [Env.layF, h]
theorem shF1_ok {d : DV} {v : Value} (h : VR w E' d v) (hc : cf1 d = true) : VR w (E.layF E' n) (sh1 n d) v := by
  unfold cf1 at hc
  split at hc
  · rename_i id off s m c
    obtain ⟨A, c', rfl, h1, h2, h3, h4, h5, h6⟩ := h.of_sl
    obtain ⟨e1, e2, e3, e4, e5⟩ := layF_new E E' n id
    refine .sl _ (n + id) off s m c A c' (e5.2 h1) h2 h3 h4 (fun hx => h5 (e4.1 hx)) fun hc => ?_
    rw [e1, e2, e3]
    exact h6 hc
  · rename_i id off
    obtain ⟨rfl, h1⟩ := h.of_ptr
    obtain ⟨e1, e2, e3, e4, e5⟩ := layF_new E E' n id
    have : VR w (E.layF E' n) (.ptr (n + id) off) (.pointer (some ⟨(E.layF E' n).b (n + id), (E.layF E' n).base (n + id) + off, none⟩)) := .ptr _ _ off (e5.2 h1)
    rw [e1, e2] at this
    exact this
  · have : sh1 n d = d := by cases d <;> first | rfl | (cases hc; done)
    rw [this]
    exact flat0_ok h hc fun b hb => hb
theorem shF2_ok {d : DV} {v : Value} (h : VR w E' d v) (hc : cf2 d = true) : VR w (E.layF E' n) (sh2 n d) v := by
  unfold cf2 at hc
  split at hc
  · obtain ⟨vs, rfl, hvs⟩ := h.of_agg
    exact (hvs.map (fun h hc => shF1_ok h hc) hc).agg
  · rename_i hne
    have : sh2 n d = sh1 n d := by
      unfold sh2
      split
      · exact (hne _ rfl).elim
      · rfl
    rw [this]
    exact shF1_ok h hc
theorem shF3_ok {d : DV} {v : Value} (h : VR w E' d v) (hc : cf3 d = true) : VR w (E.layF E' n) (sh3 n d) v := by
  unfold cf3 at hc
  split at hc
  · obtain ⟨vs, rfl, hvs⟩ := h.of_tuple
    exact (hvs.map (fun h hc => shF2_ok h hc) hc).tuple
  · rename_i hne
    have : sh3 n d = sh2 n d := by
      unfold sh3
      split
      · exact (hne _ rfl).elim
      · rfl
    rw [this]
    exact shF2_ok h hc
end
theorem cf1_scal {d : DV} (h : cf1 d = true) (n : Nat) : scal (sh1 n d) = true := by
  unfold cf1 at h
  split at h
  · rfl
  · rfl
  · cases d <;> first | rfl | (cases h; done)
theorem scals_sh : ∀ {cs : List DV}, cs.all cf1 = true → ∀ n, scals (cs.map (sh1 n)) = true
  | [], _, _ => rfl
  | d :: cs, h, n => by
    simp only [List.all_cons, Bool.and_eq_true] at h
    simp only [List.map_cons, scals, Bool.and_eq_true]
    exact ⟨cf1_scal h.1 n, scals_sh h.2 n⟩
/-- what such answers must be -/
structure FineF (d : DV) (hp : Hp) : Prop where
  cl : cf3 d = true
  pl : ∀ id o, hp.get id = some o → o.cs.all cf1 = true
  ln : hp.l.length = hp.n
section
variable {P : Program}
theorem ans_liftF {f : FuncId} {args : List DV} {d : DV} {hp hp' : Hp} (hA : Ans P f args d hp') (hfa : flats2 args = true) (hfine : FineF d hp') {W0 : World} {base : Nat} {S0 : Nat → Prop} {E : Env} {w : World} {vs : List Value} (hs : HS W0 base S0 E hp w) (hv : VRs E w args vs) :
    Calls P f vs.toArray w fun e w' => ∃ E2 v, e = .returned v ∧ Stp W0 base S0 E hp w E2 (layF hp hp') w' ∧ VR w' E2 (sh3 hp.n d) v := by
  refine (hA.2 w E.S (ro E.S) w vs (hs_empty hs) (flats2_ok (E := E) (E' := ro E.S) (fun _ h => h) hv hfa)).mono ?_
  rintro e w' ⟨E', v, rfl, hl, hh, hr⟩
  have hbel : Below w.heap.size w w' := hh.bel
  have hold : ∀ id, E.D id → id < hp.n ∧ E.b id < w.heap.size := fun id hd => by
    refine ⟨hs.dlt hd, ?_⟩
    obtain ⟨o, _, hok⟩ := hs.ob id hd
    exact hok.lt
  have hSS : ∀ b, E.S b → E'.S b := fun b hb => hl.later.S b hb
  have hlat : Later E w (E.layF E' hp.n) w' := by
    refine ⟨hSS, fun id hd => ?_, fun p hp => hbel.cell (hs.ro _ hp), fun _ _ h => h⟩
    have hlt := (hold id hd).1
    have hX : (E.layF E' hp.n).X id ↔ E.X id := by
      simp only [Env.layF]
      constructor
      · rintro (⟨_, h⟩ | ⟨h, _⟩)
        · exact h
        · omega
      · exact fun h => .inl ⟨hlt, h⟩
    exact ⟨.inl ⟨hlt, hd⟩, by simp [Env.layF, hlt], by simp [Env.layF, hlt], by simp [Env.layF, hlt], hX⟩
  have hg := layF_get (hp := hp) hfine.ln
  have hHS : HS W0 base S0 (E.layF E' hp.n) (layF hp hp') w' := by
    refine ⟨hs.bel.trans (hbel.mono hs.bel.size), ?_, ?_, ?_, ?_, fun b hb => hh.ro b hb, ?_, Nat.le_trans hs.le (Nat.le_add_right _ _), hs.ys.keep hlat rfl rfl (Nat.le_add_right _ _) fun k hk => hbel.block k (isO_lt hk)⟩
    · rintro id (⟨hlt, hd⟩ | ⟨hge, hd⟩)
      · obtain ⟨o, h1, hok⟩ := hs.ob id hd
        refine ⟨o, by rw [hg, if_pos hlt]; exact h1, hok.keep hd hlat (hbel.block _ hok.lt)⟩
      · obtain ⟨o, h1, hok⟩ := hh.ob _ hd
        refine ⟨shO hp.n o, by rw [hg, if_neg (by omega), h1]; rfl, ?_⟩
        obtain ⟨k0, k1, ws, k2, k3, k4, k5⟩ := hok
        have hal := hfine.pl _ _ h1
        obtain ⟨e1, e2, e3, e4, e5⟩ := layF_new E E' hp.n (id - hp.n)
        rw [show hp.n + (id - hp.n) = id by omega] at e1 e2 e3 e4 e5
        exact ⟨k0.trans e4.symm, scals_sh hal _, ws, by rw [e1]; exact k2, by rw [e3]; exact k3, by rw [e2]; simpa [shO] using k4, by
          rw [e2]
          have := k5.map (E2 := E.layF E' hp.n) (g := sh1 hp.n) (c := cf1) (fun h hc => shF1_ok h hc) hal
          simpa [shO] using this⟩
    · rintro id (⟨hlt, hd⟩ | ⟨hge, hd⟩) hb
      · obtain ⟨h1, h2⟩ := hs.own id hd hb
        have := (hold id hd).2
        simp only [Env.layF, hlt, if_true]
        exact ⟨h1, fun h => by
          rcases hh.olds _ h with h | h
          · exact h2 h
          · omega⟩
      · obtain ⟨h1, h2⟩ := hh.own _ hd (Nat.zero_le _)
        have hle := hs.bel.size
        simp only [Env.layF, Nat.not_lt.2 hge, if_false]
        exact ⟨by omega, h2⟩
    · rintro id (⟨hlt, hd⟩ | ⟨hge, hd⟩) hb
      · simp only [Env.layF, hlt, if_true]
        exact hs.old id hd hb
      · have := hs.le
        omega
    · rintro i j oi oj hi hj hne hbi hoi hoj hk he
      rw [hg] at hoi hoj
      rcases hi with ⟨hil, hdi⟩ | ⟨hig, hdi⟩
      · rcases hj with ⟨hjl, hdj⟩ | ⟨hjg, hdj⟩
        · rw [if_pos hil] at hoi
          rw [if_pos hjl] at hoj
          simp only [Env.layF, hil, hjl, if_true] at he ⊢
          exact hs.inj i j oi oj hdi hdj hne hbi hoi hoj hk he
        · simp only [Env.layF, hil, Nat.not_lt.2 hjg, if_true, if_false] at he
          have h1 := (hold i hdi).2
          have h2 := (hh.own _ hdj (Nat.zero_le _)).1
          omega
      · rcases hj with ⟨hjl, hdj⟩ | ⟨hjg, hdj⟩
        · simp only [Env.layF, hjl, Nat.not_lt.2 hig, if_true, if_false] at he
          have h1 := (hold j hdj).2
          have h2 := (hh.own _ hdi (Nat.zero_le _)).1
          omega
        · rw [if_neg (by omega), Option.map_eq_some_iff] at hoi hoj
          obtain ⟨oi, hoi, rfl⟩ := hoi
          obtain ⟨oj, hoj, rfl⟩ := hoj
          simp only [Env.layF, Nat.not_lt.2 hig, Nat.not_lt.2 hjg, if_false] at he ⊢
          obtain ⟨q1, q2⟩ := hh.inj _ _ oi oj hdi hdj (by omega) (Nat.zero_le _) hoi hoj hk he
          refine ⟨q1, ?_⟩
          rcases q2 with q2 | ⟨q2, q3, q4⟩
          · exact .inl (by simp [shO, q2])
          · exact .inr ⟨q2, by simp only [shO]; omega, by simpa [shO] using q4⟩
    · intro b hb
      rcases hh.olds b hb with hb | hb
      · exact hs.olds b hb
      · have := hs.bel.size
        exact .inr (by omega)
  refine ⟨E.layF E' hp.n, v, rfl, ⟨hlat, hHS, ⟨Nat.le_add_right _ _, fun id hid => ?_, fun _ => rfl, fun _ _ => rfl⟩, fun id hlt hd => ?_, .of_below hbel, rfl⟩, shF3_ok hr hfine.cl⟩
  · have := hs.le
    rw [hg, if_pos (by omega)]
  · rcases hd with ⟨_, hd⟩ | ⟨hge, _⟩
    · exact hd
    · omega
/-- the table of such a contract -/
def ownC {α : Type} (f0 : FuncId) (A : α → List DV) (B : α → DV × Hp) : ConF := fun f args hp => match Nat.beq f f0, flats2 args with
  | true, true => @dite _ (∃ x, args = A x) (Classical.propDecidable _) (fun h => some (sh3 hp.n (B h.choose).1, layF hp (B h.choose).2, none)) (fun _ => none)
  | _, _ => none
theorem ownC_at {α : Type} {f0 : FuncId} {A : α → List DV} {B : α → DV × Hp} (hinj : ∀ x y, A x = A y → B x = B y) (hp : Hp) (x : α) (h : flats2 (A x) = true) : ownC f0 A B f0 (A x) hp = some (sh3 hp.n (B x).1, layF hp (B x).2, none) := by
  have hex : ∃ y, A x = A y := ⟨x, rfl⟩
  have hB : B hex.choose = B x := (hinj _ _ hex.choose_spec).symm
  have hb : Nat.beq f0 f0 = true := beqT rfl
  unfold ownC
  rw [hb, h]
  show @dite _ (∃ y, A x = A y) (Classical.propDecidable _) _ _ = _
  rw [dif_pos hex, hB]
theorem ownC_oth {α : Type} {f0 f : FuncId} {A : α → List DV} {B : α → DV × Hp} {args : List DV} {hp : Hp} (h : Nat.beq f f0 = false) : ownC f0 A B f args hp = none := by
  unfold ownC
  rw [h]
theorem ownC_ok {α : Type} {f0 : FuncId} {A : α → List DV} {B : α → DV × Hp} (h : ∀ x, Ans P f0 (A x) (B x).1 (B x).2) (hf : ∀ x, FineF (B x).1 (B x).2) : ConOk P (ownC f0 A B) := by
  intro f args hp r hp' mu heq
  unfold ownC at heq
  split at heq
  · rename_i hb hfa
    have hb := Nat.eq_of_beq_eq_true hb
    subst hb
    by_cases hex : ∃ x, args = A x
    · rw [dif_pos hex] at heq
      cases heq
      have hA := h hex.choose
      have hfine := hf hex.choose
      rw [← hex.choose_spec] at hA
      refine ⟨hA.1, fun base _ hb => ⟨Nat.le_add_right _ _, fun id hid => ?_, fun _ => rfl, fun _ _ => rfl⟩, fun W0 base S0 E w vs _ hs hv => ans_liftF hA hfa hfine hs hv⟩
      rw [layF_get hfine.ln, if_pos (by omega)]
    · rw [dif_neg hex] at heq
      cases heq
  · cases heq
end
end
end Go.Proofs.Ytmnpkgonanpgfaa
