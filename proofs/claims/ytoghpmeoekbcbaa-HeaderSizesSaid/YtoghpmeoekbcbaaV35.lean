/- A call's answer, carried into every heap: slices of the caller's are read as they stand. No function of the program is named here. -/
import Derived.Test.YtoghpmeoekbcbaaV34
namespace Go.Proofs.Ytoghpmeoekbcbaa
open Go.RowKit

noncomputable section
variable {P : Program}
/-- an argument as a callee sees it that only reads -/
def frz1 (hp : Hp) (d a : DV) : Prop := match d with
  | .sl id off s n _ => ∃ (o : Ob) (xs : List (List DV)), hp.get id = some o ∧ a = .list s xs ∧ xs.length = n ∧ (∀ (i : Nat) (cs : List DV), xs[i]? = some cs → cs.length = s ∧ plains cs = true ∧ ∀ (j : Nat) (d : DV), cs[j]? = some d → o.cs[off + (i * s + j)]? = some d)
  | .fn f [] [] => a = .fn f [] []
  | d => flat2 d = true ∧ a = d
def Frz (hp : Hp) : List DV → List DV → Prop
  | [], [] => True
  | d :: ds, a :: bs => frz1 hp d a ∧ Frz hp ds bs
  | _, _ => False
theorem frz1_fun {hp : Hp} {d a a' : DV} (h : frz1 hp d a) (h' : frz1 hp d a') : a = a' := by
  unfold frz1 at h h'
  split at h
  · obtain ⟨o, xs, h1, rfl, h2, h3⟩ := h
    obtain ⟨o', xs', h1', rfl, h2', h3'⟩ := h'
    rw [h1] at h1'
    cases h1'
    congr 1
    refine List.ext_getElem? fun i => ?_
    cases hi : xs[i]? with
    | none =>
      have : xs.length ≤ i := List.getElem?_eq_none_iff.1 hi
      exact (List.getElem?_eq_none_iff.2 (by omega)).symm
    | some cs =>
      have hl := (List.getElem?_eq_some_iff.1 hi).1
      have hl' : i < xs'.length := by omega
      have hi' : xs'[i]? = some xs'[i] := List.getElem?_eq_getElem hl'
      rw [hi']
      obtain ⟨k1, _, k3⟩ := h3 i cs hi
      obtain ⟨k1', _, k3'⟩ := h3' i _ hi'
      congr 1
      refine List.ext_getElem? fun j => ?_
      cases hj : cs[j]? with
      | none =>
        have : cs.length ≤ j := List.getElem?_eq_none_iff.1 hj
        exact (List.getElem?_eq_none_iff.2 (by omega)).symm
      | some d =>
        have hjl := (List.getElem?_eq_some_iff.1 hj).1
        have hj' : (xs'[i])[j]? = some (xs'[i])[j] := List.getElem?_eq_getElem (by omega)
        rw [hj', ← k3 j d hj, k3' j _ hj']
  · rw [h, h']
  · split at h'
    · exact absurd h.1 (by simp [flat2, flat1])
    · exact absurd h.1 (by simp [flat2, flat1])
    · rw [h.2, h'.2]
theorem frz_fun {hp : Hp} : ∀ {ds bs bs' : List DV}, Frz hp ds bs → Frz hp ds bs' → bs = bs'
  | [], [], [], _, _ => rfl
  | _ :: _, _ :: _, _ :: _, h, h' => by
    rw [frz1_fun h.1 h'.1, frz_fun h.2 h'.2]
  | [], _ :: _, _, h, _ => h.elim
  | [], [], _ :: _, _, h => h.elim
  | _ :: _, [], _, h, _ => h.elim
  | _ :: _, _ :: _, [], _, h => h.elim
/-- the blocks that a callee may only read -/
def roS (E : Env) : Nat → Prop := fun b => E.S b ∨ ∃ id, E.D id ∧ b = E.b id
section
variable {W0 : World} {base : Nat} {S0 : Nat → Prop} {E : Env} {hp : Hp} {w : World}
theorem frz1_ok (hs : HS W0 base S0 E hp w) {d a : DV} {v : Value} (hv : VR w E d v) (h : frz1 hp d a) : VR w (ro (roS E)) a v := by
  unfold frz1 at h
  split at h
  · rename_i id off s n c
    obtain ⟨o, xs, h1, rfl, h2, h3⟩ := h
    obtain ⟨A, c', rfl, hd, hn, hc, hm, hx, ha⟩ := hv.of_sl
    obtain ⟨o', h1', hok⟩ := hs.ob id hd
    rw [h1] at h1'
    cases h1'
    obtain ⟨k0, k1, vs, k2, k3, k4, k5⟩ := hok
    subst h2
    have hcell : ∀ (i : Nat) (cs : List DV) (j : Nat) (d : DV), xs[i]? = some cs → cs[j]? = some d → ∃ v, vs[E.base id + (off + (i * s + j))]? = some v ∧ VR w E d v := fun i cs j d hi hj => by
      have ho := (h3 i cs hi).2.2 j d hj
      obtain ⟨v, hv1, hv2⟩ := k5.get ho
      refine ⟨v, ?_, hv2⟩
      rw [List.getElem?_take] at hv1
      split at hv1
      · simpa using hv1
      · cases hv1
    refine .list _ s xs (some A) c' (E.b id) (E.base id + off) (fun i j => (vs[E.base id + (off + (i * s + j))]?).getD undef) (by omega) hm (fun h => by cases h) (fun h => ⟨?_, .inr ⟨id, hd, rfl⟩⟩) (fun i cs hi => (h3 i cs hi).1) (fun i cs j d hi hj => ?_) (fun i cs j d hi hj => ?_) (fun cs hcs => ?_)
    · rw [(ha (by omega)).1]
    · obtain ⟨v, hv1, _⟩ := hcell i cs j d hi hj
      rw [k2.cell, Nat.add_assoc, hv1]
      rfl
    · obtain ⟨v, hv1, hv2⟩ := hcell i cs j d hi hj
      simp only [hv1, Option.getD_some]
      exact plain_ok hv2 ((plains_iff cs).1 (h3 i cs hi).2.1 d (List.mem_of_getElem? hj))
    · obtain ⟨i, hi⟩ := List.mem_iff_getElem?.1 hcs
      refine (scals_iff cs).2 fun d hd => ?_
      have := (plains_iff cs).1 (h3 i cs hi).2.1 d hd
      cases d <;> first | rfl | (simp [plain] at this; done)
  · subst h
    obtain ⟨us, vs, rfl, h1, h2⟩ := hv.of_fn
    rw [h1.unnil, h2.unnil]
    exact .fn _ _ [] [] [] [] rfl rfl (fun j d v h => by simp at h) (fun j d v h => by simp at h)
  · rw [h.2]
    exact flat2_ok hv h.1 fun b hb => .inl hb
theorem frz_ok (hs : HS W0 base S0 E hp w) : ∀ {ds bs : List DV} {vs : List Value}, VRs E w ds vs → Frz hp ds bs → VRs (ro (roS E)) w bs vs
  | [], [], vs, h, _ => by
    rw [h.unnil]
    exact .nil _ _
  | d :: ds, a :: bs, vs, h, hf => by
    obtain ⟨v, vs', rfl, h1, h2⟩ := h.uncons
    exact .cons (frz1_ok hs h1 hf.1) (frz_ok hs h2 hf.2)
  | [], _ :: _, _, _, h => h.elim
  | _ :: _, [], _, _, h => h.elim
theorem hs_frz (hs : HS W0 base S0 E hp w) : HS w 0 (roS E) (ro (roS E)) ⟨0, [], []⟩ w :=
  ⟨Below.refl _ _, fun _ h => h.elim, fun _ h => h.elim, fun _ h => h.elim, fun _ _ _ _ h => h.elim, fun b hb => by
    rcases hb with hb | ⟨id, hd, rfl⟩
    · exact hs.ro b hb
    · obtain ⟨o, _, hok⟩ := hs.ob id hd
      exact hok.lt, fun _ h => .inl h, Nat.le_refl _, .none rfl fun _ => rfl⟩
end
/-! ### Answers laid upon a heap -/
def sh1 (k : Nat) : DV → DV
  | .sl id off s n c => .sl (k + id) off s n c
  | .ptr id off => .ptr (k + id) off
  | d => d
def sh2 (k : Nat) : DV → DV
  | .agg cs => .agg (cs.map (sh1 k))
  | d => sh1 k d
def sh3 (k : Nat) : DV → DV
  | .tuple cs => .tuple (cs.map (sh2 k))
  | d => sh2 k d
def cl1 : DV → Bool
  | .sl .. => true
  | .ptr .. => true
  | d => plain d
def cl2 : DV → Bool
  | .agg cs => cs.all cl1
  | d => cl1 d
def cl3 : DV → Bool
  | .tuple cs => cs.all cl2
  | d => cl2 d
def layH (hp hp' : Hp) : Hp := ⟨hp.n + hp'.n, hp'.l ++ hp.l, hp.ls⟩
theorem layH_get {hp hp' : Hp} (hl : hp'.l.length = hp'.n) (id : Nat) : (layH hp hp').get id = if id < hp.n then hp.get id else hp'.get (id - hp.n) := by
  simp only [Hp.get_eq, layH]
  by_cases h : id < hp.n
  · rw [if_pos h, if_pos h, if_pos (by omega), List.getElem?_append_right (by omega), show hp.n + hp'.n - 1 - id - hp'.l.length = hp.n - 1 - id by omega]
  · rw [if_neg h]
    by_cases h' : id < hp.n + hp'.n
    · rw [if_pos h', if_pos (by omega), List.getElem?_append_left (by omega), show hp.n + hp'.n - 1 - id = hp'.n - 1 - (id - hp.n) by omega]
    · rw [if_neg h', if_neg (by omega)]
def Env.lay (E E' : Env) (n B : Nat) : Env := ⟨fun b => E.S b ∨ (B ≤ b ∧ E'.S b), fun i => if i < n then E.b i else E'.b (i - n), fun i => if i < n then E.base i else E'.base (i - n), fun i => if i < n then E.sz i else E'.sz (i - n),
  fun i => (i < n ∧ E.X i) ∨ (n ≤ i ∧ E'.X (i - n)), fun i => (i < n ∧ E.D i) ∨ (n ≤ i ∧ E'.D (i - n)), E.yb⟩
section
variable {E E' : Env} {n B : Nat} {w : World}
theorem lay_new (n B : Nat) (id : Nat) : (E.lay E' n B).b (n + id) = E'.b id ∧ (E.lay E' n B).base (n + id) = E'.base id ∧ (E.lay E' n B).sz (n + id) = E'.sz id ∧ ((E.lay E' n B).X (n + id) ↔ E'.X id) ∧ ((E.lay E' n B).D (n + id) ↔ E'.D id) := by
  have h : ¬ n + id < n := by omega
  simp [Env.lay, h]
theorem sh1_ok {d : DV} {v : Value} (h : VR w E' d v) (hc : cl1 d = true) : VR w (E.lay E' n B) (sh1 n d) v := by
  unfold cl1 at hc
  split at hc
  · rename_i id off s m c
    obtain ⟨A, c', rfl, h1, h2, h3, h4, h5, h6⟩ := h.of_sl
    obtain ⟨e1, e2, e3, e4, e5⟩ := lay_new (E := E) (E' := E') n B id
    refine .sl _ (n + id) off s m c A c' (e5.2 h1) h2 h3 h4 (fun hx => h5 (e4.1 hx)) fun hc => ?_
    rw [e1, e2, e3]
    exact h6 hc
  · rename_i id off
    obtain ⟨rfl, h1⟩ := h.of_ptr
    obtain ⟨e1, e2, e3, e4, e5⟩ := lay_new (E := E) (E' := E') n B id
    have : VR w (E.lay E' n B) (.ptr (n + id) off) (.pointer (some ⟨(E.lay E' n B).b (n + id), (E.lay E' n B).base (n + id) + off, none⟩)) := .ptr _ _ off (e5.2 h1)
    rw [e1, e2] at this
    exact this
  · have : sh1 n d = d := by cases d <;> first | rfl | (simp [plain] at hc; done)
    rw [this]
    exact plain_ok h hc
theorem VRs.map {g : DV → DV} {c : DV → Bool} {E2 : Env} (hg : ∀ {d v}, VR w E' d v → c d = true → VR w E2 (g d) v) {ds : List DV} {vs : List Value} (h : VRs E' w ds vs) (hc : ds.all c = true) : VRs E2 w (ds.map g) vs :=
  ⟨by rw [List.length_map]; exact h.1, fun j d v hd hv => by
    rw [List.getElem?_map] at hd
    cases hj : ds[j]? with
    | none => rw [hj] at hd; cases hd
    | some d0 =>
      rw [hj] at hd
      cases hd
      exact hg (h.2 j d0 v hj hv) (List.all_eq_true.1 hc d0 (List.mem_of_getElem? hj))⟩
theorem sh2_ok {d : DV} {v : Value} (h : VR w E' d v) (hc : cl2 d = true) : VR w (E.lay E' n B) (sh2 n d) v := by
  unfold cl2 at hc
  split at hc
  · obtain ⟨vs, rfl, hvs⟩ := h.of_agg
    exact (hvs.map (fun h hc => sh1_ok h hc) hc).agg
  · rename_i hne
    have : sh2 n d = sh1 n d := by
      unfold sh2
      split
      · exact (hne _ rfl).elim
      · rfl
    rw [this]
    exact sh1_ok h hc
theorem sh3_ok {d : DV} {v : Value} (h : VR w E' d v) (hc : cl3 d = true) : VR w (E.lay E' n B) (sh3 n d) v := by
  unfold cl3 at hc
  split at hc
  · obtain ⟨vs, rfl, hvs⟩ := h.of_tuple
    exact (hvs.map (fun h hc => sh2_ok h hc) hc).tuple
  · rename_i hne
    have : sh3 n d = sh2 n d := by
      unfold sh3
      split
      · exact (hne _ rfl).elim
      · rfl
    rw [this]
    exact sh2_ok h hc
end
/-- what a contract's answers must be -/
structure Fine (d : DV) (hp : Hp) : Prop where
  cl : cl3 d = true
  pl : Plain hp
  ln : hp.l.length = hp.n
theorem ans_lift {f : FuncId} {args bs : List DV} {d : DV} {hp hp' : Hp} (hA : Ans P f bs d hp') (hf : Frz hp args bs) (hfine : Fine d hp') {W0 : World} {base : Nat} {S0 : Nat → Prop} {E : Env} {w : World} {vs : List Value} (hs : HS W0 base S0 E hp w) (hv : VRs E w args vs) :
    Calls P f vs.toArray w fun e w' => ∃ E2 v, e = .returned v ∧ Stp W0 base S0 E hp w E2 (layH hp hp') w' ∧ VR w' E2 (sh3 hp.n d) v := by
  refine (hA.2 w (roS E) (ro (roS E)) w vs (hs_frz hs) (frz_ok hs hv hf)).mono ?_
  rintro e w' ⟨E', v, rfl, hl, hh, hr⟩
  have hbel : Below w.heap.size w w' := hh.bel
  have hold : ∀ id, E.D id → id < hp.n ∧ E.b id < w.heap.size := fun id hd => by
    refine ⟨hs.dlt hd, ?_⟩
    obtain ⟨o, _, hok⟩ := hs.ob id hd
    exact hok.lt
  have hlat : Later E w (E.lay E' hp.n w.heap.size) w' := by
    refine ⟨fun b hb => .inl hb, fun id hd => ?_, fun p hp => hbel.cell (hs.ro _ hp), fun _ _ h => h⟩
    have hlt := (hold id hd).1
    have hX : (E.lay E' hp.n w.heap.size).X id ↔ E.X id := by
      simp only [Env.lay]
      constructor
      · rintro (⟨_, h⟩ | ⟨h, _⟩)
        · exact h
        · omega
      · exact fun h => .inl ⟨hlt, h⟩
    exact ⟨.inl ⟨hlt, hd⟩, by simp [Env.lay, hlt], by simp [Env.lay, hlt], by simp [Env.lay, hlt], hX⟩
  have hg := layH_get (hp := hp) hfine.ln
  have hHS : HS W0 base S0 (E.lay E' hp.n w.heap.size) (layH hp hp') w' := by
    refine ⟨hs.bel.trans (hbel.mono hs.bel.size), ?_, ?_, ?_, ?_, ?_, ?_, Nat.le_trans hs.le (Nat.le_add_right _ _), hs.ys.keep hlat rfl rfl (Nat.le_add_right _ _) fun k hk => hbel.block k (isO_lt hk)⟩
    · rintro id (⟨hlt, hd⟩ | ⟨hge, hd⟩)
      · obtain ⟨o, h1, hok⟩ := hs.ob id hd
        refine ⟨o, by rw [hg, if_pos hlt]; exact h1, hok.keep hd hlat (hbel.block _ hok.lt)⟩
      · obtain ⟨o, h1, hok⟩ := hh.ob _ hd
        refine ⟨o, by rw [hg, if_neg (by omega)]; exact h1, ?_⟩
        obtain ⟨k0, k1, ws, k2, k3, k4, k5⟩ := hok
        obtain ⟨e1, e2, e3, e4, e5⟩ := lay_new (E := E) (E' := E') hp.n w.heap.size (id - hp.n)
        rw [show hp.n + (id - hp.n) = id by omega] at e1 e2 e3 e4 e5
        exact ⟨k0.trans e4.symm, k1, ws, by rw [e1]; exact k2, by rw [e3]; exact k3, by rw [e2]; exact k4, by
          rw [e2]
          exact ⟨k5.1, fun j d v hj hv => plain_ok (k5.2 j d v hj hv) (hfine.pl _ _ h1 d (List.mem_of_getElem? hj))⟩⟩
    · rintro id (⟨hlt, hd⟩ | ⟨hge, hd⟩) hb
      · obtain ⟨h1, h2⟩ := hs.own id hd hb
        have := (hold id hd).2
        simp only [Env.lay, hlt, if_true]
        exact ⟨h1, fun h => by
          rcases h with h | ⟨h, _⟩
          · exact h2 h
          · omega⟩
      · obtain ⟨h1, h2⟩ := hh.own _ hd (Nat.zero_le _)
        have hle := hs.bel.size
        simp only [Env.lay, Nat.not_lt.2 hge, if_false]
        refine ⟨by omega, fun h => ?_⟩
        rcases h with h | ⟨_, h⟩
        · have := hs.ro _ h
          omega
        · exact h2 h
    · rintro id (⟨hlt, hd⟩ | ⟨hge, hd⟩) hb
      · simp only [Env.lay, hlt, if_true]
        exact hs.old id hd hb
      · have := hs.le
        omega
    · rintro i j oi oj hi hj hne hbi hoi hoj hk he
      rw [hg] at hoi hoj
      rcases hi with ⟨hil, hdi⟩ | ⟨hig, hdi⟩
      · rcases hj with ⟨hjl, hdj⟩ | ⟨hjg, hdj⟩
        · rw [if_pos hil] at hoi
          rw [if_pos hjl] at hoj
          simp only [Env.lay, hil, hjl, if_true] at he ⊢
          exact hs.inj i j oi oj hdi hdj hne hbi hoi hoj hk he
        · simp only [Env.lay, hil, Nat.not_lt.2 hjg, if_true, if_false] at he
          have h1 := (hold i hdi).2
          have h2 := (hh.own _ hdj (Nat.zero_le _)).1
          omega
      · rcases hj with ⟨hjl, hdj⟩ | ⟨hjg, hdj⟩
        · simp only [Env.lay, hjl, Nat.not_lt.2 hig, if_true, if_false] at he
          have h1 := (hold j hdj).2
          have h2 := (hh.own _ hdi (Nat.zero_le _)).1
          omega
        · rw [if_neg (by omega)] at hoi hoj
          simp only [Env.lay, Nat.not_lt.2 hig, Nat.not_lt.2 hjg, if_false] at he ⊢
          obtain ⟨q1, q2⟩ := hh.inj _ _ oi oj hdi hdj (by omega) (Nat.zero_le _) hoi hoj hk he
          refine ⟨q1, ?_⟩
          rcases q2 with q2 | ⟨q2, q3, q4⟩
          · exact .inl q2
          · exact .inr ⟨q2, by omega, q4⟩
    · rintro b (hb | ⟨_, hb⟩)
      · have := hs.ro b hb
        have := hbel.size
        omega
      · exact hh.ro b hb
    · rintro b (hb | ⟨hb, _⟩)
      · exact hs.olds b hb
      · have := hs.bel.size
        exact .inr (by omega)
  refine ⟨E.lay E' hp.n w.heap.size, v, rfl, ⟨hlat, hHS, ⟨Nat.le_add_right _ _, fun id hid => ?_, fun _ => rfl, fun _ _ => rfl⟩, fun id hlt hd => ?_, .of_below hbel, rfl⟩, sh3_ok hr hfine.cl⟩
  · have := hs.le
    rw [hg, if_pos (by omega)]
  · rcases hd with ⟨_, hd⟩ | ⟨hge, _⟩
    · exact hd
    · omega
/-- the table of one function's contract -/
def conC {α : Type} (f0 : FuncId) (A : α → List DV) (B : α → DV × Hp) : ConF := fun f args hp => match Nat.beq f f0 with
  | true => @dite _ (∃ x, Frz hp args (A x)) (Classical.propDecidable _) (fun h => some (sh3 hp.n (B h.choose).1, layH hp (B h.choose).2, none)) (fun _ => none)
  | false => none
theorem conC_at {α : Type} {f0 : FuncId} {A : α → List DV} {B : α → DV × Hp} (hinj : ∀ x y, A x = A y → B x = B y) {args : List DV} {hp : Hp} (x : α) (h : Frz hp args (A x)) : conC f0 A B f0 args hp = some (sh3 hp.n (B x).1, layH hp (B x).2, none) := by
  have hex : ∃ x, Frz hp args (A x) := ⟨x, h⟩
  have hB : B hex.choose = B x := hinj _ _ (frz_fun hex.choose_spec h)
  have hb : Nat.beq f0 f0 = true := beqT rfl
  unfold conC
  rw [hb]
  show @dite _ (∃ x, Frz hp args (A x)) (Classical.propDecidable _) _ _ = _
  rw [dif_pos hex, hB]
theorem conC_ok {α : Type} {f0 : FuncId} {A : α → List DV} {B : α → DV × Hp} (h : ∀ x, Ans P f0 (A x) (B x).1 (B x).2) (hf : ∀ x, Fine (B x).1 (B x).2) : ConOk P (conC f0 A B) := by
  intro f args hp r hp' mu heq
  unfold conC at heq
  split at heq
  · rename_i hb
    have hb := Nat.eq_of_beq_eq_true hb
    subst hb
    by_cases hex : ∃ x, Frz hp args (A x)
    · rw [dif_pos hex] at heq
      cases heq
      have hA := h hex.choose
      have hfine := hf hex.choose
      refine ⟨hA.1, fun base _ hb => ⟨Nat.le_add_right _ _, fun id hid => ?_, fun _ => rfl, fun _ _ => rfl⟩, fun W0 base S0 E w vs _ hs hv => ans_lift hA hex.choose_spec hfine hs hv⟩
      rw [layH_get hfine.ln, if_pos (by omega)]
    · rw [dif_neg hex] at heq
      cases heq
  · cases heq
end
end Go.Proofs.Ytoghpmeoekbcbaa
