/- A call's answer, carried into every heap: slices of the caller's are read as they stand. No function of the program is named here. -/
import Derived.Test.YtmnpkgonanpgfaaMF
namespace Go.Proofs.Ytmnpkgonanpgfaa
open Go.RowKit

noncomputable section
variable {P : Program}
theorem flats1_iff (l : List DV) : flats1 l = true ↔ ∀ d ∈ l, flat1 d = true := by
  induction l with
  | nil => simp [flats1]
  | cons x l ih => simp [flats1, ih]
/-- a slice of the caller's, read as a list -/
def frzS (hp : Hp) (id off s n : Nat) (a : DV) : Prop := ∃ (o : Ob) (xs : List (List DV)), hp.get id = some o ∧ a = .list s xs ∧ xs.length = n ∧ (∀ (i : Nat) (cs : List DV), xs[i]? = some cs → cs.length = s ∧ flats1 cs = true ∧ ∀ (j : Nat) (d : DV), cs[j]? = some d → o.cs[off + (i * s + j)]? = some d)
def frz0 (hp : Hp) (d a : DV) : Prop := match d with
  | .sl id off s n _ => frzS hp id off s n a
  | d => flat1 d = true ∧ a = d
def Frz0 (hp : Hp) : List DV → List DV → Prop
  | [], [] => True
  | d :: ds, a :: bs => frz0 hp d a ∧ Frz0 hp ds bs
  | _, _ => False
/-- an argument as a callee sees it that only reads -/
def frz1 (hp : Hp) (d a : DV) : Prop := match d with
  | .sl id off s n _ => ∃ (o : Ob) (xs : List (List DV)), hp.get id = some o ∧ a = .list s xs ∧ xs.length = n ∧ (∀ (i : Nat) (cs : List DV), xs[i]? = some cs → cs.length = s ∧ flats1 cs = true ∧ ∀ (j : Nat) (d : DV), cs[j]? = some d → o.cs[off + (i * s + j)]? = some d)
  | .fn f [] [] => a = .fn f [] []
  | .agg cs => match flats1 cs with
    | true => flat2 (.agg cs) = true ∧ a = .agg cs
    | false => ∃ bs, a = .agg bs ∧ Frz0 hp cs bs
  | d => flat2 d = true ∧ a = d
def Frz (hp : Hp) : List DV → List DV → Prop
  | [], [] => True
  | d :: ds, a :: bs => frz1 hp d a ∧ Frz hp ds bs
  | _, _ => False
theorem frzS_fun {hp : Hp} {id off s n : Nat} {a a' : DV} (h : frzS hp id off s n a) (h' : frzS hp id off s n a') : a = a' := by
  obtain ⟨o, xs, h1, rfl, h2, h3⟩ := h
  obtain ⟨o', xs', h1', rfl, h2', h3'⟩ := h'
  rw [h1] at h1'
  cases h1'
  congr 1
  refine List.ext_getElem? fun i => ?_
  cases hi : xs[i]? with
  | none =>
    have : xs.length ≤ i := List.getElem?_eq_none_iff.1 hi
    exact (List.getElem?_eq_none_iff.2 (by omega)).symm
  | some cs =>
    have hl := (List.getElem?_eq_some_iff.1 hi).1
    have hl' : i < xs'.length := by omega
    have hi' : xs'[i]? = some xs'[i] := List.getElem?_eq_getElem hl'
    rw [hi']
    obtain ⟨k1, _, k3⟩ := h3 i cs hi
    obtain ⟨k1', _, k3'⟩ := h3' i _ hi'
    congr 1
    refine List.ext_getElem? fun j => ?_
    cases hj : cs[j]? with
    | none =>
      have : cs.length ≤ j := List.getElem?_eq_none_iff.1 hj
      exact (List.getElem?_eq_none_iff.2 (by omega)).symm
    | some d =>
      have hjl := (List.getElem?_eq_some_iff.1 hj).1
      have hj' : (xs'[i])[j]? = some (xs'[i])[j] := List.getElem?_eq_getElem (by omega)
      rw [hj', ← k3 j d hj, k3' j _ hj']
theorem frz0_fun {hp : Hp} {d a a' : DV} (h : frz0 hp d a) (h' : frz0 hp d a') : a = a' := by
  unfold frz0 at h h'
  split at h
  · exact frzS_fun h h'
  · split at h'
    · exact absurd h.1 (by simp [flat1])
    · rw [h.2, h'.2]
theorem frz0s_fun {hp : Hp} : ∀ {ds bs bs' : List DV}, Frz0 hp ds bs → Frz0 hp ds bs' → bs = bs'
  | [], [], [], _, _ => rfl
  | _ :: _, _ :: _, _ :: _, h, h' => by
    rw [frz0_fun h.1 h'.1, frz0s_fun h.2 h'.2]
  | [], _ :: _, _, h, _ => h.elim
  | [], [], _ :: _, _, h => h.elim
  | _ :: _, [], _, h, _ => h.elim
  | _ :: _, _ :: _, [], _, h => h.elim
theorem frz1_fun {hp : Hp} {d a a' : DV} (h : frz1 hp d a) (h' : frz1 hp d a') : a = a' := by
  cases d with
  | sl id off s n c => exact frzS_fun (n := n) h h'
  | agg cs =>
    unfold frz1 at h h'
    simp only at h h'
    cases hf : flats1 cs with
    | true =>
      rw [hf] at h h'
      rw [h.2, h'.2]
    | false =>
      rw [hf] at h h'
      obtain ⟨bs, rfl, h⟩ := h
      obtain ⟨bs', rfl, h'⟩ := h'
      rw [frz0s_fun h h']
  | fn f us vs =>
    cases us with
    | nil => cases vs with
      | nil => exact (show a = _ from h).trans (show a' = _ from h').symm
      | cons _ _ => exact (And.right h).trans (And.right h').symm
    | cons _ _ => exact (And.right h).trans (And.right h').symm
  | _ => exact (And.right h).trans (And.right h').symm
theorem frz_fun {hp : Hp} : ∀ {ds bs bs' : List DV}, Frz hp ds bs → Frz hp ds bs' → bs = bs'
  | [], [], [], _, _ => rfl
  | _ :: _, _ :: _, _ :: _, h, h' => by
    rw [frz1_fun h.1 h'.1, frz_fun h.2 h'.2]
  | [], _ :: _, _, h, _ => h.elim
  | [], [], _ :: _, _, h => h.elim
  | _ :: _, [], _, h, _ => h.elim
  | _ :: _, _ :: _, [], _, h => h.elim
/-- the blocks that a callee may only read -/
def roS (E : Env) : Nat → Prop := fun b => E.S b ∨ ∃ id, E.D id ∧ b = E.b id
section
variable {W0 : World} {base : Nat} {S0 : Nat → Prop} {E : Env} {hp : Hp} {w : World}
theorem frzS_ok (hs : HS W0 base S0 E hp w) {id off s n c : Nat} {a : DV} {v : Value} (hv : VR w E (.sl id off s n c) v) (h : frzS hp id off s n a) : VR w (ro (roS E)) a v := by
  obtain ⟨o, xs, h1, rfl, h2, h3⟩ := h
  obtain ⟨A, c', rfl, hd, hn, hc, hm, hx, ha⟩ := hv.of_sl
  obtain ⟨o', h1', hok⟩ := hs.ob id hd
  rw [h1] at h1'
  cases h1'
  obtain ⟨k0, k1, vs, k2, k3, k4, k5⟩ := hok
  subst h2
  have hcell : ∀ (i : Nat) (cs : List DV) (j : Nat) (d : DV), xs[i]? = some cs → cs[j]? = some d → ∃ v, vs[E.base id + (off + (i * s + j))]? = some v ∧ VR w E d v := fun i cs j d hi hj => by
    have ho := (h3 i cs hi).2.2 j d hj
    obtain ⟨v, hv1, hv2⟩ := k5.get ho
    refine ⟨v, ?_, hv2⟩
    rw [List.getElem?_take] at hv1
    split at hv1
    · simpa using hv1
    · cases hv1
  refine .list _ s xs (some A) c' (E.b id) (E.base id + off) (fun i j => (vs[E.base id + (off + (i * s + j))]?).getD undef) (by omega) hm (fun h => by cases h) (fun h => ⟨?_, .inr ⟨id, hd, rfl⟩⟩) (fun i cs hi => (h3 i cs hi).1) (fun i cs j d hi hj => ?_) (fun i cs j d hi hj => ?_) (fun cs hcs => ?_)
  · rw [(ha (by omega)).1]
  · obtain ⟨v, hv1, _⟩ := hcell i cs j d hi hj
    rw [k2.cell, Nat.add_assoc, hv1]
    rfl
  · obtain ⟨v, hv1, hv2⟩ := hcell i cs j d hi hj
    simp only [hv1, Option.getD_some]
    exact flat1_ok hv2 ((flats1_iff cs).1 (h3 i cs hi).2.1 d (List.mem_of_getElem? hj)) fun b hb => .inl hb
  · obtain ⟨i, hi⟩ := List.mem_iff_getElem?.1 hcs
    refine (scals_iff cs).2 fun d hd => ?_
    have := (flats1_iff cs).1 (h3 i cs hi).2.1 d hd
    cases d <;> first | rfl | (simp [flat1] at this; done)
theorem frz0_ok (hs : HS W0 base S0 E hp w) {d a : DV} {v : Value} (hv : VR w E d v) (h : frz0 hp d a) : VR w (ro (roS E)) a v := by
  unfold frz0 at h
  split at h
  · exact frzS_ok hs hv h
  · rename_i d' _
    rw [h.2]
    exact flat1_ok hv h.1 fun b hb => .inl hb
theorem frz0s_ok (hs : HS W0 base S0 E hp w) : ∀ {ds bs : List DV} {vs : List Value}, VRs E w ds vs → Frz0 hp ds bs → VRs (ro (roS E)) w bs vs
  | [], [], vs, h, _ => by
    rw [h.unnil]
    exact .nil _ _
  | d :: ds, a :: bs, vs, h, hf => by
    obtain ⟨v, vs', rfl, h1, h2⟩ := h.uncons
    exact .cons (frz0_ok hs h1 hf.1) (frz0s_ok hs h2 hf.2)
  | [], _ :: _, _, _, h => h.elim
  | _ :: _, [], _, _, h => h.elim
theorem frz1_ok (hs : HS W0 base S0 E hp w) {d a : DV} {v : Value} (hv : VR w E d v) (h : frz1 hp d a) : VR w (ro (roS E)) a v := by
  have flat : flat2 d = true ∧ a = d → VR w (ro (roS E)) a v := fun h => by
    rw [h.2]
    exact flat2_ok hv h.1 fun b hb => .inl hb
  cases d with
  | sl id off s n c => exact frzS_ok hs hv h
  | agg cs =>
    unfold frz1 at h
    simp only at h
    cases hf : flats1 cs with
    | true =>
      rw [hf] at h
      exact flat h
    | false =>
      rw [hf] at h
      obtain ⟨bs, rfl, h⟩ := h
      obtain ⟨vs, rfl, hvs⟩ := hv.of_agg
      exact (frz0s_ok hs hvs h).agg
  | fn f us vs =>
    cases us with
    | nil => cases vs with
      | nil =>
        have h : a = .fn f [] [] := h
        subst h
        obtain ⟨us, vs, rfl, h1, h2⟩ := hv.of_fn
        rw [h1.unnil, h2.unnil]
        exact .fn _ _ [] [] [] [] rfl rfl (fun j d v h => by simp at h) (fun j d v h => by simp at h)
      | cons _ _ => exact flat h
    | cons _ _ => exact flat h
  | _ => exact flat h
theorem frz_ok (hs : HS W0 base S0 E hp w) : ∀ {ds bs : List DV} {vs : List Value}, VRs E w ds vs → Frz hp ds bs → VRs (ro (roS E)) w bs vs
  | [], [], vs, h, _ => by
    rw [h.unnil]
    exact .nil _ _
  | d :: ds, a :: bs, vs, h, hf => by
    obtain ⟨v, vs', rfl, h1, h2⟩ := h.uncons
    exact .cons (frz1_ok hs h1 hf.1) (frz_ok hs h2 hf.2)
  | [], _ :: _, _, _, h => h.elim
  | _ :: _, [], _, _, h => h.elim
theorem hs_frz (hs : HS W0 base S0 E hp w) : HS w 0 (roS E) (ro (roS E)) ⟨0, [], []⟩ w :=
  ⟨Below.refl _ _, fun _ h => h.elim, fun _ h => h.elim, fun _ h => h.elim, fun _ _ _ _ h => h.elim, fun b hb => by
    rcases hb with hb | ⟨id, hd, rfl⟩
    · exact hs.ro b hb
    · obtain ⟨o, _, hok⟩ := hs.ob id hd
      exact hok.lt, fun _ h => .inl h, Nat.le_refl _, .none rfl (fun _ => rfl) (hs.gl.mono (fun b hb => .inl hb) fun _ _ => rfl)⟩
end
/-! ### Answers laid upon a heap -/
def sh1 (k : Nat) : DV → DV
  | .sl id off s n c => .sl (k + id) off s n c
  | .ptr id off => .ptr (k + id) off
  | d => d
def sh2 (k : Nat) : DV → DV
  | .agg cs => .agg (cs.map (sh1 k))
  | d => sh1 k d
def sh3 (k : Nat) : DV → DV
  | .tuple cs => .tuple (cs.map (sh2 k))
  | d => sh2 k d
def cl1 : DV → Bool
  | .sl .. => true
  | .ptr .. => true
  | d => plain d
def cl2 : DV → Bool
  | .agg cs => cs.all cl1
  | d => cl1 d
def cl3 : DV → Bool
  | .tuple cs => cs.all cl2
  | d => cl2 d
def layH (hp hp' : Hp) : Hp := ⟨hp.n + hp'.n, hp'.l ++ hp.l, hp.ls⟩
theorem layH_get {hp hp' : Hp} (hl : hp'.l.length = hp'.n) (id : Nat) : (layH hp hp').get id = if id < hp.n then hp.get id else hp'.get (id - hp.n) := by
  simp only [Hp.get_eq, layH]
  by_cases h : id < hp.n
  · rw [if_pos h, if_pos h, if_pos (by omega), List.getElem?_append_right (by omega), show hp.n + hp'.n - 1 - id - hp'.l.length = hp.n - 1 - id by omega]
  · rw [if_neg h]
    by_cases h' : id < hp.n + hp'.n
    · rw [if_pos h', if_pos (by omega), List.getElem?_append_left (by omega), show hp.n + hp'.n - 1 - id = hp'.n - 1 - (id - hp.n) by omega]
    · rw [if_neg h', if_neg (by omega)]
def Env.lay (E E' : Env) (n B : Nat) : Env := ⟨fun b => E.S b ∨ (B ≤ b ∧ E'.S b), fun i => if i < n then E.b i else E'.b (i - n), fun i => if i < n then E.base i else E'.base (i - n), fun i => if i < n then E.sz i else E'.sz (i - n),
  fun i => (i < n ∧ E.X i) ∨ (n ≤ i ∧ E'.X (i - n)), fun i => (i < n ∧ E.D i) ∨ (n ≤ i ∧ E'.D (i - n)), E.yb⟩
section
variable {E E' : Env} {n B : Nat} {w : World}
theorem lay_new (n B : Nat) (id : Nat) : (E.lay E' n B).b (n + id) = E'.b id ∧ (E.lay E' n B).base (n + id) = E'.base id ∧ (E.lay E' n B).sz (n + id) = E'.sz id ∧ ((E.lay E' n B).X (n + id) ↔ E'.X id) ∧ ((E.lay E' n B).D (n + id) ↔ E'.D id) := by
  have h : ¬ n + id < n := by omega
  simp [Env.lay, h]
theorem sh1_ok {d : DV} {v : Value} (h : VR w E' d v) (hc : cl1 d = true) : VR w (E.lay E' n B) (sh1 n d) v := by
  unfold cl1 at hc
  split at hc
  · rename_i id off s m c
    obtain ⟨A, c', rfl, h1, h2, h3, h4, h5, h6⟩ := h.of_sl
    obtain ⟨e1, e2, e3, e4, e5⟩ := lay_new (E := E) (E' := E') n B id
    refine .sl _ (n + id) off s m c A c' (e5.2 h1) h2 h3 h4 (fun hx => h5 (e4.1 hx)) fun hc => ?_
    rw [e1, e2, e3]
    exact h6 hc
  · rename_i id off
    obtain ⟨rfl, h1⟩ := h.of_ptr
    obtain ⟨e1, e2, e3, e4, e5⟩ := lay_new (E := E) (E' := E') n B id
    have : VR w (E.lay E' n B) (.ptr (n + id) off) (.pointer (some ⟨(E.lay E' n B).b (n + id), (E.lay E' n B).base (n + id) + off, none⟩)) := .ptr _ _ off (e5.2 h1)
    rw [e1, e2] at this
    exact this
  · have : sh1 n d = d := by cases d <;> first | rfl | (simp [plain] at hc; done)
    rw [this]
    exact plain_ok h hc
theorem VRs.map {g : DV → DV} {c : DV → Bool} {E2 : Env} (hg : ∀ {d v}, VR w E' d v → c d = true → VR w E2 (g d) v) {ds : List DV} {vs : List Value} (h : VRs E' w ds vs) (hc : ds.all c = true) : VRs E2 w (ds.map g) vs :=
  ⟨by rw [List.length_map]; exact h.1, fun j d v hd hv => by
    rw [List.getElem?_map] at hd
    cases hj : ds[j]? with
    | none => rw [hj] at hd; cases hd
    | some d0 =>
      rw [hj] at hd
      cases hd
      exact hg (h.2 j d0 v hj hv) (List.all_eq_true.1 hc d0 (List.mem_of_getElem? hj))⟩
theorem sh2_ok {d : DV} {v : Value} (h : VR w E' d v) (hc : cl2 d = true) : VR w (E.lay E' n B) (sh2 n d) v := by
  unfold cl2 at hc
  split at hc
  · obtain ⟨vs, rfl, hvs⟩ := h.of_agg
    exact (hvs.map (fun h hc => sh1_ok h hc) hc).agg
  · rename_i hne
    have : sh2 n d = sh1 n d := by
      unfold sh2
      split
      · exact (hne _ rfl).elim
      · rfl
    rw [this]
    exact sh1_ok h hc
theorem sh3_ok {d : DV} {v : Value} (h : VR w E' d v) (hc : cl3 d = true) : VR w (E.lay E' n B) (sh3 n d) v := by
  unfold cl3 at hc
  split at hc
  · obtain ⟨vs, rfl, hvs⟩ := h.of_tuple
    exact (hvs.map (fun h hc => sh2_ok h hc) hc).tuple
  · rename_i hne
    have : sh3 n d = sh2 n d := by
      unfold sh3
      split
      · exact (hne _ rfl).elim
      · rfl
    rw [this]
    exact sh2_ok h hc
end
/-- what a contract's answers must be -/
structure Fine (d : DV) (hp : Hp) : Prop where
  cl : cl3 d = true
  pl : Plain hp
  ln : hp.l.length = hp.n
theorem ans_lift {f : FuncId} {args bs : List DV} {d : DV} {hp hp' : Hp} (hA : Ans P f bs d hp') (hf : Frz hp args bs) (hfine : Fine d hp') {W0 : World} {base : Nat} {S0 : Nat → Prop} {E : Env} {w : World} {vs : List Value} (hs : HS W0 base S0 E hp w) (hv : VRs E w args vs) :
    Calls P f vs.toArray w fun e w' => ∃ E2 v, e = .returned v ∧ Stp W0 base S0 E hp w E2 (layH hp hp') w' ∧ VR w' E2 (sh3 hp.n d) v := by
  refine (hA.2 w (roS E) (ro (roS E)) w vs (hs_frz hs) (frz_ok hs hv hf)).mono ?_
  rintro e w' ⟨E', v, rfl, hl, hh, hr⟩
  have hbel : Below w.heap.size w w' := hh.bel
  have hold : ∀ id, E.D id → id < hp.n ∧ E.b id < w.heap.size := fun id hd => by
    refine ⟨hs.dlt hd, ?_⟩
    obtain ⟨o, _, hok⟩ := hs.ob id hd
    exact hok.lt
  have hlat : Later E w (E.lay E' hp.n w.heap.size) w' := by
    refine ⟨fun b hb => .inl hb, fun id hd => ?_, fun p hp => hbel.cell (hs.ro _ hp), fun _ _ h => h⟩
    have hlt := (hold id hd).1
    have hX : (E.lay E' hp.n w.heap.size).X id ↔ E.X id := by
      simp only [Env.lay]
      constructor
      · rintro (⟨_, h⟩ | ⟨h, _⟩)
        · exact h
        · omega
      · exact fun h => .inl ⟨hlt, h⟩
    exact ⟨.inl ⟨hlt, hd⟩, by simp [Env.lay, hlt], by simp [Env.lay, hlt], by simp [Env.lay, hlt], hX⟩
  have hg := layH_get (hp := hp) hfine.ln
  have hHS : HS W0 base S0 (E.lay E' hp.n w.heap.size) (layH hp hp') w' := by
    refine ⟨hs.bel.trans (hbel.mono hs.bel.size), ?_, ?_, ?_, ?_, ?_, ?_, Nat.le_trans hs.le (Nat.le_add_right _ _), hs.ys.keep hlat rfl rfl (Nat.le_add_right _ _) fun k hk => hbel.block k (isO_lt hk)⟩
    · rintro id (⟨hlt, hd⟩ | ⟨hge, hd⟩)
      · obtain ⟨o, h1, hok⟩ := hs.ob id hd
        refine ⟨o, by rw [hg, if_pos hlt]; exact h1, hok.keep hd hlat (hbel.block _ hok.lt)⟩
      · obtain ⟨o, h1, hok⟩ := hh.ob _ hd
        refine ⟨o, by rw [hg, if_neg (by omega)]; exact h1, ?_⟩
        obtain ⟨k0, k1, ws, k2, k3, k4, k5⟩ := hok
        obtain ⟨e1, e2, e3, e4, e5⟩ := lay_new (E := E) (E' := E') hp.n w.heap.size (id - hp.n)
        rw [show hp.n + (id - hp.n) = id by omega] at e1 e2 e3 e4 e5
        exact ⟨k0.trans e4.symm, k1, ws, by rw [e1]; exact k2, by rw [e3]; exact k3, by rw [e2]; exact k4, by
          rw [e2]
          exact ⟨k5.1, fun j d v hj hv => plain_ok (k5.2 j d v hj hv) (hfine.pl _ _ h1 d (List.mem_of_getElem? hj))⟩⟩
    · rintro id (⟨hlt, hd⟩ | ⟨hge, hd⟩) hb
      · obtain ⟨h1, h2⟩ := hs.own id hd hb
        have := (hold id hd).2
        simp only [Env.lay, hlt, if_true]
        exact ⟨h1, fun h => by
          rcases h with h | ⟨h, _⟩
          · exact h2 h
          · omega⟩
      · obtain ⟨h1, h2⟩ := hh.own _ hd (Nat.zero_le _)
        have hle := hs.bel.size
        simp only [Env.lay, Nat.not_lt.2 hge, if_false]
        refine ⟨by omega, fun h => ?_⟩
        rcases h with h | ⟨_, h⟩
        · have := hs.ro _ h
          omega
        · exact h2 h
    · rintro id (⟨hlt, hd⟩ | ⟨hge, hd⟩) hb
      · simp only [Env.lay, hlt, if_true]
        exact hs.old id hd hb
      · have := hs.le
        omega
    · rintro i j oi oj hi hj hne hbi hoi hoj hk he
      rw [hg] at hoi hoj
      rcases hi with ⟨hil, hdi⟩ | ⟨hig, hdi⟩
      · rcases hj with ⟨hjl, hdj⟩ | ⟨hjg, hdj⟩
        · rw [if_pos hil] at hoi
          rw [if_pos hjl] at hoj
          simp only [Env.lay, hil, hjl, if_true] at he ⊢
          exact hs.inj i j oi oj hdi hdj hne hbi hoi hoj hk he
        · simp only [Env.lay, hil, Nat.not_lt.2 hjg, if_true, if_false] at he
          have h1 := (hold i hdi).2
          have h2 := (hh.own _ hdj (Nat.zero_le _)).1
          omega
      · rcases hj with ⟨hjl, hdj⟩ | ⟨hjg, hdj⟩
        · simp only [Env.lay, hjl, Nat.not_lt.2 hig, if_true, if_false] at he
          have h1 := (hold j hdj).2
          have h2 := (hh.own _ hdi (Nat.zero_le _)).1
          omega
        · rw [if_neg (by omega)] at hoi hoj
          simp only [Env.lay, Nat.not_lt.2 hig, Nat.not_lt.2 hjg, if_false] at he ⊢
          obtain ⟨q1, q2⟩ := hh.inj _ _ oi oj hdi hdj (by omega) (Nat.zero_le _) hoi hoj hk he
          refine ⟨q1, ?_⟩
          rcases q2 with q2 | ⟨q2, q3, q4⟩
          · exact .inl q2
          · exact .inr ⟨q2, by omega, q4⟩
    · rintro b (hb | ⟨_, hb⟩)
      · have := hs.ro b hb
        have := hbel.size
        omega
      · exact hh.ro b hb
    · rintro b (hb | ⟨hb, _⟩)
      · exact hs.olds b hb
      · have := hs.bel.size
        exact .inr (by omega)
  refine ⟨E.lay E' hp.n w.heap.size, v, rfl, ⟨hlat, hHS, ⟨Nat.le_add_right _ _, fun id hid => ?_, fun _ => rfl, fun _ _ => rfl⟩, fun id hlt hd => ?_, .of_below hbel, rfl⟩, sh3_ok hr hfine.cl⟩
  · have := hs.le
    rw [hg, if_pos (by omega)]
  · rcases hd with ⟨_, hd⟩ | ⟨hge, _⟩
    · exact hd
    · omega
/-- the table of one function's contract -/
def conC {α : Type} (f0 : FuncId) (A : α → List DV) (B : α → DV × Hp) : ConF := fun f args hp => match Nat.beq f f0 with
  | true => @dite _ (∃ x, Frz hp args (A x)) (Classical.propDecidable _) (fun h => some (sh3 hp.n (B h.choose).1, layH hp (B h.choose).2, none)) (fun _ => none)
  | false => none
theorem conC_at {α : Type} {f0 : FuncId} {A : α → List DV} {B : α → DV × Hp} (hinj : ∀ x y, A x = A y → B x = B y) {args : List DV} {hp : Hp} (x : α) (h : Frz hp args (A x)) : conC f0 A B f0 args hp = some (sh3 hp.n (B x).1, layH hp (B x).2, none) := by
  have hex : ∃ x, Frz hp args (A x) := ⟨x, h⟩
  have hB : B hex.choose = B x := hinj _ _ (frz_fun hex.choose_spec h)
  have hb : Nat.beq f0 f0 = true := beqT rfl
  unfold conC
  rw [hb]
  show @dite _ (∃ x, Frz hp args (A x)) (Classical.propDecidable _) _ _ = _
  rw [dif_pos hex, hB]
theorem conC_ok {α : Type} {f0 : FuncId} {A : α → List DV} {B : α → DV × Hp} (h : ∀ x, Ans P f0 (A x) (B x).1 (B x).2) (hf : ∀ x, Fine (B x).1 (B x).2) : ConOk P (conC f0 A B) := by
  intro f args hp r hp' mu heq
  unfold conC at heq
  split at heq
  · rename_i hb
    have hb := Nat.eq_of_beq_eq_true hb
    subst hb
    by_cases hex : ∃ x, Frz hp args (A x)
    · rw [dif_pos hex] at heq
      cases heq
      have hA := h hex.choose
      have hfine := hf hex.choose
      refine ⟨hA.1, fun base _ hb => ⟨Nat.le_add_right _ _, fun id hid => ?_, fun _ => rfl, fun _ _ => rfl⟩, fun W0 base S0 E w vs _ hs hv => ans_lift hA hex.choose_spec hfine hs hv⟩
      rw [layH_get hfine.ln, if_pos (by omega)]
    · rw [dif_neg hex] at heq
      cases heq
  · cases heq
end
end Go.Proofs.Ytmnpkgonanpgfaa
/- A function's answer along a path. No function of the program is named here. -/
namespace Go.Proofs.Ytmnpkgonanpgfaa
open Go.RowKit

noncomputable section
def zRes (T : Tab) (res : List ResultVar) : ZR → Option (DV × Hp × List Prop)
  | some (.exit _, _, _, _, _) => none
  | some (_, sl, hp, _, cs) => match resD T hp sl res with
    | some ds => some (one ds, hp, cs)
    | none => none
  | none => none
/-- the function f, called with args where no object is, along the path p: its answer, the objects then, what is to be shown -/
def zans (P : Program) (T : Tab) (F : FTab) (C : ConF) (f : FuncId) (args : List DV) (p : Yath) : Option (DV × Hp × List Prop) := match F f with
  | some fn => match Nat.ble args.length fn.nt with
    | true => zRes T fn.res (zz P T F C 1000 fn.ks 1000 fn.body (initS fn.nt args) ⟨0, [], []⟩ p)
    | false => none
  | none => none
variable {P : Program} {T : Tab} {F : FTab} {C : ConF}
theorem zans_ok (hT : TabOk P T) (hmix : P.follows .mixedOrders = true) (hF : FunOk P T F) (hC : ConOk P C) {f : FuncId} {args : List DV} {p : Yath} {d : DV} {hp : Hp} {cs : List Prop} (h : zans P T F C f args p = some (d, hp, cs)) (hc : AskedP cs) : Ans P f args d hp := by
  unfold zans at h
  split at h
  · rename_i fn hfn
    split at h
    · rename_i hl
      unfold zRes at h
      split at h
      · cases h
      · rename_i e sl hp1 p1 cs1 hne hz
        split at h
        · rename_i ds hds
          cases h
          exact ans_of_goes hT hF hfn hl (zz_ok hT hmix hF hC 1000 hz hc) hne hds
        · cases h
      · cases h
    · cases h
  · cases h
/-- the same, where the answer names no object -/
def zflat : Option (DV × Hp × List Prop) → Option (DV × List Prop)
  | some (d, hp, cs) => match flatD d, hp.ls with
    | true, [] => some (d, cs)
    | _, _ => none
  | none => none
theorem zflat_ok (hT : TabOk P T) (hmix : P.follows .mixedOrders = true) (hF : FunOk P T F) (hC : ConOk P C) {f : FuncId} {args : List DV} {p : Yath} {d : DV} {cs : List Prop} (h : zflat (zans P T F C f args p) = some (d, cs)) (hc : AskedP cs) : Ans P f args d ⟨0, [], []⟩ := by
  unfold zflat at h
  split at h
  · rename_i h1
    split at h
    · rename_i hd hl
      cases h
      exact (zans_ok hT hmix hF hC h1 hc).flat hl hd
    · cases h
  · cases h
/-- the same, the objects L being kept -/
def zkeep (L : List Nat) : Option (DV × Hp × List Prop) → Option (DV × Hp × List Prop)
  | some (d, hp, cs) => match ren3 L d, renH L hp with
    | some d', some hp' => some (d', hp', Plain hp :: cs)
    | _, _ => none
  | none => none
theorem zkeep_ok (hT : TabOk P T) (hmix : P.follows .mixedOrders = true) (hF : FunOk P T F) (hC : ConOk P C) {f : FuncId} {args : List DV} {p : Yath} {L : List Nat} {d : DV} {hp : Hp} {cs : List Prop} (h : zkeep L (zans P T F C f args p) = some (d, hp, cs)) (hc : AskedP cs) : Ans P f args d hp := by
  unfold zkeep at h
  split at h
  · rename_i h1
    split at h
    · rename_i h2 h3
      cases h
      exact (zans_ok hT hmix hF hC h1 fun x hx => hc x (List.mem_cons_of_mem _ hx)).see (seenV_ren (Plain.toL (hc _ (List.mem_cons_self ..)) L) h3 h2)
    · cases h
  · cases h
/-- a text's end, the objects L being kept -/
def zgc (L : List Nat) : Option (Ex × Slots × Hp × List Prop) → Option (Ex × Slots × Hp × List Prop)
  | some (e, sl, hp, cs) => match renH L hp with
    | some hp' => some (e, renS L sl, hp', Plain hp :: cs)
    | none => none
  | none => none
theorem zgc_ok (hT : TabOk P T) (hmix : P.follows .mixedOrders = true) (hF : FunOk P T F) (hC : ConOk P C) {ks : List (Nat × Nat)} {live : List Nat} {c : Code} {sl : Slots} {hp : Hp} {p : Yath} {L : List Nat} {e : Ex} {sl' : Slots} {hp' : Hp} {cs : List Prop} (h : zgc L (zsee P T F C ks live c sl hp p) = some (e, sl', hp', cs)) (hc : AskedP cs) : Goes P T ks c sl hp e sl' hp' := by
  unfold zgc at h
  split at h
  · rename_i h1
    split at h
    · rename_i h3
      cases h
      exact (zsee_ok hT hmix hF hC h1 fun x hx => hc x (List.mem_cons_of_mem _ hx)).post (seen_ren (Plain.toL (hc _ (List.mem_cons_self ..)) L) h3)
    · cases h
  · cases h
/-- a law's call, its arguments being seen -/
theorem law_ok {f : FuncId} {args : List DV} (h : Ans P f args (.bool true) ⟨0, [], []⟩) {w : World} {vs : List Value} (hv : VRs (ro fun b => b < w.heap.size) w args vs) (hg : GlOk (fun b => b < w.heap.size) w := by exact gl_none fun _ => rfl) : Calls P f vs.toArray w fun e w' => e = .returned (.bool true) ∧ Below w.heap.size w w' := by
  have hs : HS w 0 (fun b => b < w.heap.size) (ro fun b => b < w.heap.size) ⟨0, [], []⟩ w := ⟨Below.refl _ _, fun _ h => h.elim, fun _ h => h.elim, fun _ h => h.elim, fun _ _ _ _ h => h.elim, fun _ h => h, fun _ h => .inl h, Nat.le_refl _, .none rfl (fun _ => rfl) hg⟩
  refine (h.2 w _ _ w vs hs hv).mono ?_
  rintro e w' ⟨E', v, rfl, _, hh, hr⟩
  rw [hr.of_bool]
  exact ⟨rfl, hh.bel⟩
/-! ### Tables of contracts -/
def orK (C1 C2 : ConF) : ConF := fun f args hp => match C1 f args hp with
  | some r => some r
  | none => C2 f args hp
theorem orK_ok {C1 C2 : ConF} (h1 : ConOk P C1) (h2 : ConOk P C2) : ConOk P (orK C1 C2) := by
  intro f args hp r hp' mu h
  unfold orK at h
  split at h
  · rename_i heq
    cases h
    exact h1 _ _ _ _ _ _ heq
  · exact h2 _ _ _ _ _ _ h
theorem orK_left {C1 C2 : ConF} {f : FuncId} {args : List DV} {hp : Hp} {r : DV × Hp × Mut} (h : C1 f args hp = some r) : orK C1 C2 f args hp = some r := by
  unfold orK
  rw [h]
theorem orK_right {C1 C2 : ConF} {f : FuncId} {args : List DV} {hp : Hp} {r : DV × Hp × Mut} (h1 : C1 f args hp = none) (h : C2 f args hp = some r) : orK C1 C2 f args hp = some r := by
  unfold orK
  rw [h1]
  exact h
theorem callE_C {T : Tab} {F : FTab} {C : ConF} {q : XF} {f : FuncId} {args : List DV} {hp : Hp} {r : DV × Hp × Mut} (h : C f args hp = some r) : callE T F C q f args hp = some r := by
  unfold callE
  rw [h]
theorem conC_other {α : Type} {f0 f : FuncId} {A : α → List DV} {B : α → DV × Hp} {args : List DV} {hp : Hp} (h : Nat.beq f f0 = false) : conC f0 A B f args hp = none := by
  unfold conC
  rw [h]
/-- a function without arguments that answers a plain datum -/
def fixC (f0 : FuncId) (d : DV) : ConF := fun f args hp => match Nat.beq f f0 with
  | true => match args with
    | [] => some (d, hp, none)
    | _ => none
  | false => none
theorem sh3_plain {d : DV} (h : plain d = true) (k : Nat) : sh3 k d = d := by cases d <;> first | rfl | (simp [plain] at h; done)
theorem fixC_ok {f0 : FuncId} {d : DV} (h : Ans P f0 [] d ⟨0, [], []⟩) (hd : plain d = true) : ConOk P (fixC f0 d) := by
  intro f args hp r hp' mu heq
  unfold fixC at heq
  split at heq
  · rename_i hb
    have hb := Nat.eq_of_beq_eq_true hb
    subst hb
    split at heq
    · cases heq
      refine ⟨h.1, fun base _ _ => Ext.refl _ _, fun W0 base S0 E w vs _ hs hv => ?_⟩
      have := ans_lift (hp := hp) (args := []) (bs := []) h trivial ⟨by cases d <;> first | rfl | (simp [plain] at hd; done), fun id o h => by simp [Hp.get_eq] at h, rfl⟩ hs hv
      rw [sh3_plain hd] at this
      exact this
    · cases heq
  · cases heq
end
end Go.Proofs.Ytmnpkgonanpgfaa
/- Loops by what holds before each round. No function of the program is named here. -/
namespace Go.Proofs.Ytmnpkgonanpgfaa
open Go.RowKit

noncomputable section
variable {P : Program} {T : Tab}
/-- m rounds at most, the last one leaving by e -/
def GoesR (P : Program) (T : Tab) (ks : List (Nat × Nat)) (x : Code) (m : Nat) (sl : Slots) (hp : Hp) (e : Ex) (s1 : Slots) (h1 : Hp) : Prop :=
  ∀ N, codeChk T N ks x = true → ∀ fm W0 S0 E a w (Q : Exit → Act → World → Prop), Sim fm W0 0 S0 E N sl hp a w →
    (∀ E' a' w', Gon E hp w E' h1 w' → Sim fm W0 0 S0 E' N s1 h1 a' w' → Q (exOf e) a' w') → Code.roundsIn (Fr fm.ro) 0 P x Q m a w
theorem GoesR.last {ks : List (Nat × Nat)} {x : Code} {sl s1 : Slots} {hp h1 : Hp} {e : Ex} (h : Goes P T ks x sl hp e s1 h1) (hne : e ≠ .normal) : GoesR P T ks x 1 sl hp e s1 h1 := by
  intro N hN fm W0 S0 E a w Q hs hQ
  rw [roundsIn_succ]
  refine h N hN fm W0 S0 E a w _ hs fun E2 a2 w2 hl2 hs2 => ?_
  have := hQ E2 a2 w2 hl2 hs2
  cases e with
  | normal => exact absurd rfl hne
  | exit id => exact this
  | ret => exact this
theorem GoesR.step {ks : List (Nat × Nat)} {x : Code} {m : Nat} {sl s s1 : Slots} {hp h h1 : Hp} {e : Ex} (g : Goes P T ks x sl hp .normal s h) (k : GoesR P T ks x m s h e s1 h1) : GoesR P T ks x (m + 1) sl hp e s1 h1 := by
  intro N hN fm W0 S0 E a w Q hs hQ
  rw [roundsIn_succ]
  refine g N hN fm W0 S0 E a w _ hs fun E2 a2 w2 hl2 hs2 => ?_
  exact k N hN fm W0 S0 E2 a2 w2 Q hs2 fun E3 a3 w3 hl3 hs3 => hQ E3 a3 w3 (hl2.trans hl3) hs3
theorem GoesR.pre {ks : List (Nat × Nat)} {x : Code} {m : Nat} {s0 sl s1 : Slots} {h0 hp h1 : Hp} {e : Ex} (hw : Seen s0 h0 sl hp) (h : GoesR P T ks x m sl hp e s1 h1) : GoesR P T ks x m s0 h0 e s1 h1 := by
  intro N hN fm W0 S0 E a w Q hs hQ
  obtain ⟨E', hE, hs'⟩ := hw _ _ _ _ _ _ _ hs
  exact h N hN fm W0 S0 E' a w Q hs' fun E2 a2 w2 hl hs2 => hQ E2 a2 w2 (hE.trans hl) hs2
theorem GoesR.goes {ks : List (Nat × Nat)} {x : Code} {m : Nat} {sl s1 : Slots} {hp h1 : Hp} {e : Ex} (h : GoesR P T ks x m sl hp e s1 h1) : Goes P T ks (.loop x) sl hp e s1 h1 := by
  intro N hN fm W0 S0 E a w Q hs hQ
  have hx : codeChk T N ks x = true := hN
  exact wpIn_loop_rounds m (h N hx fm W0 S0 E a w Q hs hQ)
/-- n rounds, and one that leaves: what holds before each of them, what holds behind -/
theorem Goes.loopI {ks : List (Nat × Nat)} {x : Code} {e : Ex} (n : Nat) (I : Nat → Slots → Hp → Prop) (J : Slots → Hp → Prop) (hne : e ≠ .normal)
    (hr : ∀ k sl hp, k < n → I k sl hp → ∃ sl' hp', Goes P T ks x sl hp .normal sl' hp' ∧ I (k + 1) sl' hp') (hl : ∀ sl hp, I n sl hp → ∃ s1 h1, Goes P T ks x sl hp e s1 h1 ∧ J s1 h1)
    {sl : Slots} {hp : Hp} (h0 : I 0 sl hp) : ∃ s1 h1, Goes P T ks (.loop x) sl hp e s1 h1 ∧ J s1 h1 := by
  have key : ∀ m k, k + m = n → ∀ sl hp, I k sl hp → ∃ s1 h1, GoesR P T ks x (m + 1) sl hp e s1 h1 ∧ J s1 h1 := by
    intro m
    induction m with
    | zero =>
      intro k hk sl hp h
      obtain rfl : k = n := hk
      obtain ⟨s1, h1, g, j⟩ := hl sl hp h
      exact ⟨s1, h1, GoesR.last g hne, j⟩
    | succ m ih =>
      intro k hk sl hp h
      obtain ⟨s, h', g, i⟩ := hr k sl hp (by omega) h
      obtain ⟨s1, h1, r, j⟩ := ih (k + 1) (by omega) s h' i
      exact ⟨s1, h1, GoesR.step g r, j⟩
  obtain ⟨s1, h1, r, j⟩ := key n 0 (by omega) sl hp h0
  exact ⟨s1, h1, r.goes, j⟩
/-- a loop by a measure that falls -/
theorem Goes.loopM {ks : List (Nat × Nat)} {x : Code} {e : Ex} (I : Nat → Slots → Hp → Prop) (J : Slots → Hp → Prop) (hne : e ≠ .normal)
    (h : ∀ m sl hp, I m sl hp → (∃ s1 h1, Goes P T ks x sl hp e s1 h1 ∧ J s1 h1) ∨ ∃ m' sl' hp', m' < m ∧ Goes P T ks x sl hp .normal sl' hp' ∧ I m' sl' hp') {m : Nat} {sl : Slots} {hp : Hp} (h0 : I m sl hp) : ∃ s1 h1, Goes P T ks (.loop x) sl hp e s1 h1 ∧ J s1 h1 := by
  have key : ∀ m sl hp, I m sl hp → ∃ r s1 h1, GoesR P T ks x r sl hp e s1 h1 ∧ J s1 h1 := by
    intro m
    induction m using Nat.strongRecOn with
    | ind m ih =>
      intro sl hp hi
      rcases h m sl hp hi with ⟨s1, h1, g, j⟩ | ⟨m', sl', hp', hm, g, hi'⟩
      · exact ⟨1, s1, h1, GoesR.last g hne, j⟩
      · obtain ⟨r, s1, h1, gr, j⟩ := ih m' hm sl' hp' hi'
        exact ⟨r + 1, s1, h1, GoesR.step g gr, j⟩
  obtain ⟨r, s1, h1, g, j⟩ := key m sl hp h0
  exact ⟨s1, h1, g.goes, j⟩
/-! ### Slots by a list -/
theorem look_mkT {nt : Nat} : ∀ {l : List (Nat × DV)} {t : Nat} {d : DV}, look (mkT nt l) t = some d → (t, d) ∈ l
  | [], t, d, h => by
    have : look (mkS (Nat.log2 nt + 2)) t = some d := h
    rw [look_mkS] at this
    cases this
  | (x, u) :: l, t, d, h => by
    have h : look (putS (mkT nt l) x u) t = some d := h
    rcases look_put h with ⟨rfl, rfl⟩ | ⟨_, h⟩
    · exact List.mem_cons_self ..
    · exact List.mem_cons_of_mem _ (look_mkT h)
/-- slots seen otherwise, one by one -/
theorem seen_slots {sl : Slots} {hp hp' : Hp} {nt : Nat} {l : List (Nat × DV)} (h : ∀ W0 S0 E w, HS W0 0 S0 E hp w → ∃ E', Gon E hp w E' hp' w ∧ HS W0 0 S0 E' hp' w ∧ ∀ t d, (t, d) ∈ l → ∃ d0, look sl t = some d0 ∧ ∀ v, VR w E d0 v → VR w E' d v) : Seen sl hp (mkT nt l) hp' := by
  intro fm W0 S0 E N a w hs
  obtain ⟨E', e, h1, h2⟩ := h W0 S0 E w hs.hs
  refine ⟨E', e, h1, hs.dfr.gon e, hs.ro.gon e, hs.size, fun t d ht => ?_⟩
  obtain ⟨d0, k1, k2⟩ := h2 t d (look_mkT ht)
  exact k2 _ (hs.sl t d0 k1)
/-- all objects frozen: slices of them become lists -/
theorem seen_freeze {sl : Slots} {hp : Hp} (hl : hp.ls = []) {nt : Nat} {l : List (Nat × DV)} (h : ∀ t d, (t, d) ∈ l → ∃ d0, look sl t = some d0 ∧ frz1 hp d0 d) : Seen sl hp (mkT nt l) ⟨0, [], []⟩ := by
  refine seen_slots fun W0 S0 E w hs => ⟨ro (roS E), .up (E := E) (E' := ro (roS E)) (fun b hb => .inl hb) (funext fun id => (yb_none hs.ys hl id).symm) (fun i => by rw [hl]) _, ?_, fun t d ht => ?_⟩
  · refine ⟨hs.bel, fun _ h => h.elim, fun _ h => h.elim, fun _ h => h.elim, fun _ _ _ _ h => h.elim, (hs_frz hs).ro, fun b hb => ?_, Nat.le_refl _, .none rfl (fun _ => rfl) (hs_frz hs).gl⟩
    rcases hb with hb | ⟨id, hd, rfl⟩
    · exact hs.olds b hb
    · exact .inr (hs.own id hd (Nat.zero_le _)).1
  · obtain ⟨d0, h1, h2⟩ := h t d ht
    exact ⟨d0, h1, fun v hv => frz1_ok hs hv h2⟩
/-- the table of one function's contract, used where no object is -/
def eqC {α : Type} (f0 : FuncId) (A : α → List DV) (B : α → DV × Hp) : ConF := fun f args hp => match Nat.beq f f0 with
  | true => @dite _ (∃ x, args = A x ∧ hp = ⟨0, [], []⟩) (Classical.propDecidable _) (fun h => some ((B h.choose).1, (B h.choose).2, none)) (fun _ => none)
  | false => none
theorem eqC_at {α : Type} {f0 : FuncId} {A : α → List DV} {B : α → DV × Hp} (hinj : ∀ x y, A x = A y → B x = B y) (x : α) : eqC f0 A B f0 (A x) ⟨0, [], []⟩ = some ((B x).1, (B x).2, none) := by
  have hex : ∃ y, A x = A y ∧ (⟨0, [], []⟩ : Hp) = ⟨0, [], []⟩ := ⟨x, rfl, rfl⟩
  have hB : B hex.choose = B x := hinj _ _ hex.choose_spec.1.symm
  have hb : Nat.beq f0 f0 = true := beqT rfl
  unfold eqC
  rw [hb]
  show @dite _ (∃ y, A x = A y ∧ (⟨0, [], []⟩ : Hp) = ⟨0, [], []⟩) (Classical.propDecidable _) _ _ = _
  rw [dif_pos hex, hB]
theorem eqC_other {α : Type} {f0 f : FuncId} {A : α → List DV} {B : α → DV × Hp} {args : List DV} {hp : Hp} (h : Nat.beq f f0 = false) : eqC f0 A B f args hp = none := by
  unfold eqC
  rw [h]
theorem eqC_ok {α : Type} {f0 : FuncId} {A : α → List DV} {B : α → DV × Hp} (h : ∀ x, Ans P f0 (A x) (B x).1 (B x).2) (hls : ∀ x, (B x).2.ls = []) : ConOk P (eqC f0 A B) := by
  intro f args hp r hp' mu heq
  unfold eqC at heq
  split at heq
  · rename_i hb
    have hb := Nat.eq_of_beq_eq_true hb
    subst hb
    by_cases hex : ∃ x, args = A x ∧ hp = ⟨0, [], []⟩
    · rw [dif_pos hex] at heq
      cases heq
      have hA := h hex.choose
      obtain ⟨ha, rfl⟩ := hex.choose_spec
      refine ⟨hA.1, fun base _ hb => ⟨Nat.zero_le _, fun id hid => absurd hid (by simp only at hb; omega), fun i => by rw [hls], fun i hi => absurd hi (by simp only at hb; omega)⟩, fun W0 base S0 E w vs _ hs hv => ?_⟩
      have hb0 : base = 0 := by
        have := hs.le
        simp only at this
        omega
      subst hb0
      rw [ha] at hv
      refine (hA.2 W0 S0 E w vs hs hv).mono ?_
      rintro e w' ⟨E', v, rfl, hl, hh, hr⟩
      have hD : ∀ id, ¬ E.D id := fun id hd => by
        obtain ⟨o, ho, _⟩ := hs.ob id hd
        simp [Hp.get_eq] at ho
      have hyn := yb_none hs.ys rfl
      exact ⟨E', v, rfl, ⟨⟨hl.later.S, fun id hd => (hD id hd).elim, hl.later.cell, fun id x hx => by rw [hyn] at hx; cases hx⟩, hh, ⟨Nat.zero_le _, fun id hid => absurd hid (by omega), fun i => by rw [hls], fun i hi => absurd hi (by omega)⟩, fun id hid => absurd hid (by simp), hl.oth, hl.yb⟩, hr⟩
    · rw [dif_neg hex] at heq
      cases heq
  · cases heq
end
end Go.Proofs.Ytmnpkgonanpgfaa
/- A closed call's contract that the kernel reads. No function of the program is named here. -/
namespace Go.Proofs.Ytmnpkgonanpgfaa
open Go.RowKit

noncomputable section
variable {P : Program}
/-- a function with one number as its argument, where no object is -/
def fixI (f0 : FuncId) (k : IntKind) (c : Int) (d : DV) : ConF := fun f args hp => match Nat.beq f f0, args, hp with
  | true, [.int k' n], ⟨0, [], []⟩ => match decide (k' = k), decide (n = c) with
    | true, true => some (d, ⟨0, [], []⟩, none)
    | _, _ => none
  | _, _, _ => none
theorem fixI_ok {f0 : FuncId} {k : IntKind} {c : Int} {d : DV} (h : Ans P f0 [.int k c] d ⟨0, [], []⟩) : ConOk P (fixI f0 k c d) := by
  intro f args hp r hp' mu heq
  unfold fixI at heq
  split at heq
  · rename_i hb
    have hb := Nat.eq_of_beq_eq_true hb
    subst hb
    split at heq
    · rename_i hk hc
      cases heq
      rw [decide_eq_true_eq] at hk hc
      subst hk
      subst hc
      exact eqC_ok (α := Unit) (A := fun _ => [.int _ _]) (B := fun _ => (d, ⟨0, [], []⟩)) (fun _ => h) (fun _ => rfl) f _ _ _ _ _ (eqC_at (fun _ _ _ => rfl) ())
    · cases heq
  · cases heq
/-- a contract that is computed, where no object is -/
def comC (f0 : FuncId) (g : List DV → Option DV) : ConF := fun f args hp => match Nat.beq f f0, hp with
  | true, ⟨0, [], []⟩ => match g args with
    | some d => some (d, ⟨0, [], []⟩, none)
    | none => none
  | _, _ => none
theorem comC_ok {f0 : FuncId} {g : List DV → Option DV} (h : ∀ args d, g args = some d → Ans P f0 args d ⟨0, [], []⟩) : ConOk P (comC f0 g) := by
  intro f args hp r hp' mu heq
  unfold comC at heq
  split at heq
  · rename_i hb
    have hb := Nat.eq_of_beq_eq_true hb
    subst hb
    split at heq
    · rename_i d hg
      cases heq
      exact eqC_ok (α := Unit) (A := fun _ => args) (B := fun _ => (r, ⟨0, [], []⟩)) (fun _ => h args r hg) (fun _ => rfl) f _ _ _ _ _ (eqC_at (fun _ _ _ => rfl) ())
    · cases heq
  · cases heq
end
end Go.Proofs.Ytmnpkgonanpgfaa
