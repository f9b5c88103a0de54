/- Some objects are kept, numbered anew; all others become lists, also where kept cells name them. No function of the program is named here. -/
import Derived.Test.YtgjgihlfkpbdgaaMG
namespace Go.Proofs.Ytgjgihlfkpbdgaa
open Go.RowKit

noncomputable section
variable {P : Program} {T : Tab}
/-- data that name no object and hold no data -/
def flat0 : DV → Bool
  | .int _ _ | .bool _ | .str _ | .nil | .list _ _ | .fptr _ | .nilp | .nilf | .nili => true
  | _ => false
theorem flat0_ok {E E' : Env} {w : World} {d : DV} {v : Value} (h : VR w E d v) (hf : flat0 d = true) (hS : ∀ b, E.S b → E'.S b) : VR w E' d v := by
  have hro : Later (ro E.S) w (ro E'.S) w := ⟨hS, fun _ h => h.elim, fun _ _ => rfl, fun _ _ h => (by cases h)⟩
  cases d with
  | list s xs =>
    obtain ⟨A, c, b, off, g, rfl, h1, h2, h3, h4, h5, h6, h7, h8⟩ := h.of_list
    exact .list _ s xs A c b off g h1 h2 h3 (fun h => ⟨(h4 h).1, hS _ (h4 h).2⟩) h5 h6 (fun i cs j d hi hj => (h7 i cs j d hi hj).later hro) h8
  | fptr cs =>
    obtain ⟨b, off, g, rfl, h1, h2, h3⟩ := h.of_fptr
    exact .fptr _ cs b off g (hS _ h1) h2 (fun j d hj => (h3 j d hj).later hro)
  | int k n => cases h; exact .int _ k n
  | bool b => cases h; exact .bool _ b
  | str s => cases h; exact .str _ s
  | nil => cases h; exact .nil _
  | nilp => cases h; exact .nilp _
  | nilf => cases h; exact .nilf _
  | nili => cases h; exact .nili _
  | _ => cases hf
/-- as it is seen when the objects outside of L have become lists; none of L is named -/
inductive FrzD (L : List Nat) (hp : Hp) : DV → DV → Prop
  | flat (d : DV) : flat0 d = true → FrzD L hp d d
  | nl (s : Nat) : FrzD L hp .nil (.list s [])
  | sl (id off s n c : Nat) (o : Ob) (xs : List (List DV)) (g : Nat → Nat → DV) : posN id L = none → hp.get id = some o → o.k ≠ 2 → xs.length = n → (∀ (i : Nat) (cs : List DV), xs[i]? = some cs → cs.length = s) →
      (∀ (i : Nat) (cs : List DV) (j : Nat) (d : DV), xs[i]? = some cs → cs[j]? = some d → o.cs[off + (i * s + j)]? = some (g i j)) → (∀ (i : Nat) (cs : List DV) (j : Nat) (d : DV), xs[i]? = some cs → cs[j]? = some d → FrzD L hp (g i j) d) →
      (∀ cs ∈ xs, scals cs = true) → FrzD L hp (.sl id off s n c) (.list s xs)
  | ptr (id off : Nat) (o : Ob) (cs : List DV) (g : Nat → DV) : posN id L = none → hp.get id = some o → o.k ≠ 2 → (∀ (j : Nat) (d : DV), cs[j]? = some d → o.cs[off + j]? = some (g j)) → (∀ (j : Nat) (d : DV), cs[j]? = some d → FrzD L hp (g j) d) → FrzD L hp (.ptr id off) (.fptr cs)
  | agg (cs ds : List DV) : cs.length = ds.length → (∀ (j : Nat) (d e : DV), cs[j]? = some d → ds[j]? = some e → FrzD L hp d e) → FrzD L hp (.agg cs) (.agg ds)
  | tuple (cs ds : List DV) : cs.length = ds.length → (∀ (j : Nat) (d e : DV), cs[j]? = some d → ds[j]? = some e → FrzD L hp d e) → FrzD L hp (.tuple cs) (.tuple ds)
  | fn (f : FuncId) (us cs vs ds : List DV) : us.length = vs.length → cs.length = ds.length → (∀ (j : Nat) (d e : DV), us[j]? = some d → vs[j]? = some e → FrzD L hp d e) → (∀ (j : Nat) (d e : DV), cs[j]? = some d → ds[j]? = some e → FrzD L hp d e) → FrzD L hp (.fn f us cs) (.fn f vs ds)
/-- the same; objects of L are named by their places in L -/
inductive Mlt (L : List Nat) (hp : Hp) : DV → DV → Prop
  | frz (d e : DV) : FrzD L hp d e → Mlt L hp d e
  | sl (id off s n c k : Nat) : posN id L = some k → Mlt L hp (.sl id off s n c) (.sl k off s n c)
  | ptr (id off k : Nat) : posN id L = some k → Mlt L hp (.ptr id off) (.ptr k off)
  | yld (id : Nat) : Mlt L hp (.yld id) (.yld id)
  | agg (cs ds : List DV) : cs.length = ds.length → (∀ (j : Nat) (d e : DV), cs[j]? = some d → ds[j]? = some e → Mlt L hp d e) → Mlt L hp (.agg cs) (.agg ds)
  | tuple (cs ds : List DV) : cs.length = ds.length → (∀ (j : Nat) (d e : DV), cs[j]? = some d → ds[j]? = some e → Mlt L hp d e) → Mlt L hp (.tuple cs) (.tuple ds)
  | fn (f : FuncId) (us cs vs ds : List DV) : us.length = vs.length → cs.length = ds.length → (∀ (j : Nat) (d e : DV), us[j]? = some d → vs[j]? = some e → Mlt L hp d e) → (∀ (j : Nat) (d e : DV), cs[j]? = some d → ds[j]? = some e → Mlt L hp d e) → Mlt L hp (.fn f us cs) (.fn f vs ds)
/-- the blocks that nobody writes any more -/
def meltS (E : Env) (L : List Nat) (hp : Hp) : Nat → Prop := fun b => E.S b ∨ ∃ id o, E.D id ∧ posN id L = none ∧ hp.get id = some o ∧ o.k ≠ 2 ∧ b = E.b id
def meltE (E : Env) (L : List Nat) (hp : Hp) : Env := { E.ren L (fun i => ∃ id, L[i]? = some id ∧ E.X id) with S := meltS E L hp }
section
variable {W0 : World} {base : Nat} {S0 : Nat → Prop} {E : Env} {hp : Hp} {w : World} {L : List Nat}
theorem frzD_ok (hs : HS W0 base S0 E hp w) {d e : DV} (h : FrzD L hp d e) : ∀ {y : Nat → Option (Nat × Nat)} {v : Value}, VR w { E with yb := y } d v → VR w (ro (meltS E L hp)) e v := by
  induction h with
  | flat d hf => exact fun hv => flat0_ok hv hf fun b hb => .inl hb
  | nl s =>
    intro y v hv
    cases hv
    exact VR.nil_list _ _ s
  | sl id off s n c o xs g h1 h2 h3 h4 h5 h6 _ h8 ih =>
    intro y v hv
    obtain ⟨A, c', rfl, hd, hn, hc, hm, hx, ha⟩ := hv.of_sl
    obtain ⟨o', h1', hok⟩ := hs.ob id hd
    rw [h2] at h1'
    cases h1'
    obtain ⟨k0, k1, vs, k2, k3, k4, k5⟩ := hok
    subst h4
    have hcell : ∀ (i : Nat) (cs : List DV) (j : Nat) (d : DV), xs[i]? = some cs → cs[j]? = some d → ∃ v, vs[E.base id + (off + (i * s + j))]? = some v ∧ VR w E (g i j) v := fun i cs j d hi hj => by
      obtain ⟨v, hv1, hv2⟩ := k5.get (h6 i cs j d hi hj)
      refine ⟨v, ?_, hv2⟩
      rw [List.getElem?_take] at hv1
      split at hv1
      · simpa using hv1
      · cases hv1
    refine .list _ s xs (some A) c' (E.b id) (E.base id + off) (fun i j => (vs[E.base id + (off + (i * s + j))]?).getD undef) (by omega) hm (fun h => by cases h) (fun h => ⟨?_, .inr ⟨id, o, hd, h1, h2, h3, rfl⟩⟩) h5 (fun i cs j d hi hj => ?_) (fun i cs j d hi hj => ?_) h8
    · rw [(ha (by omega)).1]
    · obtain ⟨v, hv1, _⟩ := hcell i cs j d hi hj
      rw [k2.cell, Nat.add_assoc, hv1]
      rfl
    · obtain ⟨v, hv1, hv2⟩ := hcell i cs j d hi hj
      simp only [hv1, Option.getD_some]
      exact ih i cs j d hi hj (y := E.yb) hv2
  | ptr id off o cs g h1 h2 h3 h4 _ ih =>
    intro y v hv
    obtain ⟨rfl, hd⟩ := hv.of_ptr
    obtain ⟨o', h1', hok⟩ := hs.ob id hd
    rw [h2] at h1'
    cases h1'
    obtain ⟨k0, k1, vs, k2, k3, k4, k5⟩ := hok
    have hcell : ∀ (j : Nat) (d : DV), cs[j]? = some d → ∃ v, vs[E.base id + (off + j)]? = some v ∧ VR w E (g j) v := fun j d hj => by
      obtain ⟨v, hv1, hv2⟩ := k5.get (h4 j d hj)
      refine ⟨v, ?_, hv2⟩
      rw [List.getElem?_take] at hv1
      split at hv1
      · simpa using hv1
      · cases hv1
    refine .fptr _ cs (E.b id) (E.base id + off) (fun j => (vs[E.base id + (off + j)]?).getD undef) (.inr ⟨id, o, hd, h1, h2, h3, rfl⟩) (fun j d hj => ?_) (fun j d hj => ?_)
    · obtain ⟨v, hv1, _⟩ := hcell j d hj
      rw [k2.cell, Nat.add_assoc, hv1]
      rfl
    · obtain ⟨v, hv1, hv2⟩ := hcell j d hj
      simp only [hv1, Option.getD_some]
      exact ih j d hj (y := E.yb) hv2
  | agg cs ds hl _ ih =>
    intro y v hv
    obtain ⟨vs, rfl, hvs⟩ := hv.of_agg
    refine .agg _ ds vs (by rw [← hl]; exact hvs.1) fun j e v he hv => ?_
    obtain ⟨d, hd⟩ : ∃ d, cs[j]? = some d := ⟨_, List.getElem?_eq_getElem (by rw [hl]; exact (List.getElem?_eq_some_iff.1 he).1)⟩
    exact ih j d e hd he (hvs.2 j d v hd hv)
  | tuple cs ds hl _ ih =>
    intro y v hv
    obtain ⟨vs, rfl, hvs⟩ := hv.of_tuple
    refine .tuple _ ds vs (by rw [← hl]; exact hvs.1) fun j e v he hv => ?_
    obtain ⟨d, hd⟩ : ∃ d, cs[j]? = some d := ⟨_, List.getElem?_eq_getElem (by rw [hl]; exact (List.getElem?_eq_some_iff.1 he).1)⟩
    exact ih j d e hd he (hvs.2 j d v hd hv)
  | fn f us cs vs ds hl1 hl2 _ _ ih1 ih2 =>
    intro y v hv
    obtain ⟨xs, ys, rfl, h1, h2⟩ := hv.of_fn
    refine .fn _ f vs ds xs ys (by rw [← hl1]; exact h1.1) (by rw [← hl2]; exact h2.1) (fun j e v he hv => ?_) (fun j e v he hv => ?_)
    · obtain ⟨d, hd⟩ : ∃ d, us[j]? = some d := ⟨_, List.getElem?_eq_getElem (by rw [hl1]; exact (List.getElem?_eq_some_iff.1 he).1)⟩
      exact ih1 j d e hd he (h1.2 j d v hd hv)
    · obtain ⟨d, hd⟩ : ∃ d, cs[j]? = some d := ⟨_, List.getElem?_eq_getElem (by rw [hl2]; exact (List.getElem?_eq_some_iff.1 he).1)⟩
      exact ih2 j d e hd he (h2.2 j d v hd hv)
theorem mlt_okY (hs : HS W0 base S0 E hp w) {d e : DV} (h : Mlt L hp d e) : ∀ {y : Nat → Option (Nat × Nat)} {v : Value}, VR w { E with yb := y } d v → VR w { meltE E L hp with yb := y } e v := by
  induction h with
  | frz d e h => exact fun hv => (frzD_ok hs h hv).later ⟨fun _ h => h, fun _ h => h.elim, fun _ _ => rfl, fun _ _ h => by cases h⟩
  | sl id off s n c k hk =>
    intro y v hv
    have hk := posN_ok hk
    obtain ⟨A, c', rfl, h1, h2, h3, h4, h5, h6⟩ := hv.of_sl
    refine .sl _ k off s n c A c' ⟨id, hk, h1⟩ h2 h3 h4 (fun hx => ?_) fun hc => ?_
    · obtain ⟨id', hi', hx⟩ := hx
      rw [hk] at hi'
      cases hi'
      exact h5 hx
    · have := h6 hc
      simp only [meltE, Env.ren, ren_getD hk]
      exact this
  | ptr id off k hk =>
    intro y v hv
    have hk := posN_ok hk
    obtain ⟨rfl, h1⟩ := hv.of_ptr
    have : VR w { meltE E L hp with yb := y } (.ptr k off) (.pointer (some ⟨(meltE E L hp).b k, (meltE E L hp).base k + off, none⟩)) := .ptr _ _ off ⟨id, hk, h1⟩
    simp only [meltE, Env.ren, ren_getD hk] at this ⊢
    exact this
  | yld id =>
    intro y v hv
    obtain ⟨b, D, rfl, h1⟩ := hv.of_yld
    exact .yld _ id b D h1
  | agg cs ds hl _ ih =>
    intro y v hv
    obtain ⟨vs, rfl, hvs⟩ := hv.of_agg
    refine .agg _ ds vs (by rw [← hl]; exact hvs.1) fun j e v he hv => ?_
    obtain ⟨d, hd⟩ : ∃ d, cs[j]? = some d := ⟨_, List.getElem?_eq_getElem (by rw [hl]; exact (List.getElem?_eq_some_iff.1 he).1)⟩
    exact ih j d e hd he (hvs.2 j d v hd hv)
  | tuple cs ds hl _ ih =>
    intro y v hv
    obtain ⟨vs, rfl, hvs⟩ := hv.of_tuple
    refine .tuple _ ds vs (by rw [← hl]; exact hvs.1) fun j e v he hv => ?_
    obtain ⟨d, hd⟩ : ∃ d, cs[j]? = some d := ⟨_, List.getElem?_eq_getElem (by rw [hl]; exact (List.getElem?_eq_some_iff.1 he).1)⟩
    exact ih j d e hd he (hvs.2 j d v hd hv)
  | fn f us cs vs ds hl1 hl2 _ _ ih1 ih2 =>
    intro y v hv
    obtain ⟨xs, ys, rfl, h1, h2⟩ := hv.of_fn
    refine .fn _ f vs ds xs ys (by rw [← hl1]; exact h1.1) (by rw [← hl2]; exact h2.1) (fun j e v he hv => ?_) (fun j e v he hv => ?_)
    · obtain ⟨d, hd⟩ : ∃ d, us[j]? = some d := ⟨_, List.getElem?_eq_getElem (by rw [hl1]; exact (List.getElem?_eq_some_iff.1 he).1)⟩
      exact ih1 j d e hd he (h1.2 j d v hd hv)
    · obtain ⟨d, hd⟩ : ∃ d, cs[j]? = some d := ⟨_, List.getElem?_eq_getElem (by rw [hl2]; exact (List.getElem?_eq_some_iff.1 he).1)⟩
      exact ih2 j d e hd he (h2.2 j d v hd hv)
theorem mlt_ok (hs : HS W0 base S0 E hp w) {d e : DV} (h : Mlt L hp d e) {v : Value} (hv : VR w E d v) : VR w (meltE E L hp) e v := mlt_okY hs h (y := E.yb) hv
/-- the heap of the objects L, their cells seen anew -/
structure MeltH (L : List Nat) (hp hp' : Hp) : Prop where
  li : ∀ id R, lfind id hp'.ls = some R → ∃ R0, lfind id hp.ls = some R0 ∧ R = { R0 with sl := R.sl } ∧ ∀ t d, look R.sl t = some d → ∃ d0, look R0.sl t = some d0 ∧ Mlt L hp d0 d
  dm : ∀ i, (lfind i hp'.ls).isSome = (lfind i hp.ls).isSome
  lt : ∀ i, (lfind i hp.ls).isSome = true → i < hp'.n
  nd : L.Nodup
  ob : ∀ (i id : Nat), L[i]? = some id → ∃ o o', hp.get id = some o ∧ o.k ≠ 2 ∧ hp'.get i = some o' ∧ o'.k = (oldOb o).k ∧ o'.t = o.t ∧ o'.cs.length = o.cs.length ∧ scals o'.cs = true ∧ ∀ (j : Nat) (d e : DV), o.cs[j]? = some d → o'.cs[j]? = some e → Mlt L hp d e
theorem posN_of {i id : Nat} (hi : L[i]? = some id) : posN id L ≠ none := fun h => (posN_none h) (List.mem_of_getElem? hi)
theorem hs_melt {hp' : Hp} (hs : HS W0 0 S0 E hp w) (hm : MeltH L hp hp') : HS W0 0 S0 (meltE E L hp) hp' w := by
  have hapart : ∀ (id jd : Nat) (o : Ob), E.D id → E.D jd → id ≠ jd → hp.get id = some o → o.k ≠ 2 → (∃ o', hp.get jd = some o' ∧ o'.k ≠ 2) → E.b id ≠ E.b jd := fun id jd o hd hdj hne ho hk ⟨o', ho', hk'⟩ he => hk' (hs.inj id jd o o' hd hdj hne (Nat.zero_le _) ho ho' hk he).1
  refine ⟨hs.bel, ?_, ?_, fun id _ h => absurd h (by omega), ?_, ?_, ?_, Nat.zero_le _, ⟨fun id R hR => ?_, hs.ys.inj, fun id x hx => ?_, hs.gl.mono (fun b hb => .inl hb) fun _ _ => rfl⟩⟩
  case refine_6 =>
    obtain ⟨R0, h1, h2, h3⟩ := hm.li id R hR
    obtain ⟨b2, D2, r2, p1, p2, p3, p4, p5⟩ := hs.ys.ok id R0 h1
    rw [h2]
    refine ⟨b2, D2, r2, p1, p2, p3, p4, p5.1, p5.2.1, p5.2.2.1, p5.2.2.2.1, p5.2.2.2.2.1, p5.2.2.2.2.2.1, p5.2.2.2.2.2.2.1, fun t d ht => ?_⟩
    obtain ⟨d0, e1, e2⟩ := h3 t d ht
    exact mlt_okY hs e2 (p5.2.2.2.2.2.2.2 t d0 e1)
  case refine_7 =>
    have := (hs.ys.lt id x hx).2
    exact ⟨hm.lt id this, by rw [hm.dm]; exact this⟩
  · rintro i ⟨id, hi, hd⟩
    obtain ⟨o, o', h1, h2, h3, h4, h5, h6, h7, h8⟩ := hm.ob i id hi
    obtain ⟨o1, h1', hok⟩ := hs.ob id hd
    rw [h1] at h1'
    cases h1'
    refine ⟨o', h3, ?_⟩
    obtain ⟨k0, k1, vs, k2, k3, k4, k5⟩ := hok
    refine ⟨?_, h7, vs, ?_, ?_, ?_, ?_⟩
    · rw [h4, oldOb_k]
      constructor
      · intro h
        refine ⟨id, hi, k0.1 ?_⟩
        split at h
        · cases h
        · exact h
      · rintro ⟨id', hi', hx⟩
        rw [hi] at hi'
        cases hi'
        have := k0.2 hx
        rw [this]
        rfl
    · simp only [meltE, Env.ren, ren_getD hi, h5]; exact k2
    · simp only [meltE, Env.ren, ren_getD hi]; exact k3
    · simp only [meltE, Env.ren, ren_getD hi, h6]; exact k4
    · simp only [meltE, Env.ren, ren_getD hi, h6]
      refine ⟨by rw [h6]; exact k5.1, fun j e v he hv => ?_⟩
      obtain ⟨d, hd'⟩ : ∃ d, o.cs[j]? = some d := ⟨_, List.getElem?_eq_getElem (by rw [← h6]; exact (List.getElem?_eq_some_iff.1 he).1)⟩
      exact mlt_ok hs (h8 j d e hd' he) (k5.2 j d v hd' hv)
  · rintro i ⟨id, hi, hd⟩ _
    obtain ⟨o, o', h1, h2, _⟩ := hm.ob i id hi
    obtain ⟨p1, p2⟩ := hs.own id hd (Nat.zero_le _)
    simp only [meltE, Env.ren, ren_getD hi]
    refine ⟨p1, ?_⟩
    rintro (h | ⟨jd, oj, q1, q2, q3, q4, q5⟩)
    · exact p2 h
    · exact hapart id jd o hd q1 (fun e => by subst e; exact posN_of hi q2) h1 h2 ⟨oj, q3, q4⟩ q5
  · rintro i j oi oj ⟨id, hi, hd⟩ ⟨jd, hj, hdj⟩ hne _ hoi hoj hk he
    obtain ⟨o1, _, p1, p2, _⟩ := hm.ob i id hi
    obtain ⟨o2, _, q1, q2, _⟩ := hm.ob j jd hj
    simp only [meltE, Env.ren, ren_getD hi, ren_getD hj] at he
    have hid : id ≠ jd := fun e => by
      subst e
      exact hne ((List.getElem?_inj (List.getElem?_eq_some_iff.1 hi).1 hm.nd).1 (hi.trans hj.symm))
    exact absurd he (hapart id jd o1 hd hdj hid p1 p2 ⟨o2, q1, q2⟩)
  · rintro b (hb | ⟨id, o, hd, _, _, _, rfl⟩)
    · exact hs.ro b hb
    · obtain ⟨o', _, hok⟩ := hs.ob id hd
      exact hok.lt
  · rintro b (hb | ⟨id, o, hd, _, _, _, rfl⟩)
    · exact hs.olds b hb
    · exact .inr (hs.own id hd (Nat.zero_le _)).1
theorem gon_melt {hp' : Hp} (hm : MeltH L hp hp') (E : Env) (w : World) : Gon E hp w (meltE E L hp) hp' w :=
  .up (E := E) (E' := meltE E L hp) (fun _ h => .inl h) rfl hm.dm _
end
/-- slots, some objects being kept -/
theorem seen_melt {sl : Slots} {hp hp' : Hp} {L : List Nat} (hm : MeltH L hp hp') {nt : Nat} {l : List (Nat × DV)} (h : ∀ t d, (t, d) ∈ l → ∃ d0, look sl t = some d0 ∧ Mlt L hp d0 d) : Seen sl hp (mkT nt l) hp' :=
  seen_slots fun W0 S0 E w hs => ⟨meltE E L hp, gon_melt hm E w, hs_melt hs hm, fun t d ht => by
    obtain ⟨d0, h1, h2⟩ := h t d ht
    exact ⟨d0, h1, fun v hv => mlt_ok hs h2 hv⟩⟩
theorem seenV_melt {d d' : DV} {hp hp' : Hp} {L : List Nat} (hm : MeltH L hp hp') (h : Mlt L hp d d') : SeenV d hp d' hp' := fun _ _ E w _ hs hv =>
  ⟨meltE E L hp, gon_melt hm E w, hs_melt hs hm, mlt_ok hs h hv⟩
theorem melt_nil {hp : Hp} (h : hp.ls = []) : MeltH [] hp ⟨0, [], []⟩ := ⟨fun id R hR => (by cases hR), fun i => (by rw [h]), fun i hi => (by rw [h] at hi; cases hi), List.nodup_nil, fun i id hi => by simp at hi⟩
/-- an answer, all objects being frozen -/
theorem AnsH.frz {f : FuncId} {args : List DV} {d d' : DV} {h0 hp : Hp} (h : AnsH P f args h0 d hp) (hl : hp.ls = []) (hd : FrzD [] hp d d') : AnsH P f args h0 d' ⟨0, [], []⟩ := h.see (seenV_melt (melt_nil hl) (.frz _ _ hd))
/-! ### How data freeze -/
section
variable {L : List Nat} {hp : Hp}
/-- a slice whose rows freeze one by one -/
theorem FrzD.slice {id off s n c : Nat} {o : Ob} {xs : List (List DV)} (h1 : posN id L = none) (h2 : hp.get id = some o) (h3 : o.k ≠ 2) (h4 : xs.length = n) (h5 : ∀ (i : Nat) (cs : List DV), xs[i]? = some cs → cs.length = s ∧ scals cs = true ∧ ∀ (j : Nat) (d : DV), cs[j]? = some d → ∃ e, o.cs[off + (i * s + j)]? = some e ∧ FrzD L hp e d) : FrzD L hp (.sl id off s n c) (.list s xs) := by
  refine .sl id off s n c o xs (fun i j => (o.cs[off + (i * s + j)]?).getD .any) h1 h2 h3 h4 (fun i cs hi => (h5 i cs hi).1) (fun i cs j d hi hj => ?_) (fun i cs j d hi hj => ?_) (fun cs hcs => ?_)
  · obtain ⟨e, he, _⟩ := (h5 i cs hi).2.2 j d hj
    rw [he]
    rfl
  · obtain ⟨e, he, hf⟩ := (h5 i cs hi).2.2 j d hj
    rw [he]
    exact hf
  · obtain ⟨i, hi⟩ := List.mem_iff_getElem?.1 hcs
    exact (h5 i cs hi).2.1
theorem FrzD.pointer {id off : Nat} {o : Ob} {cs : List DV} (h1 : posN id L = none) (h2 : hp.get id = some o) (h3 : o.k ≠ 2) (h5 : ∀ (j : Nat) (d : DV), cs[j]? = some d → ∃ e, o.cs[off + j]? = some e ∧ FrzD L hp e d) : FrzD L hp (.ptr id off) (.fptr cs) := by
  refine .ptr id off o cs (fun j => (o.cs[off + j]?).getD .any) h1 h2 h3 (fun j d hj => ?_) (fun j d hj => ?_)
  · obtain ⟨e, he, _⟩ := h5 j d hj
    rw [he]
    rfl
  · obtain ⟨e, he, hf⟩ := h5 j d hj
    rw [he]
    exact hf
/-- cells, one by one -/
def FrzL (L : List Nat) (hp : Hp) : List DV → List DV → Prop
  | [], [] => True
  | d :: ds, e :: es => FrzD L hp d e ∧ FrzL L hp ds es
  | _, _ => False
theorem FrzL.len : ∀ {ds es : List DV}, FrzL L hp ds es → ds.length = es.length
  | [], [], _ => rfl
  | _ :: _, _ :: _, h => by simp [FrzL.len h.2]
  | [], _ :: _, h => h.elim
  | _ :: _, [], h => h.elim
theorem FrzL.at : ∀ {ds es : List DV}, FrzL L hp ds es → ∀ (j : Nat) (d e : DV), ds[j]? = some d → es[j]? = some e → FrzD L hp d e
  | _ :: _, _ :: _, h, 0, _, _, h1, h2 => by
    simp at h1 h2
    subst h1 h2
    exact h.1
  | _ :: _, _ :: _, h, j + 1, d, e, h1, h2 => FrzL.at h.2 j d e (by simpa using h1) (by simpa using h2)
  | [], [], _, _, _, _, h1, _ => by simp at h1
  | [], _ :: _, h, _, _, _, _, _ => h.elim
  | _ :: _, [], h, _, _, _, _, _ => h.elim
theorem FrzL.agg {ds es : List DV} (h : FrzL L hp ds es) : FrzD L hp (.agg ds) (.agg es) := .agg ds es h.len h.at
theorem FrzL.tuple {ds es : List DV} (h : FrzL L hp ds es) : FrzD L hp (.tuple ds) (.tuple es) := .tuple ds es h.len h.at
end
end
end Go.Proofs.Ytgjgihlfkpbdgaa
