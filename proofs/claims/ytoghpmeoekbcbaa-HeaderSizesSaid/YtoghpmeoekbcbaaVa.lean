/- Records of loops over functions: what their turns leave. No function of the program is named here. -/
import Derived.Test.YtoghpmeoekbcbaaVn
namespace Go.Proofs.Ytoghpmeoekbcbaa
open Go.RowKit

noncomputable section
def isO : Obj → Prop
  | .loop _ => True
  | .deferred _ => True
  | _ => False
theorem isO_of {w : World} {l : Nat} {o : Obj} (h : w.heap[l]? = some o) (ho : isO o) : (∃ r, w.heap[l]? = some (Obj.loop r)) ∨ (∃ x, w.heap[l]? = some (Obj.deferred x)) := by
  cases o <;> first | exact .inl ⟨_, h⟩ | exact .inr ⟨_, h⟩ | exact ho.elim
theorem cell_putO {w : World} {l : Nat} {o o' : Obj} (h : w.heap[l]? = some o) (h1 : isO o) (h2 : isO o') (p : Addr) : (w.putObj l o').cell? p = w.cell? p := by
  by_cases hp : p.block = l
  · have h3 := World.putObj_heap_same (w := w) (o := o') (Array.getElem?_eq_some_iff.1 h).1
    subst hp
    simp only [World.cell?, h, h3]
    cases o <;> first | exact h1.elim | (cases o' <;> first | exact h2.elim | rfl)
  · have h3 := World.putObj_heap_other (w := w) (o := o') hp
    simp only [World.cell?, h3]
theorem later_putO (E : Env) {w : World} {l : Nat} {o o' : Obj} (h : w.heap[l]? = some o) (h1 : isO o) (h2 : isO o') : Later E w E (w.putObj l o') :=
  ⟨fun _ h => h, fun _ h => ⟨h, rfl, rfl, rfl, Iff.rfl⟩, fun p _ => cell_putO h h1 h2 p, fun _ _ h => h⟩
section
variable {W0 : World} {base : Nat} {S0 : Nat → Prop} {E : Env} {hp hp' : Hp} {w : World}
theorem HS.putO {l : Nat} {o o' : Obj} (hs : HS W0 base S0 E hp w) (h : w.heap[l]? = some o) (h1 : isO o) (h2 : isO o') (hl : W0.heap.size ≤ l) (hg : ∀ id, hp'.get id = hp.get id) (hn : hp'.n = hp.n) (hys : YsOk W0 base E hp' (w.putObj l o')) : HS W0 base S0 E hp' (w.putObj l o') := by
  refine hs.move (fun _ h => h) (later_putO E h h1 h2) (hs.bel.trans ⟨rfl, rfl, rfl, by simp, fun k hk => World.putObj_heap_other (by omega)⟩) (fun id hd => ?_) (fun b hb => .inl hb) (fun b hb => by simpa using hs.ro b hb) (fun id _ => hg id) (by rw [hn]; exact hs.le) hys
  obtain ⟨ob, _, _, _, vs, ⟨lo, hi, hb, _⟩, _⟩ := hs.ob id hd
  exact World.putObj_heap_other fun e => by
    rw [e, h] at hb
    cases hb
    exact h1.elim
theorem later_allocO (E : Env) (o : Obj) (h : ∀ b, E.S b → b < w.heap.size) : Later E w E (w.alloc o) :=
  ⟨fun _ h => h, fun _ h => ⟨h, rfl, rfl, rfl, Iff.rfl⟩, fun p hp => by
    have := Below.heap_alloc w o _ (h _ hp)
    simp only [World.cell?, this], fun _ _ h => h⟩
theorem HS.allocO (o : Obj) (hs : HS W0 base S0 E hp w) : HS W0 base S0 E hp (w.alloc o) := by
  refine hs.move (fun _ h => h) (later_allocO E o hs.ro) (hs.bel.alloc hs.bel.size o) (fun id hd => ?_) (fun b hb => .inl hb) (fun b hb => ?_) (fun _ _ => rfl) hs.le (hs.ys.keep (later_allocO E o hs.ro) rfl rfl (Nat.le_refl _) fun k hk => Below.heap_alloc w o _ (isO_lt hk))
  · obtain ⟨_, _, hk⟩ := hs.ob id hd
    exact Below.heap_alloc w o _ hk.lt
  · have := hs.ro b hb
    simp
    omega
theorem oth_allocO (o : Obj) : Oth w (w.alloc o) := ⟨by simp, fun k x hk => (Below.heap_alloc w o _ (Array.getElem?_eq_some_iff.1 hk).1).trans hk⟩
theorem oth_putL {l : Nat} {r r' : Loop} (h : w.heap[l]? = some (.loop r)) : Oth w (w.putObj l (.loop r')) := ⟨by simp, fun k x hk => (World.putObj_heap_other (fun e => by rw [e, h] at hk; cases hk)).trans hk⟩
/-- one loop's record turns -/
theorem HS.lay (hs : HS W0 base S0 E hp w) {k : Nat} {R : LS} (hR : lfind k hp.ls = some R) {b D : Nat} (hb : E.yb k = some (b, D)) {r : Loop} (hr : w.heap[b]? = some (.loop r)) (hbk : base ≤ k) (st : Nat) (pe : Option Code) :
    HS W0 base S0 E (hp.lay k st pe) (w.putObj b (.loop { r with state := stOf st, pending := pe })) := by
  obtain ⟨b', D', r0, q1, q2, q3, q4, q5⟩ := hs.ys.ok k R hR
  have hid := (lfind_mem hR).2
  rw [hid, hb] at q1
  cases q1
  rw [hr] at q3
  cases q3
  have hl := later_putO E (o' := .loop { r with state := stOf st, pending := pe }) hr trivial trivial
  refine hs.putO hr trivial trivial (q2 (by omega)) (fun _ => rfl) rfl ⟨fun id R' hR' => ?_, hs.ys.inj, fun id x hx => ⟨(hs.ys.lt id x hx).1, ?_⟩⟩
  · replace hR' : lfind id (lset k st pe hp.ls) = some R' := hR'
    rw [lfind_lset] at hR'
    split at hR'
    · rename_i he
      subst he
      rw [hR] at hR'
      cases hR'
      refine ⟨b, D, { r with state := stOf st, pending := pe }, by show E.yb R.id = _; rw [hid]; exact hb, q2, World.putObj_heap_same (Array.getElem?_eq_some_iff.1 hr).1, (World.putObj_heap_other (fun e => by rw [e, hr] at q4; cases q4)).trans q4, q5.1, rfl, rfl, q5.2.2.2.1, q5.2.2.2.2.1, q5.2.2.2.2.2.1, q5.2.2.2.2.2.2.1, fun t d ht => (q5.2.2.2.2.2.2.2 t d ht).later (hl.cut _)⟩
    · rename_i hne
      obtain ⟨b2, D2, r2, p1, p2, p3, p4, p5⟩ := hs.ys.ok id R' hR'
      have hid' := (lfind_mem hR').2
      have hbb : b2 ≠ b := fun e => hne (by rw [← hid']; exact hs.ys.inj _ _ _ _ _ p1 (by rw [e]; exact hb))
      exact ⟨b2, D2, r2, p1, p2, (World.putObj_heap_other hbb).trans p3, (World.putObj_heap_other (fun e => by rw [e, hr] at p4; cases p4)).trans p4, p5.1, p5.2.1, p5.2.2.1, p5.2.2.2.1, p5.2.2.2.2.1, p5.2.2.2.2.2.1, p5.2.2.2.2.2.2.1, fun t d ht => (p5.2.2.2.2.2.2.2 t d ht).later (hl.cut _)⟩
  · show (lfind id (lset k st pe hp.ls)).isSome = true
    have := congrArg Option.isSome (lset_stat k st pe id hp.ls)
    simp only [Option.isSome_map] at this
    rw [this]
    exact (hs.ys.lt id x hx).2
theorem ext_lay (hp : Hp) {k base : Nat} (h : base ≤ k) (st : Nat) (pe : Option Code) : Ext base hp (hp.lay k st pe) :=
  ⟨Nat.le_refl _, fun _ _ => rfl, fun i => lset_stat k st pe i hp.ls, fun i hi => by
    show lfind i (lset k st pe hp.ls) = _
    rw [lfind_lset, if_neg (by omega)]⟩
theorem stp_lay (hs : HS W0 base S0 E hp w) {k : Nat} {R : LS} (hR : lfind k hp.ls = some R) {b D : Nat} (hb : E.yb k = some (b, D)) {r : Loop} (hr : w.heap[b]? = some (.loop r)) (hbk : base ≤ k) (st : Nat) (pe : Option Code) :
    Stp W0 base S0 E hp w E (hp.lay k st pe) (w.putObj b (.loop { r with state := stOf st, pending := pe })) :=
  ⟨later_putO E hr trivial trivial, hs.lay hR hb hr hbk st pe, ext_lay hp hbk st pe, fun _ _ h => h, oth_putL hr, rfl⟩
/-- what names no loop is known without loops -/
theorem VR.uncut {n : Nat} : ∀ (m : Nat) {d : DV} {v : Value} {E : Env}, VR w E d v → noY m d = true → VR w (E.cut n) d v := by
  intro m
  induction m with
  | zero => intro d v E _ h; cases d <;> simp [noY] at h
  | succ m ih =>
    intro d v E h hn
    cases h with
    | int _ k n => exact .int _ k n
    | bool _ b => exact .bool _ b
    | str _ s => exact .str _ s
    | nil => exact .nil _
    | list _ s xs A c b off g h1 h2 h3 h4 h5 h6 h7 h8 => exact .list _ s xs A c b off g h1 h2 h3 h4 h5 h6 h7 h8
    | sl _ id off s n c A c' hd h1 h2 h3 h4 h5 => exact .sl _ id off s n c A c' hd h1 h2 h3 h4 h5
    | ptr _ id off hd => exact .ptr (E.cut _) id off hd
    | fptr _ cs b off g h1 h2 h3 => exact .fptr _ cs b off g h1 h2 h3
    | nilp => exact .nilp _
    | agg _ cs vs h1 h2 =>
      simp only [noY, List.all_eq_true] at hn
      exact .agg _ cs vs h1 fun j d v hd hv => ih (h2 j d v hd hv) (hn d (List.mem_of_getElem? hd))
    | tuple _ cs vs h1 h2 =>
      simp only [noY, List.all_eq_true] at hn
      exact .tuple _ cs vs h1 fun j d v hd hv => ih (h2 j d v hd hv) (hn d (List.mem_of_getElem? hd))
    | fn _ f fs cs us vs h1 h2 h3 h4 =>
      simp only [noY, Bool.and_eq_true, List.all_eq_true] at hn
      exact .fn _ f fs cs us vs h1 h2 (fun j d v hd hv => ih (h3 j d v hd hv) (hn.1 d (List.mem_of_getElem? hd))) (fun j d v hd hv => ih (h4 j d v hd hv) (hn.2 d (List.mem_of_getElem? hd)))
    | nilf => exact .nilf _
    | yld _ id b D hd => simp [noY] at hn
    | iface _ t d v h =>
      simp only [noY] at hn
      exact .iface _ t d v (ih h hn)
    | nili => exact .nili _
    | any _ v => exact .any _ v
theorem scal_noY {d : DV} (h : scal d = true) : noY 6 d = true := by
  cases d with
  | fn f fs cs => exact h
  | iface t d => exact h
  | agg cs => cases h
  | tuple cs => cases h
  | any => rfl
  | yld id => cases h
  | _ => rfl
theorem VRs.uncut {n : Nat} {ds : List DV} {vs : List Value} (h : VRs E w ds vs) (hs : scals ds = true) : VRs (E.cut n) w ds vs :=
  ⟨h.1, fun j d v hd hv => (h.2 j d v hd hv).uncut 6 (scal_noY ((scals_iff ds).1 hs d (List.mem_of_getElem? hd)))⟩
theorem ObOk.uncut {n id : Nat} {o : Ob} (h : ObOk E w id o) : ObOk (E.cut n) w id o := by
  obtain ⟨h1, h0, vs, h2, h3, h4, h5⟩ := h
  exact ⟨h1, h0, vs, h2, h3, h4, h5.uncut h0⟩
theorem HS.cut {n : Nat} (hs : HS W0 base S0 E hp w) (hg : ∀ id, hp'.get id = hp.get id) (hn : hp'.n = hp.n) (hys : YsOk W0 base (E.cut n) hp' w) : HS W0 base S0 (E.cut n) hp' w :=
  ⟨hs.bel, fun id hd => (hs.ob id hd).imp fun o ho => ⟨by rw [hg]; exact ho.1, ho.2.uncut⟩, hs.own, hs.old, fun i j oi oj hi hj hne hb hoi hoj => hs.inj i j oi oj hi hj hne hb (by rw [← hg]; exact hoi) (by rw [← hg]; exact hoj), hs.ro, hs.olds, by rw [hn]; exact hs.le, hys⟩
theorem Hp.get_beg (h : Hp) (nc : Nat) (ks : List (Nat × Nat)) (sl : Slots) (ps : List Nat) (a b : Code) (id : Nat) (hid : id < h.n) : (h.beg nc ks sl ps a b).get id = h.get id := by
  have : (h.beg nc ks sl ps a b).get id = (h.push ⟨0, 0, 0, []⟩).get id := rfl
  rw [this, Hp.get_push, if_neg (by omega)]
theorem lfind_beg (h : Hp) (nc : Nat) (ks : List (Nat × Nat)) (sl : Slots) (ps : List Nat) (a b : Code) (id : Nat) : lfind id (h.beg nc ks sl ps a b).ls = if h.n = id then some ⟨h.n, nc, ks, sl, ps, a, b, 0, none⟩ else lfind id h.ls := by
  simp only [Hp.beg, lfind]
  by_cases e : h.n = id
  · rw [beqT e, if_pos e]
  · rw [beqF e, if_neg e]
def Env.withY (E : Env) (n b D : Nat) : Env := { E with yb := fun i => if i = n then some (b, D) else E.yb i }
theorem YsOk.cut_self (h : YsOk W0 base E hp w) : E.cut hp.n = E := by
  obtain ⟨S, b, bs, sz, X, D, yb⟩ := E
  simp only [Env.cut, Env.mk.injEq, true_and]
  funext i
  split
  · rfl
  · rename_i hi
    cases hy : yb i with
    | none => rfl
    | some x => exact absurd (h.lt i x hy).1 hi
theorem Env.withY_cut (E : Env) (n b D : Nat) : (E.withY n b D).cut n = E.cut n := by
  simp only [Env.cut, Env.withY]
  congr
  funext i
  by_cases hi : i < n
  · rw [if_pos hi, if_pos hi, if_neg (by omega)]
  · rw [if_neg hi, if_neg hi]
theorem YsOk.later_withY (h : YsOk W0 base E hp w) (b D : Nat) : Later E w (E.withY hp.n b D) w :=
  ⟨fun _ h => h, fun _ h => ⟨h, rfl, rfl, rfl, Iff.rfl⟩, fun _ _ => rfl, fun id x hx => by
    have := (h.lt id x hx).1
    show (if id = hp.n then some (b, D) else E.yb id) = some x
    rw [if_neg (by omega)]
    exact hx⟩
/-- a loop begins -/
theorem HS.beg (hs : HS W0 base S0 E hp w) {b D : Nat} {r : Loop} {nc : Nat} {ks : List (Nat × Nat)} {sl : Slots} {ps : List Nat} {x y : Code} (hb : W0.heap.size ≤ b) (hr : w.heap[b]? = some (.loop r)) (hD : w.heap[D]? = some (.deferred (some []))) (h1 : r.defers = D) (h2 : r.state = .ready) (h3 : r.pending = none)
    (h4 : r.params = ps.toArray) (h5 : r.assign = x) (h6 : r.body = y) (h7 : r.tmps.size = nc) (h8 : ∀ t d, look sl t = some d → VR w E d (r.tmps.getD t undef)) (hnew : ∀ id b' D', E.yb id = some (b', D') → b' ≠ b) :
    HS W0 base S0 (E.withY hp.n b D) (hp.beg nc ks sl ps x y) w := by
  have hl := hs.ys.later_withY b D
  refine hs.move (fun _ h => h) hl hs.bel (fun _ _ => rfl) (fun _ h => .inl h) hs.ro (fun id hd => Hp.get_beg _ _ _ _ _ _ _ id (hs.dlt hd)) (by have := hs.le; simp only [Hp.beg]; omega) ⟨fun id R hR => ?_, fun i j b1 D1 D2 e1 e2 => ?_, fun id z hz => ?_⟩
  · rw [lfind_beg] at hR
    split at hR
    · rename_i he
      cases hR
      refine ⟨b, D, r, by show (if hp.n = hp.n then _ else _) = _; rw [if_pos rfl], fun _ => hb, hr, hD, h1, h2, h3, h4, h5, h6, h7, fun t d ht => ?_⟩
      show VR w ((E.withY hp.n b D).cut hp.n) d _
      rw [Env.withY_cut, hs.ys.cut_self]
      exact h8 t d ht
    · exact (hs.ys.ok id R hR).keep hl (fun _ _ => rfl) fun b hb _ => hb
  · replace e1 : (if i = hp.n then some (b, D) else E.yb i) = some (b1, D1) := e1
    replace e2 : (if j = hp.n then some (b, D) else E.yb j) = some (b1, D2) := e2
    split at e1 <;> split at e2
    · omega
    · cases e1
      exact absurd rfl (hnew _ _ _ e2)
    · cases e2
      exact absurd rfl (hnew _ _ _ e1)
    · exact hs.ys.inj _ _ _ _ _ e1 e2
  · replace hz : (if id = hp.n then some (b, D) else E.yb id) = some z := hz
    rw [lfind_beg]
    split at hz
    · rename_i he
      refine ⟨by simp only [Hp.beg]; omega, by rw [if_pos he.symm]; rfl⟩
    · rename_i he
      obtain ⟨q1, q2⟩ := hs.ys.lt id z hz
      exact ⟨by simp only [Hp.beg]; omega, by rw [if_neg (fun e => he e.symm)]; exact q2⟩
/-- a block for deferred calls is shut -/
theorem stp_take {E' : Env} {hp0 : Hp} {w0 : World} {D : Nat} {x : Option (List Deferred)} (hst : Stp W0 base S0 E hp0 w0 E' hp w) (hD : W0.heap.size ≤ D) (hD0 : w0.heap.size ≤ D) (hk : w.heap[D]? = some (.deferred x)) (hn : ∀ id b D', E'.yb id = some (b, D') → D' ≠ D) :
    Stp W0 base S0 E hp0 w0 E' hp (w.putObj D (.deferred none)) ∧ Later E' w E' (w.putObj D (.deferred none)) := by
  have hl := later_putO E' (o' := .deferred none) hk trivial trivial
  refine ⟨⟨hst.later.trans hl, hst.hs.putO hk trivial trivial hD (fun _ => rfl) rfl ⟨fun id R hR => ?_, hst.hs.ys.inj, hst.hs.ys.lt⟩, hst.ext, hst.dom, ⟨by have := hst.oth.1; simpa using this, fun k x hk0 => ?_⟩, hst.yb⟩, hl⟩
  · obtain ⟨b2, D2, r2, p1, p2, p3, p4, p5⟩ := hst.hs.ys.ok id R hR
    exact ⟨b2, D2, r2, p1, p2, (World.putObj_heap_other (fun e => by rw [e, hk] at p3; cases p3)).trans p3, (World.putObj_heap_other (hn _ _ _ p1)).trans p4, p5.1, p5.2.1, p5.2.2.1, p5.2.2.2.1, p5.2.2.2.2.1, p5.2.2.2.2.2.1, p5.2.2.2.2.2.2.1, fun t d ht => (p5.2.2.2.2.2.2.2 t d ht).later (hl.cut _)⟩
  · have := (Array.getElem?_eq_some_iff.1 hk0).1
    exact (World.putObj_heap_other (by omega)).trans (hst.oth.2 k x hk0)
end
theorem putP_ok {w : World} {E : Env} {NC : Nat} : ∀ (ts : List Nat) (ds : List DV) (vs : List Value) (sl : Slots) (tm : Array Value), (∀ t ∈ ts, t < NC) → tm.size = NC → VRs E w ds vs → (∀ t d, look sl t = some d → VR w E d (tm.getD t undef)) →
    ((ts.zip vs).foldl (fun m (x : Nat × Value) => m.setIfInBounds x.1 x.2) tm).size = NC ∧ ∀ t d, look (putP sl ts ds) t = some d → VR w E d (((ts.zip vs).foldl (fun m (x : Nat × Value) => m.setIfInBounds x.1 x.2) tm).getD t undef)
  | [], ds, vs, sl, tm, _, hz, _, h => by
    cases ds <;> exact ⟨by simpa using hz, by simpa [putP] using h⟩
  | t :: ts, [], vs, sl, tm, _, hz, hv, h => by
    rw [hv.unnil]
    exact ⟨by simpa using hz, by simpa [putP] using h⟩
  | t :: ts, d :: ds, vs, sl, tm, ht, hz, hv, h => by
    obtain ⟨v, vs', rfl, h1, h2⟩ := hv.uncons
    refine putP_ok ts ds vs' (putS sl t d) (tm.setIfInBounds t v) (fun s hs => ht s (List.mem_cons_of_mem _ hs)) (by simpa using hz) h2 fun s e hs => ?_
    have htn : t < tm.size := by rw [hz]; exact ht t (List.mem_cons_self ..)
    rw [getD_set htn]
    rcases look_put hs with ⟨rfl, rfl⟩ | ⟨hne, hs⟩
    · rw [if_pos rfl]; exact h1
    · rw [if_neg hne]; exact h s _ hs
theorem ltAll_ok {n : Nat} : ∀ {l : List Nat}, ltAll n l = true → ∀ t ∈ l, t < n
  | [], _, t, h => by cases h
  | s :: l, h, t, ht => by
    simp only [ltAll, Bool.and_eq_true] at h
    rcases List.mem_cons.1 ht with rfl | ht
    · exact Nat.le_of_ble_eq_true h.1
    · exact ltAll_ok h.2 t ht
end
end Go.Proofs.Ytoghpmeoekbcbaa
