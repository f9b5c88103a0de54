/- Steps of the heap of objects. No function of the program is named here. -/
import Derived.Test.YtoghpmeoekbcbaaV6
namespace Go.Proofs.Ytoghpmeoekbcbaa
open Go.RowKit

theorem run_storeCells_bx (P : Program) (g o : Nat) (t : TypeId) (lo hi : Nat) : ∀ (vs : List Value) (i : Nat) (cur : Array Value) (w : World), w.heap[g]? = some (.cells cur t (lo, hi)) → (hi = 0 ∨ cur.size ≤ lo) → o + i + vs.length ≤ cur.size → (∀ v ∈ vs, v.oneCell' = true) →
    (storeCells ⟨g, o, none⟩ vs i).run P w = .ok () (w.setRow g (cur.toList.take (o + i) ++ vs ++ cur.toList.drop (o + i + vs.length)).toArray)
  | [], i, cur, w, hg, _, _, _ => by
    simp only [storeCells, List.append_nil, List.length_nil, Nat.add_zero, List.take_append_drop, Array.toArray_toList]
    rw [setRow_self w g cur t (lo, hi) hg]
    rfl
  | v :: rest, i, cur, w, hg, hm, hl, h1 => by
    have hi' : o + i < cur.size := by simp at hl; omega
    have hcell : w.cell? ⟨g, o + i, none⟩ = some cur[o + i] := by simp [World.cell?, hg, hi']
    have hfro : w.frozen? ⟨g, o + i, none⟩ = false := by
      simp only [World.frozen?, hg, Bool.and_eq_false_iff, decide_eq_false_iff_not]
      omega
    have hst : (store ((⟨g, o, none⟩ : Addr).add i) v).run P w = .ok () (w.setRow g (cur.setIfInBounds (o + i) v)) := by
      rw [add_none, run_store P w _ v _ (h1 v (by simp)), hcell]
      simp [hfro, setCell_eq_setRow w g (o + i) cur t (lo, hi) v hg]
    have ih := run_storeCells_bx P g o t lo hi rest (i + 1) (cur.setIfInBounds (o + i) v) (w.setRow g (cur.setIfInBounds (o + i) v)) (setRow_heap w g cur _ t _ hg) (by simpa using hm) (by simp at hl ⊢; omega) (fun x hx => h1 x (by simp [hx]))
    simp only [storeCells, Sem.run_bind, hst, Result.andThen_ok, ih, setRow_setRow]
    congr 3
    have e := list_seg_step cur.toList (o + i) v rest (by simp at hl ⊢; omega)
    simpa [Array.toList_setIfInBounds, Nat.add_assoc] using e

/-- cells laid over others -/
def layV (old : List Value) (off : Nat) (cs : List Value) : List Value := old.take off ++ cs ++ old.drop (off + cs.length)
theorem layV_length {old : List Value} {off : Nat} {cs : List Value} (h : off + cs.length ≤ old.length) : (layV old off cs).length = old.length := by
  simp [layV]
  omega
theorem layD_length {old : List DV} {off : Nat} {cs : List DV} (h : off + cs.length ≤ old.length) : (layD old off cs).length = old.length := by
  simp [layD]
  omega
theorem layV_drop {old : List Value} {off k : Nat} {cs : List Value} (hk : k ≤ off) (h : off + cs.length ≤ old.length) : (layV old off cs).drop k = layV (old.drop k) (off - k) cs := by
  unfold layV
  rw [List.append_assoc, List.drop_append_of_le_length (by simp; omega), List.drop_take, List.drop_drop, List.append_assoc]
  congr 3
  omega
theorem layV_take {old : List Value} {off k : Nat} {cs : List Value} (hk : off + cs.length ≤ k) (h : off + cs.length ≤ old.length) : (layV old off cs).take k = layV (old.take k) off cs := by
  unfold layV
  have h1 : (old.take off ++ cs).length = off + cs.length := by simp; omega
  rw [List.take_append, h1, List.take_of_length_le (by omega), List.take_take, List.drop_take, Nat.min_eq_left (by omega)]
theorem layV_before {old : List Value} {off k : Nat} {cs : List Value} (hk : k ≤ off) (h : off + cs.length ≤ old.length) : (layV old off cs).take k = old.take k := by
  unfold layV
  rw [List.append_assoc, List.take_append_of_le_length (by simp; omega), List.take_take, Nat.min_eq_left hk]
theorem VRs.lay {E : Env} {w : World} {ds es : List DV} {vs us : List Value} (h : VRs E w ds vs) (k : VRs E w es us) (off : Nat) : VRs E w (layD ds off es) (layV vs off us) := by
  unfold layD layV
  rw [k.1]
  exact ((h.take off).append k).append (h.drop _)

theorem scals_lay {a b : List DV} (ha : scals a = true) (hb : scals b = true) (off : Nat) : scals (layD a off b) = true := by
  unfold layD
  rw [scals_append, scals_append, hb, scals_sub ha (fun d hd => List.mem_of_mem_take hd), scals_sub ha (fun d hd => List.mem_of_mem_drop hd)]
  rfl
section
variable {W0 : World} {base : Nat} {S0 : Nat → Prop} {E : Env} {hp : Hp} {w : World}
structure Stp (W0 : World) (base : Nat) (S0 : Nat → Prop) (E : Env) (hp : Hp) (w : World) (E' : Env) (hp' : Hp) (w' : World) : Prop where
  later : Later E w E' w'
  hs : HS W0 base S0 E' hp' w'
  ext : Ext base hp hp'
  dom : ∀ id, id < hp.n → E'.D id → E.D id
  oth : Oth w w'
  yb : E'.yb = E.yb
theorem Stp.refl (h : HS W0 base S0 E hp w) : Stp W0 base S0 E hp w E hp w := ⟨Later.refl _ _, h, Ext.refl _ _, fun _ _ h => h, Oth.refl _, rfl⟩
theorem Stp.trans {E1 E2 : Env} {hp1 hp2 : Hp} {w1 w2 : World} (h : Stp W0 base S0 E hp w E1 hp1 w1) (k : Stp W0 base S0 E1 hp1 w1 E2 hp2 w2) : Stp W0 base S0 E hp w E2 hp2 w2 := ⟨h.later.trans k.later, k.hs, h.ext.trans k.ext, fun id hid hd => h.dom id hid (k.dom id (Nat.lt_of_lt_of_le hid h.ext.1) hd), h.oth.trans k.oth, k.yb.trans h.yb⟩
/-- what is a loop's or deferred calls' is no cells -/
theorem isO_lt {w : World} {k : Nat} (h : (∃ r, w.heap[k]? = some (Obj.loop r)) ∨ (∃ x, w.heap[k]? = some (Obj.deferred x))) : k < w.heap.size := by
  rcases h with ⟨r, h⟩ | ⟨x, h⟩ <;> exact (Array.getElem?_eq_some_iff.1 h).1
theorem isO_ne {w : World} {k b : Nat} {c : Array Value} {t : TypeId} {m : Nat × Nat} (h : (∃ r, w.heap[k]? = some (Obj.loop r)) ∨ (∃ x, w.heap[k]? = some (Obj.deferred x))) (hb : w.heap[b]? = some (.cells c t m)) : k ≠ b := by
  intro e
  subst e
  rw [hb] at h
  rcases h with ⟨r, h⟩ | ⟨x, h⟩ <;> cases h
def Env.add (E : Env) (id b bs sz : Nat) (X : Prop) : Env :=
  ⟨E.S, fun i => if i = id then b else E.b i, fun i => if i = id then bs else E.base i, fun i => if i = id then sz else E.sz i, fun i => (i = id ∧ X) ∨ (i ≠ id ∧ E.X i), fun i => E.D i ∨ i = id, E.yb⟩
theorem HS.fresh (h : HS W0 base S0 E hp w) : ¬ E.D hp.n := fun hd => by
  obtain ⟨o, ho, _⟩ := h.ob _ hd
  have := Hp.get_lt ho
  omega
theorem HS.dlt (h : HS W0 base S0 E hp w) {id : Nat} (hd : E.D id) : id < hp.n := by
  obtain ⟨o, ho, _⟩ := h.ob _ hd
  exact Hp.get_lt ho
theorem Env.later_add {w' : World} (E : Env) (w : World) (id b bs sz : Nat) (X : Prop) (hn : ¬ E.D id) (hc : ∀ p : Addr, E.S p.block → w'.cell? p = w.cell? p) : Later E w (E.add id b bs sz X) w' :=
  ⟨fun _ h => h, fun i hd => by
    have hne : i ≠ id := fun e => hn (e ▸ hd)
    exact ⟨.inl hd, if_neg hne, if_neg hne, if_neg hne, ⟨fun h => h.elim (fun h => absurd h.1 hne) (·.2), fun h => .inr ⟨hne, h⟩⟩⟩, hc, fun _ _ h => h⟩
theorem Env.add_at (E : Env) (id b bs sz : Nat) (X : Prop) : (E.add id b bs sz X).D id ∧ (E.add id b bs sz X).b id = b ∧ (E.add id b bs sz X).base id = bs ∧ (E.add id b bs sz X).sz id = sz ∧ ((E.add id b bs sz X).X id ↔ X) :=
  ⟨.inr rfl, if_pos rfl, if_pos rfl, if_pos rfl, ⟨fun h => h.elim (·.2) (fun h => absurd rfl h.1), fun h => .inl ⟨rfl, h⟩⟩⟩
theorem Env.add_other (E : Env) {id i : Nat} (b bs sz : Nat) (X : Prop) (hne : i ≠ id) : (E.add id b bs sz X).b i = E.b i ∧ (E.add id b bs sz X).base i = E.base i ∧ (E.add id b bs sz X).sz i = E.sz i ∧ ((E.add id b bs sz X).X i ↔ E.X i) ∧ ((E.add id b bs sz X).D i ↔ E.D i) :=
  ⟨if_neg hne, if_neg hne, if_neg hne, ⟨fun h => h.elim (fun h => absurd h.1 hne) (·.2), fun h => .inr ⟨hne, h⟩⟩, ⟨fun h => h.resolve_right hne, .inl⟩⟩

/-- a new block, a new object -/
theorem stp_push (h : HS W0 base S0 E hp w) {w' : World} {t : TypeId} {vs : List Value} {lo hi : Nat} (hw : w'.heap = w.heap.push (.cells vs.toArray t (lo, hi))) (hm : hi = 0 ∨ vs.length ≤ lo) (h1 : w'.os = w.os) (h2 : w'.tape = w.tape) (h3 : w'.output = w.output)
    (k r : Nat) {cs : List DV} (hl : cs.length ≤ vs.length) (hcs : VRs E w cs (vs.take cs.length)) (hsc : scals cs = true) (hm2 : hi = 0 → lo = 0 := by first | exact fun _ => rfl | (intro h; simp at h)) :
    Stp W0 base S0 E hp w (E.add hp.n w.heap.size 0 vs.length (k = 0)) (hp.push ⟨k, r, t, cs⟩) w' := by
  have hold : ∀ i, i < w.heap.size → w'.heap[i]? = w.heap[i]? := fun i hi => by rw [hw, Array.getElem?_push, if_neg (by omega)]
  have hcell : ∀ p : Addr, E.S p.block → w'.cell? p = w.cell? p := fun p hp => World.cell?_of_block (hold _ (h.ro _ hp))
  have hlater := Env.later_add E w hp.n w.heap.size 0 vs.length (k = 0) h.fresh hcell
  obtain ⟨a1, a2, a3, a4, a5⟩ := Env.add_at E hp.n w.heap.size 0 vs.length (k = 0)
  have hcase : ∀ i, (E.add hp.n w.heap.size 0 vs.length (k = 0)).D i → i = hp.n ∨ (i ≠ hp.n ∧ E.D i) := fun i hd => by
    by_cases e : i = hp.n
    · exact .inl e
    · exact .inr ⟨e, hd.resolve_right e⟩
  refine ⟨hlater, ⟨?_, fun i hd => ?_, fun i hd hb => ?_, fun i hd hb => ?_, fun i j oi oj hdi hdj hne hb hoi hoj hk2 he => ?_, fun b hs => ?_, h.olds, by simp [Hp.push]; have := h.le; omega, h.ys.keep hlater rfl rfl (by simp [Hp.push]) fun k hk => hold k (isO_lt hk)⟩, ⟨by simp [Hp.push], fun i hi => ?_, fun _ => rfl, fun _ _ => rfl⟩, fun i hi hd => hd.resolve_right (by omega), ⟨by rw [hw]; simp, fun k x hk => (hold k (isO_lt (.inr ⟨x, hk⟩))).trans hk⟩, rfl⟩
  · refine h.bel.trans ⟨h1, h2, h3, by rw [hw]; simp, fun i hi => ?_⟩
    have := h.bel.size
    exact hold i (by omega)
  · rcases hcase i hd with rfl | ⟨hne, hd⟩
    · refine ⟨_, by rw [Hp.get_push, if_pos rfl], a5.symm, hsc, vs, ?_, a4.symm, by rw [a3]; simp; omega, ?_⟩
      · rw [a2]
        exact ⟨lo, hi, by rw [hw]; simp, hm, hm2⟩
      · rw [a3]
        exact (by simpa using hcs : VRs E w cs ((vs.drop 0).take cs.length)).later hlater
    · obtain ⟨o, ho, hok⟩ := h.ob i hd
      exact ⟨o, by rw [Hp.get_push, if_neg hne]; exact ho, hok.keep hd hlater (hold _ hok.lt)⟩
  · rcases hcase i hd with rfl | ⟨hne, hd⟩
    · rw [a2]
      exact ⟨h.bel.size, fun hs => Nat.lt_irrefl _ (h.ro _ hs)⟩
    · rw [(Env.add_other E _ _ _ _ hne).1]
      exact h.own i hd hb
  · rcases hcase i hd with rfl | ⟨hne, hd⟩
    · have := h.le
      omega
    · rw [(Env.add_other E _ _ _ _ hne).1]
      exact h.old i hd hb
  · rw [Hp.get_push] at hoi hoj
    rcases hcase i hdi with rfl | ⟨hni, hdi⟩ <;> rcases hcase j hdj with rfl | ⟨hnj, hdj⟩
    · exact absurd rfl hne
    · rw [a2, (Env.add_other E _ _ _ _ hnj).1] at he
      obtain ⟨o, _, hok⟩ := h.ob j hdj
      have := hok.lt
      omega
    · rw [a2, (Env.add_other E _ _ _ _ hni).1] at he
      obtain ⟨o, _, hok⟩ := h.ob i hdi
      have := hok.lt
      omega
    · rw [if_neg hni] at hoi
      rw [if_neg hnj] at hoj
      rw [(Env.add_other E _ _ _ _ hni).1, (Env.add_other E _ _ _ _ hnj).1] at he
      rw [(Env.add_other E _ _ _ _ hni).2.1, (Env.add_other E _ _ _ _ hnj).2.1]
      exact h.inj i j oi oj hdi hdj hne hb hoi hoj hk2 he
  · have := h.ro b hs
    rw [hw]
    simp
    omega
  · have := h.le
    rw [Hp.get_push, if_neg (by omega)]

theorem storeH_some {id off : Nat} {cs : List DV} {r : Hp × Mut} (h : storeH hp id off cs = some r) : ∃ o, hp.get id = some o ∧ off + cs.length ≤ o.cs.length ∧ o.k ≠ 2 ∧
    ((o.k = 3 ∧ r = ((hp.kill o.r).put id ⟨1, o.r, o.t, layD o.cs off cs⟩, mmin (some o.r) (some id))) ∨ (o.k ≠ 3 ∧ r = (hp.put id ⟨o.k, o.r, o.t, layD o.cs off cs⟩, some id))) := by
  unfold storeH at h
  split at h
  · rename_i o ho
    split at h
    · rename_i hb hk
      cases h
      exact ⟨o, ho, Nat.le_of_ble_eq_true hb, by omega, .inl ⟨hk, rfl⟩⟩
    · cases h
    · rename_i hb h3 h2
      cases h
      exact ⟨o, ho, Nat.le_of_ble_eq_true hb, h2, .inr ⟨h3, rfl⟩⟩
    · cases h
  · cases h
/-- a store into an object -/
theorem stp_store (h : HS W0 base S0 E hp w) {id off : Nat} {cs : List DV} {hp' : Hp} {mu : Mut} (hst : storeH hp id off cs = some (hp', mu)) (hmu : mutOk base mu) (hd : E.D id) {us : List Value} (hu : VRs E w cs us) (P : Program) (hsc : scals cs = true) :
    ∃ w', (storeCells ⟨E.b id, E.base id + off, none⟩ us).run P w = .ok () w' ∧ Stp W0 base S0 E hp w E hp' w' := by
  obtain ⟨o, ho, hle, hk2, hcase⟩ := storeH_some hst
  obtain ⟨o', ho', hx, hsc0, vs, ⟨lo, hi, hb, hm, hm2⟩, hsz, hbl, hvs⟩ := h.ob id hd
  rw [ho] at ho'
  cases ho'
  have h1 := scals_one hu hsc
  have hbid : base ≤ id := by
    rcases hcase with ⟨_, he⟩ | ⟨_, he⟩ <;> (injection he with _ he; subst he)
    · exact (mutOk_mmin hmu).2
    · exact hmu
  obtain ⟨hW, hS⟩ := h.own id hd hbid
  have hul : us.length = cs.length := hu.1.symm
  have hrun := run_storeCells_bx P (E.b id) (E.base id + off) o.t lo hi us 0 vs.toArray w hb (by simpa using hm) (by simp; omega) h1
  simp only [Nat.add_zero] at hrun
  refine ⟨_, hrun, ?_⟩
  have hnew : (vs.toArray.toList.take (E.base id + off) ++ us ++ vs.toArray.toList.drop (E.base id + off + us.length)) = layV vs (E.base id + off) us := by simp [layV]
  rw [hnew]
  generalize hwq : w.setRow (E.b id) (layV vs (E.base id + off) us).toArray = w'
  have hoth : ∀ k, k ≠ E.b id → w'.heap[k]? = w.heap[k]? := fun k hk => by rw [← hwq]; exact setRow_other w _ _ _ hk
  have hat : w'.heap[E.b id]? = some (.cells (layV vs (E.base id + off) us).toArray o.t (lo, hi)) := by rw [← hwq]; exact setRow_heap w _ _ _ _ _ hb
  have hlater : Later E w E w' := ⟨fun _ h => h, fun _ h => ⟨h, rfl, rfl, rfl, Iff.rfl⟩, fun p hp => World.cell?_of_block (hoth _ (fun e => hS (e ▸ hp))), fun _ _ h => h⟩
  have hsize : w'.heap.size = w.heap.size := by rw [← hwq]; simp
  have hlen : (layV vs (E.base id + off) us).length = vs.length := layV_length (by omega)
  -- the objects of the new heap
  have hget : ∀ j oj, hp'.get j = some oj → (j = id ∧ oj.t = o.t ∧ oj.cs = layD o.cs off cs ∧ oj.k ≠ 2 ∧ (oj.k = 0 ↔ o.k = 0) ∧ (oj.k = 3 → False) ∧ True) ∨ (j ≠ id ∧ ∃ o0, hp.get j = some o0 ∧ oj.k = o0.k ∧ oj.r = o0.r ∧ oj.t = o0.t ∧ (oj = o0 ∨ (oj = o0.dead)) ∧ (o0.k = 2 → o.k = 3 → o.r ≤ j → oj.cs = [])) := by
    intro j oj hj
    rcases hcase with ⟨hk, he⟩ | ⟨hk, he⟩ <;> (injection he with he1 he2; subst he1)
    · have hgk : (hp.kill o.r).get id = some o := by
        rw [Hp.get_kill, ho]
        simp [Ob.dead, hk2]
      rw [Hp.get_put _ _ _ _ hgk] at hj
      by_cases e : j = id
      · rw [if_pos e] at hj
        cases hj
        exact .inl ⟨e, rfl, rfl, by simp, by simp [hk], by simp, trivial⟩
      · rw [if_neg e, Hp.get_kill] at hj
        refine .inr ⟨e, ?_⟩
        by_cases hr : o.r ≤ j
        · rw [if_pos hr] at hj
          cases hg : hp.get j with
          | none => rw [hg] at hj; cases hj
          | some o0 =>
            rw [hg] at hj
            cases hj
            refine ⟨o0, rfl, ?_, ?_, ?_, .inr rfl, fun h2 _ _ => by simp [Ob.dead, h2]⟩
            all_goals (unfold Ob.dead; split <;> simp_all)
        · rw [if_neg hr] at hj
          exact ⟨oj, hj, rfl, rfl, rfl, .inl rfl, fun _ _ h => absurd h hr⟩
    · rw [Hp.get_put _ _ _ _ ho] at hj
      by_cases e : j = id
      · rw [if_pos e] at hj
        cases hj
        exact .inl ⟨e, rfl, rfl, hk2, Iff.rfl, fun h => absurd h hk, trivial⟩
      · rw [if_neg e] at hj
        exact .inr ⟨e, oj, hj, rfl, rfl, rfl, .inl rfl, fun _ h => absurd h hk⟩
  have hdom : ∀ j oj, hp.get j = some oj → ∃ oj', hp'.get j = some oj' := by
    intro j oj hj
    rcases hcase with ⟨hk, he⟩ | ⟨hk, he⟩ <;> (injection he with he1 he2; subst he1)
    · have hgk : (hp.kill o.r).get id = some o := by
        rw [Hp.get_kill, ho]
        simp [Ob.dead, hk2]
      rw [Hp.get_put _ _ _ _ hgk, Hp.get_kill, hj]
      by_cases e : j = id
      · exact ⟨_, if_pos e⟩
      · rw [if_neg e]
        by_cases hr : o.r ≤ j
        · exact ⟨_, if_pos hr⟩
        · exact ⟨_, if_neg hr⟩
    · rw [Hp.get_put _ _ _ _ ho, hj]
      by_cases e : j = id
      · exact ⟨_, if_pos e⟩
      · exact ⟨_, if_neg e⟩
  have hn : hp'.n = hp.n := by
    rcases hcase with ⟨hk, he⟩ | ⟨hk, he⟩ <;> (injection he with he1 he2; subst he1; rfl)
  have hls : hp'.ls = hp.ls := by
    rcases hcase with ⟨hk, he⟩ | ⟨hk, he⟩ <;> (injection he with he1 he2; subst he1; rfl)
  refine ⟨hlater, ⟨?_, fun j hdj => ?_, h.own, h.old, fun i j oi oj hdi hdj hne hbi hoi hoj hki he => ?_, fun b hb => by rw [hsize]; exact h.ro b hb, h.olds, by rw [hn]; exact h.le, h.ys.keep hlater rfl hls (by rw [hn]; exact Nat.le_refl _) fun k hk => hoth k (isO_ne hk hb)⟩, ⟨by rw [hn]; exact Nat.le_refl _, fun j hj => ?_, fun _ => (by rw [hls]), fun _ _ => (by rw [hls])⟩, fun _ _ h => h, ⟨by rw [hsize]; exact Nat.le_refl _, fun k x hk => (hoth k (isO_ne (.inr ⟨x, hk⟩) hb)).trans hk⟩, rfl⟩
  · refine h.bel.trans ⟨?_, ?_, ?_, by rw [hsize]; exact Nat.le_refl _, fun k hk => hoth k (by omega)⟩ <;> (rw [← hwq]; rfl)
  · obtain ⟨o0, ho0, hok0⟩ := h.ob j hdj
    obtain ⟨oj, hoj⟩ := hdom j o0 ho0
    refine ⟨oj, hoj, ?_⟩
    rcases hget j oj hoj with ⟨rfl, e1, e2, e3, e4, _⟩ | ⟨hne, o1, ho1, e1, e2, e3, e4, e5⟩
    · refine ⟨e4.trans hx, by rw [e2]; exact scals_lay hsc0 hsc off, layV vs (E.base j + off) us, ⟨lo, hi, by rw [e1]; exact hat, by rw [hlen]; exact hm, hm2⟩, hlen.trans hsz, by rw [e2, layD_length hle, hlen]; exact hbl, ?_⟩
      rw [e2, layD_length hle, layV_drop (by omega) (by omega), show E.base j + off - E.base j = off by omega]
      rw [layV_take (by omega) (by simp; omega)]
      exact (hvs.lay hu off).later hlater
    · rw [ho0] at ho1
      cases ho1
      by_cases hbe : E.b j = E.b id
      · -- another object of the same block
        obtain ⟨q1, q2⟩ := h.inj id j o o0 hd hdj (fun e => hne e.symm) hbid ho ho0 hk2 hbe.symm
        have hcs0 : oj.cs = [] := by
          rcases q2 with q2 | ⟨q2, q3, q4⟩
          · rcases e4 with rfl | rfl
            · exact q2
            · simp [Ob.dead, q1]
          · exact e5 q1 q2 q3
        obtain ⟨hx0, hsq0, vs0, ⟨lo0, hi0, hb0, hm0⟩, hsz0, hbl0, hvs0⟩ := hok0
        rw [hbe, hb] at hb0
        injection hb0 with hb0
        injection hb0 with hb1 hb2 hb3
        have hvv : vs0 = vs := by
          have := congrArg Array.toList hb1
          simpa using this.symm
        subst hvv
        refine ⟨by rw [e1]; exact hx0, by rw [hcs0]; rfl, layV vs0 (E.base id + off) us, ⟨lo, hi, by rw [hbe, e3, ← hb2]; exact hat, by rw [hlen]; exact hm, hm2⟩, hlen.trans hsz0, by rw [hcs0, hlen]; simp; omega, by rw [hcs0]; simpa using VRs.nil E w'⟩
      · rcases e4 with rfl | rfl
        · exact hok0.keep hdj hlater (hoth _ hbe)
        · exact (hok0.keep hdj hlater (hoth _ hbe)).dead
  · rcases hget i oi hoi with ⟨rfl, e1, e2, e3, e4, e5, _⟩ | ⟨hni, o1, ho1, e1, e2, e3, e4, e5⟩ <;> rcases hget j oj hoj with ⟨rfl, f1, f2, f3, f4, f5, _⟩ | ⟨hnj, o2, ho2, f1, f2, f3, f4, f5⟩
    · exact absurd rfl hne
    · obtain ⟨q1, q2⟩ := h.inj i j o o2 hdi hdj hne hbi ho ho2 hk2 he
      refine ⟨f1.trans q1, .inl ?_⟩
      rcases q2 with q2 | ⟨q2, q3, q4⟩
      · rcases f4 with rfl | rfl
        · exact q2
        · simp [Ob.dead, q1]
      · exact f5 q1 q2 q3
    · obtain ⟨q1, q2⟩ := h.inj i j o1 o hdi hdj hne hbi ho1 ho (by rw [← e1]; exact hki) he
      exact absurd q1 hk2
    · obtain ⟨q1, q2⟩ := h.inj i j o1 o2 hdi hdj hne hbi ho1 ho2 (by rw [← e1]; exact hki) he
      refine ⟨f1.trans q1, ?_⟩
      have hoi1 : oi = o1 := by
        rcases e4 with rfl | rfl
        · rfl
        · unfold Ob.dead
          rw [if_neg (by rw [← e1]; exact hki)]
      rcases f4 with rfl | rfl
      · rw [hoi1]; exact q2
      · left
        rw [show o2.dead = ⟨2, o2.r, o2.t, []⟩ by unfold Ob.dead; rw [if_pos q1]]
  · rcases hcase with ⟨hk, he⟩ | ⟨hk, he⟩ <;> (injection he with he1 he2; subst he1; subst he2)
    · have hgk : (hp.kill o.r).get id = some o := by
        rw [Hp.get_kill, ho]
        simp [Ob.dead, hk2]
      have := (mutOk_mmin hmu).1
      have hr : base ≤ o.r := this
      rw [Hp.get_put _ _ _ _ hgk, if_neg (by omega), Hp.get_kill, if_neg (by omega)]
    · rw [Hp.get_put _ _ _ _ ho, if_neg (by omega)]
end
end Go.Proofs.Ytoghpmeoekbcbaa
