/- Steps of the heap of objects: rows that grow. No function of the program is named here. -/
import Derived.Test.YtoghpmeoekbcbaaV7
namespace Go.Proofs.Ytoghpmeoekbcbaa
open Go.RowKit

section
variable {P : Program} {W0 : World} {base : Nat} {S0 : Nat → Prop} {E : Env} {hp : Hp} {w : World}
theorem rootOf_le (k r id : Nat) : rootOf k r id ≤ id ∧ (k = 3 → rootOf k r id ≤ r) := by
  by_cases hk : k = 3
  · subst hk
    by_cases h : r ≤ id
    · have : rootOf 3 r id = r := by simp [rootOf, bleT h]
      rw [this]
      exact ⟨h, fun _ => Nat.le_refl _⟩
    · have : rootOf 3 r id = id := by simp [rootOf, bleF h]
      rw [this]
      exact ⟨Nat.le_refl _, fun _ => by omega⟩
  · have : rootOf k r id = id := by
      unfold rootOf
      split
      · exact absurd rfl hk
      · rfl
    rw [this]
    exact ⟨Nat.le_refl _, fun h => absurd h hk⟩
/-- an object is to be read alone from now on -/
theorem stp_stale (h : HS W0 base S0 E hp w) {id : Nat} (hd : E.D id) {o : Ob} (ho : hp.get id = some o) (hk0 : o.k ≠ 0) (hk2 : o.k ≠ 2) (hb : base ≤ id) : Stp W0 base S0 E hp w E (hp.put id ⟨2, o.r, o.t, o.cs⟩) w := by
  have hget : ∀ j, (hp.put id ⟨2, o.r, o.t, o.cs⟩).get j = if j = id then some ⟨2, o.r, o.t, o.cs⟩ else hp.get j := fun j => Hp.get_put _ _ _ _ ho
  refine ⟨Later.refl _ _, ⟨h.bel, fun j hj => ?_, h.own, h.old, fun i j oi oj hdi hdj hne hbi hoi hoj hki he => ?_, h.ro, h.olds, h.le, h.ys.keep (Later.refl _ _) rfl rfl (Nat.le_refl _) fun _ _ => rfl⟩, ⟨Nat.le_refl _, fun j hj => ?_, fun _ => rfl, fun _ _ => rfl⟩, fun _ _ h => h, Oth.refl _, rfl⟩
  · obtain ⟨oj, hoj, hok⟩ := h.ob j hj
    rw [hget]
    by_cases e : j = id
    · subst e
      rw [ho] at hoj
      cases hoj
      obtain ⟨hx, rest⟩ := hok
      exact ⟨_, if_pos rfl, ⟨fun h => absurd h (by simp), fun h => absurd (hx.2 h) hk0⟩, rest⟩
    · exact ⟨oj, by rw [if_neg e]; exact hoj, hok⟩
  · rw [hget] at hoi hoj
    by_cases ei : i = id
    · rw [if_pos ei] at hoi
      cases hoi
      exact absurd rfl hki
    · rw [if_neg ei] at hoi
      by_cases ej : j = id
      · subst ej
        obtain ⟨q1, _⟩ := h.inj i j oi o hdi hdj hne hbi hoi ho hki he
        exact absurd q1 hk2
      · rw [if_neg ej] at hoj
        exact h.inj i j oi oj hdi hdj hne hbi hoi hoj hki he
  · rw [hget, if_neg (by omega)]
/-- a row grows in its own block -/
theorem stp_slide (h : HS W0 base S0 E hp w) {id : Nat} (hd : E.D id) {o : Ob} (ho : hp.get id = some o) (hk0 : o.k ≠ 0) (hk2 : o.k ≠ 2) {off : Nat} (hoff : off ≤ o.cs.length) {cs : List DV} {us : List Value} (hu : VRs E w cs us) (hsc : scals cs = true)
    (hroom : E.base id + (o.cs.length + cs.length) ≤ E.sz id) (hmu : mutOk base (mmin (some (rootOf o.k o.r id)) (some id))) :
    ∃ w', (storeCells ⟨E.b id, E.base id + o.cs.length, none⟩ us).run P w = .ok () w' ∧
      Stp W0 base S0 E hp w (E.add hp.n (E.b id) (E.base id + off) (E.sz id) False) ((hp.put id ⟨2, o.r, o.t, o.cs⟩).push ⟨3, rootOf o.k o.r id, o.t, o.cs.drop off ++ cs⟩) w' := by
  obtain ⟨hmr, hbid⟩ := mutOk_mmin hmu
  have hmr : base ≤ rootOf o.k o.r id := hmr
  have hbid : base ≤ id := hbid
  obtain ⟨hrl, hrr⟩ := rootOf_le o.k o.r id
  obtain ⟨o', ho', hx, hsc0, vs, ⟨lo, hi, hb, hm, hm2⟩, hsz, hbl, hvs⟩ := h.ob id hd
  have h1 := scals_one hu hsc
  rw [ho] at ho'
  cases ho'
  obtain ⟨hW, hS⟩ := h.own id hd hbid
  have hul : us.length = cs.length := hu.1.symm
  have hrun := run_storeCells_bx P (E.b id) (E.base id + o.cs.length) o.t lo hi us 0 vs.toArray w hb (by simpa using hm) (by simp; omega) h1
  simp only [Nat.add_zero] at hrun
  refine ⟨_, hrun, ?_⟩
  have hnew : (vs.toArray.toList.take (E.base id + o.cs.length) ++ us ++ vs.toArray.toList.drop (E.base id + o.cs.length + us.length)) = layV vs (E.base id + o.cs.length) us := by simp [layV]
  rw [hnew]
  generalize hwq : w.setRow (E.b id) (layV vs (E.base id + o.cs.length) us).toArray = w'
  have hoth : ∀ k, k ≠ E.b id → w'.heap[k]? = w.heap[k]? := fun k hk => by rw [← hwq]; exact setRow_other w _ _ _ hk
  have hat : w'.heap[E.b id]? = some (.cells (layV vs (E.base id + o.cs.length) us).toArray o.t (lo, hi)) := by rw [← hwq]; exact setRow_heap w _ _ _ _ _ hb
  have hcell : ∀ p : Addr, E.S p.block → w'.cell? p = w.cell? p := fun p hp => World.cell?_of_block (hoth _ (fun e => hS (e ▸ hp)))
  have hsize : w'.heap.size = w.heap.size := by rw [← hwq]; simp
  have hlen : (layV vs (E.base id + o.cs.length) us).length = vs.length := layV_length (by omega)
  have hlater0 : Later E w E w' := ⟨fun _ h => h, fun _ h => ⟨h, rfl, rfl, rfl, Iff.rfl⟩, hcell, fun _ _ h => h⟩
  have hlater := Env.later_add (w' := w') E w hp.n (E.b id) (E.base id + off) (E.sz id) False h.fresh hcell
  obtain ⟨a1, a2, a3, a4, a5⟩ := Env.add_at E hp.n (E.b id) (E.base id + off) (E.sz id) False
  have hidn : id ≠ hp.n := fun e => h.fresh (e ▸ hd)
  have hcase : ∀ i, (E.add hp.n (E.b id) (E.base id + off) (E.sz id) False).D i → i = hp.n ∨ (i ≠ hp.n ∧ E.D i) := fun i hd => by
    by_cases e : i = hp.n
    · exact .inl e
    · exact .inr ⟨e, hd.resolve_right e⟩
  have hget : ∀ j, ((hp.put id ⟨2, o.r, o.t, o.cs⟩).push ⟨3, rootOf o.k o.r id, o.t, o.cs.drop off ++ cs⟩).get j = if j = hp.n then some ⟨3, rootOf o.k o.r id, o.t, o.cs.drop off ++ cs⟩ else if j = id then some ⟨2, o.r, o.t, o.cs⟩ else hp.get j := fun j => by
    rw [Hp.get_push, Hp.get_put _ _ _ _ ho]
    rfl
  -- what shows at the old places of the block
  have hshow : VRs (E.add hp.n (E.b id) (E.base id + off) (E.sz id) False) w' (o.cs ++ cs) (((layV vs (E.base id + o.cs.length) us).drop (E.base id)).take (o.cs.length + cs.length)) := by
    rw [layV_drop (by omega) (by omega), show E.base id + o.cs.length - E.base id = o.cs.length by omega, layV_take (by omega) (by simp; omega)]
    have e1 : layV ((vs.drop (E.base id)).take (o.cs.length + cs.length)) o.cs.length us = (vs.drop (E.base id)).take o.cs.length ++ us := by
      unfold layV
      have h3 : ((vs.drop (E.base id)).take (o.cs.length + cs.length)).drop (o.cs.length + us.length) = [] := List.drop_eq_nil_of_le (by simp; omega)
      rw [List.take_take, Nat.min_eq_left (by omega), h3, List.append_nil]
    rw [e1]
    exact (hvs.append hu).later hlater
  refine ⟨hlater, ⟨?_, fun j hdj => ?_, fun i hdi hbi => ?_, fun i hdi hbi => ?_, fun i j oi oj hdi hdj hne hbi hoi hoj hki he => ?_, fun b hb => by rw [hsize]; exact h.ro b hb, h.olds, by simp [Hp.push, Hp.put]; have := h.le; omega, h.ys.keep hlater rfl rfl (by simp [Hp.push, Hp.put]) fun k hk => hoth k (isO_ne hk hb)⟩, ⟨by simp [Hp.push, Hp.put], fun j hj => ?_, fun _ => rfl, fun _ _ => rfl⟩, fun i hi hd => hd.resolve_right (by omega), ⟨by rw [hsize]; exact Nat.le_refl _, fun k x hk => (hoth k (isO_ne (.inr ⟨x, hk⟩) hb)).trans hk⟩, rfl⟩
  · refine h.bel.trans ⟨?_, ?_, ?_, by rw [hsize]; exact Nat.le_refl _, fun k hk => hoth k (by omega)⟩ <;> (rw [← hwq]; rfl)
  · rw [hget]
    rcases hcase j hdj with rfl | ⟨hnj, hdj⟩
    · refine ⟨_, if_pos rfl, ⟨fun h => absurd h (by simp), fun h => (a5.1 h).elim⟩, by
        show scals (o.cs.drop off ++ cs) = true
        rw [scals_append, hsc, scals_sub hsc0 (fun d hd => List.mem_of_mem_drop hd)]
        rfl, layV vs (E.base id + o.cs.length) us, ⟨lo, hi, by rw [a2]; exact hat, by rw [hlen]; exact hm, hm2⟩, by rw [a4, hlen]; exact hsz, by rw [a3, hlen]; simp; omega, ?_⟩
      rw [a3]
      have := hshow.drop off
      rw [List.drop_append_of_le_length hoff] at this
      have e2 : (((layV vs (E.base id + o.cs.length) us).drop (E.base id)).take (o.cs.length + cs.length)).drop off = ((layV vs (E.base id + o.cs.length) us).drop (E.base id + off)).take (o.cs.drop off ++ cs).length := by
        rw [List.drop_take, List.drop_drop]
        congr 1
        simp
        omega
      rw [← e2]
      exact this
    · rw [if_neg hnj]
      obtain ⟨n1, n2, n3, n4, n5⟩ := Env.add_other E (E.b id) (E.base id + off) (E.sz id) False hnj
      by_cases ej : j = id
      · subst ej
        refine ⟨_, if_pos rfl, ⟨fun h => absurd h (by simp), fun h => absurd (hx.2 (n4.1 h)) hk0⟩, hsc0, layV vs (E.base j + o.cs.length) us, ⟨lo, hi, by rw [n1]; exact hat, by rw [hlen]; exact hm, hm2⟩, by rw [n3, hlen]; exact hsz, by rw [n2, hlen]; exact hbl, ?_⟩
        rw [n2]
        have := hshow.take o.cs.length
        rw [List.take_left, List.take_take, Nat.min_eq_left (by omega)] at this
        exact this
      · rw [if_neg ej]
        obtain ⟨oj, hoj, hokj⟩ := h.ob j hdj
        refine ⟨oj, hoj, ?_⟩
        by_cases hbe : E.b j = E.b id
        · obtain ⟨q1, q2⟩ := h.inj id j o oj hd hdj (fun e => ej e.symm) hbid ho hoj hk2 hbe.symm
          obtain ⟨hxj, hscj, vsj, ⟨loj, hij, hbj, hmj⟩, hszj, hblj, hvsj⟩ := hokj
          rw [hbe, hb] at hbj
          injection hbj with hbj
          injection hbj with hb1 hb2 hb3
          have hvv : vsj = vs := by
            have := congrArg Array.toList hb1
            simpa using this.symm
          subst hvv
          refine ⟨hxj.trans n4.symm, hscj, layV vsj (E.base id + o.cs.length) us, ⟨lo, hi, by rw [n1, hbe, ← hb2]; exact hat, by rw [hlen]; exact hm, hm2⟩, by rw [n3, hlen]; exact hszj, by rw [n2, hlen]; exact hblj, ?_⟩
          rw [n2]
          rcases q2 with q2 | ⟨q2, q3, q4⟩
          · rw [q2]; simpa using VRs.nil _ w'
          · have e3 : ((layV vsj (E.base id + o.cs.length) us).drop (E.base j)).take oj.cs.length = (vsj.drop (E.base j)).take oj.cs.length := by
              have e4 := layV_before (old := vsj) (off := E.base id + o.cs.length) (cs := us) (k := E.base j + oj.cs.length) q4 (by omega)
              have e5 := congrArg (List.drop (E.base j)) e4
              rw [List.drop_take, List.drop_take, show E.base j + oj.cs.length - E.base j = oj.cs.length by omega] at e5
              exact e5
            rw [e3]
            exact hvsj.later hlater
        · exact hokj.keep hdj hlater (hoth _ hbe)
  · rcases hcase i hdi with rfl | ⟨hni, hdi⟩
    · rw [a2]
      exact ⟨hW, hS⟩
    · rw [(Env.add_other E _ _ _ _ hni).1]
      exact h.own i hdi hbi
  · rcases hcase i hdi with rfl | ⟨hni, hdi⟩
    · have := h.le
      omega
    · rw [(Env.add_other E _ _ _ _ hni).1]
      exact h.old i hdi hbi
  · rw [hget] at hoi hoj
    rcases hcase i hdi with rfl | ⟨hni, hdi2⟩ <;> rcases hcase j hdj with rfl | ⟨hnj, hdj2⟩
    · exact absurd rfl hne
    · rw [if_pos rfl] at hoi
      cases hoi
      obtain ⟨n1, n2, n3, n4, n5⟩ := Env.add_other E (E.b id) (E.base id + off) (E.sz id) False hnj
      rw [if_neg hnj] at hoj
      rw [a2, n1] at he
      rw [a3, n2]
      by_cases ej : j = id
      · subst ej
        rw [if_pos rfl] at hoj
        cases hoj
        exact ⟨rfl, .inr ⟨rfl, hrl, by simp; omega⟩⟩
      · rw [if_neg ej] at hoj
        obtain ⟨q1, q2⟩ := h.inj id j o oj hd hdj2 (fun e => ej e.symm) hbid ho hoj hk2 he
        refine ⟨q1, q2.imp_right fun ⟨q2, q3, q4⟩ => ⟨rfl, ?_, ?_⟩⟩
        · show rootOf o.k o.r id ≤ j
          have := hrr q2
          omega
        · simp
          omega
    · obtain ⟨n1, n2, n3, n4, n5⟩ := Env.add_other E (E.b id) (E.base id + off) (E.sz id) False hni
      rw [if_neg hni] at hoi
      rw [n1, a2] at he
      by_cases ei : i = id
      · rw [if_pos ei] at hoi
        cases hoi
        exact absurd rfl hki
      · rw [if_neg ei] at hoi
        obtain ⟨q1, _⟩ := h.inj i id oi o hdi2 hd ei hbi hoi ho hki he
        exact absurd q1 hk2
    · obtain ⟨n1, n2, _⟩ := Env.add_other E (E.b id) (E.base id + off) (E.sz id) False hni
      obtain ⟨m1, m2, _⟩ := Env.add_other E (E.b id) (E.base id + off) (E.sz id) False hnj
      rw [if_neg hni] at hoi
      rw [if_neg hnj] at hoj
      rw [n1, m1] at he
      rw [n2, m2]
      by_cases ei : i = id
      · rw [if_pos ei] at hoi
        cases hoi
        exact absurd rfl hki
      · rw [if_neg ei] at hoi
        by_cases ej : j = id
        · subst ej
          obtain ⟨q1, _⟩ := h.inj i j oi o hdi2 hdj2 hne hbi hoi ho hki he
          exact absurd q1 hk2
        · rw [if_neg ej] at hoj
          exact h.inj i j oi oj hdi2 hdj2 hne hbi hoi hoj hki he
  · have := h.le
    rw [hget, if_neg (by omega), if_neg (by omega)]
/-! ### A block is marked as one that a string was turned into -/
theorem freeze_at {w : World} {b n lo hi : Nat} {c : Array Value} {t : TypeId} (h : w.heap[b]? = some (.cells c t (lo, hi))) : (w.freeze ⟨b, n, none⟩ 1).heap[b]? = some (.cells c t (if lo == hi then (n, n + 1) else (min lo n, max hi (n + 1)))) := by
  unfold World.freeze
  rw [if_neg (by decide)]
  simp only [Array.getElem?_modify, h, if_pos, Option.map_some]
theorem freeze_other {w : World} {b n k : Nat} (h : k ≠ b) : (w.freeze ⟨b, n, none⟩ 1).heap[k]? = w.heap[k]? := by
  unfold World.freeze
  rw [if_neg (by decide)]
  simp only [Array.getElem?_modify, if_neg (Ne.symm h)]
theorem stp_mark (h : HS W0 base S0 E hp w) {id : Nat} (hd : E.D id) (hb : base ≤ id) (P : Program) (off : Nat) : ∃ w', (markStringish ⟨E.b id, off, none⟩).run P w = .ok () w' ∧ Stp W0 base S0 E hp w E hp w' := by
  obtain ⟨o, ho, hx, hsc, vs, ⟨lo, hi, hat, hm, hm2⟩, hsz, hbl, hvs⟩ := h.ob id hd
  refine ⟨w.freeze ⟨E.b id, vs.length, none⟩ 1, ?_, ?_⟩
  · have hsh : w.shape? (E.b id) = some (o.t, vs.length) := by simp only [World.shape?, hat]; simp
    simp [markStringish, shape, Sem.run, hsh, freeze]
  generalize hw' : w.freeze ⟨E.b id, vs.length, none⟩ 1 = w'
  have hnew : w'.heap[E.b id]? = some (.cells vs.toArray o.t (if lo == hi then (vs.length, vs.length + 1) else (min lo vs.length, max hi (vs.length + 1)))) := by rw [← hw']; exact freeze_at hat
  have hoth : ∀ k, k ≠ E.b id → w'.heap[k]? = w.heap[k]? := fun k hk => by rw [← hw']; exact freeze_other hk
  have hsize : w'.heap.size = w.heap.size := by
    rw [← hw']
    unfold World.freeze
    rw [if_neg (by decide)]
    simp
  obtain ⟨hW, hS⟩ := h.own id hd hb
  have hcell : ∀ p : Addr, w'.cell? p = w.cell? p := fun p => by
    by_cases hp : p.block = E.b id
    · simp only [World.cell?, hp, hat, hnew]
    · exact World.cell?_of_block (hoth _ hp)
  have hlater : Later E w E w' := ⟨fun _ h => h, fun _ h => ⟨h, rfl, rfl, rfl, Iff.rfl⟩, fun p _ => hcell p, fun _ _ h => h⟩
  have hbx : ∀ {g : Nat} {t : TypeId} {us : List Value}, Bx w g t us → Bx w' g t us := fun {g t us} hg => by
    by_cases e : g = E.b id
    · subst e
      obtain ⟨lo1, hi1, h1, h2, h3⟩ := hg
      rw [hat] at h1
      injection h1 with h1
      injection h1 with h4 h5 h6
      have hu : us = vs := by
        have := congrArg Array.toList h4
        simpa using this.symm
      subst hu
      subst h5
      cases h6
      by_cases hlh : (lo == hi) = true
      · rw [if_pos hlh] at hnew
        exact ⟨_, _, hnew, .inr (Nat.le_refl _), fun hz => absurd hz (by omega)⟩
      · rw [if_neg hlh] at hnew
        have : us.length ≤ lo := by
          rcases hm with hm | hm
          · exact absurd (by rw [hm, hm2 hm]; rfl) hlh
          · exact hm
        exact ⟨_, _, hnew, .inr (by omega), fun hz => absurd hz (by omega)⟩
    · exact hg.keep (hoth _ e)
  refine ⟨hlater, ⟨?_, fun j hj => ?_, h.own, h.old, h.inj, fun b hb => by rw [hsize]; exact h.ro b hb, h.olds, h.le, h.ys.keep hlater rfl rfl (Nat.le_refl _) fun k hk => hoth k (isO_ne hk hat)⟩, Ext.refl _ _, fun _ _ h => h, ⟨by rw [hsize]; exact Nat.le_refl _, fun k x hk => (hoth k (isO_ne (.inr ⟨x, hk⟩) hat)).trans hk⟩, rfl⟩
  · refine h.bel.trans ⟨?_, ?_, ?_, by rw [hsize]; exact Nat.le_refl _, fun k hk => hoth k (by omega)⟩ <;> (rw [← hw']; unfold World.freeze; rw [if_neg (by decide)])
  · obtain ⟨oj, hoj, k0, k1, vsj, k2, k3, k4, k5⟩ := h.ob j hj
    exact ⟨oj, hoj, k0, k1, vsj, hbx k2, k3, k4, k5.later hlater⟩
end
end Go.Proofs.Ytoghpmeoekbcbaa
