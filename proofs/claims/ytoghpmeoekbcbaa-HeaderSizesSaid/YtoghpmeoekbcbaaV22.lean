/- Code over abstract data: operations in any order that the edges allow; the whole. No function of the program is named here. -/
import Derived.Test.YtoghpmeoekbcbaaV21
namespace Go.Proofs.Ytoghpmeoekbcbaa
open Go.RowKit

noncomputable section
section


variable {P : Program} {T : Tab} {call : CallF} {W0 : World} {base : Nat} {S0 : Nat → Prop} {N : Nat} {ops : Array Oper} {k : Nat} {rs : List Rec} {sl0 : Slots} {hp0 : Hp} {Q : Exit → Act → World → Prop} {E0 : Env} {w0 : World} {D : Nat → Prop} {E : Env} {a : Act} {w : World}
variable {ro : Option Nat} {dl : List Deferred} {fm : Fm}
theorem stepA (hT : TabOk P T) (hcall : CallOk P call) (hR : Reg P T call ops k rs sl0 hp0 base N) (h : InvA dl W0 base S0 N ops k rs sl0 hp0 E0 w0 D E a w) (hE0 : ∀ id, E0.D id → id < hp0.n) (hD : Closed ops.toList D) {q : Nat} {o : Oper} (ho : ops.toList[q]? = some o) (hDq : ¬ D q) (hw : Waits D o) :
    wpOpIn (Fr ro) 0 P ops Q q (Inv dl W0 base S0 N ops k rs sl0 hp0 E0 w0 T (fun j => D j ∨ j = q)) a w := by
  obtain ⟨r, hr, hst, hsl1, hhp1⟩ := can_at hR.can q o ho
  have hql := (List.getElem?_eq_some_iff.1 ho).1
  have hkl := hR.chk.le
  by_cases hqk : q < k
  · have hn0 := (hR.ext hcall q (by omega)).1
    have hn1 : (hpAt rs hp0 q).n ≤ (hpAt rs hp0 (q + 1)).n := hR.mono hcall (Nat.le_succ q) (by omega)
    have hlook : ∀ t d, t ∈ o.looksAt ops → look (slAt ops.toList rs sl0 q) t = some d → VR w (E.lim (hpAt rs hp0 q).n) d (a.tmps.getD t undef) := fun t d ht hd => h.sl t q (by omega) (look_pos hR.chk hD ho hDq hw ht) d hd
    have hmu0 : mutOk (hpAt rs hp0 q).n r.mu := by rw [hR.pre q r hqk hr]; trivial
    refine one_ok hT hcall ho hst (h.hs q (by omega)).pure hlook hmu0 fun E' v w' hs hv => .inl ⟨mrg E E' (hpAt rs hp0 q).n (hpAt rs hp0 (q + 1)).n, ?_⟩
    have hs2 : HS w (hpAt rs hp0 q).n E.S E' (hpAt rs hp0 (q + 1)) w' := by rw [hhp1]; exact hs.hs
    have hdom : ∀ id, E'.D id → (E.lim (hpAt rs hp0 q).n).D id ∨ ((hpAt rs hp0 q).n ≤ id ∧ id < (hpAt rs hp0 (q + 1)).n) := fun id hd => by
      rcases Nat.lt_or_ge id (hpAt rs hp0 q).n with hlt | hge
      · exact .inl (hs.dom id hlt hd)
      · exact .inr ⟨hge, hs2.dlt hd⟩
    have hno : ∀ id, E.D id → ¬ ((hpAt rs hp0 q).n ≤ id ∧ id < (hpAt rs hp0 (q + 1)).n) := fun id hd hh => by
      rcases h.ids id hd with h1 | ⟨j, j1, j2, j3, j4⟩
      · omega
      · have hjq : j ≠ q := fun e => hDq (e ▸ j2)
        rcases Nat.lt_or_ge j q with hlt | hge
        · have := hR.mono hcall (show j + 1 ≤ q by omega) (by omega)
          omega
        · have := hR.mono hcall (show q + 1 ≤ j by omega) (by omega)
          omega
    have hSS : ∀ x, E.S x → E'.S x := fun x hx => hs.later.S x hx
    have hcell : ∀ p : Addr, E.S p.block → w'.cell? p = w.cell? p := fun p hp => hs.later.cell p hp
    have hold : Later E w (mrg E E' (hpAt rs hp0 q).n (hpAt rs hp0 (q + 1)).n) w' := mrg_old hSS hcell hno hs.yb
    have hnew : Later E' w' (mrg E E' (hpAt rs hp0 q).n (hpAt rs hp0 (q + 1)).n) w' := mrg_new hs.later (fun id hd => ⟨hd.1, rfl, rfl, rfl, Iff.rfl⟩) hno hdom
    refine ⟨h.com.next hold (fun id hid hd => hd.elim (fun hh => hh) (fun hh => by omega)) hs.oth hs.yb _ _, fun j hj => hj.elim (h.lt j) (fun e => by omega), fun j hj => ?_, ?_, fun id hd => ?_⟩
    · have hHj := h.hs j hj
      by_cases hjq : j ≤ q
      · have hjn := hR.mono hcall hjq (by omega)
        refine hHj.move (fun id hd => ⟨hd.1.elim (fun hh => hh) (fun hh => by have := hd.2; omega), hd.2⟩) (hold.lim (Nat.le_refl _)) (hHj.bel.trans (hs.hs.bel.mono hHj.bel.size)) (fun id hd => ?_) (fun b hb => hs.hs.olds b hb) hs.hs.ro (fun _ _ => rfl) hHj.le (hHj.ys.keep (hold.lim (Nat.le_refl _)) hs.yb rfl (Nat.le_refl _) fun k hk => hs.hs.bel.block k (isO_lt hk))
        obtain ⟨ob, hob, hok⟩ := hHj.ob id hd
        exact hs.hs.bel.block _ hok.lt
      · have hjn := hR.mono hcall (show q + 1 ≤ j by omega) (by omega)
        have hsame := hR.same hcall (show q + 1 ≤ j by omega) hj
        obtain ⟨m1, m2, m3⟩ := HS.merge hHj (E1 := E.lim (hpAt rs hp0 q).n) (E' := E') (hpX := hpAt rs hp0 q) (hpY := hpAt rs hp0 (q + 1)) (a := (hpAt rs hp0 q).n) (b := (hpAt rs hp0 (q + 1)).n) (h.hs q (by omega)).pure hs2 hs.later
          (fun id hd => ⟨⟨hd.1, by have := hd.2; omega⟩, rfl, rfl, rfl, Iff.rfl⟩) rfl hdom (fun id hd => hno id hd.1) (fun id _ hb _ => hsame.2 id hb) (Nat.le_trans hR.le hn0) hs.yb
        have hcl : ∀ id, (mrg (E.lim (hpAt rs hp0 j).n) E' (hpAt rs hp0 q).n (hpAt rs hp0 (q + 1)).n).D id → ((mrg E E' (hpAt rs hp0 q).n (hpAt rs hp0 (q + 1)).n).lim (hpAt rs hp0 j).n).D id := fun id hd => by
          rcases hd with hd | hd
          · exact ⟨.inl hd.1, hd.2⟩
          · exact ⟨.inr hd, by omega⟩
        refine m1.move (E' := (mrg E E' (hpAt rs hp0 q).n (hpAt rs hp0 (q + 1)).n).lim (hpAt rs hp0 j).n) (fun id hd => ?_) ⟨fun _ h => h, fun id hd => ⟨?_, rfl, rfl, rfl, Iff.rfl⟩, fun _ _ => rfl, fun _ _ h => h⟩ m1.bel (fun _ _ => rfl) (fun b hb => .inl hb) m1.ro (fun _ _ => rfl) m1.le ⟨fun id R hR => (m1.ys.ok id R hR).keep ⟨fun _ h => h, fun id hd => ⟨hcl id hd, rfl, rfl, rfl, Iff.rfl⟩, fun _ _ => rfl, fun _ _ h => h⟩ (fun _ _ => rfl) fun b hb _ => hb, m1.ys.inj, m1.ys.lt⟩
        · rcases hd with ⟨hd | hd, hlt⟩
          · exact .inl ⟨hd, hlt⟩
          · exact .inr hd
        · exact hcl id hd
    · refine shown_put hR hD ho hr hDq h.sl (fun i hi => hold.lim (Nat.le_refl _)) (fun i hqi hi => hv.later ?_) h.com.size
      have hin := hR.mono hcall (show q + 1 ≤ i by omega) hi
      exact (Later.lim_id (n := (hpAt rs hp0 i).n) fun id hd => by have := hs2.dlt hd; omega).trans (hnew.lim (Nat.le_refl _))
    · rcases hd with hd | ⟨d1, d2, _⟩
      · exact (h.ids id hd).imp (fun hh => hh) fun ⟨j, j1, j2, j3⟩ => ⟨j, j1, .inl j2, j3⟩
      · exact .inr ⟨q, hqk, .inr rfl, d1, d2⟩
  · -- the first one behind
    have hpre : ∀ j o', j < k → ops.toList[j]? = some o' → dry T o'.op = false → D j := fun j o' hj ho' hd => by
      rcases hR.chk.pair q j o o' (by omega) ho ho' with hb | ⟨_, hb⟩
      · exact hb D hD hw
      · rcases hb with hb | hb | ⟨_, hb⟩
        · omega
        · omega
        · rw [hd] at hb; cases hb
    exact stepB hT hcall hR (h.toB hR hcall hpre hE0) hD ho hDq hw
theorem any_step (hT : TabOk P T) (hcall : CallOk P call) (hR : Reg P T call ops k rs sl0 hp0 base N) (hE0 : ∀ id, E0.D id → id < hp0.n) (h : Inv dl W0 base S0 N ops k rs sl0 hp0 E0 w0 T D a w) (hD : Closed ops.toList D) {q : Nat} {o : Oper} (ho : ops.toList[q]? = some o) (hDq : ¬ D q) (hw : Waits D o) :
    wpOpIn (Fr ro) 0 P ops Q q (Inv dl W0 base S0 N ops k rs sl0 hp0 E0 w0 T (fun j => D j ∨ j = q)) a w := by
  rcases h with ⟨E, h⟩ | ⟨E, i, h⟩
  · exact stepA hT hcall hR h hE0 hD ho hDq hw
  · exact stepB hT hcall hR h hD ho hDq hw
/-- when all have come -/
theorem Inv.done (hR : Reg P T call ops k rs sl0 hp0 base N) (hcall : CallOk P call) (hdf : DfrOk W0 fm.fl E0 w0 dl) (hro : RoOk fm E0 hp0 dl) (hE0 : ∀ id, E0.D id → id < hp0.n) (h : Inv dl W0 base S0 N ops k rs sl0 hp0 E0 w0 T D a w) (hall : ∀ j, j < ops.toList.length → D j) :
    ∃ E, Stp W0 base S0 E0 hp0 w0 E (hpAt rs hp0 ops.toList.length) w ∧ Sim fm W0 base S0 E N (slAt ops.toList rs sl0 ops.toList.length) (hpAt rs hp0 ops.toList.length) a w := by
  have hkl := hR.chk.le
  have key : ∀ E i, InvB dl W0 base S0 N ops k rs sl0 hp0 E0 w0 T D E i a w → ∃ E, Stp W0 base S0 E0 hp0 w0 E (hpAt rs hp0 ops.toList.length) w ∧ Sim fm W0 base S0 E N (slAt ops.toList rs sl0 ops.toList.length) (hpAt rs hp0 ops.toList.length) a w := by
    intro E i h
    have hi : i = ops.toList.length := by
      have h1 := h.len
      rcases Nat.lt_or_ge i ops.toList.length with hlt | hge
      · have := (h.tail i h.le).1 (hall i hlt)
        omega
      · omega
    subst hi
    have hx := (hR.ext hcall _ (Nat.le_refl _)).2
    refine ⟨E, ⟨h.com.later, h.hs, hx, h.com.dom, h.com.oth, h.com.yb⟩, h.hs, (by rw [h.com.defers]; exact hdf.step h.com.oth h.com.yb), (by rw [h.com.defers]; exact hro.step h.com.yb hx.ls), h.com.size, fun t d hd => h.sl t _ (Nat.le_refl _) (fun j o hj _ => ?_) d hd⟩
    have := (List.getElem?_eq_some_iff.1 hj).1
    exact ⟨fun _ => this, fun _ => hall j this⟩
  rcases h with ⟨E, h⟩ | ⟨E, i, h⟩
  · exact key _ _ (h.toB hR hcall (fun j o hj _ _ => hall j (by omega)) hE0)
  · exact key E i h
theorem any_body (hdf : DfrOk W0 fm.fl E0 w0 dl) (hro : RoOk fm E0 hp0 dl) (hT : TabOk P T) (hcall : CallOk P call) (hR : Reg P T call ops k rs sl0 hp0 base N) (hE0 : ∀ id, E0.D id → id < hp0.n)
    (hQ : ∀ E a w, Stp W0 base S0 E0 hp0 w0 E (hpAt rs hp0 ops.toList.length) w → Sim fm W0 base S0 E N (slAt ops.toList rs sl0 ops.toList.length) (hpAt rs hp0 ops.toList.length) a w → Q .normal a w) :
    ∀ (fuel : Nat) (listed : Array Bool) (a : Act) (w : World), listed.size = ops.size → Closed ops.toList (fun j => listed.getD j false = true) → (List.range ops.size).countP (fun j => !listed.getD j false) ≤ fuel →
      Inv dl W0 base S0 N ops k rs sl0 hp0 E0 w0 T (fun j => listed.getD j false = true) a w → wpAnyIn (Fr ro) 0 P .any ops Q fuel listed a w := by
  have hfin : ∀ (listed : Array Bool) (a : Act) (w : World), (∀ j, j < ops.size → listed.getD j false = true) → Inv dl W0 base S0 N ops k rs sl0 hp0 E0 w0 T (fun j => listed.getD j false = true) a w → Q .normal a w := by
    intro listed a w hall h
    obtain ⟨E, h1, h2⟩ := h.done (fm := fm) hR hcall hdf hro hE0 (fun j hj => hall j (by simpa using hj))
    exact hQ E a w h1 h2
  have hleast : ∀ (listed : Array Bool), listed.size = ops.size → Region.ready .any ops listed = [] → ∀ j, j < ops.size → listed.getD j false = true := by
    intro listed hl hr j
    induction j using Nat.strongRecOn with
    | _ j ih =>
      intro hj
      cases hq : listed.getD j false
      · exfalso
        obtain ⟨o, ho⟩ : ∃ o, ops.toList[j]? = some o := ⟨_, List.getElem?_eq_getElem (by simp; omega)⟩
        have : j ∈ Region.ready .any ops listed := by
          rw [mem_ready]
          have hlt : j < listed.size := by omega
          refine ⟨?_, o, by simpa using ho, fun e he hb => ?_⟩
          · rw [Array.getD_eq_getD_getElem?, Array.getElem?_eq_getElem hlt] at hq ⊢
            exact hq
          · have := hR.chk.back j o e ho (by simpa using he) hb
            exact ih e.on this (by omega)
        rw [hr] at this
        cases this
      · rfl
  intro fuel
  induction fuel with
  | zero =>
    intro listed a w hl hcl hf hinv
    have hall : ∀ j, j < ops.size → listed.getD j false = true := fun j hj => by
      cases hq : listed.getD j false
      · exfalso
        have : 0 < (List.range ops.size).countP (fun j => !listed.getD j false) := List.countP_pos_iff.2 ⟨j, by simpa using hj, by rw [hq]; rfl⟩
        omega
      · rfl
    refine ⟨?_, hfin listed a w hall hinv⟩
    rw [List.eq_nil_iff_forall_not_mem]
    intro j hj
    obtain ⟨h1, o, ho, _⟩ := mem_ready.1 hj
    have hlt := (Array.getElem?_eq_some_iff.1 ho).1
    have h2 := hall j hlt
    rw [Array.getD_eq_getD_getElem?, Array.getElem?_eq_getElem (show j < listed.size by omega)] at h1 h2
    simp at h1 h2
    rw [h1] at h2
    cases h2
  | succ fuel ih =>
    intro listed a w hl hcl hf hinv
    refine ⟨fun hr => hfin listed a w (hleast listed hl hr) hinv, fun i hi => ?_⟩
    obtain ⟨h1, o, ho, hwt⟩ := mem_ready.1 hi
    have hilt := (Array.getElem?_eq_some_iff.1 ho).1
    have ho' : ops.toList[i]? = some o := by simpa using ho
    have hDi : ¬ (listed.getD i false = true) := by
      rw [Array.getD_eq_getD_getElem?, Array.getElem?_eq_getElem (show i < listed.size by omega)] at h1 ⊢
      simp at h1 ⊢
      exact h1
    have hw : Waits (fun j => listed.getD j false = true) o := fun e he hb => hwt e (by simpa using he) hb
    have hset : ∀ j, ((listed.setIfInBounds i true).getD j false = true) ↔ (listed.getD j false = true ∨ j = i) := fun j => by
      by_cases e : i = j
      · subst e; rw [getD_set_self (by omega)]; simp
      · rw [getD_set_other e]
        exact ⟨.inl, fun h => h.resolve_right fun h => e h.symm⟩
    refine wpOpIn_mono (fun a' w' h' => ih (listed.setIfInBounds i true) a' w' (by simpa using hl) (fun i' o' e ho' hi' he hb => ?_) ?_ ?_) (any_step hT hcall hR hE0 hinv hcl ho' hDi hw)
    · have hi'' := (hset i').1 hi'
      refine (hset e.on).2 ?_
      rcases hi'' with hi'' | rfl
      · exact .inl (hcl i' o' e ho' hi'' he hb)
      · rename_i hoo
        rw [hoo] at ho'
        cases ho'
        exact .inl (hw e he hb)
    · have := countP_lt (fun j => !listed.getD j false) (fun j => !(listed.setIfInBounds i true).getD j false) (List.range ops.size) (fun j _ h => by
        cases hq : listed.getD j false
        · rfl
        · have := (hset j).2 (.inl hq)
          simp [this] at h) ⟨i, by simpa using hilt, by simpa using hDi, by simp [(hset i).2 (.inr rfl)]⟩
      omega
    · have e : (fun j => (listed.setIfInBounds i true).getD j false = true) = fun j => listed.getD j false = true ∨ j = i := funext fun j => propext (hset j)
      rw [e]
      exact h'
theorem slR_take (l : List Oper) (rs : List Rec) (sl : Slots) (h : l.length = rs.length) : slAt l rs sl l.length = slR l rs sl := by
  unfold slAt
  rw [List.take_length, h, List.take_length]
/-- a region that draws its order -/
theorem regA_ok (hT : TabOk P T) (hmix : P.follows .mixedOrders = true) (hcall : CallOk P call) {id : Nat} {k : Nat} (hc : anyChk T ops k = true) (hds : dstsOk N (ops.toList.map (·.dst)) = true) {sl : Slots} {hp : Hp} {e : Ex} {sl' : Slots} {hp' : Hp} {mu : Mut}
    (h : regA T call (ops.toList.map (·.dst)) ops.toList sl hp k = some (e, sl', hp', mu)) {E : Env} {a : Act} {w : World} (hs : Sim fm W0 base S0 E N sl hp a w) (hmu : mutOk base mu) (hQ : ∀ E' a' w', Stp W0 base S0 E hp w E' hp' w' → Sim fm W0 base S0 E' N sl' hp' a' w' → Q .normal a' w') :
    e = .normal ∧ (Code.region id ops true).wpIn (Fr ro) 0 P Q a w := by
  have hck := anyChk_ok hc
  unfold regA at h
  split at h
  · rename_i sl1 hp1 hpre
    unfold regN at h
    split at h
    · rename_i sl2 hp2 m2 hrest
      cases h
      refine ⟨rfl, ?_⟩
      obtain ⟨rs1, c1, c2, c3, c4⟩ := regP_can hpre
      subst c2
      subst c3
      obtain ⟨rs2, d1, d2, d3, d4⟩ := regE_can hrest
      obtain ⟨f1, f2, f3⟩ := can_append c1 d1
      rw [List.take_append_drop] at f1 f2
      have hlen := can_len f1
      have hl1 := can_len c1
      have hk1 : rs1.length = k := by rw [← hl1, List.length_take]; have := hck.le; omega
      have hR : Reg P T call ops k (rs1 ++ rs2) sl hp base N := by
        refine ⟨f1, fun j r hj hr => ?_, fun r hr => ?_, hck, hds, hs.hs.le⟩
        · rw [List.getElem?_append_left (by omega)] at hr
          exact c4 r (List.mem_of_getElem? hr)
        · rcases List.mem_append.1 hr with hr | hr
          · rw [c4 r hr]; trivial
          · exact d4 base hmu r hr
      have hE0 : ∀ id, E.D id → id < hp.n := fun id hd => hs.hs.dlt hd
      have hhp : hpAt (rs1 ++ rs2) hp ops.toList.length = hp' := by
        unfold hpAt
        rw [hlen, List.take_length, f3, d3]
      have hsl : slAt ops.toList (rs1 ++ rs2) sl ops.toList.length = sl' := by rw [slR_take _ _ _ hlen, f2, d2]
      obtain ⟨hdr, hldr⟩ := hs.hs.drew
      have hk0 := hck.le
      have hext := fun i (hi : i ≤ ops.toList.length) => hR.ext hcall i hi
      have hzero : hpAt (rs1 ++ rs2) hp 0 = hp := by simp [hpAt, hpR]
      refine wpIn_region_any hmix (any_body (ro := ro) (dl := a.defers) (fm := fm) (W0 := W0) (S0 := S0) (w0 := w) hs.dfr hs.ro hT hcall hR hE0 (fun E' a' w' h1 h2 => ?_) ops.size _ a _ (by simp) (fun i o e ho hi => ?_) ?_ (.inl ⟨E, ?_⟩))
      · rw [hhp] at h1 h2
        rw [hsl] at h2
        exact hQ E' a' w' h1 h2
      · have hi : (Array.replicate ops.size false).getD i false = true := hi
        rw [rep_false] at hi
        cases hi
      · refine Nat.le_trans List.countP_le_length ?_
        simp
      · refine ⟨⟨hldr, fun _ _ h => h, rfl, hs.size, ⟨Nat.le_refl _, fun _ _ h => h⟩, rfl⟩, fun j hj => ?_, fun j hj => ?_, fun t i hi hat d hd => ?_, fun id hd => .inl (hE0 id hd)⟩
        · rw [rep_false] at hj; cases hj
        · have hsame := hR.same hcall (Nat.zero_le j) hj
          rw [hzero] at hsame
          have hle := (hext j (by omega)).1
          refine hdr.move (fun _ h => h.1) (Later.lim_id fun id hd => by have := hE0 id hd; omega) hdr.bel (fun _ _ => rfl) (fun _ h => .inl h) hdr.ro (fun id hd => hsame.2 id (hE0 id hd)) (by have := hs.hs.le; omega) (hdr.ys.keep' (Later.lim_id fun id hd => by have := hE0 id hd; omega) rfl (fun i => ?_) hsame.1 fun _ _ => rfl)
          have h9 := hsame.3 i
          cases h8 : lfind i hp.ls with
          | none =>
            rw [h8] at h9
            cases h7 : lfind i (hpAt (rs1 ++ rs2) hp j).ls with
            | none => rfl
            | some R => rw [h7] at h9; cases h9
          | some R0 => exact (hsame.4 i (hs.hs.ys.lsub h8)).trans h8
        · -- nobody has written yet
          have hno : ∀ (j : Nat) o, j < i → ops.toList[j]? = some o → o.dst ≠ some t := fun j o hj ho hdj => by
            have h9 : (Array.replicate ops.size false).getD j false = true := (hat j o ho hdj).2 hj
            rw [rep_false] at h9
            cases h9
          have key : ∀ m, m ≤ i → ∀ d, look (slAt ops.toList (rs1 ++ rs2) sl m) t = some d → look sl t = some d := by
            intro m
            induction m with
            | zero => intro _ d hd; simpa [slAt, slR] using hd
            | succ m ihm =>
              intro hm d hd
              have hml : m < ops.toList.length := by omega
              obtain ⟨r', hr', _, he, _⟩ := can_at f1 m _ (List.getElem?_eq_getElem hml)
              rw [he] at hd
              refine ihm (by omega) d ?_
              cases hdd : (ops.toList[m]).dst with
              | none => rw [hdd] at hd; exact hd
              | some s =>
                rw [hdd] at hd
                simp only [putO] at hd
                rcases look_put hd with ⟨rfl, _⟩ | ⟨_, hd⟩
                · exact absurd hdd (hno m _ (by omega) (List.getElem?_eq_getElem hml))
                · exact hd
          have hle := (hext i hi).1
          exact ((hs.sl t d (key i (Nat.le_refl _) d hd)).later hldr).later (Later.lim_id fun id hd => by have := hE0 id hd; omega)
    · cases h
  · cases h

end
end
end Go.Proofs.Ytoghpmeoekbcbaa
