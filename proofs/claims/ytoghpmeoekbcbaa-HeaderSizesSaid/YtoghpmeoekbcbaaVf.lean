/- Code over abstract data: regions whose operations come in the text's order, but for those that look at slots or at objects that nobody writes. No function of the program is named here. -/
import Derived.Test.YtoghpmeoekbcbaaV22
namespace Go.Proofs.Ytoghpmeoekbcbaa
open Go.RowKit

noncomputable section
section
variable {P : Program} {T : Tab} {call : CallF} {W0 : World} {base : Nat} {S0 : Nat → Prop} {N : Nat} {ops : Array Oper} {rs : List Rec} {sl0 : Slots} {hp0 : Hp} {Q : Exit → Act → World → Prop} {E0 : Env} {w0 : World} {D : Nat → Prop} {E : Env} {a : Act} {w : World}
variable {ro : Option Nat} {dl : List Deferred} {fm : Fm} {ds : List (Option Tmp)}
theorem lmOk1_ok {id : Nat} : ∀ {ms : List (Nat × Bool)}, lmOk1 id ms = true → ∀ m ex, (m, ex) ∈ ms → (ex = true ∧ id ≠ m) ∨ id < m
  | [], _, m, ex, h => by cases h
  | (m0, true) :: l, h, m, ex, hm => by
    simp only [lmOk1] at h
    split at h
    · cases h
    · rename_i hb
      rcases List.mem_cons.1 hm with e | hm
      · cases e
        exact .inl ⟨rfl, fun e => by rw [beqT e.symm] at hb; cases hb⟩
      · exact lmOk1_ok h m ex hm
  | (m0, false) :: l, h, m, ex, hm => by
    simp only [lmOk1] at h
    split at h
    · rename_i hb
      rcases List.mem_cons.1 hm with e | hm
      · cases e
        refine .inr ?_
        have : id + 1 ≤ _ := Nat.le_of_ble_eq_true hb
        omega
      · exact lmOk1_ok h m ex hm
    · cases h
theorem lmOk_ok {ms : List (Nat × Bool)} : ∀ {lds : List Nat}, lmOk ms lds = true → ∀ id ∈ lds, lmOk1 id ms = true
  | [], _, id, h => by cases h
  | i :: l, h, id, hm => by
    simp only [lmOk] at h
    split at h
    · rename_i hb
      rcases List.mem_cons.1 hm with rfl | hm
      · exact hb
      · exact lmOk_ok h id hm
    · cases h
theorem regF_can : ∀ {l : List Oper} {sl : Slots} {hp : Hp} {lds : List Nat} {ms : List (Nat × Bool)} {lo : Mut} {sl' : Slots} {hp' : Hp} {mu : Mut}, regF T call ds l sl hp lds ms lo = some (sl', hp', mu) →
    ∃ rs LD MS, Can T call ds l rs sl hp ∧ slR l rs sl = sl' ∧ hpR rs hp = hp' ∧ (∀ b, mutOk b mu → mutOk b lo ∧ ∀ r ∈ rs, mutOk b r.mu) ∧ lmOk MS LD = true ∧ (∀ x ∈ lds, x ∈ LD) ∧ (∀ x ∈ ms, x ∈ MS) ∧
      (∀ (j : Nat) o t x id off, l[j]? = some o → gate ds (slAt l rs sl j) o.guard = some true → o.op = .load t x → ev (slAt l rs sl j) x = some (.ptr id off) → id ∈ LD) ∧
      ∀ (j : Nat) o r m, l[j]? = some o → rs[j]? = some r → r.mu = some m → ∃ ex, (m, ex) ∈ MS ∧ (ex = true → stEx (slAt l rs sl j) (hpAt rs hp j) o.op = true)
  | [], sl, hp, lds, ms, lo, sl', hp', mu, h => by
    have h : (match lmOk ms lds with | true => some (sl, hp, lo) | false => none) = some (sl', hp', mu) := h
    split at h
    · rename_i ht
      cases h
      exact ⟨[], lds, ms, trivial, rfl, rfl, fun b hb => ⟨hb, fun r hr => by cases hr⟩, ht, fun x hx => hx, fun x hx => hx, fun j o t x id off hj => by simp at hj, fun j o r m hj => by simp at hj⟩
    · cases h
  | o :: l, sl, hp, lds, ms, lo, sl', hp', mu, h => by
    rw [regF_cons] at h
    unfold gateX at h
    split at h
    · rename_i hg
      unfold regF1 at h
      split at h
      · rename_i d hp1 m1 hop
        obtain ⟨rs, LD, MS, h1, h2, h3, h4, h5, h6, h7, h8, h9⟩ := regF_can h
        refine ⟨⟨d, hp1, m1⟩ :: rs, LD, MS, ⟨.inl ⟨hg, hop⟩, h1⟩, h2, h3, fun b hb => ?_, h5, fun x hx => h6 x ?_, fun x hx => h7 x ?_, fun j oj t x id off hj hgj hoj hev => ?_, fun j oj r m hj hr hm => ?_⟩
        · obtain ⟨q1, q2⟩ := h4 b hb
          obtain ⟨q3, q4⟩ := mutOk_mmin q1
          exact ⟨q3, fun r hr => by rcases List.mem_cons.1 hr with rfl | hr; exact q4; exact q2 r hr⟩
        · unfold ldAdd
          split
          · exact List.mem_cons_of_mem _ hx
          · exact hx
        · unfold muAdd
          split
          · exact hx
          · exact List.mem_cons_of_mem _ hx
        · cases j with
          | zero =>
            have e0 : slAt (o :: l) (⟨d, hp1, m1⟩ :: rs) sl 0 = sl := rfl
            rw [e0] at hgj hev
            simp only [List.getElem?_cons_zero, Option.some.injEq] at hj
            subst hj
            refine h6 id ?_
            have e : ldOf sl o.op = some id := by rw [hoj]; simp only [ldOf, hev]
            rw [e]
            exact List.mem_cons_self ..
          | succ j => exact h8 j oj t x id off (by simpa using hj) hgj hoj hev
        · cases j with
          | zero =>
            simp only [List.getElem?_cons_zero, Option.some.injEq] at hj hr
            subst hj
            subst hr
            have hm : m1 = some m := hm
            subst hm
            exact ⟨stEx sl hp o.op, h7 _ (List.mem_cons_self ..), fun h => h⟩
          | succ j => exact h9 j oj r m (by simpa using hj) (by simpa using hr) hm
      · cases h
    · rename_i hg
      obtain ⟨rs, LD, MS, h1, h2, h3, h4, h5, h6, h7, h8, h9⟩ := regF_can h
      refine ⟨⟨.tuple [], hp, none⟩ :: rs, LD, MS, ⟨.inr ⟨hg, rfl⟩, h1⟩, h2, h3, fun b hb => ?_, h5, h6, h7, fun j oj t x id off hj hgj hoj hev => ?_, fun j oj r m hj hr hm => ?_⟩
      · obtain ⟨q1, q2⟩ := h4 b hb
        exact ⟨q1, fun r hr => by rcases List.mem_cons.1 hr with rfl | hr; trivial; exact q2 r hr⟩
      · cases j with
        | zero =>
          have e0 : slAt (o :: l) (⟨.tuple [], hp, none⟩ :: rs) sl 0 = sl := rfl
          rw [e0] at hgj
          simp only [List.getElem?_cons_zero, Option.some.injEq] at hj
          subst hj
          rw [hg] at hgj
          cases hgj
        | succ j => exact h8 j oj t x id off (by simpa using hj) hgj hoj hev
      · cases j with
        | zero =>
          simp only [List.getElem?_cons_zero, Option.some.injEq] at hr
          subst hr
          cases hm
        | succ j => exact h9 j oj r m (by simpa using hj) (by simpa using hr) hm
    · cases h
/-- such a store changes one object alone -/
theorem stEx_ok {o : Oper} {sl : Slots} {hp : Hp} {r : Rec} (hx : stEx sl hp o.op = true) (h : StepC T call ds o sl hp r) {m : Nat} (hm : r.mu = some m) {id : Nat} (hid : id ≠ m) : r.hp.get id = hp.get id := by
  rcases h with ⟨_, h⟩ | ⟨_, rfl⟩
  · cases hop : o.op with
    | store t x y =>
      unfold opE at h
      rw [hop] at h hx
      simp only [aop] at h
      simp only [stEx] at hx
      unfold opStore at h
      cases ht : T t with
      | none => rw [ht] at h; cases h
      | some ti =>
        rw [ht] at h
        cases hxx : ev sl x with
        | none => rw [hxx] at h; cases h
        | some d =>
          rw [hxx] at h hx
          cases d with
          | ptr i off =>
            simp only at h hx
            cases hy : ev sl y with
            | none => rw [hy] at h; cases h
            | some e =>
              rw [hy] at h
              simp only at h
              cases hc : cellsD e with
              | none => rw [hc] at h; cases h
              | some cs =>
                rw [hc] at h
                simp only at h
                cases hst : storeH hp i off cs with
                | none => rw [hst] at h; cases hbb : Nat.beq cs.length ti.size <;> rw [hbb] at h <;> cases h
                | some q =>
                  obtain ⟨hp', mm⟩ := q
                  rw [hst] at h
                  cases hbb : Nat.beq cs.length ti.size with
                  | false => rw [hbb] at h; cases h
                  | true =>
                    rw [hbb] at h
                    simp only [Option.some.injEq, Prod.mk.injEq] at h
                    obtain ⟨_, e1, e2⟩ := h
                    rw [← e1]
                    rw [← e2] at hm
                    unfold storeH at hst
                    cases hg : hp.get i with
                    | none => rw [hg] at hst; cases hst
                    | some ob =>
                      rw [hg] at hst hx
                      simp only at hst hx
                      split at hst
                      · rename_i hk
                        rw [hk] at hx
                        cases hx
                      · cases hst
                      · cases hst
                        cases hm
                        rw [Hp.get_put _ _ _ _ hg, if_neg hid]
                      · cases hst
          | _ => simp only at h; cases h
    | _ => rw [hop] at hx; simp only [stEx] at hx; cases hx
  · cases hm
structure RegF (P : Program) (T : Tab) (call : CallF) (ops : Array Oper) (rs : List Rec) (sl0 : Slots) (hp0 : Hp) (base N : Nat) : Prop where
  can : Can T call (ops.toList.map (·.dst)) ops.toList rs sl0 hp0
  mu : ∀ r ∈ rs, mutOk base r.mu
  lo : ∀ (j : Nat) o t x id off, ops.toList[j]? = some o → gate (ops.toList.map (·.dst)) (slAt ops.toList rs sl0 j) o.guard = some true → o.op = .load t x → ev (slAt ops.toList rs sl0 j) x = some (.ptr id off) → ∀ (q : Nat) r, rs[q]? = some r → id < (hpAt rs hp0 q).n → r.hp.get id = (hpAt rs hp0 q).get id
  chk : FltOk T ops
  dst : dstsOk N (ops.toList.map (·.dst)) = true
  le : base ≤ hp0.n
theorem RegF.ext (h : RegF P T call ops rs sl0 hp0 base N) (hcall : CallOk P call) {b i j : Nat} (hij : i ≤ j) (hj : j ≤ ops.toList.length) (hb : b ≤ (hpAt rs hp0 i).n) (hm : ∀ r ∈ rs, mutOk b r.mu) : (hpAt rs hp0 i).n ≤ (hpAt rs hp0 j).n ∧ Ext b (hpAt rs hp0 i) (hpAt rs hp0 j) := by
  induction hij with
  | refl => exact ⟨Nat.le_refl _, Ext.refl _ _⟩
  | step hq ih =>
    rename_i m
    obtain ⟨h1, h2⟩ := ih (by omega)
    obtain ⟨r, hr, hst, _, he⟩ := can_at h.can m _ (List.getElem?_eq_getElem (show m < ops.toList.length by omega))
    rw [he]
    have := step_ext hcall hst (b := b) (hm r (List.mem_of_getElem? hr)) (by omega)
    exact ⟨Nat.le_trans h1 this.1, h2.trans this⟩
theorem RegF.mono (h : RegF P T call ops rs sl0 hp0 base N) (hcall : CallOk P call) {i j : Nat} (hij : i ≤ j) (hj : j ≤ ops.toList.length) : (hpAt rs hp0 i).n ≤ (hpAt rs hp0 j).n ∧ Ext base (hpAt rs hp0 i) (hpAt rs hp0 j) := by
  have h0 := (h.ext hcall (Nat.zero_le i) (by omega) (b := base) h.le h.mu).1
  have hl := h.le
  have e0 : hpAt rs hp0 0 = hp0 := by simp [hpAt, hpR]
  rw [e0] at h0
  exact h.ext hcall hij hj (by omega) h.mu
/-- an object that nobody writes -/
theorem RegF.get (h : RegF P T call ops rs sl0 hp0 base N) (hcall : CallOk P call) {id i j : Nat} (hk : ∀ (q : Nat) r, rs[q]? = some r → id < (hpAt rs hp0 q).n → r.hp.get id = (hpAt rs hp0 q).get id) (hij : i ≤ j) (hj : j ≤ ops.toList.length) (hid : id < (hpAt rs hp0 i).n) : (hpAt rs hp0 j).get id = (hpAt rs hp0 i).get id := by
  induction hij with
  | refl => rfl
  | step hq ih =>
    rename_i m
    obtain ⟨r, hr, hst, _, he⟩ := can_at h.can m _ (List.getElem?_eq_getElem (show m < ops.toList.length by omega))
    have hle := (h.mono hcall hq (by omega)).1
    rw [he, hk m r hr (by omega)]
    exact ih (by omega)
/-- such an operation leaves the heap -/
theorem flt_hp {o : Oper} {sl : Slots} {hp : Hp} {r : Rec} (hf : flt T o.op = true) (h : StepC T call ds o sl hp r) : r.hp = hp := by
  rcases h with ⟨_, h⟩ | ⟨_, rfl⟩
  · unfold opE at h
    split at h
    · rename_i q hq
      have hqq : q = (r.d, r.hp, r.mu) := by simpa using h
      subst hqq
      cases hop : o.op with
      | load t x =>
        rw [hop] at hq
        simp only [aop] at hq
        unfold opLoad at hq
        have hk : ∀ {y : Option DV} {z : DV × Hp × Mut}, outR (keep hp y) = .done z → z.2.1 = hp := by
          intro y z hy
          cases y with
          | none => cases hy
          | some y => cases hy; rfl
        split at hq
        · split at hq
          · exact hk hq
          · cases hq
        · exact hk hq
        · cases hq
      | _ =>
        rw [hop] at hq hf
        simp only [flt] at hf
        exact (aop_dry hf hq).1
    · rename_i f args hq
      cases hop : o.op with
      | load t x =>
        rw [hop] at hq
        simp only [aop] at hq
        unfold opLoad at hq
        have hk : ∀ {y : Option DV}, outR (keep hp y) ≠ .call f args := by
          intro y hy
          cases y <;> cases hy
        split at hq
        · split at hq
          · exact absurd hq hk
          · cases hq
        · exact absurd hq hk
        · cases hq
      | _ =>
        rw [hop] at hq hf
        simp only [flt] at hf
        exact absurd hq (dry_not_call hf f args)
    · rename_i f args hq
      cases hop : o.op with
      | load t x =>
        rw [hop] at hq
        simp only [aop] at hq
        unfold opLoad at hq
        have hk : ∀ {y : Option DV}, outR (keep hp y) ≠ .yld f args := by
          intro y hy
          cases y <;> cases hy
        split at hq
        · split at hq
          · exact absurd hq hk
          · cases hq
        · exact absurd hq hk
        · cases hq
      | _ =>
        rw [hop] at hq hf
        simp only [flt] at hf
        exact absurd hq (dry_not_yld hf f args)
    · cases h
  · rfl
theorem RegF.flt (h : RegF P T call ops rs sl0 hp0 base N) {i j : Nat} (hij : i ≤ j) (hj : j ≤ ops.toList.length) (hf : ∀ (m : Nat) o, i ≤ m → m < j → ops.toList[m]? = some o → Go.Proofs.Ytoghpmeoekbcbaa.flt T o.op = true) : hpAt rs hp0 j = hpAt rs hp0 i := by
  induction hij with
  | refl => rfl
  | step hq ih =>
    rename_i m
    obtain ⟨r, hr, hst, _, he⟩ := can_at h.can m _ (List.getElem?_eq_getElem (show m < ops.toList.length by omega))
    rw [he, flt_hp (hf m _ hq (Nat.lt_succ_self _) (List.getElem?_eq_getElem (show m < ops.toList.length by omega))) hst]
    exact ih (by omega) fun m' o h1 h2 => hf m' o h1 (by omega)
structure InvF (dl : List Deferred) (W0 : World) (base : Nat) (S0 : Nat → Prop) (N : Nat) (ops : Array Oper) (rs : List Rec) (sl0 : Slots) (hp0 : Hp) (E0 : Env) (w0 : World) (T : Tab) (D : Nat → Prop) (E : Env) (i : Nat) (a : Act) (w : World) : Prop where
  com : Com dl E0 w0 hp0 N E a w
  len : i ≤ ops.toList.length
  tail : ∀ j o, ops.toList[j]? = some o → flt T o.op = false → (D j ↔ j < i)
  hs : HS W0 base S0 E (hpAt rs hp0 i) w
  sl : Shown ops rs sl0 D (fun _ => E) a w
/-- one of those that may come at any time, at another heap -/
theorem flt_at (hcall : CallOk P call) (hR : RegF P T call ops rs sl0 hp0 base N) {q i : Nat} (hi : i ≤ ops.toList.length) {o : Oper} {r : Rec} (ho : ops.toList[q]? = some o) (hf : flt T o.op = true) (hst : StepC T call (ops.toList.map (·.dst)) o (slAt ops.toList rs sl0 q) (hpAt rs hp0 q) r)
    (hlook : ∀ x id off, o.op.operands = #[x] → ev (slAt ops.toList rs sl0 q) x = some (.ptr id off) → ∃ ob, (hpAt rs hp0 i).get id = some ob) : StepC T call (ops.toList.map (·.dst)) o (slAt ops.toList rs sl0 q) (hpAt rs hp0 i) ⟨r.d, hpAt rs hp0 i, none⟩ := by
  have hql := (List.getElem?_eq_some_iff.1 ho).1
  rcases hst with ⟨hg, hop⟩ | ⟨hg, hre⟩
  · refine .inl ⟨hg, ?_⟩
    unfold opE at hop ⊢
    cases hoo : o.op with
    | load t x =>
      rw [hoo] at hop
      simp only [aop] at hop ⊢
      unfold opLoad at hop ⊢
      cases ht : T t with
      | none => rw [ht] at hop; cases hop
      | some ti =>
        rw [ht] at hop
        cases hx : ev (slAt ops.toList rs sl0 q) x with
        | none => rw [hx] at hop; cases hop
        | some d =>
          rw [hx] at hop
          cases d with
          | ptr id off =>
            simp only at hop ⊢
            obtain ⟨ob, hob⟩ := hlook x id off (by rw [hoo]; rfl) hx
            cases hq : (hpAt rs hp0 q).get id with
            | none => rw [hq] at hop; cases hop
            | some o2 =>
              rw [hq] at hop
              have hlo := hR.lo q o t x id off ho hg hoo hx
              have e : o2 = ob := by
                rcases Nat.le_total i q with h1 | h1
                · have := hR.get hcall hlo h1 (by omega) (Hp.get_lt hob)
                  rw [hq, hob] at this
                  exact Option.some.inj this
                · have := hR.get hcall hlo h1 hi (Hp.get_lt hq)
                  rw [hq, hob] at this
                  exact (Option.some.inj this).symm
              subst e
              rw [hob]
              simp only at hop ⊢
              cases hp2 : partD ti o2.cs off with
              | none => rw [hp2] at hop; cases hop
              | some d =>
                rw [hp2] at hop
                simp only [keep, outR] at hop ⊢
                injection hop with hop
                injection hop with h1 h2
                rw [h1]
          | fptr cs =>
            simp only at hop ⊢
            cases hp2 : partD ti cs 0 with
            | none => rw [hp2] at hop; cases hop
            | some d =>
              rw [hp2] at hop
              simp only [keep, outR] at hop ⊢
              injection hop with hop
              injection hop with h1 h2
              rw [h1]
          | _ => cases hop
    | _ =>
      rw [hoo] at hop hf
      simp only [Go.Proofs.Ytoghpmeoekbcbaa.flt] at hf
      split at hop
      · rename_i z hz
        have hzz : z = (r.d, r.hp, r.mu) := by simpa using hop
        subst hzz
        obtain ⟨_, _, h3⟩ := aop_dry hf hz
        rw [h3]
      · rename_i f args hz
        exact absurd hz (dry_not_call hf f args)
      · rename_i f args hz
        exact absurd hz (dry_not_yld hf f args)
      · cases hop
  · exact .inr ⟨hg, by rw [hre]⟩
theorem stepF (hT : TabOk P T) (hcall : CallOk P call) (hR : RegF P T call ops rs sl0 hp0 base N) {i : Nat} (h : InvF dl W0 base S0 N ops rs sl0 hp0 E0 w0 T D E i a w) (hD : Closed ops.toList D) {q : Nat} {o : Oper} (ho : ops.toList[q]? = some o) (hDq : ¬ D q) (hw : Waits D o) :
    wpOpIn (Fr ro) 0 P ops Q q (fun a w => ∃ E i, InvF dl W0 base S0 N ops rs sl0 hp0 E0 w0 T (fun j => D j ∨ j = q) E i a w) a w := by
  obtain ⟨r, hr, hst, hsl1, hhp1⟩ := can_at hR.can q o ho
  have hql := (List.getElem?_eq_some_iff.1 ho).1
  have hlook : ∀ t d, t ∈ o.looksAt ops → look (slAt ops.toList rs sl0 q) t = some d → VR w E d (a.tmps.getD t undef) := fun t d ht hd => h.sl t q (by omega) (look_pos hR.chk.chk hD ho hDq hw ht) d hd
  have hput := fun {E' : Env} {w' : World} {v : Value} (hl : Later E w E' w') (hv : VR w' E' r.d v) => shown_put0 (can_len hR.can) hR.chk.chk hR.dst hD ho hr hDq h.sl (fun _ _ => hl) (fun _ _ _ => hv) h.com.size
  cases hf : flt T o.op
  · -- the next one
    have hqi : i ≤ q := by
      rcases Nat.lt_or_ge q i with hlt | hge
      · exact absurd ((h.tail q o ho hf).2 hlt) hDq
      · exact hge
    have hbtw : ∀ (m : Nat) om, i ≤ m → m < q → ops.toList[m]? = some om → flt T om.op = true := by
      intro m om h1 h2 hom
      cases hfm : flt T om.op
      · exfalso
        have hDm : D m := by
          rcases hR.chk.pair q m o om (by omega) ho hom with hb | ⟨_, hb⟩
          · exact hb D hD hw
          · rcases hb with hb | hb | hb
            · rw [hf] at hb; cases hb
            · omega
            · rw [hfm] at hb; cases hb
        have := (h.tail m om hom hfm).1 hDm
        omega
      · rfl
    have hheap := hR.flt hqi (by omega) hbtw
    have hs0 := h.hs
    rw [← hheap] at hs0
    refine one_ok hT hcall ho hst hs0 hlook (hR.mu r (List.mem_of_getElem? hr)) fun E' v w' hs hv => ⟨E', q + 1, ?_⟩
    have hle0 := (hR.mono hcall (Nat.zero_le q) (by omega)).1
    have e0 : hpAt rs hp0 0 = hp0 := by simp [hpAt, hpR]
    rw [e0] at hle0
    refine ⟨h.com.next hs.later (fun id hid hd => hs.dom id (Nat.lt_of_lt_of_le hid hle0) hd) hs.oth hs.yb _ _, by omega, fun j oj hj hfj => ?_, by rw [hhp1]; exact hs.hs, hput hs.later hv⟩
    rw [h.tail j oj hj hfj]
    constructor
    · rintro (h1 | h1) <;> omega
    · intro h1
      rcases Nat.lt_or_ge j i with h2 | h2
      · exact .inl h2
      · right
        rcases Nat.lt_or_ge j q with h3 | h3
        · have := hbtw j oj h2 h3 hj
          rw [hfj] at this; cases this
        · omega
  · -- one that may come at any time
    have hst' := flt_at hcall hR h.len ho hf hst fun x id off hx hev => by
      have hxt : ∃ t, x = .tmp t := by
        cases x with
        | tmp t => exact ⟨t, rfl⟩
        | const v =>
          exfalso
          simp only [ev] at hev
          cases v <;> simp only [cv, cv1] at hev <;> first | (cases hev; done) | skip
          all_goals (try (split at hev <;> cases hev))
        | func f => cases hev
        | _ => cases hev
      obtain ⟨t, rfl⟩ := hxt
      have hm : t ∈ o.looksAt ops := by
        unfold Oper.looksAt
        rw [List.mem_append]
        left
        rw [List.mem_filterMap]
        exact ⟨.tmp t, by rw [hx]; simp, rfl⟩
      obtain ⟨ob, hob, _⟩ := h.hs.ob id (hlook t _ hm hev).of_ptr.2
      exact ⟨ob, hob⟩
    refine one_ok hT hcall ho hst' h.hs.pure hlook trivial fun E' v w' hs hv => ⟨mrg E E' (hpAt rs hp0 i).n (hpAt rs hp0 i).n, i, ?_⟩
    have hno : ∀ id, ¬ ((hpAt rs hp0 i).n ≤ id ∧ id < (hpAt rs hp0 i).n) := fun id hh => by omega
    obtain ⟨m1, m2, m3⟩ := HS.merge h.hs (E1 := E) (E' := E') (hpX := hpAt rs hp0 i) (hpY := hpAt rs hp0 i) (a := (hpAt rs hp0 i).n) (b := (hpAt rs hp0 i).n) h.hs.pure hs.hs hs.later (fun id hd => ⟨hd, rfl, rfl, rfl, Iff.rfl⟩) rfl (fun id hd => .inl (hs.dom id (hs.hs.dlt hd) hd)) (fun id _ => hno id) (fun id h1 h2 => by omega) h.hs.le hs.yb
    refine ⟨h.com.next m2 (fun id hid hd => hd.elim (fun hh => hh) (fun hh => by omega)) hs.oth hs.yb _ _, h.len, fun j oj hj hfj => ?_, m1, hput m2 (hv.later m3)⟩
    rw [← h.tail j oj hj hfj]
    refine ⟨fun hh => hh.resolve_right fun e => ?_, .inl⟩
    subst e
    rw [ho] at hj
    cases hj
    rw [hf] at hfj
    cases hfj
theorem InvF.done (hR : RegF P T call ops rs sl0 hp0 base N) (hcall : CallOk P call) (hdf : DfrOk W0 fm.fl E0 w0 dl) (hro : RoOk fm E0 hp0 dl) {i : Nat} (h : InvF dl W0 base S0 N ops rs sl0 hp0 E0 w0 T D E i a w) (hall : ∀ j, j < ops.toList.length → D j) :
    Stp W0 base S0 E0 hp0 w0 E (hpAt rs hp0 ops.toList.length) w ∧ Sim fm W0 base S0 E N (slAt ops.toList rs sl0 ops.toList.length) (hpAt rs hp0 ops.toList.length) a w := by
  have hheap := hR.flt h.len (Nat.le_refl _) fun m om h1 h2 hom => by
    cases hfm : flt T om.op
    · have := (h.tail m om hom hfm).1 (hall m h2)
      omega
    · rfl
  have hs0 := h.hs
  rw [← hheap] at hs0
  have hx := (hR.mono hcall (Nat.zero_le _) (Nat.le_refl _)).2
  have e0 : hpAt rs hp0 0 = hp0 := by simp [hpAt, hpR]
  rw [e0] at hx
  refine ⟨⟨h.com.later, hs0, hx, h.com.dom, h.com.oth, h.com.yb⟩, hs0, (by rw [h.com.defers]; exact hdf.step h.com.oth h.com.yb), (by rw [h.com.defers]; exact hro.step h.com.yb hx.ls), h.com.size, fun t d hd => h.sl t _ (Nat.le_refl _) (fun j o hj _ => ?_) d hd⟩
  have := (List.getElem?_eq_some_iff.1 hj).1
  exact ⟨fun _ => this, fun _ => hall j this⟩
/-- all of a region's operations, one by one, by an invariant -/
theorem any_gen {I : (Nat → Prop) → Act → World → Prop} (hback : ∀ (i : Nat) o e, ops.toList[i]? = some o → e ∈ o.after.toList → Region.binds .any e = true → e.on < i)
    (hstep : ∀ D a w, I D a w → Closed ops.toList D → ∀ (q : Nat) o, ops.toList[q]? = some o → ¬ D q → Waits D o → wpOpIn (Fr ro) 0 P ops Q q (I fun j => D j ∨ j = q) a w)
    (hdone : ∀ D a w, I D a w → (∀ j, j < ops.toList.length → D j) → Q .normal a w) :
    ∀ (fuel : Nat) (listed : Array Bool) (a : Act) (w : World), listed.size = ops.size → Closed ops.toList (fun j => listed.getD j false = true) → (List.range ops.size).countP (fun j => !listed.getD j false) ≤ fuel →
      I (fun j => listed.getD j false = true) a w → wpAnyIn (Fr ro) 0 P .any ops Q fuel listed a w := by
  have hfin : ∀ (listed : Array Bool) (a : Act) (w : World), (∀ j, j < ops.size → listed.getD j false = true) → I (fun j => listed.getD j false = true) a w → Q .normal a w := by
    intro listed a w hall h
    exact hdone _ a w h (fun j hj => hall j (by simpa using hj))
  have hleast : ∀ (listed : Array Bool), listed.size = ops.size → Region.ready .any ops listed = [] → ∀ j, j < ops.size → listed.getD j false = true := by
    intro listed hl hr j
    induction j using Nat.strongRecOn with
    | _ j ih =>
      intro hj
      cases hq : listed.getD j false
      · exfalso
        obtain ⟨o, ho⟩ : ∃ o, ops.toList[j]? = some o := ⟨_, List.getElem?_eq_getElem (by simp; omega)⟩
        have : j ∈ Region.ready .any ops listed := by
          rw [mem_ready]
          have hlt : j < listed.size := by omega
          refine ⟨?_, o, by simpa using ho, fun e he hb => ?_⟩
          · rw [Array.getD_eq_getD_getElem?, Array.getElem?_eq_getElem hlt] at hq ⊢
            exact hq
          · have := hback j o e ho (by simpa using he) hb
            exact ih e.on this (by omega)
        rw [hr] at this
        cases this
      · rfl
  intro fuel
  induction fuel with
  | zero =>
    intro listed a w hl hcl hf hinv
    have hall : ∀ j, j < ops.size → listed.getD j false = true := fun j hj => by
      cases hq : listed.getD j false
      · exfalso
        have : 0 < (List.range ops.size).countP (fun j => !listed.getD j false) := List.countP_pos_iff.2 ⟨j, by simpa using hj, by rw [hq]; rfl⟩
        omega
      · rfl
    refine ⟨?_, hfin listed a w hall hinv⟩
    rw [List.eq_nil_iff_forall_not_mem]
    intro j hj
    obtain ⟨h1, o, ho, _⟩ := mem_ready.1 hj
    have hlt := (Array.getElem?_eq_some_iff.1 ho).1
    have h2 := hall j hlt
    rw [Array.getD_eq_getD_getElem?, Array.getElem?_eq_getElem (show j < listed.size by omega)] at h1 h2
    simp at h1 h2
    rw [h1] at h2
    cases h2
  | succ fuel ih =>
    intro listed a w hl hcl hf hinv
    refine ⟨fun hr => hfin listed a w (hleast listed hl hr) hinv, fun i hi => ?_⟩
    obtain ⟨h1, o, ho, hwt⟩ := mem_ready.1 hi
    have hilt := (Array.getElem?_eq_some_iff.1 ho).1
    have ho' : ops.toList[i]? = some o := by simpa using ho
    have hDi : ¬ (listed.getD i false = true) := by
      rw [Array.getD_eq_getD_getElem?, Array.getElem?_eq_getElem (show i < listed.size by omega)] at h1 ⊢
      simp at h1 ⊢
      exact h1
    have hw : Waits (fun j => listed.getD j false = true) o := fun e he hb => hwt e (by simpa using he) hb
    have hset : ∀ j, ((listed.setIfInBounds i true).getD j false = true) ↔ (listed.getD j false = true ∨ j = i) := fun j => by
      by_cases e : i = j
      · subst e; rw [getD_set_self (by omega)]; simp
      · rw [getD_set_other e]
        exact ⟨.inl, fun h => h.resolve_right fun h => e h.symm⟩
    refine wpOpIn_mono (fun a' w' h' => ih (listed.setIfInBounds i true) a' w' (by simpa using hl) (fun i' o' e ho' hi' he hb => ?_) ?_ ?_) (hstep _ a w hinv hcl i o ho' hDi hw)
    · have hi'' := (hset i').1 hi'
      refine (hset e.on).2 ?_
      rcases hi'' with hi'' | rfl
      · exact .inl (hcl i' o' e ho' hi'' he hb)
      · rename_i hoo
        rw [hoo] at ho'
        cases ho'
        exact .inl (hw e he hb)
    · have := countP_lt (fun j => !listed.getD j false) (fun j => !(listed.setIfInBounds i true).getD j false) (List.range ops.size) (fun j _ h => by
        cases hq : listed.getD j false
        · rfl
        · have := (hset j).2 (.inl hq)
          simp [this] at h) ⟨i, by simpa using hilt, by simpa using hDi, by simp [(hset i).2 (.inr rfl)]⟩
      omega
    · have e : (fun j => (listed.setIfInBounds i true).getD j false = true) = fun j => listed.getD j false = true ∨ j = i := funext fun j => propext (hset j)
      rw [e]
      exact h'
theorem regF_ok (hT : TabOk P T) (hmix : P.follows .mixedOrders = true) (hcall : CallOk P call) {id : Nat} (hc : fltChk T ops = true) (hds : dstsOk N (ops.toList.map (·.dst)) = true) {sl : Slots} {hp : Hp} {sl' : Slots} {hp' : Hp} {mu : Mut}
    (h : regF T call (ops.toList.map (·.dst)) ops.toList sl hp [] [] none = some (sl', hp', mu)) {E : Env} {a : Act} {w : World} (hs : Sim fm W0 base S0 E N sl hp a w) (hmu : mutOk base mu) (hQ : ∀ E' a' w', Stp W0 base S0 E hp w E' hp' w' → Sim fm W0 base S0 E' N sl' hp' a' w' → Q .normal a' w') :
    (Code.region id ops true).wpIn (Fr ro) 0 P Q a w := by
  have hck := fltChk_ok hc
  obtain ⟨rs, LD, MS, h1, h2, h3, h4, h5, _, _, h8, h9⟩ := regF_can h
  have hlen := can_len h1
  have hR : RegF P T call ops rs sl hp base N := ⟨h1, (h4 base hmu).2, fun j o t x id off hj hg hop hev q r hr hlt => by
    have hld := lmOk_ok h5 id (h8 j o t x id off hj hg hop hev)
    have hql : q < ops.toList.length := by rw [hlen]; exact (List.getElem?_eq_some_iff.1 hr).1
    obtain ⟨r', hr', hst, _⟩ := can_at h1 q _ (List.getElem?_eq_getElem hql)
    rw [hr] at hr'
    cases hr'
    have hlow : ∀ {m}, r.mu = m → mutOk (id + 1) m → r.hp.get id = (hpAt rs hp q).get id := fun {m} hm hmo => (step_ext hcall hst (b := id + 1) (by rw [hm]; exact hmo) hlt).2 id (Nat.lt_succ_self _)
    cases hm : r.mu with
    | none => exact hlow hm trivial
    | some m =>
      obtain ⟨ex, hmem, hex⟩ := h9 q _ r m (List.getElem?_eq_getElem hql) hr hm
      rcases lmOk1_ok hld m ex hmem with ⟨e1, e2⟩ | hlt2
      · exact stEx_ok (hex e1) hst hm e2
      · exact hlow hm (show id + 1 ≤ m by omega), hck, hds, hs.hs.le⟩
  have hhp : hpAt rs hp ops.toList.length = hp' := by
    unfold hpAt
    rw [hlen, List.take_length, h3]
  have hsl : slAt ops.toList rs sl ops.toList.length = sl' := by rw [slR_take _ _ _ hlen, h2]
  obtain ⟨hdr, hldr⟩ := hs.hs.drew
  have hzero : hpAt rs hp 0 = hp := by simp [hpAt, hpR]
  have hdone : ∀ D a1 w1, (∃ E1 i, InvF a.defers W0 base S0 N ops rs sl hp E w T D E1 i a1 w1) → (∀ j, j < ops.toList.length → D j) → Q .normal a1 w1 := by
    intro D a1 w1 hI hall
    obtain ⟨E1, i, hI⟩ := hI
    obtain ⟨q1, q2⟩ := hI.done (fm := fm) hR hcall hs.dfr hs.ro hall
    rw [hhp] at q1 q2
    rw [hsl] at q2
    exact hQ E1 a1 w1 q1 q2
  refine wpIn_region_any hmix (any_gen (ro := ro) (I := fun D a1 w1 => ∃ E1 i, InvF a.defers W0 base S0 N ops rs sl hp E w T D E1 i a1 w1) hck.back (fun D a1 w1 hI hD q o ho hDq hw => hI.elim fun E1 hI => hI.elim fun i hI => stepF hT hcall hR hI hD ho hDq hw) hdone ops.size _ a _ (by simp) (fun i o e ho hi => ?_) ?_ ⟨E, 0, ?_⟩)
  · have hi : (Array.replicate ops.size false).getD i false = true := hi
    rw [rep_false] at hi
    cases hi
  · refine Nat.le_trans List.countP_le_length ?_
    simp
  · refine ⟨⟨hldr, fun _ _ h => h, rfl, hs.size, ⟨Nat.le_refl _, fun _ _ h => h⟩, rfl⟩, Nat.zero_le _, fun j o hj _ => ?_, by rw [hzero]; exact hdr, fun t i hi hat d hd => ?_⟩
    · constructor
      · intro h9
        have h9 : (Array.replicate ops.size false).getD j false = true := h9
        rw [rep_false] at h9
        cases h9
      · omega
    · have hno : ∀ (j : Nat) o, j < i → ops.toList[j]? = some o → o.dst ≠ some t := fun j o hj ho hdj => by
        have h9 : (Array.replicate ops.size false).getD j false = true := (hat j o ho hdj).2 hj
        rw [rep_false] at h9
        cases h9
      have key : ∀ m, m ≤ i → ∀ d, look (slAt ops.toList rs sl m) t = some d → look sl t = some d := by
        intro m
        induction m with
        | zero => intro _ d hd; simpa [slAt, slR] using hd
        | succ m ihm =>
          intro hm d hd
          have hml : m < ops.toList.length := by omega
          obtain ⟨r', hr', _, he, _⟩ := can_at h1 m _ (List.getElem?_eq_getElem hml)
          rw [he] at hd
          refine ihm (by omega) d ?_
          cases hdd : (ops.toList[m]).dst with
          | none => rw [hdd] at hd; exact hd
          | some s =>
            rw [hdd] at hd
            simp only [putO] at hd
            rcases look_put hd with ⟨rfl, _⟩ | ⟨_, hd⟩
            · exact absurd hdd (hno m _ (by omega) (List.getElem?_eq_getElem hml))
            · exact hd
      exact (hs.sl t d (key i (Nat.le_refl _) d hd)).later hldr
theorem can_ext (hcall : CallOk P call) {b : Nat} : ∀ {l : List Oper} {rs : List Rec} {sl : Slots} {hp : Hp}, Can T call ds l rs sl hp → (∀ r ∈ rs, mutOk b r.mu) → b ≤ hp.n → Ext b hp (hpR rs hp)
  | [], [], _, _, _, _, _ => Ext.refl _ _
  | [], _ :: _, _, _, h, _, _ => h.elim
  | _ :: _, [], _, _, h, _, _ => h.elim
  | _ :: l, r :: rs, _, _, h, hm, hle => by
    have e1 := step_ext hcall h.1 (hm r (by simp)) hle
    exact e1.trans (can_ext hcall h.2 (fun r' hr' => hm r' (by simp [hr'])) (Nat.le_trans hle e1.1))
theorem regF_ext (hcall : CallOk P call) {l : List Oper} {sl : Slots} {hp : Hp} {lds : List Nat} {ms : List (Nat × Bool)} {lo : Mut} {sl' : Slots} {hp' : Hp} {mu : Mut} (h : regF T call ds l sl hp lds ms lo = some (sl', hp', mu)) : ∀ b, mutOk b mu → b ≤ hp.n → Ext b hp hp' := by
  obtain ⟨rs, _, _, h1, _, h3, h4, _⟩ := regF_can h
  intro b hb hle
  rw [← h3]
  exact can_ext hcall h1 (h4 b hb).2 hle
end
end
end Go.Proofs.Ytoghpmeoekbcbaa
