/- Code over abstract data: regions whose operations come in the text's order, but for those that look at slots or at objects that nobody writes. No function of the program is named here. -/
import Derived.Test.YtgjgihlfkpbdgaaMD
import Derived.Scope
namespace Go.Proofs.Ytgjgihlfkpbdgaa
open Go.RowKit

noncomputable section
section
variable {P : Program} {T : Tab} {call : CallF} {W0 : World} {base : Nat} {S0 : Nat → Prop} {N : Nat} {ops : Array Oper} {rs : List Rec} {sl0 : Slots} {hp0 : Hp} {Q : Exit → Act → World → Prop} {E0 : Env} {w0 : World} {D : Nat → Prop} {E : Env} {a : Act} {w : World}
variable {ro : Option Nat} {dl : List Deferred} {fm : Fm} {ds : List (Option Tmp)}
theorem lmOk1_ok {id : Nat} : ∀ {ms : List (Nat × Bool)}, lmOk1 id ms = true → ∀ m ex, (m, ex) ∈ ms → (ex = true ∧ id ≠ m) ∨ id < m
  | [], _, m, ex, h => by cases h
  | (m0, true) :: l, h, m, ex, hm => by
    simp only [lmOk1] at h
    split at h
    · cases h
    · rename_i hb
      rcases List.mem_cons.1 hm with e | hm
      · cases e
        exact .inl ⟨rfl, fun e => by rw [beqT e.symm] at hb; cases hb⟩
      · exact lmOk1_ok h m ex hm
  | (m0, false) :: l, h, m, ex, hm => by
    simp only [lmOk1] at h
    split at h
    · rename_i hb
      rcases List.mem_cons.1 hm with e | hm
      · cases e
        refine .inr ?_
        have : id + 1 ≤ _ := Nat.le_of_ble_eq_true hb
        omega
      · exact lmOk1_ok h m ex hm
    · cases h
theorem lmOk_ok {ms : List (Nat × Bool)} : ∀ {lds : List Nat}, lmOk ms lds = true → ∀ id ∈ lds, lmOk1 id ms = true
  | [], _, id, h => by cases h
  | i :: l, h, id, hm => by
    simp only [lmOk] at h
    split at h
    · rename_i hb
      rcases List.mem_cons.1 hm with rfl | hm
      · exact hb
      · exact lmOk_ok h id hm
    · cases h
theorem regF_can {sf : Nat} : ∀ {l : List Oper} {sl : Slots} {hp : Hp} {lds : List Nat} {ms : List (Nat × Bool)} {lo : Mut} {sl' : Slots} {hp' : Hp} {mu : Mut}, regF T call sf ds l sl hp lds ms lo = some (sl', hp', mu) →
    ∃ rs LD MS, Can T call ds l rs sl hp ∧ slR l rs sl = sl' ∧ hpR rs hp = hp' ∧ (∀ b, mutOk b mu → mutOk b lo ∧ ∀ r ∈ rs, mutOk b r.mu) ∧ lmOk MS LD = true ∧ (∀ x ∈ lds, x ∈ LD) ∧ (∀ x ∈ ms, x ∈ MS) ∧
      (∀ (j : Nat) o t x id off, l[j]? = some o → gate ds (slAt l rs sl j) o.guard = some true → o.op = .load t x → sfOf sf o = false → ev (slAt l rs sl j) x = some (.ptr id off) → id ∈ LD) ∧
      ∀ (j : Nat) o r m, l[j]? = some o → rs[j]? = some r → r.mu = some m → ∃ ex, (m, ex) ∈ MS ∧ (ex = true → stEx (slAt l rs sl j) (hpAt rs hp j) o.op = true)
  | [], sl, hp, lds, ms, lo, sl', hp', mu, h => by
    have h : (match lmOk ms lds with | true => some (sl, hp, lo) | false => none) = some (sl', hp', mu) := h
    split at h
    · rename_i ht
      cases h
      exact ⟨[], lds, ms, trivial, rfl, rfl, fun b hb => ⟨hb, fun r hr => by cases hr⟩, ht, fun x hx => hx, fun x hx => hx, fun j o t x id off hj => (by simp at hj), fun j o r m hj => by simp at hj⟩
    · cases h
  | o :: l, sl, hp, lds, ms, lo, sl', hp', mu, h => by
    rw [regF_cons] at h
    unfold gateX at h
    split at h
    · rename_i hg
      unfold regF1 at h
      split at h
      · rename_i d hp1 m1 hop
        obtain ⟨rs, LD, MS, h1, h2, h3, h4, h5, h6, h7, h8, h9⟩ := regF_can h
        refine ⟨⟨d, hp1, m1⟩ :: rs, LD, MS, ⟨.inl ⟨hg, hop⟩, h1⟩, h2, h3, fun b hb => ?_, h5, fun x hx => h6 x ?_, fun x hx => h7 x ?_, fun j oj t x id off hj hgj hoj hsf hev => ?_, fun j oj r m hj hr hm => ?_⟩
        · obtain ⟨q1, q2⟩ := h4 b hb
          obtain ⟨q3, q4⟩ := mutOk_mmin q1
          exact ⟨q3, fun r hr => by rcases List.mem_cons.1 hr with rfl | hr; exact q4; exact q2 r hr⟩
        · unfold ldAdd
          split
          · exact List.mem_cons_of_mem _ hx
          · exact hx
        · unfold muAdd
          split
          · exact hx
          · exact List.mem_cons_of_mem _ hx
        · cases j with
          | zero =>
            have e0 : slAt (o :: l) (⟨d, hp1, m1⟩ :: rs) sl 0 = sl := rfl
            rw [e0] at hgj hev
            simp only [List.getElem?_cons_zero, Option.some.injEq] at hj
            subst hj
            refine h6 id ?_
            have e : ldOfS sf sl o = some id := by unfold ldOfS; rw [hsf, hoj]; simp only [ldOf, hev]
            rw [e]
            exact List.mem_cons_self ..
          | succ j => exact h8 j oj t x id off (by simpa using hj) hgj hoj hsf hev
        · cases j with
          | zero =>
            simp only [List.getElem?_cons_zero, Option.some.injEq] at hj hr
            subst hj
            subst hr
            have hm : m1 = some m := hm
            subst hm
            exact ⟨stEx sl hp o.op, h7 _ (List.mem_cons_self ..), fun h => h⟩
          | succ j => exact h9 j oj r m (by simpa using hj) (by simpa using hr) hm
      · cases h
    · rename_i hg
      obtain ⟨rs, LD, MS, h1, h2, h3, h4, h5, h6, h7, h8, h9⟩ := regF_can h
      refine ⟨⟨.tuple [], hp, none⟩ :: rs, LD, MS, ⟨.inr ⟨hg, rfl⟩, h1⟩, h2, h3, fun b hb => ?_, h5, h6, h7, fun j oj t x id off hj hgj hoj hsf hev => ?_, fun j oj r m hj hr hm => ?_⟩
      · obtain ⟨q1, q2⟩ := h4 b hb
        exact ⟨q1, fun r hr => by rcases List.mem_cons.1 hr with rfl | hr; trivial; exact q2 r hr⟩
      · cases j with
        | zero =>
          have e0 : slAt (o :: l) (⟨.tuple [], hp, none⟩ :: rs) sl 0 = sl := rfl
          rw [e0] at hgj
          simp only [List.getElem?_cons_zero, Option.some.injEq] at hj
          subst hj
          rw [hg] at hgj
          cases hgj
        | succ j => exact h8 j oj t x id off (by simpa using hj) hgj hoj hsf hev
      · cases j with
        | zero =>
          simp only [List.getElem?_cons_zero, Option.some.injEq] at hr
          subst hr
          cases hm
        | succ j => exact h9 j oj r m (by simpa using hj) (by simpa using hr) hm
    · cases h
/-- such a store changes one object alone -/
theorem stEx_ok {o : Oper} {sl : Slots} {hp : Hp} {r : Rec} (hx : stEx sl hp o.op = true) (h : StepC T call ds o sl hp r) {m : Nat} (hm : r.mu = some m) {id : Nat} (hid : id ≠ m) : r.hp.get id = hp.get id := by
  rcases h with ⟨_, h⟩ | ⟨_, rfl⟩
  · cases hop : o.op with
    | store t x y =>
      unfold opE at h
      rw [hop] at h hx
      simp only [aop] at h
      simp only [stEx] at hx
      unfold opStore at h
      cases ht : T t with
      | none => rw [ht] at h; cases h
      | some ti =>
        rw [ht] at h
        cases hxx : ev sl x with
        | none => rw [hxx] at h; cases h
        | some d =>
          rw [hxx] at h hx
          cases d with
          | ptr i off =>
            simp only at h hx
            cases hy : ev sl y with
            | none => rw [hy] at h; cases h
            | some e =>
              rw [hy] at h
              simp only at h
              cases hc : cellsD e with
              | none => rw [hc] at h; cases h
              | some cs =>
                rw [hc] at h
                simp only at h
                cases hst : storeH hp i off cs with
                | none => rw [hst] at h; cases hbb : Nat.beq cs.length ti.size <;> rw [hbb] at h <;> cases h
                | some q =>
                  obtain ⟨hp', mm⟩ := q
                  rw [hst] at h
                  cases hbb : Nat.beq cs.length ti.size with
                  | false => rw [hbb] at h; cases h
                  | true =>
                    rw [hbb] at h
                    simp only [Option.some.injEq, Prod.mk.injEq] at h
                    obtain ⟨_, e1, e2⟩ := h
                    rw [← e1]
                    rw [← e2] at hm
                    unfold storeH at hst
                    cases hg : hp.get i with
                    | none => rw [hg] at hst; cases hst
                    | some ob =>
                      rw [hg] at hst hx
                      simp only at hst hx
                      split at hst
                      · rename_i hk
                        rw [hk] at hx
                        cases hx
                      · cases hst
                      · cases hst
                        cases hm
                        rw [Hp.get_put _ _ _ _ hg, if_neg hid]
                      · cases hst
          | _ => simp only at h; cases h
    | _ => rw [hop] at hx; simp only [stEx] at hx; cases hx
  · cases hm
theorem hasSl_no : ∀ {l : List Oper}, hasSl T l = false → ∀ o ∈ l, isSl o.op = true → dry T o.op = true
  | [], _, o, h => by cases h
  | q :: l, h, o, ho => by
    simp only [hasSl, Bool.or_eq_false_iff] at h
    intro hi
    rcases List.mem_cons.1 ho with rfl | ho
    · have := h.1
      rw [hi, Bool.true_and] at this
      simpa using this
    · exact hasSl_no h.2 o ho hi
theorem aslOf_isSl {sl : Slots} {o : Op} {x : Nat × Nat} (h : aslOf T sl o = some x) : isSl o = true ∧ dry T o = false := by
  unfold aslOf at h
  split at h
  · refine ⟨rfl, ?_⟩
    split at h
    · rename_i h1 h2
      split at h
      · rename_i h3
        simp only [dry, h1, h3]
      · cases h
    · cases h
  · cases h
theorem trkF_ok : ∀ {l : List Oper} {rs : List Rec} {sl : Slots} {hp : Hp} {hs : List Hp} {ss : List (Nat × Nat)}, Can T call ds l rs sl hp → trkF T call ds l sl hp = some (hs, ss) →
    (∀ i, i ≤ l.length → hpAt rs hp i ∈ hs) ∧ ∀ (j : Nat) o x, l[j]? = some o → gate ds (slAt l rs sl j) o.guard = some true → aslOf T (slAt l rs sl j) o.op = some x → x ∈ ss
  | [], [], sl, hp, hs, ss, _, h => by
    cases h
    refine ⟨fun i hi => ?_, fun j o x hj => by simp at hj⟩
    have : i = 0 := by simpa using hi
    subst this
    exact List.mem_cons_self ..
  | [], _ :: _, _, _, _, _, h, _ => h.elim
  | _ :: _, [], _, _, _, _, h, _ => h.elim
  | o :: l, r :: rs, sl, hp, hs, ss, hc, h => by
    obtain ⟨h1, h2⟩ := hc
    have two : ∀ {x : Option (Nat × Nat)} {q : Option (List Hp × List (Nat × Nat))}, trk2 hp x q = some (hs, ss) → ∃ hs1 ss1, q = some (hs1, ss1) ∧ hs = hp :: hs1 ∧ ss = addS x ss1 := by
      intro x q hq
      unfold trk2 at hq
      split at hq
      · cases hq
        exact ⟨_, _, rfl, rfl, rfl⟩
      · cases hq
    have key : ∀ {hs1 ss1}, trkF T call ds l (putO sl o.dst r.d) r.hp = some (hs1, ss1) → ∀ {x : Option (Nat × Nat)}, hs = hp :: hs1 → ss = addS x ss1 → (∀ y, gate ds sl o.guard = some true → aslOf T sl o.op = some y → x = some y) → (∀ i, i ≤ (o :: l).length → hpAt (r :: rs) hp i ∈ hs) ∧ ∀ (j : Nat) oj y, (o :: l)[j]? = some oj → gate ds (slAt (o :: l) (r :: rs) sl j) oj.guard = some true → aslOf T (slAt (o :: l) (r :: rs) sl j) oj.op = some y → y ∈ ss := by
      intro hs1 ss1 hk x e1 e2 hx
      obtain ⟨k1, k2⟩ := trkF_ok h2 hk
      subst e1
      subst e2
      refine ⟨fun i hi => ?_, fun j oj y hj hg ha => ?_⟩
      · cases i with
        | zero => exact List.mem_cons_self ..
        | succ i => exact List.mem_cons_of_mem _ (k1 i (by simpa using hi))
      · cases j with
        | zero =>
          simp only [List.getElem?_cons_zero, Option.some.injEq] at hj
          subst hj
          rw [hx y hg ha]
          exact List.mem_cons_self ..
        | succ j =>
          have := k2 j oj y (by simpa using hj) hg ha
          unfold addS
          split
          · exact List.mem_cons_of_mem _ this
          · exact this
    simp only [trkF] at h
    rcases h1 with ⟨hg, hop⟩ | ⟨hg, rfl⟩
    · rw [hg] at h
      obtain ⟨hs1, ss1, e1, e2, e3⟩ := two h
      unfold trk1 at e1
      rw [hop] at e1
      exact key e1 e2 e3 fun y _ hy => hy
    · rw [hg] at h
      obtain ⟨hs1, ss1, e1, e2, e3⟩ := two h
      exact key e1 e2 e3 fun y hg2 _ => by rw [hg] at hg2; cases hg2
theorem slOk1_ok {s : Nat × Nat} : ∀ {hs : List Hp}, slOk1 s hs = true → ∀ h ∈ hs, ∀ ob, h.get s.1 = some ob → s.2 ≤ ob.cs.length
  | [], _, h, hm => by cases hm
  | h0 :: hs, hk, h, hm => by
    intro ob hob
    simp only [slOk1, Bool.and_eq_true] at hk
    rcases List.mem_cons.1 hm with rfl | hm
    · have := hk.1
      rw [hob] at this
      exact Nat.le_of_ble_eq_true this
    · exact slOk1_ok hk.2 h hm ob hob
theorem slsOk_ok {hs : List Hp} : ∀ {ss : List (Nat × Nat)}, slsOk hs ss = true → ∀ s ∈ ss, slOk1 s hs = true
  | [], _, s, hm => by cases hm
  | s0 :: ss, hk, s, hm => by
    simp only [slsOk, Bool.and_eq_true] at hk
    rcases List.mem_cons.1 hm with rfl | hm
    · exact hk.1
    · exact slsOk_ok hk.2 s hm
theorem slF_ok {l : List Oper} {rs : List Rec} {sl : Slots} {hp : Hp} (hc : Can T call ds l rs sl hp) (h : slF T call ds l sl hp = true) : ∀ (j : Nat) o id m, l[j]? = some o → gate ds (slAt l rs sl j) o.guard = some true → aslOf T (slAt l rs sl j) o.op = some (id, m) → ∀ i ob, i ≤ l.length → (hpAt rs hp i).get id = some ob → m ≤ ob.cs.length := by
  intro j o id m hj hg ha i ob hi hob
  unfold slF at h
  split at h
  · rename_i hn
    obtain ⟨h1, h2⟩ := aslOf_isSl ha
    rw [hasSl_no hn o (List.mem_of_getElem? hj) h1] at h2
    cases h2
  · split at h
    · rename_i hs ss hk
      obtain ⟨k1, k2⟩ := trkF_ok hc hk
      exact slOk1_ok (slsOk_ok h _ (k2 j o _ hj hg ha)) _ (k1 i hi) ob hob
    · cases h
structure RegF (P : Program) (T : Tab) (call : CallF) (ops : Array Oper) (rs : List Rec) (sl0 : Slots) (hp0 : Hp) (base N : Nat) : Prop where
  can : Can T call (ops.toList.map (·.dst)) ops.toList rs sl0 hp0
  mu : ∀ r ∈ rs, mutOk base r.mu
  lo : ∀ (j : Nat) o t x id off, ops.toList[j]? = some o → gate (ops.toList.map (·.dst)) (slAt ops.toList rs sl0 j) o.guard = some true → o.op = .load t x → ev (slAt ops.toList rs sl0 j) x = some (.ptr id off) → ∀ (q : Nat) r, rs[q]? = some r → id < (hpAt rs hp0 q).n → r.hp.get id = (hpAt rs hp0 q).get id ∨ (∃ oq, ops.toList[q]? = some oq ∧ flt T oq.op = false ∧ ((∀ D, Closed ops.toList D → Waits D o → D q) ∨ (∀ D, Closed ops.toList D → Waits D oq → D j)))
  chk : FltOk T ops
  dst : dstsOk N (ops.toList.map (·.dst)) = true
  le : base ≤ hp0.n
  sli : ∀ (j : Nat) o id m, ops.toList[j]? = some o → gate (ops.toList.map (·.dst)) (slAt ops.toList rs sl0 j) o.guard = some true → aslOf T (slAt ops.toList rs sl0 j) o.op = some (id, m) → ∀ i ob, i ≤ ops.toList.length → (hpAt rs hp0 i).get id = some ob → m ≤ ob.cs.length
theorem RegF.ext (h : RegF P T call ops rs sl0 hp0 base N) (hcall : CallOk P call) {b i j : Nat} (hij : i ≤ j) (hj : j ≤ ops.toList.length) (hb : b ≤ (hpAt rs hp0 i).n) (hm : ∀ r ∈ rs, mutOk b r.mu) : (hpAt rs hp0 i).n ≤ (hpAt rs hp0 j).n ∧ Ext b (hpAt rs hp0 i) (hpAt rs hp0 j) := by
  induction hij with
  | refl => exact ⟨Nat.le_refl _, Ext.refl _ _⟩
  | step hq ih =>
    rename_i m
    obtain ⟨h1, h2⟩ := ih (by omega)
    obtain ⟨r, hr, hst, _, he⟩ := can_at h.can m _ (List.getElem?_eq_getElem (show m < ops.toList.length by omega))
    rw [he]
    have := step_ext hcall hst (b := b) (hm r (List.mem_of_getElem? hr)) (by omega)
    exact ⟨Nat.le_trans h1 this.1, h2.trans this⟩
theorem RegF.mono (h : RegF P T call ops rs sl0 hp0 base N) (hcall : CallOk P call) {i j : Nat} (hij : i ≤ j) (hj : j ≤ ops.toList.length) : (hpAt rs hp0 i).n ≤ (hpAt rs hp0 j).n ∧ Ext base (hpAt rs hp0 i) (hpAt rs hp0 j) := by
  have h0 := (h.ext hcall (Nat.zero_le i) (by omega) (b := base) h.le h.mu).1
  have hl := h.le
  have e0 : hpAt rs hp0 0 = hp0 := by simp [hpAt, hpR]
  rw [e0] at h0
  exact h.ext hcall hij hj (by omega) h.mu
/-- an object that nobody writes -/
theorem RegF.get (h : RegF P T call ops rs sl0 hp0 base N) (hcall : CallOk P call) {id i j : Nat} (hk : ∀ (q : Nat) r, rs[q]? = some r → id < (hpAt rs hp0 q).n → r.hp.get id = (hpAt rs hp0 q).get id) (hij : i ≤ j) (hj : j ≤ ops.toList.length) (hid : id < (hpAt rs hp0 i).n) : (hpAt rs hp0 j).get id = (hpAt rs hp0 i).get id := by
  induction hij with
  | refl => rfl
  | step hq ih =>
    rename_i m
    obtain ⟨r, hr, hst, _, he⟩ := can_at h.can m _ (List.getElem?_eq_getElem (show m < ops.toList.length by omega))
    have hle := (h.mono hcall hq (by omega)).1
    rw [he, hk m r hr (by omega)]
    exact ih (by omega)
/-- the same, between two places -/
theorem RegF.getR (h : RegF P T call ops rs sl0 hp0 base N) (hcall : CallOk P call) {id i j : Nat} (hk : ∀ (q : Nat) r, i ≤ q → q < j → rs[q]? = some r → id < (hpAt rs hp0 q).n → r.hp.get id = (hpAt rs hp0 q).get id) (hij : i ≤ j) (hj : j ≤ ops.toList.length) (hid : id < (hpAt rs hp0 i).n) : (hpAt rs hp0 j).get id = (hpAt rs hp0 i).get id := by
  induction hij with
  | refl => rfl
  | step hq ih =>
    rename_i m
    obtain ⟨r, hr, hst, _, he⟩ := can_at h.can m _ (List.getElem?_eq_getElem (show m < ops.toList.length by omega))
    have hle := (h.mono hcall hq (by omega)).1
    rw [he, hk m r hq (Nat.lt_succ_self _) hr (by omega)]
    exact ih (fun q r h1 h2 => hk q r h1 (by omega)) (by omega)
/-- such an operation leaves the heap -/
theorem flt_hp {o : Oper} {sl : Slots} {hp : Hp} {r : Rec} (hf : flt T o.op = true) (h : StepC T call ds o sl hp r) : r.hp = hp := by
  rcases h with ⟨_, h⟩ | ⟨_, rfl⟩
  · unfold opE at h
    split at h
    · rename_i q hq
      have hqq : q = (r.d, r.hp, r.mu) := by simpa using h
      subst hqq
      cases hop : o.op with
      | load t x =>
        rw [hop] at hq
        simp only [aop] at hq
        unfold opLoad at hq
        have hk : ∀ {y : Option DV} {z : DV × Hp × Mut}, outR (keep hp y) = .done z → z.2.1 = hp := by
          intro y z hy
          cases y with
          | none => cases hy
          | some y => cases hy; rfl
        split at hq
        · split at hq
          · exact hk hq
          · cases hq
        · exact hk hq
        · cases hq
      | slice t x lo hi mx =>
        rw [hop] at hq
        simp only [aop] at hq
        unfold opSlice at hq
        split at hq
        · cases hs : sliceD T hp _ _ _ _ _ with
          | none => rw [hs] at hq; cases hq
          | some y =>
            rw [hs] at hq
            simp only [keep, outR] at hq
            injection hq with hq
            injection hq with h1 h2
            injection h2 with h3 h4
            exact h3.symm
        · cases hq
      | _ =>
        rw [hop] at hq hf
        simp only [flt] at hf
        exact (aop_dry hf hq).1
    · rename_i f args hq
      cases hop : o.op with
      | load t x =>
        rw [hop] at hq
        simp only [aop] at hq
        unfold opLoad at hq
        have hk : ∀ {y : Option DV}, outR (keep hp y) ≠ .call f args := by
          intro y hy
          cases y <;> cases hy
        split at hq
        · split at hq
          · exact absurd hq hk
          · cases hq
        · exact absurd hq hk
        · cases hq
      | slice t x lo hi mx =>
        rw [hop] at hq
        simp only [aop] at hq
        unfold opSlice at hq
        split at hq
        · cases hs : sliceD T hp _ _ _ _ _ with
          | none => rw [hs] at hq; cases hq
          | some y => rw [hs] at hq; cases hq
        · cases hq
      | _ =>
        rw [hop] at hq hf
        simp only [flt] at hf
        exact absurd hq (dry_not_call hf f args)
    · rename_i f args hq
      cases hop : o.op with
      | load t x =>
        rw [hop] at hq
        simp only [aop] at hq
        unfold opLoad at hq
        have hk : ∀ {y : Option DV}, outR (keep hp y) ≠ .yld f args := by
          intro y hy
          cases y <;> cases hy
        split at hq
        · split at hq
          · exact absurd hq hk
          · cases hq
        · exact absurd hq hk
        · cases hq
      | slice t x lo hi mx =>
        rw [hop] at hq
        simp only [aop] at hq
        unfold opSlice at hq
        split at hq
        · cases hs : sliceD T hp _ _ _ _ _ with
          | none => rw [hs] at hq; cases hq
          | some y => rw [hs] at hq; cases hq
        · cases hq
      | _ =>
        rw [hop] at hq hf
        simp only [flt] at hf
        exact absurd hq (dry_not_yld hf f args)
    · cases h
  · rfl
theorem RegF.flt (h : RegF P T call ops rs sl0 hp0 base N) {i j : Nat} (hij : i ≤ j) (hj : j ≤ ops.toList.length) (hf : ∀ (m : Nat) o, i ≤ m → m < j → ops.toList[m]? = some o → Go.Proofs.Ytgjgihlfkpbdgaa.flt T o.op = true) : hpAt rs hp0 j = hpAt rs hp0 i := by
  induction hij with
  | refl => rfl
  | step hq ih =>
    rename_i m
    obtain ⟨r, hr, hst, _, he⟩ := can_at h.can m _ (List.getElem?_eq_getElem (show m < ops.toList.length by omega))
    rw [he, flt_hp (hf m _ hq (Nat.lt_succ_self _) (List.getElem?_eq_getElem (show m < ops.toList.length by omega))) hst]
    exact ih (by omega) fun m' o h1 h2 => hf m' o h1 (by omega)
theorem noMu_ok {o : Oper} {sl : Slots} {hp : Hp} {r : Rec} (hf : noMu T o = true) (h : StepC T call ds o sl hp r) : r.hp = hp ∨ r.mu = none := by
  cases hq : flt T o.op with
  | true => exact .inl (flt_hp hq h)
  | false =>
    right
    rcases h with ⟨_, h⟩ | ⟨_, rfl⟩
    · unfold noMu at hf
      unfold opE at h
      split at h
      · rename_i q hqq
        have hz : q = (r.d, r.hp, r.mu) := by simpa using h
        subst hz
        split at hf
        · rename_i t n ps hop
          rw [hop] at hqq
          simp only [aop, opBuildSlice] at hqq
          repeat (split at hqq <;> first | (cases hqq; done) | skip)
          all_goals (injection hqq with hqq; injection hqq with _ hqq; injection hqq with _ hqq; exact hqq.symm)
        · rename_i t l c hop
          rw [hop] at hqq
          simp only [aop, opMakeSlice] at hqq
          repeat (split at hqq <;> first | (cases hqq; done) | skip)
          all_goals (unfold mkRow at hqq; split at hqq <;> (injection hqq with hqq; injection hqq with _ hqq; injection hqq with _ hqq; exact hqq.symm))
        · rename_i t hop
          rw [hop] at hqq
          simp only [aop, opAlloc] at hqq
          repeat (split at hqq <;> first | (cases hqq; done) | skip)
          all_goals (injection hqq with hqq; injection hqq with _ hqq; injection hqq with _ hqq; exact hqq.symm)
        · rw [hq] at hf; cases hf
      · rename_i f args hqq
        exfalso
        split at hf
        · rename_i t n ps hop
          rw [hop] at hqq
          simp only [aop, opBuildSlice] at hqq
          repeat (split at hqq <;> first | (cases hqq; done) | skip)
        · rename_i t l c hop
          rw [hop] at hqq
          simp only [aop, opMakeSlice] at hqq
          repeat (split at hqq <;> first | (cases hqq; done) | skip)
        · rename_i t hop
          rw [hop] at hqq
          simp only [aop, opAlloc] at hqq
          repeat (split at hqq <;> first | (cases hqq; done) | skip)
        · rw [hq] at hf; cases hf
      · rename_i f args hqq
        exfalso
        split at hf
        · rename_i t n ps hop
          rw [hop] at hqq
          simp only [aop, opBuildSlice] at hqq
          repeat (split at hqq <;> first | (cases hqq; done) | skip)
        · rename_i t l c hop
          rw [hop] at hqq
          simp only [aop, opMakeSlice] at hqq
          repeat (split at hqq <;> first | (cases hqq; done) | skip)
        · rename_i t hop
          rw [hop] at hqq
          simp only [aop, opAlloc] at hqq
          repeat (split at hqq <;> first | (cases hqq; done) | skip)
        · rw [hq] at hf; cases hf
      · cases h
    · rfl
structure InvF (dl : List Deferred) (W0 : World) (base : Nat) (S0 : Nat → Prop) (N : Nat) (ops : Array Oper) (rs : List Rec) (sl0 : Slots) (hp0 : Hp) (E0 : Env) (w0 : World) (T : Tab) (D : Nat → Prop) (E : Env) (i : Nat) (a : Act) (w : World) : Prop where
  com : Com dl E0 w0 hp0 N E a w
  len : i ≤ ops.toList.length
  tail : ∀ j o, ops.toList[j]? = some o → flt T o.op = false → (D j ↔ j < i)
  hs : HS W0 base S0 E (hpAt rs hp0 i) w
  sl : Shown ops rs sl0 D (fun _ => E) a w
/-- one of those that may come at any time, at another heap -/
theorem flt_at (hcall : CallOk P call) (hR : RegF P T call ops rs sl0 hp0 base N) {D : Nat → Prop} (hD : Closed ops.toList D) {q i : Nat} (htail : ∀ j o, ops.toList[j]? = some o → Go.Proofs.Ytgjgihlfkpbdgaa.flt T o.op = false → (D j ↔ j < i)) (hDq : ¬ D q) (hi0 : i ≤ ops.toList.length) {o : Oper} {r : Rec} (ho : ops.toList[q]? = some o) (hwq : Waits D o) (hf : flt T o.op = true) (hst : StepC T call (ops.toList.map (·.dst)) o (slAt ops.toList rs sl0 q) (hpAt rs hp0 q) r)
    (hlook : ∀ x id off, o.op.operands = #[x] → ev (slAt ops.toList rs sl0 q) x = some (.ptr id off) → ∃ ob, (hpAt rs hp0 i).get id = some ob)
    (hlook' : ∀ t x lo hi mx id off, o.op = .slice t x lo hi mx → ev (slAt ops.toList rs sl0 q) x = some (.ptr id off) → ∃ ob, (hpAt rs hp0 i).get id = some ob) : StepC T call (ops.toList.map (·.dst)) o (slAt ops.toList rs sl0 q) (hpAt rs hp0 i) ⟨r.d, hpAt rs hp0 i, none⟩ := by
  have hql := (List.getElem?_eq_some_iff.1 ho).1
  rcases hst with ⟨hg, hop⟩ | ⟨hg, hre⟩
  · refine .inl ⟨hg, ?_⟩
    unfold opE at hop ⊢
    cases hoo : o.op with
    | load t x =>
      rw [hoo] at hop
      simp only [aop] at hop ⊢
      unfold opLoad at hop ⊢
      cases ht : T t with
      | none => rw [ht] at hop; cases hop
      | some ti =>
        rw [ht] at hop
        cases hx : ev (slAt ops.toList rs sl0 q) x with
        | none => rw [hx] at hop; cases hop
        | some d =>
          rw [hx] at hop
          cases d with
          | ptr id off =>
            simp only at hop ⊢
            obtain ⟨ob, hob⟩ := hlook x id off (by rw [hoo]; rfl) hx
            cases hq : (hpAt rs hp0 q).get id with
            | none => rw [hq] at hop; cases hop
            | some o2 =>
              rw [hq] at hop
              have hlo := hR.lo q o t x id off ho hg hoo hx
              have hlt : ∀ (m : Nat) om, ops.toList[m]? = some om → Closed ops.toList (fun j => j < m) ∧ Waits (fun j => j < m) om := fun m om hom =>
                ⟨fun i' o' e' ho' hi' he hb => (by have h1 := hR.chk.back i' o' e' ho' he hb; have h2 : i' < m := hi'; show e'.on < m; omega), fun e' he hb => hR.chk.back m om e' hom he hb⟩
              have e : o2 = ob := by
                rcases Nat.le_total i q with h1 | h1
                · have := hR.getR hcall (i := i) (j := q) (fun m r' k1 k2 hr' hn => by
                    rcases hlo m r' hr' hn with z | ⟨om, hom, hfm, z | z⟩
                    · exact z
                    · have := (htail m om hom hfm).1 (z D hD hwq)
                      omega
                    · have := z _ (hlt m om hom).1 (hlt m om hom).2
                      omega) h1 (by omega) (Hp.get_lt hob)
                  rw [hq, hob] at this
                  exact Option.some.inj this
                · have := hR.getR hcall (i := q) (j := i) (fun m r' k1 k2 hr' hn => by
                    rcases hlo m r' hr' hn with z | ⟨om, hom, hfm, z | z⟩
                    · exact z
                    · have := z _ (hlt q o ho).1 (hlt q o ho).2
                      omega
                    · exact absurd (z D hD fun e' he hb => hD m om e' hom ((htail m om hom hfm).2 k2) he hb) hDq) h1 hi0 (Hp.get_lt hq)
                  rw [hq, hob] at this
                  exact (Option.some.inj this).symm
              subst e
              rw [hob]
              simp only at hop ⊢
              cases hp2 : partD ti o2.cs off with
              | none => rw [hp2] at hop; cases hop
              | some d =>
                rw [hp2] at hop
                simp only [keep, outR] at hop ⊢
                injection hop with hop
                injection hop with h1 h2
                rw [h1]
          | fptr cs =>
            simp only at hop ⊢
            cases hp2 : partD ti cs 0 with
            | none => rw [hp2] at hop; cases hop
            | some d =>
              rw [hp2] at hop
              simp only [keep, outR] at hop ⊢
              injection hop with hop
              injection hop with h1 h2
              rw [h1]
          | _ => cases hop
    | slice t x lo hi mx =>
      rw [hoo] at hop
      simp only [aop] at hop ⊢
      unfold opSlice at hop ⊢
      cases ht : T t with
      | none => rw [ht] at hop; cases hop
      | some ti =>
        rw [ht] at hop
        cases hx : ev (slAt ops.toList rs sl0 q) x with
        | none => rw [hx] at hop; cases hop
        | some d =>
          rw [hx] at hop
          cases hlo : evO (slAt ops.toList rs sl0 q) lo with
          | none => rw [hlo] at hop; cases hop
          | some lo' =>
          rw [hlo] at hop
          cases hhi : evO (slAt ops.toList rs sl0 q) hi with
          | none => rw [hhi] at hop; cases hop
          | some hi' =>
          rw [hhi] at hop
          cases hmx : evO (slAt ops.toList rs sl0 q) mx with
          | none => rw [hmx] at hop; cases hop
          | some mx' =>
          rw [hmx] at hop
          simp only at hop ⊢
          have e : sliceD T (hpAt rs hp0 i) ti d lo' hi' mx' = sliceD T (hpAt rs hp0 q) ti d lo' hi' mx' := by
            cases hs : sliceD T (hpAt rs hp0 q) ti d lo' hi' mx' with
            | none => rw [hs] at hop; cases hop
            | some y =>
            rw [← hs]
            unfold sliceD
            split <;> first | rfl | skip
            rename_i n e id off htd
            cases hj : T e with
            | none => rfl
            | some j =>
            obtain ⟨ob, hob⟩ := hlook' t x lo hi mx id off hoo hx
            have hbig := hR.sli q o id (off + n * j.size) ho hg (by rw [hoo]; simp only [aslOf, ht, hx, htd, hj])
            have b1 := bleT (hbig i ob hi0 hob)
            rw [hob]
            unfold sliceD at hs
            simp only [htd, hj] at hs
            cases hq : (hpAt rs hp0 q).get id with
            | none =>
              rw [hq] at hs
              split at hs <;> first | (cases hs; done) | skip
              simp_all
            | some o2 =>
            have b2 := bleT (hbig q o2 (by omega) hq)
            cases mx' with
            | some _ => rfl
            | none =>
            cases h1 : optI hi' n with
            | none => rfl
            | some h =>
            cases h2 : optI lo' 0 with
            | none => rfl
            | some l => simp only [b1, b2]
          rw [e]
          cases hs : sliceD T (hpAt rs hp0 q) ti d lo' hi' mx' with
          | none => rw [hs] at hop; cases hop
          | some y =>
            rw [hs] at hop
            simp only [keep, outR] at hop ⊢
            injection hop with hop
            injection hop with h1 h2
            rw [h1]
    | _ =>
      rw [hoo] at hop hf
      simp only [Go.Proofs.Ytgjgihlfkpbdgaa.flt] at hf
      split at hop
      · rename_i z hz
        have hzz : z = (r.d, r.hp, r.mu) := by simpa using hop
        subst hzz
        obtain ⟨_, _, h3⟩ := aop_dry hf hz
        rw [h3]
      · rename_i f args hz
        exact absurd hz (dry_not_call hf f args)
      · rename_i f args hz
        exact absurd hz (dry_not_yld hf f args)
      · cases hop
  · exact .inr ⟨hg, by rw [hre]⟩
theorem stepF (hT : TabOk P T) (hcall : CallOk P call) (hR : RegF P T call ops rs sl0 hp0 base N) {i : Nat} (h : InvF dl W0 base S0 N ops rs sl0 hp0 E0 w0 T D E i a w) (hD : Closed ops.toList D) {q : Nat} {o : Oper} (ho : ops.toList[q]? = some o) (hDq : ¬ D q) (hw : Waits D o) :
    wpOpIn (Fr ro) 0 P ops Q q (fun a w => ∃ E i, InvF dl W0 base S0 N ops rs sl0 hp0 E0 w0 T (fun j => D j ∨ j = q) E i a w) a w := by
  obtain ⟨r, hr, hst, hsl1, hhp1⟩ := can_at hR.can q o ho
  have hql := (List.getElem?_eq_some_iff.1 ho).1
  have hlook : ∀ t d, t ∈ o.looksAt ops → look (slAt ops.toList rs sl0 q) t = some d → VR w E d (a.tmps.getD t undef) := fun t d ht hd => h.sl t q (by omega) (look_pos hR.chk.chk hD ho hDq hw ht) d hd
  have hput := fun {E' : Env} {w' : World} {v : Value} (hl : Later E w E' w') (hv : VR w' E' r.d v) => shown_put0 (can_len hR.can) hR.chk.chk hR.dst hD ho hr hDq h.sl (fun _ _ => hl) (fun _ _ _ => hv) h.com.size
  cases hf : flt T o.op
  · -- the next one
    have hqi : i ≤ q := by
      rcases Nat.lt_or_ge q i with hlt | hge
      · exact absurd ((h.tail q o ho hf).2 hlt) hDq
      · exact hge
    have hbtw : ∀ (m : Nat) om, i ≤ m → m < q → ops.toList[m]? = some om → flt T om.op = true := by
      intro m om h1 h2 hom
      cases hfm : flt T om.op
      · exfalso
        have hDm : D m := by
          rcases hR.chk.pair q m o om (by omega) ho hom with hb | ⟨_, hb⟩
          · exact hb D hD hw
          · rcases hb with hb | hb | hb
            · rw [hf] at hb; cases hb
            · omega
            · rw [hfm] at hb; cases hb
        have := (h.tail m om hom hfm).1 hDm
        omega
      · rfl
    have hheap := hR.flt hqi (by omega) hbtw
    have hs0 := h.hs
    rw [← hheap] at hs0
    refine one_ok hT hcall ho hst hs0 hlook (hR.mu r (List.mem_of_getElem? hr)) fun E' v w' hs hv => ⟨E', q + 1, ?_⟩
    have hle0 := (hR.mono hcall (Nat.zero_le q) (by omega)).1
    have e0 : hpAt rs hp0 0 = hp0 := by simp [hpAt, hpR]
    rw [e0] at hle0
    refine ⟨h.com.next hs.later (fun id hid hd => hs.dom id (Nat.lt_of_lt_of_le hid hle0) hd) hs.oth hs.yb _ _, by omega, fun j oj hj hfj => ?_, by rw [hhp1]; exact hs.hs, hput hs.later hv⟩
    rw [h.tail j oj hj hfj]
    constructor
    · rintro (h1 | h1) <;> omega
    · intro h1
      rcases Nat.lt_or_ge j i with h2 | h2
      · exact .inl h2
      · right
        rcases Nat.lt_or_ge j q with h3 | h3
        · have := hbtw j oj h2 h3 hj
          rw [hfj] at this; cases this
        · omega
  · -- one that may come at any time
    have hcomm : ∀ x id off, x ∈ o.op.operands.toList → ev (slAt ops.toList rs sl0 q) x = some (.ptr id off) → ∃ ob, (hpAt rs hp0 i).get id = some ob := by
      intro x id off hmem hev
      have hxt : ∃ t, x = .tmp t := by
        cases x with
        | tmp t => exact ⟨t, rfl⟩
        | const v =>
          exfalso
          simp only [ev] at hev
          cases v <;> simp only [cv, cv1] at hev <;> first | (cases hev; done) | skip
          all_goals (try (split at hev <;> cases hev))
        | func f => cases hev
        | global g =>
          simp only [ev] at hev
          split at hev <;> cases hev
      obtain ⟨t, rfl⟩ := hxt
      have hm : t ∈ o.looksAt ops := by
        unfold Oper.looksAt
        rw [List.mem_append]
        left
        rw [List.mem_filterMap]
        exact ⟨.tmp t, hmem, rfl⟩
      obtain ⟨ob, hob, _⟩ := h.hs.ob id (hlook t _ hm hev).of_ptr.2
      exact ⟨ob, hob⟩
    have hst' := flt_at hcall hR hD h.tail hDq h.len ho hw hf hst (fun x id off hx hev => hcomm x id off (by rw [hx]; simp) hev) (fun t x lo hi mx id off hoo hev => hcomm x id off (by rw [hoo]; simp [Op.operands]) hev)
    refine one_ok hT hcall ho hst' h.hs.pure hlook trivial fun E' v w' hs hv => ⟨mrg E E' (hpAt rs hp0 i).n (hpAt rs hp0 i).n, i, ?_⟩
    have hno : ∀ id, ¬ ((hpAt rs hp0 i).n ≤ id ∧ id < (hpAt rs hp0 i).n) := fun id hh => by omega
    obtain ⟨m1, m2, m3⟩ := HS.merge h.hs (E1 := E) (E' := E') (hpX := hpAt rs hp0 i) (hpY := hpAt rs hp0 i) (a := (hpAt rs hp0 i).n) (b := (hpAt rs hp0 i).n) h.hs.pure hs.hs hs.later (fun id hd => ⟨hd, rfl, rfl, rfl, Iff.rfl⟩) rfl (fun id hd => .inl (hs.dom id (hs.hs.dlt hd) hd)) (fun id _ => hno id) (fun id h1 h2 => by omega) h.hs.le hs.yb
    refine ⟨h.com.next m2 (fun id hid hd => hd.elim (fun hh => hh) (fun hh => by omega)) hs.oth hs.yb _ _, h.len, fun j oj hj hfj => ?_, m1, hput m2 (hv.later m3)⟩
    rw [← h.tail j oj hj hfj]
    refine ⟨fun hh => hh.resolve_right fun e => ?_, .inl⟩
    subst e
    rw [ho] at hj
    cases hj
    rw [hf] at hfj
    cases hfj
theorem InvF.done (hR : RegF P T call ops rs sl0 hp0 base N) (hcall : CallOk P call) (hdf : DfrOk W0 fm.fl E0 w0 dl) (hro : RoOk fm E0 hp0 dl) {i : Nat} (h : InvF dl W0 base S0 N ops rs sl0 hp0 E0 w0 T D E i a w) (hall : ∀ j, j < ops.toList.length → D j) :
    Stp W0 base S0 E0 hp0 w0 E (hpAt rs hp0 ops.toList.length) w ∧ Sim fm W0 base S0 E N (slAt ops.toList rs sl0 ops.toList.length) (hpAt rs hp0 ops.toList.length) a w := by
  have hheap := hR.flt h.len (Nat.le_refl _) fun m om h1 h2 hom => by
    cases hfm : flt T om.op
    · have := (h.tail m om hom hfm).1 (hall m h2)
      omega
    · rfl
  have hs0 := h.hs
  rw [← hheap] at hs0
  have hx := (hR.mono hcall (Nat.zero_le _) (Nat.le_refl _)).2
  have e0 : hpAt rs hp0 0 = hp0 := by simp [hpAt, hpR]
  rw [e0] at hx
  refine ⟨⟨h.com.later, hs0, hx, h.com.dom, h.com.oth, h.com.yb⟩, hs0, (by rw [h.com.defers]; exact hdf.step h.com.oth h.com.yb), (by rw [h.com.defers]; exact hro.step h.com.yb hx.ls), h.com.size, fun t d hd => h.sl t _ (Nat.le_refl _) (fun j o hj _ => ?_) d hd⟩
  have := (List.getElem?_eq_some_iff.1 hj).1
  exact ⟨fun _ => this, fun _ => hall j this⟩
/-- all of a region's operations, one by one, by an invariant -/
theorem any_gen {I : (Nat → Prop) → Act → World → Prop} (hback : ∀ (i : Nat) o e, ops.toList[i]? = some o → e ∈ o.after.toList → Region.binds .any e = true → e.on < i)
    (hstep : ∀ D a w, I D a w → Closed ops.toList D → ∀ (q : Nat) o, ops.toList[q]? = some o → ¬ D q → Waits D o → wpOpIn (Fr ro) 0 P ops Q q (I fun j => D j ∨ j = q) a w)
    (hdone : ∀ D a w, I D a w → (∀ j, j < ops.toList.length → D j) → Q .normal a w) :
    ∀ (fuel : Nat) (listed : Array Bool) (a : Act) (w : World), listed.size = ops.size → Closed ops.toList (fun j => listed.getD j false = true) → (List.range ops.size).countP (fun j => !listed.getD j false) ≤ fuel →
      I (fun j => listed.getD j false = true) a w → wpAnyIn (Fr ro) 0 P .any ops Q fuel listed a w := by
  have hfin : ∀ (listed : Array Bool) (a : Act) (w : World), (∀ j, j < ops.size → listed.getD j false = true) → I (fun j => listed.getD j false = true) a w → Q .normal a w := by
    intro listed a w hall h
    exact hdone _ a w h (fun j hj => hall j (by simpa using hj))
  have hleast : ∀ (listed : Array Bool), listed.size = ops.size → Region.ready .any ops listed = [] → ∀ j, j < ops.size → listed.getD j false = true := by
    intro listed hl hr j
    induction j using Nat.strongRecOn with
    | _ j ih =>
      intro hj
      cases hq : listed.getD j false
      · exfalso
        obtain ⟨o, ho⟩ : ∃ o, ops.toList[j]? = some o := ⟨_, List.getElem?_eq_getElem (by simp; omega)⟩
        have : j ∈ Region.ready .any ops listed := by
          rw [mem_ready]
          have hlt : j < listed.size := by omega
          refine ⟨?_, o, by simpa using ho, fun e he hb => ?_⟩
          · rw [Array.getD_eq_getD_getElem?, Array.getElem?_eq_getElem hlt] at hq ⊢
            exact hq
          · have := hback j o e ho (by simpa using he) hb
            exact ih e.on this (by omega)
        rw [hr] at this
        cases this
      · rfl
  intro fuel
  induction fuel with
  | zero =>
    intro listed a w hl hcl hf hinv
    have hall : ∀ j, j < ops.size → listed.getD j false = true := fun j hj => by
      cases hq : listed.getD j false
      · exfalso
        have : 0 < (List.range ops.size).countP (fun j => !listed.getD j false) := List.countP_pos_iff.2 ⟨j, by simpa using hj, by rw [hq]; rfl⟩
        omega
      · rfl
    refine ⟨?_, hfin listed a w hall hinv⟩
    rw [List.eq_nil_iff_forall_not_mem]
    intro j hj
    obtain ⟨h1, o, ho, _⟩ := mem_ready.1 hj
    have hlt := (Array.getElem?_eq_some_iff.1 ho).1
    have h2 := hall j hlt
    rw [Array.getD_eq_getD_getElem?, Array.getElem?_eq_getElem (show j < listed.size by omega)] at h1 h2
    simp at h1 h2
    rw [h1] at h2
    cases h2
  | succ fuel ih =>
    intro listed a w hl hcl hf hinv
    refine ⟨fun hr => hfin listed a w (hleast listed hl hr) hinv, fun i hi => ?_⟩
    obtain ⟨h1, o, ho, hwt⟩ := mem_ready.1 hi
    have hilt := (Array.getElem?_eq_some_iff.1 ho).1
    have ho' : ops.toList[i]? = some o := by simpa using ho
    have hDi : ¬ (listed.getD i false = true) := by
      rw [Array.getD_eq_getD_getElem?, Array.getElem?_eq_getElem (show i < listed.size by omega)] at h1 ⊢
      simp at h1 ⊢
      exact h1
    have hw : Waits (fun j => listed.getD j false = true) o := fun e he hb => hwt e (by simpa using he) hb
    have hset : ∀ j, ((listed.setIfInBounds i true).getD j false = true) ↔ (listed.getD j false = true ∨ j = i) := fun j => by
      by_cases e : i = j
      · subst e; rw [getD_set_self (by omega)]; simp
      · rw [getD_set_other e]
        exact ⟨.inl, fun h => h.resolve_right fun h => e h.symm⟩
    refine wpOpIn_mono (fun a' w' h' => ih (listed.setIfInBounds i true) a' w' (by simpa using hl) (fun i' o' e ho' hi' he hb => ?_) ?_ ?_) (hstep _ a w hinv hcl i o ho' hDi hw)
    · have hi'' := (hset i').1 hi'
      refine (hset e.on).2 ?_
      rcases hi'' with hi'' | rfl
      · exact .inl (hcl i' o' e ho' hi'' he hb)
      · rename_i hoo
        rw [hoo] at ho'
        cases ho'
        exact .inl (hw e he hb)
    · have := countP_lt (fun j => !listed.getD j false) (fun j => !(listed.setIfInBounds i true).getD j false) (List.range ops.size) (fun j _ h => by
        cases hq : listed.getD j false
        · rfl
        · have := (hset j).2 (.inl hq)
          simp [this] at h) ⟨i, by simpa using hilt, by simpa using hDi, by simp [(hset i).2 (.inr rfl)]⟩
      omega
    · have e : (fun j => (listed.setIfInBounds i true).getD j false = true) = fun j => listed.getD j false = true ∨ j = i := funext fun j => propext (hset j)
      rw [e]
      exact h'
theorem regF_ok (hT : TabOk P T) (hmix : P.follows .mixedOrders = true) (hcall : CallOk P call) {id sf : Nat} (hc : fltChk T ops = true) (hsc : sfChk T ops sf = true) (hds : dstsOk N (ops.toList.map (·.dst)) = true) {sl : Slots} {hp : Hp} {sl' : Slots} {hp' : Hp} {mu : Mut}
    (h : regF T call sf (ops.toList.map (·.dst)) ops.toList sl hp [] [] none = some (sl', hp', mu)) (hsf : slF T call (ops.toList.map (·.dst)) ops.toList sl hp = true) {E : Env} {a : Act} {w : World} (hs : Sim fm W0 base S0 E N sl hp a w) (hmu : mutOk base mu) (hQ : ∀ E' a' w', Stp W0 base S0 E hp w E' hp' w' → Sim fm W0 base S0 E' N sl' hp' a' w' → Q .normal a' w') :
    (Code.region id ops true).wpIn (Fr ro) 0 P Q a w := by
  have hck := fltChk_ok hc
  obtain ⟨rs, LD, MS, h1, h2, h3, h4, h5, _, _, h8, h9⟩ := regF_can h
  have hlen := can_len h1
  have hR : RegF P T call ops rs sl hp base N := ⟨h1, (h4 base hmu).2, fun j o t x id off hj hg hop hev q r hr hlt => by
    have hql : q < ops.toList.length := by rw [hlen]; exact (List.getElem?_eq_some_iff.1 hr).1
    obtain ⟨r', hr', hst, _⟩ := can_at h1 q _ (List.getElem?_eq_getElem hql)
    rw [hr] at hr'
    cases hr'
    have hlow : ∀ {m}, r.mu = m → mutOk (id + 1) m → r.hp.get id = (hpAt rs hp q).get id := fun {m} hm hmo => (step_ext hcall hst (b := id + 1) (by rw [hm]; exact hmo) hlt).2 id (Nat.lt_succ_self _)
    cases hsfo : sfOf sf o with
    | false =>
      left
      have hld := lmOk_ok h5 id (h8 j o t x id off hj hg hop hsfo hev)
      cases hm : r.mu with
      | none => exact hlow hm trivial
      | some m =>
        obtain ⟨ex, hmem, hex⟩ := h9 q _ r m (List.getElem?_eq_getElem hql) hr hm
        rcases lmOk1_ok hld m ex hmem with ⟨e1, e2⟩ | hlt2
        · exact stEx_ok (hex e1) hst hm e2
        · exact hlow hm (show id + 1 ≤ m by omega)
    | true =>
      cases hno : noMu T ops.toList[q] with
      | true =>
        left
        rcases noMu_ok hno hst with e1 | e1
        · rw [e1]
        · exact hlow e1 trivial
      | false =>
        right
        have hjl : j < ops.toList.length := (List.getElem?_eq_some_iff.1 hj).1
        have hmask : ∀ (D : Nat → Prop), Closed ops.toList D → ∀ (i : Nat) o, ops.toList[i]? = some o → Waits D o → ∀ j, ((masksL [] ops.toList).getD i 0).testBit j = true → D j := fun D hD i o hi hw j hj => by
          have hl : i < (masksL [] ops.toList).length := by rw [masksL_length]; have := (List.getElem?_eq_some_iff.1 hi).1; simpa using this
          refine masksL_ok ops.toList D hD ops.toList [] rfl (fun i m o hi => by simp at hi) i _ o (List.getElem?_eq_getElem hl) hi hw j ?_
          simpa [List.getD, List.getElem?_eq_getElem hl] using hj
        have hsc' := hsc
        simp only [sfChk, List.all_eq_true, List.mem_range] at hsc'
        have z := hsc' j hjl
        rw [hj] at z
        simp only [hsfo, Bool.not_true, Bool.false_or, List.all_eq_true, List.mem_range] at z
        have z := z q hql
        rw [List.getElem?_eq_getElem hql] at z
        simp only [hno, Bool.false_or, Bool.or_eq_true] at z
        refine ⟨_, List.getElem?_eq_getElem hql, ?_, ?_⟩
        · cases hfl : flt T ops.toList[q].op with
          | false => rfl
          | true =>
            exfalso
            unfold noMu at hno
            split at hno
            · cases hno
            · cases hno
            · cases hno
            · rw [hfl] at hno; cases hno
        · rcases z with z | z
          · exact .inl fun D hD hw => hmask D hD j o hj hw q z
          · exact .inr fun D hD hw => hmask D hD q _ (List.getElem?_eq_getElem hql) hw j z, hck, hds, hs.hs.le, slF_ok h1 hsf⟩
  have hhp : hpAt rs hp ops.toList.length = hp' := by
    unfold hpAt
    rw [hlen, List.take_length, h3]
  have hsl : slAt ops.toList rs sl ops.toList.length = sl' := by rw [slR_take _ _ _ hlen, h2]
  obtain ⟨hdr, hldr⟩ := hs.hs.drew
  have hzero : hpAt rs hp 0 = hp := by simp [hpAt, hpR]
  have hdone : ∀ D a1 w1, (∃ E1 i, InvF a.defers W0 base S0 N ops rs sl hp E w T D E1 i a1 w1) → (∀ j, j < ops.toList.length → D j) → Q .normal a1 w1 := by
    intro D a1 w1 hI hall
    obtain ⟨E1, i, hI⟩ := hI
    obtain ⟨q1, q2⟩ := hI.done (fm := fm) hR hcall hs.dfr hs.ro hall
    rw [hhp] at q1 q2
    rw [hsl] at q2
    exact hQ E1 a1 w1 q1 q2
  refine wpIn_region_any hmix (any_gen (ro := ro) (I := fun D a1 w1 => ∃ E1 i, InvF a.defers W0 base S0 N ops rs sl hp E w T D E1 i a1 w1) hck.back (fun D a1 w1 hI hD q o ho hDq hw => hI.elim fun E1 hI => hI.elim fun i hI => stepF hT hcall hR hI hD ho hDq hw) hdone ops.size _ a _ (by simp) (fun i o e ho hi => ?_) ?_ ⟨E, 0, ?_⟩)
  · have hi : (Array.replicate ops.size false).getD i false = true := hi
    rw [rep_false] at hi
    cases hi
  · refine Nat.le_trans List.countP_le_length ?_
    simp
  · refine ⟨⟨hldr, fun _ _ h => h, rfl, hs.size, ⟨Nat.le_refl _, fun _ _ h => h, fun _ r h => ⟨r, h, rfl⟩⟩, rfl⟩, Nat.zero_le _, fun j o hj _ => ?_, by rw [hzero]; exact hdr, fun t i hi hat d hd => ?_⟩
    · constructor
      · intro h9
        have h9 : (Array.replicate ops.size false).getD j false = true := h9
        rw [rep_false] at h9
        cases h9
      · omega
    · have hno : ∀ (j : Nat) o, j < i → ops.toList[j]? = some o → o.dst ≠ some t := fun j o hj ho hdj => by
        have h9 : (Array.replicate ops.size false).getD j false = true := (hat j o ho hdj).2 hj
        rw [rep_false] at h9
        cases h9
      have key : ∀ m, m ≤ i → ∀ d, look (slAt ops.toList rs sl m) t = some d → look sl t = some d := by
        intro m
        induction m with
        | zero => intro _ d hd; simpa [slAt, slR] using hd
        | succ m ihm =>
          intro hm d hd
          have hml : m < ops.toList.length := by omega
          obtain ⟨r', hr', _, he, _⟩ := can_at h1 m _ (List.getElem?_eq_getElem hml)
          rw [he] at hd
          refine ihm (by omega) d ?_
          cases hdd : (ops.toList[m]).dst with
          | none => rw [hdd] at hd; exact hd
          | some s =>
            rw [hdd] at hd
            simp only [putO] at hd
            rcases look_put hd with ⟨rfl, _⟩ | ⟨_, hd⟩
            · exact absurd hdd (hno m _ (by omega) (List.getElem?_eq_getElem hml))
            · exact hd
      exact (hs.sl t d (key i (Nat.le_refl _) d hd)).later hldr
theorem can_ext (hcall : CallOk P call) {b : Nat} : ∀ {l : List Oper} {rs : List Rec} {sl : Slots} {hp : Hp}, Can T call ds l rs sl hp → (∀ r ∈ rs, mutOk b r.mu) → b ≤ hp.n → Ext b hp (hpR rs hp)
  | [], [], _, _, _, _, _ => Ext.refl _ _
  | [], _ :: _, _, _, h, _, _ => h.elim
  | _ :: _, [], _, _, h, _, _ => h.elim
  | _ :: l, r :: rs, _, _, h, hm, hle => by
    have e1 := step_ext hcall h.1 (hm r (by simp)) hle
    exact e1.trans (can_ext hcall h.2 (fun r' hr' => hm r' (by simp [hr'])) (Nat.le_trans hle e1.1))
theorem regF_ext (hcall : CallOk P call) {sf : Nat} {l : List Oper} {sl : Slots} {hp : Hp} {lds : List Nat} {ms : List (Nat × Bool)} {lo : Mut} {sl' : Slots} {hp' : Hp} {mu : Mut} (h : regF T call sf ds l sl hp lds ms lo = some (sl', hp', mu)) : ∀ b, mutOk b mu → b ≤ hp.n → Ext b hp hp' := by
  obtain ⟨rs, _, _, h1, _, h3, h4, _⟩ := regF_can h
  intro b hb hle
  rw [← h3]
  exact can_ext hcall h1 (h4 b hb).2 hle
end
end
end Go.Proofs.Ytgjgihlfkpbdgaa
/- Code over abstract data: regions whose operations come in the text's order, but for those that look at slots or at objects that nobody writes, or make objects out of constants. No function of the program is named here. -/
namespace Go.Proofs.Ytgjgihlfkpbdgaa
open Go.RowKit

noncomputable section
section
variable {P : Program} {T : Tab} {call : CallF} {W0 : World} {base : Nat} {S0 : Nat → Prop} {N : Nat} {ops : Array Oper} {rs : List Rec} {sl0 : Slots} {hp0 hp1 : Hp} {Q : Exit → Act → World → Prop} {E0 : Env} {w0 : World} {D : Nat → Prop} {E : Env} {a : Act} {w : World}
variable {ro : Option Nat} {dl : List Deferred} {fm : Fm} {ds : List (Option Tmp)}
theorem constP_mem : ∀ {l : List (Nat × Operand)}, constP l = true → ∀ x ∈ l, ∃ v, x.2 = .const v
  | [], _, x, h => by cases h
  | (i, .const v) :: l, h, x, hx => by
    rcases List.mem_cons.1 hx with rfl | hx
    · exact ⟨v, rfl⟩
    · exact constP_mem (l := l) h x hx
/-- an answer that names a new object -/
inductive MkS where
  | sl (s n c : Nat)
  | ptr
def MkS.d : MkS → Nat → DV
  | .sl s n c, id => .sl id 0 s n c
  | .ptr, id => .ptr id 0
theorem MkS.inj {k k' : MkS} {a b : Nat} (h : k.d a = k'.d b) : a = b := by
  cases k <;> cases k' <;> simp only [MkS.d] at h <;> cases h <;> rfl
theorem MkS.inD {k : MkS} {n : Nat} {E : Env} {w : World} {v : Value} (h : VR w E (k.d n) v) : E.D n := by
  cases k with
  | sl s m c =>
    obtain ⟨_, _, _, hd, _⟩ := h.of_sl
    exact hd
  | ptr => exact h.of_ptr.2
/-- what an object out of constants is -/
theorem mk_aop {o : Oper} (hm : isMk o = true) {hp hp' : Hp} {sl : Slots} {d : DV} (h : aop T hp sl o.op = .done (d, hp', none)) : o.guard = none ∧ ∃ (k : MkS) (e : Nat) (cells : List DV), d = k.d hp.n ∧ hp' = pushH hp 0 e cells ∧ ∀ hp2 sl2, aop T hp2 sl2 o.op = .done (k.d hp2.n, pushH hp2 0 e cells, none) := by
  unfold isMk at hm
  split at hm
  · rename_i t n ps hg ho
    refine ⟨hg, ?_⟩
    rw [ho] at h ⊢
    simp only [aop] at h ⊢
    have hev : ∀ sl2, evParts sl2 ps.toList = evParts sl ps.toList := fun sl2 => evParts_congr fun x hx => by
      obtain ⟨v, hv⟩ := constP_mem hm x hx
      rw [hv]
      rfl
    unfold opBuildSlice at h
    split at h
    · rename_i i pp hT hp2
      split at h
      · rename_i e htd
        split at h
        · rename_i j hTe
          split at h
          · rename_i z zs hz hb1 hb2
            split at h
            · rename_i cs hf
              cases h
              refine ⟨.sl j.size n n, e, cs, rfl, rfl, fun hp2' sl2 => ?_⟩
              unfold opBuildSlice
              rw [hT, hev sl2, hp2]
              simp only [htd, hTe, hz, hb1, hb2, hf]
              rfl
            · cases h
          · cases h
        · cases h
      · cases h
    · cases h
  · rename_i t ku nu v hg ho
    refine ⟨hg, ?_⟩
    rw [ho] at h ⊢
    simp only [aop] at h ⊢
    have hu : ∀ sl2, ev sl2 (.const (.int ku (.ofNat (nu + 1)))) = some (.int ku (.ofNat (nu + 1))) := fun _ => rfl
    unfold opMakeSlice at h
    rw [hu sl] at h
    split at h
    · rename_i i k1 l k2 c hT h1 h2
      cases h1
      split at h
      · rename_i e htd
        split at h
        · rename_i j hTe
          split at h
          · rename_i z zs hz
            split at h
            · rename_i hb
              cases h
              refine ⟨.sl j.size (nu + 1) c.toNat, e, nlist c.toNat (z :: zs), rfl, rfl, fun hp2' sl2 => ?_⟩
              unfold opMakeSlice
              rw [hT, hu sl2, show ev sl2 (.const v) = ev sl (.const v) from rfl, h2]
              simp only [htd, hTe, hz, hb]
              rfl
            · cases h
          · cases h
        · cases h
      · cases h
    · cases h
  · rename_i t hg ho
    refine ⟨hg, ?_⟩
    rw [ho] at h ⊢
    simp only [aop] at h ⊢
    unfold opAlloc at h
    split at h
    · rename_i i hT
      split at h
      · cases h
      · rename_i z zs hz
        cases h
        refine ⟨.ptr, t, z :: zs, rfl, rfl, fun hp2' sl2 => ?_⟩
        unfold opAlloc
        rw [hT]
        simp only [hz]
        rfl
    · cases h
  · cases hm
def MkR (T : Tab) : List Oper → List DV → Hp → Hp → Prop
  | [], _, hp, hp1 => hp = hp1
  | o :: l, dl, hp, hp1 => (isMk o = false ∧ MkR T l dl hp hp1) ∨ (isMk o = true ∧ ∃ (k : MkS) (e : Nat) (cells : List DV) (dl' : List DV), dl = k.d hp.n :: dl' ∧ (∀ hp2 sl2, aop T hp2 sl2 o.op = .done (k.d hp2.n, pushH hp2 0 e cells, none)) ∧ MkR T l dl' (pushH hp 0 e cells) hp1)
theorem regM1_ok : ∀ {l : List Oper} {hp hp1 : Hp} {dl : List DV}, regM1 T l hp = some (dl, hp1) → MkR T l dl hp hp1
  | [], hp, hp1, dl, h => by cases h; rfl
  | o :: l, hp, hp1, dl, h => by
    simp only [regM1] at h
    split at h
    · rename_i hm
      split at h
      · rename_i d hpx hop
        split at h
        · rename_i ds' hpy hrest
          cases h
          obtain ⟨_, k, e, cells, rfl, rfl, h3⟩ := mk_aop hm hop
          exact .inr ⟨hm, k, e, cells, ds', rfl, h3, regM1_ok hrest⟩
        · cases h
      · cases h
    · rename_i hm
      exact .inl ⟨hm, regM1_ok h⟩
theorem mkR_ext : ∀ {l : List Oper} {hp hp1 : Hp} {dl : List DV}, MkR T l dl hp hp1 → hp.n ≤ hp1.n ∧ (∀ id, id < hp.n → hp1.get id = hp.get id) ∧ hp1.ls = hp.ls
  | [], hp, hp1, dl, h => by cases h; exact ⟨Nat.le_refl _, fun _ _ => rfl, rfl⟩
  | o :: l, hp, hp1, dl, h => by
    rcases h with ⟨_, h⟩ | ⟨_, k, e, cells, dl', _, _, h⟩
    · exact mkR_ext h
    · obtain ⟨h1, h2, h3⟩ := mkR_ext h
      have hn : (pushH hp 0 e cells).n = hp.n + 1 := rfl
      refine ⟨by omega, fun id hid => (h2 id (by omega)).trans ?_, h3⟩
      unfold pushH
      rw [Hp.get_push, if_neg (by omega)]
abbrev MCan (T : Tab) (call : CallF) (ds : List (Option Tmp)) (M : Nat) (l : List Oper) (sl : Slots) (hp : Hp) (lds : List Nat) (ms : List (Nat × Bool)) (lo : Mut) (sl' : Slots) (hp' : Hp) (mu : Mut) (ha hb : Hp) : Prop :=
    ∃ rs LD MS, l.length = rs.length ∧ slR l rs sl = sl' ∧ hpR rs hp = hp' ∧ (∀ b, mutOk b mu → mutOk b lo ∧ ∀ r ∈ rs, mutOk b r.mu) ∧ lmOk MS LD = true ∧ topOk M MS = true ∧ (∀ x ∈ lds, x ∈ LD) ∧ (∀ x ∈ ms, x ∈ MS) ∧
      (∀ (j : Nat) o t x id off, l[j]? = some o → gate ds (slAt l rs sl j) o.guard = some true → o.op = .load t x → ev (slAt l rs sl j) x = some (.ptr id off) → id ∈ LD) ∧
      (∀ (j : Nat) o r m, l[j]? = some o → rs[j]? = some r → r.mu = some m → ∃ ex, (m, ex) ∈ MS ∧ (ex = true → stEx (slAt l rs sl j) (hpAt rs hp j) o.op = true)) ∧
      (∀ (j : Nat) o r, l[j]? = some o → rs[j]? = some r → isMk o = false → StepC T call ds o (slAt l rs sl j) (hpAt rs hp j) r) ∧
      (∀ (j : Nat) o r, l[j]? = some o → rs[j]? = some r → isMk o = true → r.hp = hpAt rs hp j ∧ r.mu = none ∧ ∃ (id : Nat) (k : MkS) (e : Nat) (cells : List DV), r.d = k.d id ∧ ha.n ≤ id ∧ id < hb.n ∧ hb.get id = some ⟨0, 0, e, cells⟩ ∧ ∀ hp2 sl2, aop T hp2 sl2 o.op = .done (k.d hp2.n, pushH hp2 0 e cells, none)) ∧
      ∀ (j j' : Nat) o o' r r' (id : Nat) (k : MkS) (id' : Nat) (k' : MkS), l[j]? = some o → l[j']? = some o' → rs[j]? = some r → rs[j']? = some r' → isMk o = true → isMk o' = true → r.d = k.d id → r'.d = k'.d id' → j < j' → id < id'
theorem regM_can : ∀ {l : List Oper} {sl : Slots} {hp : Hp} {dl : List DV} {lds : List Nat} {ms : List (Nat × Bool)} {lo : Mut} {sl' : Slots} {hp' : Hp} {mu : Mut} {M : Nat} {ha hb : Hp}, MkR T l dl ha hb → regM T call ds M l sl hp dl lds ms lo = some (sl', hp', mu) →
    MCan T call ds M l sl hp lds ms lo sl' hp' mu ha hb
  | [], sl, hp, dl, lds, ms, lo, sl', hp', mu, M, ha, hb, hmk, h => by
    have h : (match lmOk ms lds, topOk M ms with | true, true => some (sl, hp, lo) | _, _ => none) = some (sl', hp', mu) := h
    split at h
    · rename_i ht ht2
      cases h
      exact ⟨[], lds, ms, rfl, rfl, rfl, fun b hb => ⟨hb, fun r hr => by cases hr⟩, ht, ht2, fun x hx => hx, fun x hx => hx, fun j o t x id off hj => by simp at hj, fun j o r m hj => by simp at hj, fun j o r hj => by simp at hj, fun j o r hj => by simp at hj, fun j j' o o' r r' id k id' k' hj => by simp at hj⟩
    · cases h
  | o :: l, sl, hp, dl, lds, ms, lo, sl', hp', mu, M, ha, hb, hmk, h => by
    rw [regM_cons] at h
    -- one operation and the others
    have fin : ∀ (r : Rec) (dl' : List DV) (lds' : List Nat) (ms' : List (Nat × Bool)) (lo' : Mut) (ha' : Hp), MkR T l dl' ha' hb → regM T call ds M l (putO sl o.dst r.d) r.hp dl' lds' ms' lo' = some (sl', hp', mu) → (∀ b, mutOk b lo' → mutOk b lo ∧ mutOk b r.mu) → (∀ x ∈ lds, x ∈ lds') → (∀ x ∈ ms, x ∈ ms') →
        (∀ t x id off, gate ds sl o.guard = some true → o.op = .load t x → ev sl x = some (.ptr id off) → id ∈ lds') → (∀ m, r.mu = some m → ∃ ex, (m, ex) ∈ ms' ∧ (ex = true → stEx sl hp o.op = true)) → (isMk o = false → StepC T call ds o sl hp r) → ha.n ≤ ha'.n →
        (isMk o = true → r.hp = hp ∧ r.mu = none ∧ ∃ (id : Nat) (k : MkS) (e : Nat) (cells : List DV), r.d = k.d id ∧ ha.n ≤ id ∧ id < hb.n ∧ id < ha'.n ∧ hb.get id = some ⟨0, 0, e, cells⟩ ∧ ∀ hp2 sl2, aop T hp2 sl2 o.op = .done (k.d hp2.n, pushH hp2 0 e cells, none)) → MCan T call ds M (o :: l) sl hp lds ms lo sl' hp' mu ha hb := by
      intro r dl' lds' ms' lo' ha' hmk' h' g1 g2 g3 g4 g5 g6 g7 g8
      obtain ⟨rs, LD, MS, h0, h2, h3, h4, h5, ht, h6, h7, h8, h9, h10, h11, h12⟩ := regM_can hmk' h'
      refine ⟨r :: rs, LD, MS, by simp [h0], h2, h3, fun b hb => ?_, h5, ht, fun x hx => h6 x (g2 x hx), fun x hx => h7 x (g3 x hx), fun j oj t x id off hj hgj hoj hev => ?_, fun j oj r' m hj hr hm => ?_, fun j oj r' hj hr hm => ?_, fun j oj r' hj hr hm => ?_, fun j j' oj oj' q q' id k id' k' hj hj' hq hq' hm hm' hd hd' hlt => ?_⟩
      · obtain ⟨q1, q2⟩ := h4 b hb
        obtain ⟨q3, q4⟩ := g1 b q1
        exact ⟨q3, fun r' hr => by rcases List.mem_cons.1 hr with rfl | hr; exact q4; exact q2 r' hr⟩
      · cases j with
        | zero =>
          simp only [List.getElem?_cons_zero, Option.some.injEq] at hj
          subst hj
          exact h6 id (g4 t x id off hgj hoj hev)
        | succ j => exact h8 j oj t x id off (by simpa using hj) hgj hoj hev
      · cases j with
        | zero =>
          simp only [List.getElem?_cons_zero, Option.some.injEq] at hj hr
          subst hj
          subst hr
          obtain ⟨ex, e1, e2⟩ := g5 m hm
          exact ⟨ex, h7 _ e1, e2⟩
        | succ j => exact h9 j oj r' m (by simpa using hj) (by simpa using hr) hm
      · cases j with
        | zero =>
          simp only [List.getElem?_cons_zero, Option.some.injEq] at hj hr
          subst hj
          subst hr
          exact g6 hm
        | succ j => exact h10 j oj r' (by simpa using hj) (by simpa using hr) hm
      · cases j with
        | zero =>
          simp only [List.getElem?_cons_zero, Option.some.injEq] at hj hr
          subst hj
          subst hr
          obtain ⟨e1, e2, id, k, e, cells, k1, k2, k3, _, k4, k5⟩ := g8 hm
          exact ⟨e1, e2, id, k, e, cells, k1, k2, k3, k4, k5⟩
        | succ j =>
          obtain ⟨e1, e2, id, k, e, cells, k1, k2, k3, k4, k5⟩ := h11 j oj r' (by simpa using hj) (by simpa using hr) hm
          exact ⟨e1, e2, id, k, e, cells, k1, by omega, k3, k4, k5⟩
      · cases j' with
        | zero => omega
        | succ j' =>
          simp only [List.getElem?_cons_succ] at hj' hq'
          cases j with
          | zero =>
            simp only [List.getElem?_cons_zero, Option.some.injEq] at hj hq
            subst hj
            subst hq
            obtain ⟨_, _, i1, s1, e1, l1, k1, _, _, k2, _⟩ := g8 hm
            obtain ⟨_, _, i2, s2, e2, l2, k3, k4, _⟩ := h11 j' oj' q' hj' hq' hm'
            rw [hd] at k1
            rw [hd'] at k3
            have q1 := MkS.inj k1
            have q2 := MkS.inj k3
            omega
          | succ j =>
            exact h12 j j' oj oj' q q' id k id' k' (by simpa using hj) hj' (by simpa using hq) hq' hm hm' hd hd' (by omega)
    rcases hmk with ⟨hm, hmk⟩ | ⟨hm, k, e, cells, dl', rfl, hao, hmk⟩
    · rw [hm] at h
      simp only at h
      unfold gateX at h
      split at h
      · rename_i hg
        unfold regF1 at h
        split at h
        · rename_i d hp2 m1 hop
          refine fin ⟨d, hp2, m1⟩ dl _ _ _ ha hmk h (fun b hb => mutOk_mmin hb) (fun x hx => ?_) (fun x hx => ?_) (fun t x id off _ hoj hev => ?_) (fun m hmm => ?_) (fun _ => .inl ⟨hg, hop⟩) (Nat.le_refl _) (fun hh => by rw [hm] at hh; cases hh)
          · unfold ldAdd
            split
            · exact List.mem_cons_of_mem _ hx
            · exact hx
          · unfold muAdd
            split
            · exact hx
            · exact List.mem_cons_of_mem _ hx
          · have e : ldOf sl o.op = some id := by rw [hoj]; simp only [ldOf, hev]
            rw [e]
            exact List.mem_cons_self ..
          · have hmm : m1 = some m := hmm
            subst hmm
            exact ⟨stEx sl hp o.op, List.mem_cons_self .., fun h => h⟩
        · cases h
      · rename_i hg
        exact fin ⟨.tuple [], hp, none⟩ dl _ _ _ ha hmk h (fun b hb => ⟨hb, trivial⟩) (fun x hx => hx) (fun x hx => hx) (fun t x id off hgg _ _ => by rw [hg] at hgg; cases hgg) (fun m hmm => by cases hmm) (fun _ => .inr ⟨hg, rfl⟩) (Nat.le_refl _) (fun hh => by rw [hm] at hh; cases hh)
      · cases h
    · rw [hm] at h
      simp only at h
      have hn : (pushH ha 0 e cells).n = ha.n + 1 := rfl
      obtain ⟨x1, x2, _⟩ := mkR_ext hmk
      refine fin ⟨k.d ha.n, hp, none⟩ dl' _ _ _ (pushH ha 0 e cells) hmk h (fun b hb => ⟨hb, trivial⟩) (fun x hx => hx) (fun x hx => hx) (fun t x id off _ hoj _ => ?_) (fun m hmm => by cases hmm) (fun hh => by rw [hm] at hh; cases hh) (by omega) (fun _ => ⟨rfl, rfl, ha.n, k, e, cells, rfl, Nat.le_refl _, by omega, by omega, ?_, hao⟩)
      · unfold isMk at hm
        rw [hoj] at hm
        split at hm
        · rename_i h9; cases h9
        · rename_i h9; cases h9
        · rename_i h9; cases h9
        · cases hm
      · rw [x2 ha.n (by omega)]
        unfold pushH
        rw [Hp.get_push, if_pos rfl]
end
end
end Go.Proofs.Ytgjgihlfkpbdgaa
/- Code over abstract data: such regions; the theorem. No function of the program is named here. -/
namespace Go.Proofs.Ytgjgihlfkpbdgaa
open Go.RowKit

noncomputable section
section
variable {P : Program} {T : Tab} {call : CallF} {W0 : World} {base : Nat} {S0 : Nat → Prop} {N : Nat} {ops : Array Oper} {rs : List Rec} {sl0 : Slots} {hp0 hp1 : Hp} {Q : Exit → Act → World → Prop} {E0 : Env} {w0 : World} {D : Nat → Prop} {E : Env} {a : Act} {w : World}
variable {ro : Option Nat} {dl : List Deferred} {fm : Fm} {ds : List (Option Tmp)}
structure RegM (P : Program) (T : Tab) (call : CallF) (ops : Array Oper) (rs : List Rec) (sl0 : Slots) (hp0 hp1 : Hp) (base N : Nat) : Prop where
  len : ops.toList.length = rs.length
  st : ∀ (j : Nat) o r, ops.toList[j]? = some o → rs[j]? = some r → isMk o = false → StepC T call (ops.toList.map (·.dst)) o (slAt ops.toList rs sl0 j) (hpAt rs hp1 j) r
  mkr : ∀ (j : Nat) o r, ops.toList[j]? = some o → rs[j]? = some r → isMk o = true → r.hp = hpAt rs hp1 j ∧ r.mu = none ∧ ∃ (id : Nat) (k : MkS) (e : Nat) (cells : List DV), r.d = k.d id ∧ hp0.n ≤ id ∧ id < hp1.n ∧ hp1.get id = some ⟨0, 0, e, cells⟩ ∧ ∀ hp2 sl2, aop T hp2 sl2 o.op = .done (k.d hp2.n, pushH hp2 0 e cells, none)
  ints : ∀ id o, hp0.n ≤ id → hp1.get id = some o → intsO o.cs = true
  inj : ∀ (j j' : Nat) o o' r r' (id : Nat) (k : MkS) (id' : Nat) (k' : MkS), ops.toList[j]? = some o → ops.toList[j']? = some o' → rs[j]? = some r → rs[j']? = some r' → isMk o = true → isMk o' = true → r.d = k.d id → r'.d = k'.d id' → j < j' → id < id'
  mu : ∀ r ∈ rs, mutOk base r.mu
  top : ∀ (j : Nat) o r m, ops.toList[j]? = some o → rs[j]? = some r → r.mu = some m → hp1.n ≤ m ∨ stEx (slAt ops.toList rs sl0 j) (hpAt rs hp1 j) o.op = true
  lo : ∀ (j : Nat) o t x id off, ops.toList[j]? = some o → gate (ops.toList.map (·.dst)) (slAt ops.toList rs sl0 j) o.guard = some true → o.op = .load t x → ev (slAt ops.toList rs sl0 j) x = some (.ptr id off) → ∀ (q : Nat) r, rs[q]? = some r → id < (hpAt rs hp1 q).n → r.hp.get id = (hpAt rs hp1 q).get id
  chk : FlmOk T ops
  dst : dstsOk N (ops.toList.map (·.dst)) = true
  le : base ≤ hp0.n
  le1 : hp0.n ≤ hp1.n
theorem hpR_app (l m : List Rec) (hp : Hp) : hpR (l ++ m) hp = hpR m (hpR l hp) := by
  induction l generalizing hp with
  | nil => rfl
  | cons r l ih => exact ih r.hp
theorem hpAt_succ {hp : Hp} {i : Nat} {r : Rec} (h : rs[i]? = some r) : hpAt rs hp (i + 1) = r.hp := by
  unfold hpAt
  rw [List.take_add_one, h, hpR_app]
  rfl
theorem RegM.ext (h : RegM P T call ops rs sl0 hp0 hp1 base N) (hcall : CallOk P call) {b i j : Nat} (hij : i ≤ j) (hj : j ≤ ops.toList.length) (hb : b ≤ (hpAt rs hp1 i).n) (hm : ∀ r ∈ rs, mutOk b r.mu) : (hpAt rs hp1 i).n ≤ (hpAt rs hp1 j).n ∧ Ext b (hpAt rs hp1 i) (hpAt rs hp1 j) := by
  induction hij with
  | refl => exact ⟨Nat.le_refl _, Ext.refl _ _⟩
  | step hq ih =>
    rename_i m
    obtain ⟨h1, h2⟩ := ih (by omega)
    have hml : m < ops.toList.length := by omega
    have ho := List.getElem?_eq_getElem hml
    have hr : rs[m]? = some (rs[m]'(by rw [← h.len]; exact hml)) := List.getElem?_eq_getElem (by rw [← h.len]; exact hml)
    rw [hpAt_succ hr]
    cases hmk : isMk ops.toList[m] with
    | true =>
      rw [(h.mkr m _ _ ho hr hmk).1]
      exact ⟨h1, h2⟩
    | false =>
      have := step_ext hcall (h.st m _ _ ho hr hmk) (b := b) (hm _ (List.mem_of_getElem? hr)) (by omega)
      exact ⟨Nat.le_trans h1 this.1, h2.trans this⟩
theorem hpAt_zero (rs : List Rec) (hp : Hp) : hpAt rs hp 0 = hp := by simp [hpAt, hpR]
theorem RegM.n1 (h : RegM P T call ops rs sl0 hp0 hp1 base N) (hcall : CallOk P call) {i : Nat} (hi : i ≤ ops.toList.length) : hp1.n ≤ (hpAt rs hp1 i).n := by
  have q1 := h.le
  have q2 := h.le1
  have := (h.ext hcall (Nat.zero_le i) hi (b := base) (by rw [hpAt_zero]; omega) h.mu).1
  rw [hpAt_zero] at this
  exact this
theorem RegM.mono (h : RegM P T call ops rs sl0 hp0 hp1 base N) (hcall : CallOk P call) {i j : Nat} (hij : i ≤ j) (hj : j ≤ ops.toList.length) : (hpAt rs hp1 i).n ≤ (hpAt rs hp1 j).n ∧ Ext base (hpAt rs hp1 i) (hpAt rs hp1 j) := by
  have h1 := h.n1 hcall (i := i) (by omega)
  have h2 := h.le
  have h3 := h.le1
  exact h.ext hcall hij hj (by omega) h.mu
/-- an object that nobody writes -/
theorem RegM.get (h : RegM P T call ops rs sl0 hp0 hp1 base N) (hcall : CallOk P call) {id i j : Nat} (hk : ∀ (q : Nat) r, rs[q]? = some r → id < (hpAt rs hp1 q).n → r.hp.get id = (hpAt rs hp1 q).get id) (hij : i ≤ j) (hj : j ≤ ops.toList.length) (hid : id < (hpAt rs hp1 i).n) : (hpAt rs hp1 j).get id = (hpAt rs hp1 i).get id := by
  induction hij with
  | refl => rfl
  | step hq ih =>
    rename_i m
    have hml : m < ops.toList.length := by omega
    have hr : rs[m]? = some (rs[m]'(by rw [← h.len]; exact hml)) := List.getElem?_eq_getElem (by rw [← h.len]; exact hml)
    have hle := (h.mono hcall hq (by omega)).1
    rw [hpAt_succ hr, hk m _ hr (by omega)]
    exact ih (by omega)
theorem RegM.flt (h : RegM P T call ops rs sl0 hp0 hp1 base N) {i j : Nat} (hij : i ≤ j) (hj : j ≤ ops.toList.length) (hf : ∀ (m : Nat) o, i ≤ m → m < j → ops.toList[m]? = some o → flm T o = true) : hpAt rs hp1 j = hpAt rs hp1 i := by
  induction hij with
  | refl => rfl
  | step hq ih =>
    rename_i m
    have hml : m < ops.toList.length := by omega
    have ho := List.getElem?_eq_getElem hml
    have hr : rs[m]? = some (rs[m]'(by rw [← h.len]; exact hml)) := List.getElem?_eq_getElem (by rw [← h.len]; exact hml)
    have hfm := hf m _ hq (Nat.lt_succ_self _) ho
    rw [hpAt_succ hr]
    have ihh := ih (by omega) fun m' o h1 h2 => hf m' o h1 (by omega)
    cases hmk : isMk ops.toList[m] with
    | true =>
      rw [(h.mkr m _ _ ho hr hmk).1]
      exact ihh
    | false =>
      unfold flm at hfm
      rw [hmk, Bool.false_or] at hfm
      rw [flt_hp (flt0_flt hfm) (h.st m _ _ ho hr hmk)]
      exact ihh
structure InvM (dl : List Deferred) (W0 : World) (base : Nat) (S0 : Nat → Prop) (N : Nat) (ops : Array Oper) (rs : List Rec) (sl0 : Slots) (hp0 hp1 : Hp) (E0 : Env) (w0 : World) (T : Tab) (D : Nat → Prop) (E : Env) (i : Nat) (a : Act) (w : World) : Prop where
  com : Com dl E0 w0 hp0 N E a w
  len : i ≤ ops.toList.length
  tail : ∀ j o, ops.toList[j]? = some o → flm T o = false → (D j ↔ j < i)
  hs : HS W0 base S0 E (hpAt rs hp1 i) w
  sl : Shown ops rs sl0 D (fun _ => E) a w
  mkd : ∀ (j : Nat) o r (id : Nat) (k : MkS), ops.toList[j]? = some o → rs[j]? = some r → isMk o = true → r.d = k.d id → (E.D id ↔ D j)
  fresh : ∀ id, hp0.n ≤ id → id < hp1.n → ¬ E.D id → (hpAt rs hp1 i).get id = hp1.get id
/-- a store that names its object looks at a slot that names it -/
theorem stEx_D {o : Oper} {sl : Slots} {hp : Hp} {r : Rec} (hx : stEx sl hp o.op = true) (h : StepC T call ds o sl hp r) {m : Nat} (hm : r.mu = some m) : ∃ t off, t ∈ o.looksAt ops ∧ look sl t = some (.ptr m off) := by
  rcases h with ⟨_, h⟩ | ⟨_, rfl⟩
  · cases hop : o.op with
    | store t x y =>
      unfold opE at h
      rw [hop] at h hx
      simp only [aop] at h
      simp only [stEx] at hx
      unfold opStore at h
      cases ht : T t with
      | none => rw [ht] at h; cases h
      | some ti =>
        rw [ht] at h
        cases hxx : ev sl x with
        | none => rw [hxx] at h; cases h
        | some d =>
          have hxt : ∀ i off, d = .ptr i off → ∃ u, x = .tmp u ∧ look sl u = some d := by
            intro i off he
            subst he
            cases x with
            | tmp u => exact ⟨u, rfl, hxx⟩
            | const v =>
              exfalso
              simp only [ev] at hxx
              cases v <;> simp only [cv, cv1] at hxx <;> first | (cases hxx; done) | skip
              all_goals (try (split at hxx <;> cases hxx))
            | func f => cases hxx
            | global g =>
              simp only [ev] at hxx
              split at hxx <;> cases hxx
          rw [hxx] at h hx
          cases d with
          | ptr i off =>
            simp only at h hx
            cases hy : ev sl y with
            | none => rw [hy] at h; cases h
            | some e =>
              rw [hy] at h
              simp only at h
              cases hc : cellsD e with
              | none => rw [hc] at h; cases h
              | some cs =>
                rw [hc] at h
                simp only at h
                cases hst : storeH hp i off cs with
                | none => rw [hst] at h; cases hbb : Nat.beq cs.length ti.size <;> rw [hbb] at h <;> cases h
                | some q =>
                  obtain ⟨hp', mm⟩ := q
                  rw [hst] at h
                  cases hbb : Nat.beq cs.length ti.size with
                  | false => rw [hbb] at h; cases h
                  | true =>
                    rw [hbb] at h
                    simp only [Option.some.injEq, Prod.mk.injEq] at h
                    obtain ⟨_, _, e2⟩ := h
                    rw [← e2] at hm
                    unfold storeH at hst
                    cases hg : hp.get i with
                    | none => rw [hg] at hst; cases hst
                    | some ob =>
                      rw [hg] at hst hx
                      simp only at hst hx
                      split at hst
                      · rename_i hk
                        rw [hk] at hx
                        cases hx
                      · cases hst
                      · cases hst
                        cases hm
                        obtain ⟨u, rfl, hu⟩ := hxt _ _ rfl
                        refine ⟨u, off, ?_, hu⟩
                        unfold Oper.looksAt
                        rw [List.mem_append]
                        left
                        rw [List.mem_filterMap, hop]
                        exact ⟨.tmp u, by simp [Op.operands], rfl⟩
                      · cases hst
          | _ => simp only at h; cases h
    | _ => rw [hop] at hx; simp only [stEx] at hx; cases hx
  · cases hm
def Env.at (E E' : Env) (n m : Nat) : Env := ⟨E'.S, fun id => if id = m then E'.b n else E.b id, fun id => if id = m then E'.base n else E.base id, fun id => if id = m then E'.sz n else E.sz id, fun id => (id = m ∧ E'.X n) ∨ (id ≠ m ∧ E.X id), fun id => E.D id ∨ id = m, E'.yb⟩
theorem Env.at_in (E E' : Env) (n m : Nat) : (E.at E' n m).b m = E'.b n ∧ (E.at E' n m).base m = E'.base n ∧ (E.at E' n m).sz m = E'.sz n ∧ ((E.at E' n m).X m ↔ E'.X n) :=
  ⟨if_pos rfl, if_pos rfl, if_pos rfl, ⟨fun h => h.elim (·.2) (fun h => absurd rfl h.1), fun h => .inl ⟨rfl, h⟩⟩⟩
theorem Env.at_out (E E' : Env) (n : Nat) {m id : Nat} (h : id ≠ m) : (E.at E' n m).b id = E.b id ∧ (E.at E' n m).base id = E.base id ∧ (E.at E' n m).sz id = E.sz id ∧ ((E.at E' n m).X id ↔ E.X id) :=
  ⟨if_neg h, if_neg h, if_neg h, ⟨fun k => k.elim (fun k => absurd k.1 h) (·.2), fun k => .inr ⟨h, k⟩⟩⟩
theorem intsO_vr {E E' : Env} {w w' : World} : ∀ {ds : List DV} {vs : List Value}, intsO ds = true → VRs E w ds vs → VRs E' w' ds vs
  | [], vs, _, h => by
    have := h.unnil
    subst this
    exact .nil _ _
  | d :: l, vs, hi, h => by
    obtain ⟨v, vs', rfl, hv, hvs⟩ := h.uncons
    simp only [intsO, Bool.and_eq_true] at hi
    refine .cons ?_ (intsO_vr hi.2 hvs)
    have hc := hi.1
    cases hv <;> first | (simp [constD] at hc; done) | constructor
theorem HS.addAt {hp : Hp} (h : HS W0 base S0 E hp w) {m : Nat} {o : Ob} (hm : hp.get m = some o) (hmD : ¬ E.D m) (hbm : base ≤ m) {E' : Env} {w' : World} (hs : Stp w hp.n E.S E hp w E' (hp.push o) w') (hD : E'.D hp.n) (hint : intsO o.cs = true) :
    HS W0 base S0 (E.at E' hp.n m) hp w' ∧ Later E w (E.at E' hp.n m) w' := by
  have hbel := hs.hs.bel
  have hne : ∀ id, E.D id → id ≠ m := fun id hd e => hmD (e ▸ hd)
  have hl : Later E w (E.at E' hp.n m) w' := ⟨hs.later.S, fun id hd => by
    obtain ⟨m1, m2, m3, m4⟩ := Env.at_out E E' hp.n (hne id hd)
    exact ⟨.inl hd, m1, m2, m3, m4⟩, hs.later.cell, fun id x hx => (by show E'.yb id = some x; rw [hs.yb]; exact hx)⟩
  have hEb : ∀ id, E.D id → E.b id < w.heap.size := fun id hd => by
    obtain ⟨ob, _, hok⟩ := h.ob id hd
    exact hok.lt
  obtain ⟨i1, i2, i3, i4⟩ := Env.at_in E E' hp.n m
  have hown := hs.hs.own hp.n hD (Nat.le_refl _)
  refine ⟨⟨h.bel.trans (hbel.mono h.bel.size), fun id hd => ?_, fun id hd hbi => ?_, fun id hd hbi => ?_, fun i j oi oj hi hj hne' hbi hoi hoj hk he => ?_, fun x hx => hs.hs.ro x hx, fun x hx => ?_, h.le, h.ys.keep hl hs.yb rfl (Nat.le_refl _) fun k hk => hbel.block k (isO_lt hk)⟩, hl⟩
  · rcases hd with hd | rfl
    · obtain ⟨ob, hob, hok⟩ := h.ob id hd
      exact ⟨ob, hob, hok.keep hd hl (hbel.block _ hok.lt)⟩
    · obtain ⟨o2, ho2, hok⟩ := hs.hs.ob hp.n hD
      rw [Hp.get_push, if_pos rfl] at ho2
      cases ho2
      obtain ⟨q1, q2, vs, q3, q4, q5, q6⟩ := hok
      refine ⟨o, hm, q1.trans i4.symm, q2, vs, by rw [i1]; exact q3, by rw [i3]; exact q4, by rw [i2]; exact q5, by rw [i2]; exact intsO_vr hint q6⟩
  · rcases hd with hd | rfl
    · obtain ⟨m1, _⟩ := Env.at_out E E' hp.n (hne id hd)
      obtain ⟨o1, o2⟩ := h.own id hd hbi
      rw [m1]
      refine ⟨o1, fun hx => ?_⟩
      rcases hs.hs.olds _ hx with hx | hx
      · exact o2 hx
      · have := hEb id hd; omega
    · rw [i1]
      have := h.bel.size
      exact ⟨by omega, hown.2⟩
  · rcases hd with hd | rfl
    · obtain ⟨m1, _⟩ := Env.at_out E E' hp.n (hne id hd)
      rw [m1]
      exact h.old id hd hbi
    · omega
  · rcases hi with hi | rfl <;> rcases hj with hj | rfl
    · obtain ⟨m1, m2, _⟩ := Env.at_out E E' hp.n (hne i hi)
      obtain ⟨n1, n2, _⟩ := Env.at_out E E' hp.n (hne j hj)
      rw [m1, n1] at he
      rw [m2, n2]
      exact h.inj i j oi oj hi hj hne' hbi hoi hoj hk he
    · obtain ⟨m1, _⟩ := Env.at_out E E' hp.n (hne i hi)
      rw [m1, i1] at he
      have := hEb i hi
      omega
    · obtain ⟨n1, _⟩ := Env.at_out E E' hp.n (hne j hj)
      rw [n1, i1] at he
      have := hEb j hj
      omega
    · exact absurd rfl hne'
  · rcases hs.hs.olds x hx with hx | hx
    · exact h.olds x hx
    · have := h.bel.size
      exact .inr (by omega)
/-- one of those that may come at any time, at another heap -/
theorem flm_at (hcall : CallOk P call) (hR : RegM P T call ops rs sl0 hp0 hp1 base N) {q i : Nat} (hi : i ≤ ops.toList.length) {o : Oper} {r : Rec} (ho : ops.toList[q]? = some o) (hf : flt0 T o.op = true) (hst : StepC T call (ops.toList.map (·.dst)) o (slAt ops.toList rs sl0 q) (hpAt rs hp1 q) r)
    (hlook : ∀ x id off, o.op.operands = #[x] → ev (slAt ops.toList rs sl0 q) x = some (.ptr id off) → ∃ ob, (hpAt rs hp1 i).get id = some ob) : StepC T call (ops.toList.map (·.dst)) o (slAt ops.toList rs sl0 q) (hpAt rs hp1 i) ⟨r.d, hpAt rs hp1 i, none⟩ := by
  have hql := (List.getElem?_eq_some_iff.1 ho).1
  rcases hst with ⟨hg, hop⟩ | ⟨hg, hre⟩
  · refine .inl ⟨hg, ?_⟩
    unfold opE at hop ⊢
    cases hoo : o.op with
    | load t x =>
      rw [hoo] at hop
      simp only [aop] at hop ⊢
      unfold opLoad at hop ⊢
      cases ht : T t with
      | none => rw [ht] at hop; cases hop
      | some ti =>
        rw [ht] at hop
        cases hx : ev (slAt ops.toList rs sl0 q) x with
        | none => rw [hx] at hop; cases hop
        | some d =>
          rw [hx] at hop
          cases d with
          | ptr id off =>
            simp only at hop ⊢
            obtain ⟨ob, hob⟩ := hlook x id off (by rw [hoo]; rfl) hx
            cases hq : (hpAt rs hp1 q).get id with
            | none => rw [hq] at hop; cases hop
            | some o2 =>
              rw [hq] at hop
              have hlo := hR.lo q o t x id off ho hg hoo hx
              have e : o2 = ob := by
                rcases Nat.le_total i q with h1 | h1
                · have := hR.get hcall hlo h1 (by omega) (Hp.get_lt hob)
                  rw [hq, hob] at this
                  exact Option.some.inj this
                · have := hR.get hcall hlo h1 hi (Hp.get_lt hq)
                  rw [hq, hob] at this
                  exact (Option.some.inj this).symm
              subst e
              rw [hob]
              simp only at hop ⊢
              cases hp2 : partD ti o2.cs off with
              | none => rw [hp2] at hop; cases hop
              | some d =>
                rw [hp2] at hop
                simp only [keep, outR] at hop ⊢
                injection hop with hop
                injection hop with h1 h2
                rw [h1]
          | fptr cs =>
            simp only at hop ⊢
            cases hp2 : partD ti cs 0 with
            | none => rw [hp2] at hop; cases hop
            | some d =>
              rw [hp2] at hop
              simp only [keep, outR] at hop ⊢
              injection hop with hop
              injection hop with h1 h2
              rw [h1]
          | _ => cases hop
    | _ =>
      rw [hoo] at hop hf
      simp only [Go.Proofs.Ytgjgihlfkpbdgaa.flt0] at hf
      split at hop
      · rename_i z hz
        have hzz : z = (r.d, r.hp, r.mu) := by simpa using hop
        subst hzz
        obtain ⟨_, _, h3⟩ := aop_dry hf hz
        rw [h3]
      · rename_i f args hz
        exact absurd hz (dry_not_call hf f args)
      · rename_i f args hz
        exact absurd hz (dry_not_yld hf f args)
      · cases hop
  · exact .inr ⟨hg, by rw [hre]⟩
theorem stepM (hT : TabOk P T) (hcall : CallOk P call) (hR : RegM P T call ops rs sl0 hp0 hp1 base N) {i : Nat} (h : InvM dl W0 base S0 N ops rs sl0 hp0 hp1 E0 w0 T D E i a w) (hD : Closed ops.toList D) {q : Nat} {o : Oper} (ho : ops.toList[q]? = some o) (hDq : ¬ D q) (hw : Waits D o) :
    wpOpIn (Fr ro) 0 P ops Q q (fun a w => ∃ E i, InvM dl W0 base S0 N ops rs sl0 hp0 hp1 E0 w0 T (fun j => D j ∨ j = q) E i a w) a w := by
  have hql := (List.getElem?_eq_some_iff.1 ho).1
  have hr : rs[q]? = some (rs[q]'(by rw [← hR.len]; exact hql)) := List.getElem?_eq_getElem (by rw [← hR.len]; exact hql)
  generalize hrr : rs[q]'(by rw [← hR.len]; exact hql) = r at hr
  have hhp1 := hpAt_succ (hp := hp1) hr
  have hlook : ∀ t d, t ∈ o.looksAt ops → look (slAt ops.toList rs sl0 q) t = some d → VR w E d (a.tmps.getD t undef) := fun t d ht hd => h.sl t q (by omega) (look_pos hR.chk.chk hD ho hDq hw ht) d hd
  have hput := fun {E' : Env} {w' : World} {v : Value} (hl : Later E w E' w') (hv : VR w' E' r.d v) => shown_put0 hR.len hR.chk.chk hR.dst hD ho hr hDq h.sl (fun _ _ => hl) (fun _ _ _ => hv) h.com.size
  have hni := hR.n1 hcall h.len
  have hle1 := hR.le1
  have hle0 := hR.le
  cases hm : isMk o with
  | true =>
    obtain ⟨g1, g2, id, k, e, cells, hd, k1, k2, k3, k4⟩ := hR.mkr q o r ho hr hm
    have hg : o.guard = none := by
      unfold isMk at hm
      split at hm
      · assumption
      · assumption
      · assumption
      · cases hm
    have hst : StepC T call (ops.toList.map (·.dst)) o (slAt ops.toList rs sl0 q) (hpAt rs hp1 i) ⟨k.d (hpAt rs hp1 i).n, pushH (hpAt rs hp1 i) 0 e cells, none⟩ := by
      refine .inl ⟨by rw [hg]; rfl, ?_⟩
      unfold opE
      rw [k4]
    refine one_ok hT hcall ho hst h.hs.pure hlook trivial fun E' v w' hs hv => ⟨E.at E' (hpAt rs hp1 i).n id, i, ?_⟩
    have hDn : E'.D (hpAt rs hp1 i).n := MkS.inD hv
    have hnot : ¬ E.D id := fun hh => hDq ((h.mkd q o r id k ho hr hm hd).1 hh)
    obtain ⟨m1, m2⟩ := h.hs.addAt (m := id) (o := ⟨0, 0, e, cells⟩) (by rw [h.fresh id k1 k2 hnot]; exact k3) hnot (by omega) hs hDn (hR.ints id _ k1 k3)
    obtain ⟨i1, i2, i3, i4⟩ := Env.at_in E E' (hpAt rs hp1 i).n id
    have hv' : VR w' (E.at E' (hpAt rs hp1 i).n id) r.d v := by
      rw [hd]
      cases k with
      | sl s n c =>
        obtain ⟨A, c', rfl, q1, q2, q3, q4, q5, q6⟩ := hv.of_sl
        exact .sl _ id 0 s n c A c' (.inr rfl) q2 q3 q4 (fun hx => q5 (i4.1 hx)) (fun hc => by rw [i1, i2, i3]; exact q6 hc)
      | ptr =>
        obtain ⟨rfl, _⟩ := hv.of_ptr
        have := VR.ptr (w := w') (E.at E' (hpAt rs hp1 i).n id) id 0 (.inr rfl)
        rw [i1, i2] at this
        exact this
    refine ⟨h.com.next m2 (fun id' hid hd' => hd'.elim (fun hh => hh) (fun hh => by omega)) hs.oth hs.yb _ _, h.len, fun j oj hj hfj => ?_, m1, hput m2 hv', fun j oj rj id' kk hj hrj hmj hdj => ?_, fun id' f1 f2 f3 => h.fresh id' f1 f2 fun hh => f3 (.inl hh)⟩
    · rw [← h.tail j oj hj hfj]
      refine ⟨fun hh => hh.resolve_right fun e => ?_, .inl⟩
      subst e
      rw [ho] at hj
      cases hj
      unfold flm at hfj
      rw [hm] at hfj
      cases hfj
    · have hh := h.mkd j oj rj id' kk hj hrj hmj hdj
      constructor
      · rintro (h1 | h1)
        · exact .inl (hh.1 h1)
        · right
          subst h1
          rcases Nat.lt_trichotomy j q with hlt | rfl | hlt
          · exact absurd (hR.inj j q oj o rj r _ _ _ _ hj ho hrj hr hmj hm hdj hd hlt) (Nat.lt_irrefl _)
          · rfl
          · exact absurd (hR.inj q j o oj r rj _ _ _ _ ho hj hr hrj hm hmj hd hdj hlt) (Nat.lt_irrefl _)
      · rintro (h1 | rfl)
        · exact .inl (hh.2 h1)
        · right
          rw [ho] at hj
          rw [hr] at hrj
          cases hj
          cases hrj
          rw [hd] at hdj
          exact (MkS.inj hdj).symm
  | false =>
  have hst := hR.st q o r ho hr hm
  have hmkd : ∀ {E' : Env}, (∀ id, id < hp1.n → (E'.D id ↔ E.D id)) → ∀ (j : Nat) oj rj (id : Nat) (k : MkS), ops.toList[j]? = some oj → rs[j]? = some rj → isMk oj = true → rj.d = k.d id → (E'.D id ↔ (D j ∨ j = q)) := by
    intro E' hE j oj rj id k hj hrj hmj hdj
    obtain ⟨_, _, id2, _, _, _, hd2, _, hlt, _⟩ := hR.mkr j oj rj hj hrj hmj
    rw [hdj] at hd2
    obtain rfl := MkS.inj hd2
    rw [hE _ hlt, h.mkd j oj rj _ _ hj hrj hmj hdj]
    refine ⟨.inl, fun hh => hh.resolve_right fun e => ?_⟩
    subst e
    rw [ho] at hj
    cases hj
    rw [hm] at hmj
    cases hmj
  cases hf : flt0 T o.op
  · -- the next one
    have hflm : flm T o = false := by
      unfold flm
      rw [hm, hf]
      rfl
    have hqi : i ≤ q := by
      rcases Nat.lt_or_ge q i with hlt | hge
      · exact absurd ((h.tail q o ho hflm).2 hlt) hDq
      · exact hge
    have hbtw : ∀ (m : Nat) om, i ≤ m → m < q → ops.toList[m]? = some om → flm T om = true := by
      intro m om h1 h2 hom
      cases hfm : flm T om
      · exfalso
        have hDm : D m := by
          rcases hR.chk.pair q m o om (by omega) ho hom with hb | ⟨_, hb⟩
          · exact hb D hD hw
          · rcases hb with hb | hb | hb
            · rw [hflm] at hb; cases hb
            · omega
            · rw [hfm] at hb; cases hb
        have := (h.tail m om hom hfm).1 hDm
        omega
      · rfl
    have hheap := hR.flt hqi (by omega) hbtw
    have hs0 := h.hs
    rw [← hheap] at hs0
    have hnq := hR.n1 hcall (i := q) (by omega)
    refine one_ok hT hcall ho hst hs0 hlook (hR.mu r (List.mem_of_getElem? hr)) fun E' v w' hs hv => ⟨E', q + 1, ?_⟩
    refine ⟨h.com.next hs.later (fun id hid hd => hs.dom id (by omega) hd) hs.oth hs.yb _ _, by omega, fun j oj hj hfj => ?_, by rw [hhp1]; exact hs.hs, hput hs.later hv, hmkd fun id hid => ⟨fun hd => hs.dom id (by omega) hd, fun hd => (hs.later.D id hd).1⟩, fun id' f1 f2 f3 => ?_⟩
    rotate_left
    · have hnD : ¬ E.D id' := fun hh => f3 (hs.later.D id' hh).1
      rw [hhp1, ← h.fresh id' f1 f2 hnD, ← hheap]
      have hlo : ∀ {m b}, r.mu = m → mutOk b m → b ≤ (hpAt rs hp1 q).n → id' < b → r.hp.get id' = (hpAt rs hp1 q).get id' := fun {m b} hmm hmo hb hlt => (step_ext hcall hst (b := b) (by rw [hmm]; exact hmo) hb).2 id' hlt
      cases hmu : r.mu with
      | none => exact hlo hmu trivial (Nat.le_refl _) (by omega)
      | some m =>
        rcases hR.top q o r m ho hr hmu with h9 | h9
        · exact hlo hmu (show hp1.n ≤ m from h9) hnq f2
        · refine stEx_ok h9 hst hmu fun e => hnD ?_
          obtain ⟨t, off, ht, hl⟩ := stEx_D (ops := ops) h9 hst hmu
          rw [e]
          exact (hlook t _ ht hl).of_ptr.2
    rw [h.tail j oj hj hfj]
    constructor
    · rintro (h1 | h1) <;> omega
    · intro h1
      rcases Nat.lt_or_ge j i with h2 | h2
      · exact .inl h2
      · right
        rcases Nat.lt_or_ge j q with h3 | h3
        · have := hbtw j oj h2 h3 hj
          rw [hfj] at this; cases this
        · omega
  · -- one that may come at any time
    have hst' := flm_at hcall hR h.len ho hf hst fun x id off hx hev => by
      have hxt : ∃ t, x = .tmp t := by
        cases x with
        | tmp t => exact ⟨t, rfl⟩
        | const v =>
          exfalso
          simp only [ev] at hev
          cases v <;> simp only [cv, cv1] at hev <;> first | (cases hev; done) | skip
          all_goals (try (split at hev <;> cases hev))
        | func f => cases hev
        | global g =>
          simp only [ev] at hev
          split at hev <;> cases hev
      obtain ⟨t, rfl⟩ := hxt
      have hm : t ∈ o.looksAt ops := by
        unfold Oper.looksAt
        rw [List.mem_append]
        left
        rw [List.mem_filterMap]
        exact ⟨.tmp t, by rw [hx]; simp, rfl⟩
      obtain ⟨ob, hob, _⟩ := h.hs.ob id (hlook t _ hm hev).of_ptr.2
      exact ⟨ob, hob⟩
    refine one_ok hT hcall ho hst' h.hs.pure hlook trivial fun E' v w' hs hv => ⟨mrg E E' (hpAt rs hp1 i).n (hpAt rs hp1 i).n, i, ?_⟩
    have hno : ∀ id, ¬ ((hpAt rs hp1 i).n ≤ id ∧ id < (hpAt rs hp1 i).n) := fun id hh => by omega
    obtain ⟨m1, m2, m3⟩ := HS.merge h.hs (E1 := E) (E' := E') (hpX := hpAt rs hp1 i) (hpY := hpAt rs hp1 i) (a := (hpAt rs hp1 i).n) (b := (hpAt rs hp1 i).n) h.hs.pure hs.hs hs.later (fun id hd => ⟨hd, rfl, rfl, rfl, Iff.rfl⟩) rfl (fun id hd => .inl (hs.dom id (hs.hs.dlt hd) hd)) (fun id _ => hno id) (fun id h1 h2 => by omega) h.hs.le hs.yb
    refine ⟨h.com.next m2 (fun id hid hd => hd.elim (fun hh => hh) (fun hh => by omega)) hs.oth hs.yb _ _, h.len, fun j oj hj hfj => ?_, m1, hput m2 (hv.later m3), hmkd fun id hid => ⟨fun hd => hd.elim (fun hh => hh) (fun hh => by omega), .inl⟩, fun id' f1 f2 f3 => h.fresh id' f1 f2 fun hh => f3 (.inl hh)⟩
    rw [← h.tail j oj hj hfj]
    refine ⟨fun hh => hh.resolve_right fun e => ?_, .inl⟩
    subst e
    rw [ho] at hj
    cases hj
    unfold flm at hfj
    rw [hm, hf] at hfj
    cases hfj
theorem InvM.done (hR : RegM P T call ops rs sl0 hp0 hp1 base N) (hx01 : Ext base hp0 hp1) (hcall : CallOk P call) (hdf : DfrOk W0 fm.fl E0 w0 dl) (hro : RoOk fm E0 hp0 dl) {i : Nat} (h : InvM dl W0 base S0 N ops rs sl0 hp0 hp1 E0 w0 T D E i a w) (hall : ∀ j, j < ops.toList.length → D j) :
    Stp W0 base S0 E0 hp0 w0 E (hpAt rs hp1 ops.toList.length) w ∧ Sim fm W0 base S0 E N (slAt ops.toList rs sl0 ops.toList.length) (hpAt rs hp1 ops.toList.length) a w := by
  have hheap := hR.flt h.len (Nat.le_refl _) fun m om h1 h2 hom => by
    cases hfm : flm T om
    · have := (h.tail m om hom hfm).1 (hall m h2)
      omega
    · rfl
  have hs0 := h.hs
  rw [← hheap] at hs0
  have hx := (hR.mono hcall (Nat.zero_le _) (Nat.le_refl _)).2
  rw [hpAt_zero] at hx
  have hx := hx01.trans hx
  refine ⟨⟨h.com.later, hs0, hx, h.com.dom, h.com.oth, h.com.yb⟩, hs0, (by rw [h.com.defers]; exact hdf.step h.com.oth h.com.yb), (by rw [h.com.defers]; exact hro.step h.com.yb hx.ls), h.com.size, fun t d hd => h.sl t _ (Nat.le_refl _) (fun j o hj _ => ?_) d hd⟩
  have := (List.getElem?_eq_some_iff.1 hj).1
  exact ⟨fun _ => this, fun _ => hall j this⟩
theorem intsM_ok : ∀ (n : Nat) (l : List Ob), intsM n l = true → ∀ (i : Nat) o, i < n → l[i]? = some o → intsO o.cs = true
  | 0, _, _, i, o, hi, _ => by omega
  | n + 1, o' :: l, h, i, o, hi, ho => by
    simp only [intsM, Bool.and_eq_true] at h
    cases i with
    | zero => simp at ho; subst ho; exact h.1
    | succ i => exact intsM_ok n l h.2 i o (by omega) (by simpa using ho)
theorem topOk_ok {a : Nat} : ∀ {l : List (Nat × Bool)}, topOk a l = true → ∀ m ex, (m, ex) ∈ l → ex = true ∨ a ≤ m
  | [], _, m, ex, h => by cases h
  | (m', ex') :: l, h, m, ex, hm => by
    simp only [topOk, Bool.and_eq_true, Bool.or_eq_true] at h
    rcases List.mem_cons.1 hm with e | hm
    · cases e
      exact h.1.imp (fun e => e) Nat.le_of_ble_eq_true
    · exact topOk_ok h.2 m ex hm
theorem regMM_ok (hT : TabOk P T) (hmix : P.follows .mixedOrders = true) (hcall : CallOk P call) {id : Nat} (hc : flmChk T ops = true) (hds : dstsOk N (ops.toList.map (·.dst)) = true) {sl : Slots} {hp : Hp} {sl' : Slots} {hp' : Hp} {mu : Mut}
    (h : regMM T call (ops.toList.map (·.dst)) ops.toList sl hp = some (sl', hp', mu)) {E : Env} {a : Act} {w : World} (hs : Sim fm W0 base S0 E N sl hp a w) (hmu : mutOk base mu) (hQ : ∀ E' a' w', Stp W0 base S0 E hp w E' hp' w' → Sim fm W0 base S0 E' N sl' hp' a' w' → Q .normal a' w') :
    (Code.region id ops true).wpIn (Fr ro) 0 P Q a w := by
  unfold regMM at h
  split at h
  · rename_i dl0 hpm hm1
    split at h
    · rename_i hin
      have hmk := regM1_ok hm1
      obtain ⟨x1, x2, x3⟩ := mkR_ext hmk
      have hck := flmChk_ok hc
      obtain ⟨rs, LD, MS, hlen, h2, h3, h4, h5, ht, _, _, h8, h9, h10, h11, h12⟩ := regM_can hmk h
      have hlow : ∀ b, mutOk b mu → ∀ r ∈ rs, mutOk b r.mu := fun b hb => (h4 b hb).2
      have hx01 : Ext base hp hpm := ⟨x1, fun id hid => x2 id (by have := hs.hs.le; omega), fun i => by rw [x3], fun i _ => by rw [x3]⟩
      have hR : RegM P T call ops rs sl hp hpm base N := ⟨hlen, h10, h11, fun id o hid ho => by
        have hlt := Hp.get_lt ho
        rw [Hp.get_eq, if_pos hlt] at ho
        exact intsM_ok _ _ hin _ o (by omega) ho, h12, hlow base hmu, fun j o r m hj hr hm => by
        obtain ⟨ex, hmem, hex⟩ := h9 j o r m hj hr hm
        rcases topOk_ok ht m ex hmem with e | e
        · exact .inr (hex e)
        · exact .inl e, fun j o t x id off hj hg hop hev q r hr hlt => by
        have hld := lmOk_ok h5 id (h8 j o t x id off hj hg hop hev)
        have hql : q < ops.toList.length := by rw [hlen]; exact (List.getElem?_eq_some_iff.1 hr).1
        have hoq := List.getElem?_eq_getElem hql
        cases hmq : isMk ops.toList[q] with
        | true => rw [(h11 q _ r hoq hr hmq).1]
        | false =>
          have hst := h10 q _ r hoq hr hmq
          have hlo : ∀ {m}, r.mu = m → mutOk (id + 1) m → r.hp.get id = (hpAt rs hpm q).get id := fun {m} hm hmo => (step_ext hcall hst (b := id + 1) (by rw [hm]; exact hmo) hlt).2 id (Nat.lt_succ_self _)
          cases hm : r.mu with
          | none => exact hlo hm trivial
          | some m =>
            obtain ⟨ex, hmem, hex⟩ := h9 q _ r m hoq hr hm
            rcases lmOk1_ok hld m ex hmem with ⟨e1, e2⟩ | hlt2
            · exact stEx_ok (hex e1) hst hm e2
            · exact hlo hm (show id + 1 ≤ m by omega), hck, hds, hs.hs.le, x1⟩
      have hhp : hpAt rs hpm ops.toList.length = hp' := by
        unfold hpAt
        rw [hlen, List.take_length, h3]
      have hsl : slAt ops.toList rs sl ops.toList.length = sl' := by rw [slR_take _ _ _ hlen, h2]
      obtain ⟨hdr, hldr⟩ := hs.hs.drew
      have hE0 : ∀ id, E.D id → id < hp.n := fun id hd => hs.hs.dlt hd
      have hdone : ∀ D a1 w1, (∃ E1 i, InvM a.defers W0 base S0 N ops rs sl hp hpm E w T D E1 i a1 w1) → (∀ j, j < ops.toList.length → D j) → Q .normal a1 w1 := by
        intro D a1 w1 hI hall
        obtain ⟨E1, i, hI⟩ := hI
        obtain ⟨q1, q2⟩ := hI.done (fm := fm) hR hx01 hcall hs.dfr hs.ro hall
        rw [hhp] at q1 q2
        rw [hsl] at q2
        exact hQ E1 a1 w1 q1 q2
      refine wpIn_region_any hmix (any_gen (ro := ro) (I := fun D a1 w1 => ∃ E1 i, InvM a.defers W0 base S0 N ops rs sl hp hpm E w T D E1 i a1 w1) hck.back (fun D a1 w1 hI hD q o ho hDq hw => hI.elim fun E1 hI => hI.elim fun i hI => stepM hT hcall hR hI hD ho hDq hw) hdone ops.size _ a _ (by simp) (fun i o e ho hi => ?_) ?_ ⟨E, 0, ?_⟩)
      · have hi : (Array.replicate ops.size false).getD i false = true := hi
        rw [rep_false] at hi
        cases hi
      · refine Nat.le_trans List.countP_le_length ?_
        simp
      · have hfalse : ∀ j, ¬ ((Array.replicate ops.size false).getD j false = true) := fun j h9 => by
          rw [rep_false] at h9
          cases h9
        refine ⟨⟨hldr, fun _ _ h => h, rfl, hs.size, ⟨Nat.le_refl _, fun _ _ h => h, fun _ r h => ⟨r, h, rfl⟩⟩, rfl⟩, Nat.zero_le _, fun j o hj _ => ⟨fun h9 => absurd h9 (hfalse j), fun h9 => by omega⟩, ?_, fun t i hi hat d hd => ?_, fun j o r id k hj hrj hmj hdj => ⟨fun hd => ?_, fun h9 => absurd h9 (hfalse j)⟩, fun id' _ _ _ => by rw [hpAt_zero]⟩
        · rw [hpAt_zero]
          exact hdr.move (fun _ h => h) (Later.refl _ _) hdr.bel (fun _ _ => rfl) (fun _ h => .inl h) hdr.ro (fun id hd => x2 id (hE0 id hd)) (by have := hs.hs.le; omega) (hdr.ys.keep' (Later.refl _ _) rfl (fun i => by rw [x3]) x1 fun _ _ => rfl)
        · have hno : ∀ (j : Nat) o, j < i → ops.toList[j]? = some o → o.dst ≠ some t := fun j o hj ho hdj => hfalse j ((hat j o ho hdj).2 hj)
          have key : ∀ m, m ≤ i → ∀ d, look (slAt ops.toList rs sl m) t = some d → look sl t = some d := by
            intro m
            induction m with
            | zero => intro _ d hd; simpa [slAt, slR] using hd
            | succ m ihm =>
              intro hm d hd
              have hml : m < ops.toList.length := by omega
              obtain ⟨r', hr', he⟩ := slAt_succ (sl := sl) hlen (List.getElem?_eq_getElem hml)
              rw [he] at hd
              refine ihm (by omega) d ?_
              cases hdd : (ops.toList[m]).dst with
              | none => rw [hdd] at hd; exact hd
              | some s =>
                rw [hdd] at hd
                simp only [putO] at hd
                rcases look_put hd with ⟨rfl, _⟩ | ⟨_, hd⟩
                · exact absurd hdd (hno m _ (by omega) (List.getElem?_eq_getElem hml))
                · exact hd
          exact (hs.sl t d (key i (Nat.le_refl _) d hd)).later hldr
        · exfalso
          obtain ⟨_, _, id2, _, _, _, hd2, hge, _⟩ := h11 j o r hj hrj hmj
          rw [hdj] at hd2
          obtain rfl := MkS.inj hd2
          have := hE0 _ hd
          omega
    · cases h
  · cases h
theorem regMM_ext (hcall : CallOk P call) {l : List Oper} {sl : Slots} {hp : Hp} {sl' : Slots} {hp' : Hp} {mu : Mut} (h : regMM T call ds l sl hp = some (sl', hp', mu)) : ∀ b, mutOk b mu → b ≤ hp.n → Ext b hp hp' := by
  unfold regMM at h
  split at h
  · rename_i dl0 hpm hm1
    split at h
    · have hmk := regM1_ok hm1
      obtain ⟨x1, x2, x3⟩ := mkR_ext hmk
      obtain ⟨rs, LD, MS, hlen, h2, h3, h4, h5, ht, _, _, h8, h9, h10, h11, h12⟩ := regM_can hmk h
      intro b hb hle
      have hm := (h4 b hb).2
      have hx0 : Ext b hp hpm := ⟨x1, fun id hid => x2 id (by omega), fun i => by rw [x3], fun i _ => by rw [x3]⟩
      have key : ∀ i, i ≤ rs.length → hpm.n ≤ (hpAt rs hpm i).n ∧ Ext b hpm (hpAt rs hpm i) := by
        intro i
        induction i with
        | zero => intro _; rw [hpAt_zero]; exact ⟨Nat.le_refl _, Ext.refl _ _⟩
        | succ i ih =>
          intro hi
          obtain ⟨k1, k2⟩ := ih (by omega)
          have hr : rs[i]? = some rs[i] := List.getElem?_eq_getElem (by omega)
          have hil : i < l.length := by omega
          have ho := List.getElem?_eq_getElem hil
          rw [hpAt_succ hr]
          cases hmi : isMk l[i] with
          | true =>
            rw [(h11 i _ _ ho hr hmi).1]
            exact ⟨k1, k2⟩
          | false =>
            have := step_ext hcall (h10 i _ _ ho hr hmi) (b := b) (hm _ (List.mem_of_getElem? hr)) (by omega)
            exact ⟨Nat.le_trans k1 this.1, k2.trans this⟩
      have := (key rs.length (Nat.le_refl _)).2
      unfold hpAt at this
      rw [List.take_length, h3] at this
      exact hx0.trans this
    · cases h
  · cases h
theorem regD_ok (hT : TabOk P T) (hmix : P.follows .mixedOrders = true) (hcall : CallOk P call) {id : Nat} {k : Nat} (hc : chkK T ops k = true) (hds : dstsOk N (ops.toList.map (·.dst)) = true) {sl : Slots} {hp : Hp} {e : Ex} {sl' : Slots} {hp' : Hp} {mu : Mut}
    (h : regD T call (ops.toList.map (·.dst)) ops.toList sl hp (some k) = some (e, sl', hp', mu)) {E : Env} {a : Act} {w : World} (hs : Sim fm W0 base S0 E N sl hp a w) (hmu : mutOk base mu) (hQ : ∀ E' a' w', Stp W0 base S0 E hp w E' hp' w' → Sim fm W0 base S0 E' N sl' hp' a' w' → Q .normal a' w') :
    e = .normal ∧ (Code.region id ops true).wpIn (Fr ro) 0 P Q a w := by
  cases hk : Nat.ble 1000 k with
  | true =>
    cases hk2 : Nat.ble 2000 k with
    | false =>
      simp only [regD, hk, hk2, regN] at h
      simp only [chkK, hk, hk2, Bool.and_eq_true] at hc
      split at h
      · rename_i hsf
        split at h
        · rename_i hF
          cases h
          exact ⟨rfl, regF_ok hT hmix hcall hc.1 hc.2 hds hF hsf hs hmu hQ⟩
        · cases h
      · cases h
    | true =>
      simp only [regD, hk, hk2, regN] at h
      simp only [chkK, hk, hk2] at hc
      split at h
      · rename_i hF
        cases h
        exact ⟨rfl, regMM_ok hT hmix hcall hc hds hF hs hmu hQ⟩
      · cases h
  | false =>
    simp only [regD, hk] at h
    simp only [chkK, hk] at hc
    exact regA_ok hT hmix hcall hc hds h hs hmu hQ
theorem regD_normal {l : List Oper} {sl : Slots} {hp : Hp} {k : Nat} {e : Ex} {sl' : Slots} {hp' : Hp} {mu : Mut} (h : regD T call ds l sl hp (some k) = some (e, sl', hp', mu)) : e = .normal := by
  have hN : ∀ {r : Option (Slots × Hp × Mut)}, regN r = some (e, sl', hp', mu) → e = .normal := by
    intro r hr
    unfold regN at hr
    split at hr
    · cases hr; rfl
    · cases hr
  simp only [regD] at h
  split at h
  · split at h
    · exact hN h
    · cases h
  · exact hN h
  · unfold regA at h
    split at h
    · exact hN h
    · cases h
theorem regD_ext (hcall : CallOk P call) (hP : ∀ {l : List Oper} {sl : Slots} {hp : Hp} {sl' : Slots} {hp' : Hp}, regP T call ds l sl hp = some (sl', hp') → ∀ b, b ≤ hp.n → Ext b hp hp') (hE : ∀ {l : List Oper} {sl : Slots} {hp : Hp} {sl' : Slots} {hp' : Hp} {mu : Mut}, regE T call ds l sl hp = some (sl', hp', mu) → ∀ b, mutOk b mu → b ≤ hp.n → Ext b hp hp')
    {l : List Oper} {sl : Slots} {hp : Hp} {k : Nat} {e : Ex} {sl' : Slots} {hp' : Hp} {mu : Mut} (h : regD T call ds l sl hp (some k) = some (e, sl', hp', mu)) : ∀ b, mutOk b mu → b ≤ hp.n → Ext b hp hp' := by
  have hN : ∀ {r : Option (Slots × Hp × Mut)}, regN r = some (e, sl', hp', mu) → r = some (sl', hp', mu) := by
    intro r hr
    unfold regN at hr
    split at hr
    · cases hr; rfl
    · cases hr
  intro b hb hle
  simp only [regD] at h
  split at h
  · split at h
    · exact regF_ext hcall (hN h) b hb hle
    · cases h
  · exact regMM_ext hcall (hN h) b hb hle
  · unfold regA at h
    split at h
    · rename_i h1
      have e1 := hP h1 b hle
      exact e1.trans (hE (hN h) b hb (Nat.le_trans hle e1.1))
    · cases h
end
end
end Go.Proofs.Ytgjgihlfkpbdgaa
/- Records of loops over functions: what their turns leave. No function of the program is named here. -/
namespace Go.Proofs.Ytgjgihlfkpbdgaa
open Go.RowKit

noncomputable section
def isO : Obj → Prop
  | .loop _ => True
  | .deferred _ => True
  | _ => False
theorem cell_putO {w : World} {l : Nat} {o o' : Obj} (h : w.heap[l]? = some o) (h1 : isO o) (h2 : isO o') (p : Addr) : (w.putObj l o').cell? p = w.cell? p := by
  by_cases hp : p.block = l
  · have h3 := World.putObj_heap_same (w := w) (o := o') (Array.getElem?_eq_some_iff.1 h).1
    subst hp
    simp only [World.cell?, h, h3]
    cases o <;> first | exact h1.elim | (cases o' <;> first | exact h2.elim | rfl)
  · have h3 := World.putObj_heap_other (w := w) (o := o') hp
    simp only [World.cell?, h3]
theorem later_putO (E : Env) {w : World} {l : Nat} {o o' : Obj} (h : w.heap[l]? = some o) (h1 : isO o) (h2 : isO o') : Later E w E (w.putObj l o') :=
  ⟨fun _ h => h, fun _ h => ⟨h, rfl, rfl, rfl, Iff.rfl⟩, fun p _ => cell_putO h h1 h2 p, fun _ _ h => h⟩
section
variable {W0 : World} {base : Nat} {S0 : Nat → Prop} {E : Env} {hp hp' : Hp} {w : World}
theorem HS.putO {l : Nat} {o o' : Obj} (hs : HS W0 base S0 E hp w) (h : w.heap[l]? = some o) (h1 : isO o) (h2 : isO o') (hl : W0.heap.size ≤ l) (hg : ∀ id, hp'.get id = hp.get id) (hn : hp'.n = hp.n) (hys : YsOk W0 base E hp' (w.putObj l o')) : HS W0 base S0 E hp' (w.putObj l o') := by
  refine hs.move (fun _ h => h) (later_putO E h h1 h2) (hs.bel.trans ⟨rfl, rfl, rfl, by simp, fun k hk => World.putObj_heap_other (by omega)⟩) (fun id hd => ?_) (fun b hb => .inl hb) (fun b hb => by simpa using hs.ro b hb) (fun id _ => hg id) (by rw [hn]; exact hs.le) hys
  obtain ⟨ob, _, _, _, vs, ⟨lo, hi, hb, _⟩, _⟩ := hs.ob id hd
  exact World.putObj_heap_other fun e => by
    rw [e, h] at hb
    cases hb
    exact h1.elim
theorem later_allocO (E : Env) (o : Obj) (h : ∀ b, E.S b → b < w.heap.size) : Later E w E (w.alloc o) :=
  ⟨fun _ h => h, fun _ h => ⟨h, rfl, rfl, rfl, Iff.rfl⟩, fun p hp => by
    have := Below.heap_alloc w o _ (h _ hp)
    simp only [World.cell?, this], fun _ _ h => h⟩
theorem HS.allocO (o : Obj) (hs : HS W0 base S0 E hp w) : HS W0 base S0 E hp (w.alloc o) := by
  refine hs.move (fun _ h => h) (later_allocO E o hs.ro) (hs.bel.alloc hs.bel.size o) (fun id hd => ?_) (fun b hb => .inl hb) (fun b hb => ?_) (fun _ _ => rfl) hs.le (hs.ys.keep (later_allocO E o hs.ro) rfl rfl (Nat.le_refl _) fun k hk => Below.heap_alloc w o _ (isO_lt hk))
  · obtain ⟨_, _, hk⟩ := hs.ob id hd
    exact Below.heap_alloc w o _ hk.lt
  · have := hs.ro b hb
    simp
    omega
theorem oth_allocO (o : Obj) : Oth w (w.alloc o) := ⟨by simp, fun k x hk => (Below.heap_alloc w o _ (Array.getElem?_eq_some_iff.1 hk).1).trans hk, fun k r hk => ⟨r, (Below.heap_alloc w o _ (Array.getElem?_eq_some_iff.1 hk).1).trans hk, rfl⟩⟩
theorem oth_putL {l : Nat} {r r' : Loop} (h : w.heap[l]? = some (.loop r)) (ht : r'.tmps = r.tmps) : Oth w (w.putObj l (.loop r')) := ⟨by simp, fun k x hk => (World.putObj_heap_other (fun e => by rw [e, h] at hk; cases hk)).trans hk, fun k q hk => by
  by_cases e : k = l
  · subst e
    rw [h] at hk
    cases hk
    exact ⟨r', World.putObj_heap_same (Array.getElem?_eq_some_iff.1 h).1, ht⟩
  · exact ⟨q, (World.putObj_heap_other e).trans hk, rfl⟩⟩
/-- one loop's record turns -/
theorem HS.lay (hs : HS W0 base S0 E hp w) {k : Nat} {R : LS} (hR : lfind k hp.ls = some R) {b D : Nat} (hb : E.yb k = some (b, D)) {r : Loop} (hr : w.heap[b]? = some (.loop r)) (hbk : base ≤ k) (st : Nat) (pe : Option Code) :
    HS W0 base S0 E (hp.lay k st pe) (w.putObj b (.loop { r with state := stOf st, pending := pe })) := by
  obtain ⟨b', D', r0, q1, q2, q3, q4, q5⟩ := hs.ys.ok k R hR
  have hid := (lfind_mem hR).2
  rw [hid, hb] at q1
  cases q1
  rw [hr] at q3
  cases q3
  have hl := later_putO E (o' := .loop { r with state := stOf st, pending := pe }) hr trivial trivial
  refine hs.putO hr trivial trivial (q2 (by omega)) (fun _ => rfl) rfl ⟨fun id R' hR' => ?_, hs.ys.inj, fun id x hx => ⟨(hs.ys.lt id x hx).1, ?_⟩, hs.gl.later hl⟩
  · replace hR' : lfind id (lset k st pe hp.ls) = some R' := hR'
    rw [lfind_lset] at hR'
    split at hR'
    · rename_i he
      subst he
      rw [hR] at hR'
      cases hR'
      refine ⟨b, D, { r with state := stOf st, pending := pe }, by show E.yb R.id = _; rw [hid]; exact hb, q2, World.putObj_heap_same (Array.getElem?_eq_some_iff.1 hr).1, (World.putObj_heap_other (fun e => by rw [e, hr] at q4; cases q4)).trans q4, q5.1, rfl, rfl, q5.2.2.2.1, q5.2.2.2.2.1, q5.2.2.2.2.2.1, q5.2.2.2.2.2.2.1, fun t d ht => (q5.2.2.2.2.2.2.2 t d ht).later (hl.cut _)⟩
    · rename_i hne
      obtain ⟨b2, D2, r2, p1, p2, p3, p4, p5⟩ := hs.ys.ok id R' hR'
      have hid' := (lfind_mem hR').2
      have hbb : b2 ≠ b := fun e => hne (by rw [← hid']; exact hs.ys.inj _ _ _ _ _ p1 (by rw [e]; exact hb))
      exact ⟨b2, D2, r2, p1, p2, (World.putObj_heap_other hbb).trans p3, (World.putObj_heap_other (fun e => by rw [e, hr] at p4; cases p4)).trans p4, p5.1, p5.2.1, p5.2.2.1, p5.2.2.2.1, p5.2.2.2.2.1, p5.2.2.2.2.2.1, p5.2.2.2.2.2.2.1, fun t d ht => (p5.2.2.2.2.2.2.2 t d ht).later (hl.cut _)⟩
  · show (lfind id (lset k st pe hp.ls)).isSome = true
    have := congrArg Option.isSome (lset_stat k st pe id hp.ls)
    simp only [Option.isSome_map] at this
    rw [this]
    exact (hs.ys.lt id x hx).2
theorem ext_lay (hp : Hp) {k base : Nat} (h : base ≤ k) (st : Nat) (pe : Option Code) : Ext base hp (hp.lay k st pe) :=
  ⟨Nat.le_refl _, fun _ _ => rfl, fun i => lset_stat k st pe i hp.ls, fun i hi => by
    show lfind i (lset k st pe hp.ls) = _
    rw [lfind_lset, if_neg (by omega)]⟩
theorem stp_lay (hs : HS W0 base S0 E hp w) {k : Nat} {R : LS} (hR : lfind k hp.ls = some R) {b D : Nat} (hb : E.yb k = some (b, D)) {r : Loop} (hr : w.heap[b]? = some (.loop r)) (hbk : base ≤ k) (st : Nat) (pe : Option Code) :
    Stp W0 base S0 E hp w E (hp.lay k st pe) (w.putObj b (.loop { r with state := stOf st, pending := pe })) :=
  ⟨later_putO E hr trivial trivial, hs.lay hR hb hr hbk st pe, ext_lay hp hbk st pe, fun _ _ h => h, oth_putL hr rfl, rfl⟩
/-- what names no loop is known without loops -/
theorem VR.uncut {n : Nat} : ∀ (m : Nat) {d : DV} {v : Value} {E : Env}, VR w E d v → noY m d = true → VR w (E.cut n) d v := by
  intro m
  induction m with
  | zero => intro d v E _ h; cases d <;> simp [noY] at h
  | succ m ih =>
    intro d v E h hn
    cases h with
    | int _ k n => exact .int _ k n
    | bool _ b => exact .bool _ b
    | str _ s => exact .str _ s
    | nil => exact .nil _
    | list _ s xs A c b off g h1 h2 h3 h4 h5 h6 h7 h8 => exact .list _ s xs A c b off g h1 h2 h3 h4 h5 h6 h7 h8
    | sl _ id off s n c A c' hd h1 h2 h3 h4 h5 => exact .sl _ id off s n c A c' hd h1 h2 h3 h4 h5
    | ptr _ id off hd => exact .ptr (E.cut _) id off hd
    | fptr _ cs b off g h1 h2 h3 => exact .fptr _ cs b off g h1 h2 h3
    | nilp => exact .nilp _
    | agg _ cs vs h1 h2 =>
      simp only [noY, List.all_eq_true] at hn
      exact .agg _ cs vs h1 fun j d v hd hv => ih (h2 j d v hd hv) (hn d (List.mem_of_getElem? hd))
    | tuple _ cs vs h1 h2 =>
      simp only [noY, List.all_eq_true] at hn
      exact .tuple _ cs vs h1 fun j d v hd hv => ih (h2 j d v hd hv) (hn d (List.mem_of_getElem? hd))
    | fn _ f fs cs us vs h1 h2 h3 h4 =>
      simp only [noY, Bool.and_eq_true, List.all_eq_true] at hn
      exact .fn _ f fs cs us vs h1 h2 (fun j d v hd hv => ih (h3 j d v hd hv) (hn.1 d (List.mem_of_getElem? hd))) (fun j d v hd hv => ih (h4 j d v hd hv) (hn.2 d (List.mem_of_getElem? hd)))
    | nilf => exact .nilf _
    | yld _ id b D hd => simp [noY] at hn
    | iface _ t d v h =>
      simp only [noY] at hn
      exact .iface _ t d v (ih h hn)
    | nili => exact .nili _
    | any _ v => exact .any _ v
theorem scal_noY {d : DV} (h : scal d = true) : noY 6 d = true := by
  cases d with
  | fn f fs cs => exact h
  | iface t d => exact h
  | agg cs => cases h
  | tuple cs => cases h
  | any => rfl
  | yld id => cases h
  | _ => rfl
theorem VRs.uncut {n : Nat} {ds : List DV} {vs : List Value} (h : VRs E w ds vs) (hs : scals ds = true) : VRs (E.cut n) w ds vs :=
  ⟨h.1, fun j d v hd hv => (h.2 j d v hd hv).uncut 6 (scal_noY ((scals_iff ds).1 hs d (List.mem_of_getElem? hd)))⟩
theorem ObOk.uncut {n id : Nat} {o : Ob} (h : ObOk E w id o) : ObOk (E.cut n) w id o := by
  obtain ⟨h1, h0, vs, h2, h3, h4, h5⟩ := h
  exact ⟨h1, h0, vs, h2, h3, h4, h5.uncut h0⟩
theorem HS.cut {n : Nat} (hs : HS W0 base S0 E hp w) (hg : ∀ id, hp'.get id = hp.get id) (hn : hp'.n = hp.n) (hys : YsOk W0 base (E.cut n) hp' w) : HS W0 base S0 (E.cut n) hp' w :=
  ⟨hs.bel, fun id hd => (hs.ob id hd).imp fun o ho => ⟨by rw [hg]; exact ho.1, ho.2.uncut⟩, hs.own, hs.old, fun i j oi oj hi hj hne hb hoi hoj => hs.inj i j oi oj hi hj hne hb (by rw [← hg]; exact hoi) (by rw [← hg]; exact hoj), hs.ro, hs.olds, by rw [hn]; exact hs.le, hys⟩
theorem Hp.get_beg (h : Hp) (nc : Nat) (ks : List (Nat × Nat)) (sl : Slots) (ps : List Nat) (a b : Code) (id : Nat) (hid : id < h.n) : (h.beg nc ks sl ps a b).get id = h.get id := by
  have : (h.beg nc ks sl ps a b).get id = (h.push ⟨0, 0, 0, []⟩).get id := rfl
  rw [this, Hp.get_push, if_neg (by omega)]
theorem lfind_beg (h : Hp) (nc : Nat) (ks : List (Nat × Nat)) (sl : Slots) (ps : List Nat) (a b : Code) (id : Nat) : lfind id (h.beg nc ks sl ps a b).ls = if h.n = id then some ⟨h.n, nc, ks, sl, ps, a, b, 0, none⟩ else lfind id h.ls := by
  simp only [Hp.beg, lfind]
  by_cases e : h.n = id
  · rw [beqT e, if_pos e]
  · rw [beqF e, if_neg e]
def Env.withY (E : Env) (n b D : Nat) : Env := { E with yb := fun i => if i = n then some (b, D) else E.yb i }
theorem YsOk.cut_self (h : YsOk W0 base E hp w) : E.cut hp.n = E := by
  obtain ⟨S, b, bs, sz, X, D, yb⟩ := E
  simp only [Env.cut, Env.mk.injEq, true_and]
  funext i
  split
  · rfl
  · rename_i hi
    cases hy : yb i with
    | none => rfl
    | some x => exact absurd (h.lt i x hy).1 hi
theorem Env.withY_cut (E : Env) (n b D : Nat) : (E.withY n b D).cut n = E.cut n := by
  simp only [Env.cut, Env.withY]
  congr
  funext i
  by_cases hi : i < n
  · rw [if_pos hi, if_pos hi, if_neg (by omega)]
  · rw [if_neg hi, if_neg hi]
theorem YsOk.later_withY (h : YsOk W0 base E hp w) (b D : Nat) : Later E w (E.withY hp.n b D) w :=
  ⟨fun _ h => h, fun _ h => ⟨h, rfl, rfl, rfl, Iff.rfl⟩, fun _ _ => rfl, fun id x hx => by
    have := (h.lt id x hx).1
    show (if id = hp.n then some (b, D) else E.yb id) = some x
    rw [if_neg (by omega)]
    exact hx⟩
/-- a loop begins -/
theorem HS.beg (hs : HS W0 base S0 E hp w) {b D : Nat} {r : Loop} {nc : Nat} {ks : List (Nat × Nat)} {sl : Slots} {ps : List Nat} {x y : Code} (hb : W0.heap.size ≤ b) (hr : w.heap[b]? = some (.loop r)) (hD : w.heap[D]? = some (.deferred (some []))) (h1 : r.defers = D) (h2 : r.state = .ready) (h3 : r.pending = none)
    (h4 : r.params = ps.toArray) (h5 : r.assign = x) (h6 : r.body = y) (h7 : r.tmps.size = nc) (h8 : ∀ t d, look sl t = some d → VR w E d (r.tmps.getD t undef)) (hnew : ∀ id b' D', E.yb id = some (b', D') → b' ≠ b) :
    HS W0 base S0 (E.withY hp.n b D) (hp.beg nc ks sl ps x y) w := by
  have hl := hs.ys.later_withY b D
  refine hs.move (fun _ h => h) hl hs.bel (fun _ _ => rfl) (fun _ h => .inl h) hs.ro (fun id hd => Hp.get_beg _ _ _ _ _ _ _ id (hs.dlt hd)) (by have := hs.le; simp only [Hp.beg]; omega) ⟨fun id R hR => ?_, fun i j b1 D1 D2 e1 e2 => ?_, fun id z hz => ?_, hs.gl.later hl⟩
  · rw [lfind_beg] at hR
    split at hR
    · rename_i he
      cases hR
      refine ⟨b, D, r, by show (if hp.n = hp.n then _ else _) = _; rw [if_pos rfl], fun _ => hb, hr, hD, h1, h2, h3, h4, h5, h6, h7, fun t d ht => ?_⟩
      show VR w ((E.withY hp.n b D).cut hp.n) d _
      rw [Env.withY_cut, hs.ys.cut_self]
      exact h8 t d ht
    · exact (hs.ys.ok id R hR).keep hl (fun _ _ => rfl) fun b hb _ => hb
  · replace e1 : (if i = hp.n then some (b, D) else E.yb i) = some (b1, D1) := e1
    replace e2 : (if j = hp.n then some (b, D) else E.yb j) = some (b1, D2) := e2
    split at e1 <;> split at e2
    · omega
    · cases e1
      exact absurd rfl (hnew _ _ _ e2)
    · cases e2
      exact absurd rfl (hnew _ _ _ e1)
    · exact hs.ys.inj _ _ _ _ _ e1 e2
  · replace hz : (if id = hp.n then some (b, D) else E.yb id) = some z := hz
    rw [lfind_beg]
    split at hz
    · rename_i he
      refine ⟨by simp only [Hp.beg]; omega, by rw [if_pos he.symm]; rfl⟩
    · rename_i he
      obtain ⟨q1, q2⟩ := hs.ys.lt id z hz
      exact ⟨by simp only [Hp.beg]; omega, by rw [if_neg (fun e => he e.symm)]; exact q2⟩
/-- a block for deferred calls is shut -/
theorem stp_take {E' : Env} {hp0 : Hp} {w0 : World} {D : Nat} {x : Option (List Deferred)} (hst : Stp W0 base S0 E hp0 w0 E' hp w) (hD : W0.heap.size ≤ D) (hD0 : w0.heap.size ≤ D) (hk : w.heap[D]? = some (.deferred x)) (hn : ∀ id b D', E'.yb id = some (b, D') → D' ≠ D) :
    Stp W0 base S0 E hp0 w0 E' hp (w.putObj D (.deferred none)) ∧ Later E' w E' (w.putObj D (.deferred none)) := by
  have hl := later_putO E' (o' := .deferred none) hk trivial trivial
  refine ⟨⟨hst.later.trans hl, hst.hs.putO hk trivial trivial hD (fun _ => rfl) rfl ⟨fun id R hR => ?_, hst.hs.ys.inj, hst.hs.ys.lt, hst.hs.gl.later hl⟩, hst.ext, hst.dom, ⟨by have := hst.oth.1; simpa using this, fun k x hk0 => ?_, fun k r hk0 => ?_⟩, hst.yb⟩, hl⟩
  · obtain ⟨b2, D2, r2, p1, p2, p3, p4, p5⟩ := hst.hs.ys.ok id R hR
    exact ⟨b2, D2, r2, p1, p2, (World.putObj_heap_other (fun e => by rw [e, hk] at p3; cases p3)).trans p3, (World.putObj_heap_other (hn _ _ _ p1)).trans p4, p5.1, p5.2.1, p5.2.2.1, p5.2.2.2.1, p5.2.2.2.2.1, p5.2.2.2.2.2.1, p5.2.2.2.2.2.2.1, fun t d ht => (p5.2.2.2.2.2.2.2 t d ht).later (hl.cut _)⟩
  · have := (Array.getElem?_eq_some_iff.1 hk0).1
    exact (World.putObj_heap_other (by omega)).trans (hst.oth.2.1 k x hk0)
  · have := (Array.getElem?_eq_some_iff.1 hk0).1
    obtain ⟨r', h1, h2⟩ := hst.oth.2.2 k r hk0
    exact ⟨r', (World.putObj_heap_other (by omega)).trans h1, h2⟩
end
theorem putP_ok {w : World} {E : Env} {NC : Nat} : ∀ (ts : List Nat) (ds : List DV) (vs : List Value) (sl : Slots) (tm : Array Value), (∀ t ∈ ts, t < NC) → tm.size = NC → VRs E w ds vs → (∀ t d, look sl t = some d → VR w E d (tm.getD t undef)) →
    ((ts.zip vs).foldl (fun m (x : Nat × Value) => m.setIfInBounds x.1 x.2) tm).size = NC ∧ ∀ t d, look (putP sl ts ds) t = some d → VR w E d (((ts.zip vs).foldl (fun m (x : Nat × Value) => m.setIfInBounds x.1 x.2) tm).getD t undef)
  | [], ds, vs, sl, tm, _, hz, _, h => by
    cases ds <;> exact ⟨by simpa using hz, by simpa [putP] using h⟩
  | t :: ts, [], vs, sl, tm, _, hz, hv, h => by
    rw [hv.unnil]
    exact ⟨by simpa using hz, by simpa [putP] using h⟩
  | t :: ts, d :: ds, vs, sl, tm, ht, hz, hv, h => by
    obtain ⟨v, vs', rfl, h1, h2⟩ := hv.uncons
    refine putP_ok ts ds vs' (putS sl t d) (tm.setIfInBounds t v) (fun s hs => ht s (List.mem_cons_of_mem _ hs)) (by simpa using hz) h2 fun s e hs => ?_
    have htn : t < tm.size := by rw [hz]; exact ht t (List.mem_cons_self ..)
    rw [getD_set htn]
    rcases look_put hs with ⟨rfl, rfl⟩ | ⟨hne, hs⟩
    · rw [if_pos rfl]; exact h1
    · rw [if_neg hne]; exact h s _ hs
theorem ltAll_ok {n : Nat} : ∀ {l : List Nat}, ltAll n l = true → ∀ t ∈ l, t < n
  | [], _, t, h => by cases h
  | s :: l, h, t, ht => by
    simp only [ltAll, Bool.and_eq_true] at h
    rcases List.mem_cons.1 ht with rfl | ht
    · exact Nat.le_of_ble_eq_true h.1
    · exact ltAll_ok h.2 t ht
end
end Go.Proofs.Ytgjgihlfkpbdgaa
/- Code over abstract data: the whole. No function of the program is named here. -/
namespace Go.Proofs.Ytgjgihlfkpbdgaa
open Go.RowKit

noncomputable section
def exOf : Ex → Exit
  | .normal => .normal
  | .exit id => .exit id
  | .ret => .ret
def FunOk (P : Program) (T : Tab) (F : FTab) : Prop := ∀ f fn, F f = some fn → ∃ g, P.funcs[f]? = some g ∧ g.body = some fn.body ∧ (g.name == "runtime.NumGoroutine") = false ∧ g.results = fn.res.toArray ∧ g.ntmps = fn.nt ∧ codeChk T fn.nt fn.ks fn.body = true
theorem stepR_scope {P : Program} {b : Frame} {a : Act} {k : List Item} {cs : List Frame} {w : World} {c : Code} : step P (lone (b.atR a (.code (.scope c) :: k)) cs w) = .next (lone (b.atR a (.code c :: .inScope c :: k)) cs w) :=
  step_lone_go (by simp [stepG, stepG.exec, Frame.atR])
theorem stepR_inScope {P : Program} {b : Frame} {a : Act} {k : List Item} {cs : List Frame} {w : World} {c : Code} : step P (lone (b.atR a (.inScope c :: k)) cs w) = .next (lone (b.atR a k) cs w) :=
  step_lone_go (by simp [stepG, stepG.exec, Frame.atR])
theorem wpIn_scope_straight {F : Fence} {n : Nat} {P : Program} {Q : Exit → Act → World → Prop} {a : Act} {w : World} {c : Code} (h : c.wpIn F n P (Exit.noGoto Q) a w) : (Code.scope c).wpIn F n P Q a w := by
  intro b k cs hro hb hr
  have h0 : (lone (b.atR a (.code (.scope c) :: k)) cs w).fenced P F := fenced_calm hb hr rfl
  obtain ⟨e, a₁, w₁, hq, harr⟩ := h b (.inScope c :: k) cs hro hb hr
  cases e with
  | normal => exact ⟨.normal, a₁, w₁, hq, .head h0 stepR_scope (StepsIn.trans harr (.one (fenced_calm hb hr rfl) stepR_inScope))⟩
  | exit id =>
    have hx : exitTo id (.inScope c :: k) = exitTo id k := by simp [exitTo]
    exact ⟨_, a₁, w₁, hq, fun k' hk => .head h0 stepR_scope (harr.1 k' (by rw [hx]; exact hk)),
      fun hr' hk => let ⟨k₁, h1, h2⟩ := harr.2 hr' (by rw [hx]; exact hk); ⟨k₁, h1, .head h0 stepR_scope h2⟩⟩
  | goto l => exact hq.elim
  | ret => exact ⟨_, a₁, w₁, hq, .of_steps (.one h0 stepR_scope) harr⟩
  | panic ch => exact ⟨_, a₁, w₁, hq, .of_steps (.one h0 stepR_scope) harr⟩
  | outgrown => exact ⟨_, a₁, w₁, hq, .of_steps (.one h0 stepR_scope) harr⟩
variable {P : Program} {T : Tab} {F : FTab} {C : ConF}
theorem opE_ext {call : CallF} (hcall : CallOk P call) {o : Oper} {sl : Slots} {hp : Hp} {d : DV} {hp' : Hp} {mu : Mut} (h : opE T call o sl hp = some (d, hp', mu)) {b : Nat} (hmu : mutOk b mu) (hb : b ≤ hp.n) : Ext b hp hp' := by
  unfold opE at h
  split at h
  · rename_i q hq
    have : q = (d, hp', mu) := by simpa using h
    subst this
    exact aop_ext hq hmu hb
  · exact (hcall.f _ _ _ _ _ _ h).2.1 b hmu hb
  · exact (hcall.y _ _ _ _ _ _ h).1 b hmu hb
  · cases h
theorem regE_ext {call : CallF} (hcall : CallOk P call) {ds : List (Option Tmp)} : ∀ {l : List Oper} {sl : Slots} {hp : Hp} {sl' : Slots} {hp' : Hp} {mu : Mut}, regE T call ds l sl hp = some (sl', hp', mu) → ∀ b, mutOk b mu → b ≤ hp.n → Ext b hp hp'
  | [], sl, hp, sl', hp', mu, h, b, _, _ => by cases h; exact Ext.refl _ _
  | o :: l, sl, hp, sl', hp', mu, h, b, hmu, hb => by
    rw [regE_cons] at h
    unfold gateX at h
    split at h
    · unfold regE1 at h
      split at h
      · rename_i d hp1 m1 hop
        split at h
        · rename_i sl2 hp2 m2 hrest
          cases h
          obtain ⟨h1, h2⟩ := mutOk_mmin hmu
          have e1 := opE_ext hcall hop h1 hb
          exact e1.trans (regE_ext hcall hrest b h2 (Nat.le_trans hb e1.1))
        · cases h
      · cases h
    · exact regE_ext hcall h b hmu hb
    · cases h
theorem regP_ext {call : CallF} (hcall : CallOk P call) {ds : List (Option Tmp)} : ∀ {l : List Oper} {sl : Slots} {hp : Hp} {sl' : Slots} {hp' : Hp}, regP T call ds l sl hp = some (sl', hp') → ∀ b, b ≤ hp.n → Ext b hp hp'
  | [], sl, hp, sl', hp', h, b, _ => by cases h; exact Ext.refl _ _
  | o :: l, sl, hp, sl', hp', h, b, hb => by
    rw [regP_cons] at h
    unfold gateX at h
    split at h
    · unfold regP1 at h
      split at h
      · rename_i d hp1 hop
        have e1 := opE_ext hcall hop (b := b) trivial hb
        exact e1.trans (regP_ext hcall h b (Nat.le_trans hb e1.1))
      · cases h
    · exact regP_ext hcall h b hb
    · cases h
/-- the evaluator is right -/
def ExecOk (P : Program) (T : Tab) (q : XF) : Prop := ∀ N ks c sl hp e sl' hp' mu, q ks c sl hp = some (e, sl', hp', mu) → codeChk T N ks c = true → (∀ base, mutOk base mu → base ≤ hp.n → Ext base hp hp') ∧
  ∀ fm W0 base S0 E a w (Q : Exit → Act → World → Prop), Sim fm W0 base S0 E N sl hp a w → mutOk base mu → (∀ E' a' w', Stp W0 base S0 E hp w E' hp' w' → Sim fm W0 base S0 E' N sl' hp' a' w' → Q (exOf e) a' w') → c.wpIn (Fr fm.ro) 0 P Q a w
def LoopOk (P : Program) (T : Tab) (q : XF) (n : Nat) : Prop := ∀ N ks c sl hp e sl' hp' mu, q ks (.loop c) sl hp = some (e, sl', hp', mu) → codeChk T N ks c = true → (∀ base, mutOk base mu → base ≤ hp.n → Ext base hp hp') ∧
  ∀ fm W0 base S0 E a w (Q : Exit → Act → World → Prop), Sim fm W0 base S0 E N sl hp a w → mutOk base mu → (∀ E' a' w', Stp W0 base S0 E hp w E' hp' w' → Sim fm W0 base S0 E' N sl' hp' a' w' → Q (exOf e) a' w') → Code.roundsIn (Fr fm.ro) 0 P c Q n a w
theorem flat1_ok {E E' : Env} {w : World} {d : DV} {v : Value} (h : VR w E d v) (hf : flat1 d = true) (hS : ∀ b, E.S b → E'.S b) : VR w E' d v := by
  cases d with
  | list s xs =>
    obtain ⟨A, c, b, off, g, rfl, h1, h2, h3, h4, h5, h6, h7, h8⟩ := h.of_list
    exact .list _ s xs A c b off g h1 h2 h3 (fun h => ⟨(h4 h).1, hS _ (h4 h).2⟩) h5 h6 (fun i cs j d hi hj => (h7 i cs j d hi hj).later ⟨hS, fun _ h => h.elim, fun _ _ => rfl, fun _ _ h => (by cases h)⟩) h8
  | int k n => cases h; exact .int _ k n
  | bool b => cases h; exact .bool _ b
  | str s => cases h; exact .str _ s
  | nil => cases h; exact .nil _
  | nilp => cases h; exact .nilp _
  | nilf => cases h; exact .nilf _
  | nili => cases h; exact .nili _
  | _ => cases hf
theorem flats1_ok {E E' : Env} {w : World} (hS : ∀ b, E.S b → E'.S b) : ∀ {ds : List DV} {vs : List Value}, VRs E w ds vs → flats1 ds = true → VRs E' w ds vs
  | [], vs, h, _ => by rw [h.unnil]; exact .nil _ _
  | d :: ds, vs, h, hf => by
    simp only [flats1, Bool.and_eq_true] at hf
    obtain ⟨v, vs', rfl, h1, h2⟩ := h.uncons
    exact .cons (flat1_ok h1 hf.1 hS) (flats1_ok hS h2 hf.2)
theorem flat2_ok {E E' : Env} {w : World} {d : DV} {v : Value} (h : VR w E d v) (hf : flat2 d = true) (hS : ∀ b, E.S b → E'.S b) : VR w E' d v := by
  cases d with
  | agg cs =>
    obtain ⟨vs, rfl, hvs⟩ := h.of_agg
    exact (flats1_ok hS hvs hf).agg
  | _ => exact flat1_ok h hf hS
theorem flats2_ok {E E' : Env} {w : World} (hS : ∀ b, E.S b → E'.S b) : ∀ {ds : List DV} {vs : List Value}, VRs E w ds vs → flats2 ds = true → VRs E' w ds vs
  | [], vs, h, _ => by rw [h.unnil]; exact .nil _ _
  | d :: ds, vs, h, hf => by
    simp only [flats2, Bool.and_eq_true] at hf
    obtain ⟨v, vs', rfl, h1, h2⟩ := h.uncons
    exact .cons (flat2_ok h1 hf.1 hS) (flats2_ok hS h2 hf.2)
theorem flatD_ok {E E' : Env} {w : World} {d : DV} {v : Value} (h : VR w E d v) (hf : flatD d = true) (hS : ∀ b, E.S b → E'.S b) : VR w E' d v := by
  cases d with
  | tuple cs =>
    obtain ⟨vs, rfl, hvs⟩ := h.of_tuple
    exact (flats2_ok hS hvs hf).tuple
  | _ => exact flat2_ok h hf hS
theorem look_initL : ∀ (ds : List DV) (s : Slots) (k t : Nat) (d : DV), look (initS.initL s k ds) t = some d → (k ≤ t ∧ ds[t - k]? = some d) ∨ look s t = some d
  | [], s, k, t, d, h => .inr h
  | e :: ds, s, k, t, d, h => by
    rcases look_initL ds (putS s k e) (k + 1) t d h with ⟨h1, h2⟩ | h
    · refine .inl ⟨by omega, ?_⟩
      rw [show t - k = (t - (k + 1)) + 1 by omega]
      simpa using h2
    · rcases look_put h with ⟨rfl, rfl⟩ | ⟨_, h⟩
      · exact .inl ⟨Nat.le_refl _, by simp⟩
      · exact .inr h
theorem look_initS {nt : Nat} {ds : List DV} {t : Nat} {d : DV} (h : look (initS nt ds) t = some d) : ds[t]? = some d := by
  rcases look_initL ds _ 0 t d h with ⟨_, h⟩ | h
  · simpa using h
  · rw [look_mkS] at h; cases h
def resSem (tmps : Array Value) (x : ResultVar) : Sem Value :=
  match x with
  | .tmp t => pure (tmps.getD t undef)
  | .cell b t => do loadVar t (← asAddr (tmps.getD b undef))
theorem resOne_ok (hT : TabOk P T) {W0 : World} {base : Nat} {S0 : Nat → Prop} {E : Env} {w : World} {a : Act} {hp : Hp} {sl : Slots} (hs : HS W0 base S0 E hp w) (hsl : ∀ t d, look sl t = some d → VR w E d (a.tmps.getD t undef)) {x : ResultVar} {d : DV} (h : resOne T hp sl x = some d) :
    ∃ v, VR w E d v ∧ (resSem a.tmps x).run P w = .ok v w := by
  cases x with
  | tmp t => exact ⟨_, hsl t d h, rfl⟩
  | cell b t =>
    simp only [resOne] at h
    split at h
    · rename_i id off i hb hi
      split at h
      · rename_i o ho
        obtain ⟨hv, hD⟩ := (hsl b _ hb).of_ptr
        obtain ⟨o', ho', hok⟩ := hs.ob id hD
        rw [ho] at ho'
        cases ho'
        obtain ⟨u, hu, hud⟩ := load_run (P := P) (hT _ _ hi) (Lies.of_ob hok) h
        exact ⟨u, hud, by simp only [resSem, hv, asAddr, Sem.run_bind, Sem.run_pure, Result.andThen_ok, hu]⟩
      · cases h
    · cases h
theorem resD_ok (hT : TabOk P T) {W0 : World} {base : Nat} {S0 : Nat → Prop} {E : Env} {w : World} {a : Act} {hp : Hp} {sl : Slots} (hs : HS W0 base S0 E hp w) (hsl : ∀ t d, look sl t = some d → VR w E d (a.tmps.getD t undef)) : ∀ {ts : List ResultVar} {ds : List DV}, resD T hp sl ts = some ds →
    ∃ vs : List Value, VRs E w ds vs ∧ (ts.mapM (resSem a.tmps)).run P w = .ok vs w
  | [], ds, h => by simp [resD] at h; subst h; exact ⟨[], .nil _ _, rfl⟩
  | t :: ts, ds, h => by
    simp only [resD] at h
    split at h
    · rename_i d ds' h1 h2
      cases h
      obtain ⟨v, hv, hr⟩ := resOne_ok (P := P) hT hs hsl h1
      obtain ⟨vs, hvs, hrs⟩ := resD_ok hT hs hsl h2
      exact ⟨v :: vs, .cons hv hvs, by simp only [List.mapM_cons, Sem.run_bind, hr, hrs, Result.andThen_ok, Sem.run_pure]⟩
    · cases h
theorem results_ok (hT : TabOk P T) {W0 : World} {base : Nat} {S0 : Nat → Prop} {E : Env} {w : World} {a : Act} {hp : Hp} {sl : Slots} (hs : HS W0 base S0 E hp w) (hsl : ∀ t d, look sl t = some d → VR w E d (a.tmps.getD t undef)) {ts : List ResultVar} {ds : List DV} (h : resD T hp sl ts = some ds) {fn : Func} (hr : fn.results = ts.toArray) :
    ∃ v, (results fn a.tmps).run P w = .ok v w ∧ VR w E (one ds) v := by
  obtain ⟨us, hus, hrun⟩ := resD_ok (P := P) hT hs hsl h
  have hm : (fn.results.mapM (resSem a.tmps)).run P w = .ok us.toArray w := by
    rw [hr, List.mapM_toArray, Sem.run_map, hrun]
    rfl
  unfold results
  rw [Sem.run_bind]
  refine ⟨(if h : us.toArray.size = 1 then us.toArray[0] else .tuple us.toArray), (congrArg (fun x => Result.andThen x _) hm).trans rfl, ?_⟩
  match us, ds, hus with
  | [u], [e], hus => exact hus.2 0 e u rfl rfl
  | [], [], hus => exact hus.tuple
  | u :: u' :: us, e :: e' :: es, hus =>
    have h1 : ¬ (u :: u' :: us).toArray.size = 1 := by simp
    rw [dif_neg h1]
    exact hus.tuple
  | [], _ :: _, hus => exact absurd hus.1 (by simp)
  | _ :: _, [], hus => exact absurd hus.1 (by simp)
  | [_], _ :: _ :: _, hus => exact absurd hus.1 (by simp)
  | _ :: _ :: _, [_], hus => exact absurd hus.1 (by simp)
theorem mnorm_ok {n base : Nat} {mu : Mut} (h : mutOk base (mnorm n mu)) (hb : base ≤ n) : mutOk base mu := by
  cases mu with
  | none => trivial
  | some k =>
    show base ≤ k
    by_cases hle : n ≤ k
    · omega
    · have : mnorm n (some k) = some k := by simp only [mnorm, bleF hle]
      rw [this] at h
      exact h
theorem mnorm_none {n : Nat} {mu : Mut} (h : mnorm n mu = none) : mutOk n mu := by
  cases mu with
  | none => trivial
  | some k =>
    by_cases hle : n ≤ k
    · exact hle
    · have : mnorm n (some k) = some k := by simp only [mnorm, bleF hle]
      rw [this] at h
      cases h
/-- a frame is left: its marks are taken up -/
theorem leaves_ok (hT : TabOk P T) {g : Func} {ts : List ResultVar} (hr : g.results = ts.toArray) {W0 : World} {base : Nat} {S0 : Nat → Prop} {E E' : Env} {N : Nat} {sl : Slots} {hp hp1 : Hp} {a : Act} {w w' : World} (hst : Stp W0 base S0 E hp w E' hp1 w') (hs : Sim ⟨none, w.heap.size⟩ W0 base S0 E' N sl hp1 a w')
    {ds : List DV} (hds : resD T hp1 sl ts = some ds) {R : Ending → World → Prop} (hR : ∀ E' v w', Stp W0 base S0 E hp w E' hp1 w' → VR w' E' (one ds) v → R (.returned v) w') : LeavesInM (Fr none) 0 P g a.tmps R a.defers .returning w' := by
  obtain ⟨h0, Ds, h1, h2, h3⟩ := hs.dfr
  clear h0
  rw [h1]
  have hsl := hs.sl
  clear h1 hs
  induction Ds generalizing w' with
  | nil =>
    obtain ⟨v, hv1, hv2⟩ := results_ok (P := P) hT hst.hs hsl hds hr
    exact ⟨v, hv1, hR E' v w' hst hv2⟩
  | cons D Ds ih =>
    obtain ⟨q1, q2, q3, q4⟩ := h3 D (List.mem_cons_self ..)
    obtain ⟨t1, t2⟩ := stp_take hst q1 q2 q3 q4
    have h2' := List.nodup_cons.1 h2
    refine ⟨by simp, .inl ⟨D, _, rfl, run_takeDeferred q3, ih t1 h2'.2 (fun D' hD' => ?_) fun t d ht => (hsl t d ht).later t2⟩⟩
    obtain ⟨r1, r2, r3, r4⟩ := h3 D' (List.mem_cons_of_mem _ hD')
    exact ⟨r1, r2, (World.putObj_heap_other (fun e => h2'.1 (by rw [← e]; exact hD'))).trans r3, r4⟩
theorem callE_ok (hT : TabOk P T) (hF : FunOk P T F) (hC : ConOk P C) {q : XF} (hq : ExecOk P T q) : ConOk P (callE T F C q) := by
  intro f args hp r hp' mu h
  unfold callE at h
  split at h
  · rename_i x hx
    cases h
    exact hC _ _ _ _ _ _ hx
  · split at h
    · rename_i fn hfn
      obtain ⟨g, g1, g2, g3, g4, g5, g6⟩ := hF f fn hfn
      split at h
      · rename_i hlen
        have hlen := Nat.le_of_ble_eq_true hlen
        split at h
        · cases h
        · rename_i ex sl hp1 mu1 hex hrun
          split at h
          · rename_i ds hds
            have h : finish hp hp1 mu1 (one ds) = (r, hp', mu) := by simpa using h
            obtain ⟨hext, hwp⟩ := hq fn.nt fn.ks fn.body _ _ _ _ _ _ hrun g6
            -- the call, wherever it is run
            have core : ∀ W0 base S0 E w vs, mutOk base mu1 → HS W0 base S0 E hp w → VRs E w args vs → ∀ R : Ending → World → Prop, (∀ E' v w', Stp W0 base S0 E hp w E' hp1 w' → VR w' E' (one ds) v → R (.returned v) w') → Calls P f vs.toArray w R := by
              intro W0 base S0 E w vs hmu hs hv R hR
              refine calls_fr (ro := none) (callsIn_of_wp_marks g1 g2 trivial ?_ rfl)
              have hl := hv.1
              have hsim : Sim ⟨none, w.heap.size⟩ W0 base S0 E fn.nt (initS fn.nt args) hp { tmps := vs.toArray ++ Array.replicate (g.ntmps - vs.toArray.size) undef, defers := [] } w := by
                refine ⟨hs, .nil _ _ (Nat.le_refl _), fun b hb => (by cases hb), (by simp; omega), fun t d ht => ?_⟩
                obtain ⟨v, hv1, hv2⟩ := hv.get (look_initS ht)
                have hlt := (List.getElem?_eq_some_iff.1 hv1).1
                have : (vs.toArray ++ Array.replicate (g.ntmps - vs.toArray.size) undef).getD t undef = v := by
                  rw [Array.getD_eq_getD_getElem?, Array.getElem?_append_left (by simpa using hlt)]
                  simp [hv1]
                rw [this]
                exact hv2
              refine hwp ⟨none, w.heap.size⟩ W0 base S0 E _ w _ hsim hmu fun E' a' w' hst hs' => ?_
              have hlv := leaves_ok (ds := ds) (R := R) hT g4 hst hs' hds hR
              cases ex with
              | normal => exact hlv
              | ret => exact hlv
              | exit id => exact (hex id rfl).elim
            refine ⟨⟨g, g1, by rw [g2]; rfl, g3⟩, ?_⟩
            unfold finish at h
            split at h
            · -- nothing of it is left but the answer
              rename_i hmn hfl
              cases h
              have hmn := mnorm_none hmn
              refine ⟨fun base _ _ => Ext.refl _ _, fun W0 base S0 E w vs _ hs hv => ?_⟩
              refine core w hp.n E.S E w vs hmn hs.pure hv _ fun E' v w' hst hr => ?_
              have hD : ∀ id, E.D id → id < hp.n := fun id hd => hs.dlt hd
              have hl : Later E w (E'.lim hp.n) w' := ⟨hst.later.S, fun id hd => by
                obtain ⟨q0, q1, q2, q3, q4⟩ := hst.later.D id hd
                exact ⟨⟨q0, hD id hd⟩, q1, q2, q3, q4⟩, hst.later.cell, hst.later.y⟩
              have hHS : HS W0 base S0 (E'.lim hp.n) hp w' := hs.move (fun id hd => hst.dom id hd.2 hd.1) hl (hs.bel.trans (hst.hs.bel.mono hs.bel.size)) (fun id hd => by
                obtain ⟨ob, _, hok⟩ := hs.ob id hd
                exact hst.hs.bel.block _ hok.lt) (fun b hb => hst.hs.olds b hb) hst.hs.ro (fun _ _ => rfl) hs.le (hs.ys.keep hl hst.yb rfl (Nat.le_refl _) fun k hk => hst.hs.bel.block k (isO_lt hk))
              exact ⟨E'.lim hp.n, v, rfl, ⟨hl, hHS, Ext.refl _ _, fun id hid hd => hst.dom id hid hd.1, hst.oth, hst.yb⟩, flatD_ok hr hfl fun _ h => h⟩
            · rename_i m b hne
              cases h
              refine ⟨fun base hmu hb => hext base (mnorm_ok hmu hb) hb, fun W0 base S0 E w vs hmu hs hv => ?_⟩
              exact core W0 base S0 E w vs (mnorm_ok hmu hs.le) hs hv _ fun E' v w' hst hr => ⟨E', v, rfl, hst, hr⟩
          · cases h
        · cases h
      · cases h
    · cases h
/-- what a yield does is what its loop's text does -/
theorem yldE_ok {q : XF} (hq : ExecOk P T q) : YldOk P (yldE T q) := by
  intro k args hp r hp' mu h
  unfold yldE at h
  split at h
  · rename_i R hR
    split at h
    · rename_i hchk
      simp only [ychk, Bool.and_eq_true] at hchk
      obtain ⟨⟨c1, c2, c3⟩, c4⟩ := hchk
      have c4 := Nat.eq_of_beq_eq_true c4
      unfold yldE2 at h
      split at h
      · rename_i sl1 hp1 m1 hass
        split at h
        · rename_i R1 hR1
          split at h
          · rename_i hst0
            unfold yldE3 at h
            split at h
            · rename_i e sl2 hp2 m2 hbody
              split at h
              · rename_i R2 hR2
                cases h
                obtain ⟨x1, w1⟩ := hq R.nc R.ks R.assign _ _ _ _ _ _ hass c2
                obtain ⟨x2, w2⟩ := hq R.nc R.ks R.body _ _ _ _ _ _ hbody c3
                refine ⟨fun base hmu hb => ?_, fun W0 base S0 E w vs b D hmu hs hv hb => ?_⟩
                · obtain ⟨g1, g2⟩ := mutOk_mmin hmu
                  obtain ⟨g2, g3⟩ := mutOk_mmin g2
                  have e1 := x1 base g2 hb
                  have e2 := ext_lay hp1 (base := base) (k := k) g1 1 R1.pe
                  have e3 := x2 base g3 (Nat.le_trans hb (e1.trans e2).1)
                  exact ((e1.trans e2).trans e3).trans (ext_lay hp2 (base := base) (k := k) g1 _ _)
                · obtain ⟨g1, g2⟩ := mutOk_mmin hmu
                  obtain ⟨g2, g3⟩ := mutOk_mmin g2
                  have g1 : base ≤ k := g1
                  obtain ⟨b', D', r, p1, p2, p3, p4, p5, p6, p7, p8, p9, p10, p11, p12⟩ := hs.ys.ok k R hR
                  have hid := (lfind_mem hR).2
                  rw [hid, hb] at p1
                  cases p1
                  have hy := run_yield (P := P) (args := vs.toArray) p3 (by rw [p8]; simp [← hv.1, c4])
                  rw [p8, p9, p10] at hy
                  rw [List.zip_toArray, List.foldl_toArray] at hy
                  obtain ⟨z1, z2⟩ := putP_ok R.ps args vs R.sl r.tmps (ltAll_ok c1) p11 hv fun t d ht => (p12 t d ht).later (Env.cut_later _ _ _)
                  refine ⟨_, _, _, _, hy, roundIn_of_wpIn trivial ?_⟩
                  refine w1 ⟨some b, w.heap.size⟩ W0 base S0 E _ w _ ⟨hs, .nil _ _ (Nat.le_refl _), fun b0 hb0 => ?_, z1, z2⟩ g2 fun E1 a1 w1' hst1 hs1 => ?_
                  · cases hb0
                    exact ⟨rfl, k, D, hb, by rw [hR]; rfl⟩
                  obtain ⟨b1, D1, r1, s1, s2, s3, s4, s5, s6, s7⟩ := hs1.hs.ys.ok k R1 hR1
                  have hid1 := (lfind_mem hR1).2
                  have hb1 : E1.yb k = some (b, D) := by rw [hst1.yb]; exact hb
                  rw [hid1, hb1] at s1
                  cases s1
                  have hready : r1.state = .ready := by rw [s6, hst0]; rfl
                  refine ⟨_, run_beginRound s3 hready, ?_⟩
                  have hstb := stp_lay hs1.hs hR1 hb1 s3 g1 1 R1.pe
                  have hrec : ({ r1 with state := stOf 1, pending := R1.pe } : Loop) = { r1 with state := .busy } := by rw [← s7.1]; rfl
                  rw [hrec] at hstb
                  have hd1 := (hs1.ro b rfl).1
                  have hsb := hs1.step hstb
                  refine w2 ⟨some b, w.heap.size⟩ W0 base S0 E1 a1 _ _ hsb g3 fun E2 a2 w2' hst2 hs2 => ?_
                  obtain ⟨b2, D2, r2, u1, u2, u3, u4, u5⟩ := hs2.hs.ys.ok k R2 hR2
                  have hid2 := (lfind_mem hR2).2
                  have hb2 : E2.yb k = some (b, D) := by rw [hst2.yb]; exact hb1
                  rw [hid2, hb2] at u1
                  cases u1
                  have fin : ∀ (jump : Option Code), jump = jumpOf e → jump.isNone = goesOn e → ∃ v w3, (Instr.endRound b jump).run P w2' = .ok v w3 ∧ ∃ E' v', Ending.returned v = .returned v' ∧ Stp W0 base S0 E hp w E' (hp2.lay k (stE e) (jumpOf e)) w3 ∧ VR w3 E' (.bool (goesOn e)) v' := by
                    intro jump j1 j2
                    refine ⟨_, _, run_endRound jump u3, E2, _, rfl, ?_, by rw [j2]; exact .bool _ _⟩
                    have hstl := stp_lay hs2.hs hR2 hb2 u3 g1 (stE e) (jumpOf e)
                    have hrec2 : ({ r2 with state := stOf (stE e), pending := jumpOf e } : Loop) = { r2 with state := if jump.isNone then .ready else .done, pending := jump } := by
                      rw [j1]
                      cases e <;> rfl
                    rw [hrec2] at hstl
                    exact ((hst1.trans hstb).trans hst2).trans hstl
                  cases e with
                  | normal => exact fin none rfl rfl
                  | exit id => exact fin (some (.exit id)) rfl rfl
                  | ret => exact fin (some .ret) rfl rfl
              · cases h
            · cases h
          · cases h
        · cases h
      · cases h
    · cases h
  · cases h
theorem outOf_some {st : Nat} {pe : Option Code} {e : Ex} (h : outOf st pe = some e) : pe = jumpOf e ∧ stOf st ≠ .busy := by
  unfold outOf at h
  split at h <;> cases h <;> exact ⟨rfl, by simp [stOf]⟩
/-- a range over a function -/
theorem rngE_ok (hT : TabOk P T) (hF : FunOk P T F) (hC : ConOk P C) {q : XF} (hq : ExecOk P T q) {N : Nat} {ks : List (Nat × Nat)} {g : Operand} {ps : Array Tmp} {x y : Code} {sl : Slots} {hp : Hp} {e : Ex} {sl' : Slots} {hp' : Hp} {mu : Mut} (h : rngE T F C q ks g ps.toList x y sl hp = some (e, sl', hp', mu))
    (hchk : codeChk T N ks (.rangeFunc g ps x y) = true) : (∀ base, mutOk base mu → base ≤ hp.n → Ext base hp hp') ∧
    ∀ fm W0 base S0 E a w (Q : Exit → Act → World → Prop), Sim fm W0 base S0 E N sl hp a w → mutOk base mu → (∀ E' a' w', Stp W0 base S0 E hp w E' hp' w' → Sim fm W0 base S0 E' N sl' hp' a' w' → Q (exOf e) a' w') → (Code.rangeFunc g ps x y).wpIn (Fr fm.ro) 0 P Q a w := by
  have hcon := callE_ok hT hF hC hq
  unfold rngE at h
  split at h
  · rename_i f first captured nc hg hks
    split at h
    · have hnc : nc = N := by
        simp only [codeChk, hks, Bool.and_eq_true] at hchk
        exact Nat.eq_of_beq_eq_true hchk.1
      subst hnc
      unfold rngE2 at h
      split at h
      · rename_i d1 hp1 m1 hcall
        split at h
        · rename_i R ls hR hls
          split at h
          · rename_i e1 hout
            cases h
            obtain ⟨hf, hext, hc⟩ := hcon _ _ _ _ _ _ hcall
            obtain ⟨ho1, ho2⟩ := outOf_some hout
            have hbn : (hp.beg nc ks sl ps.toList x y).n = hp.n + 1 := rfl
            -- the loops that were there, as they stand now
            have hrel : (∀ i, (lfind i hp1.ls).map LS.stat = (lfind i (hp.beg nc ks sl ps.toList x y).ls).map LS.stat) → ∀ id R', id ≠ hp.n → lfind id ls = some R' → lfind id hp1.ls = some R' := by
              intro hx id R' hne hR'
              rcases lfind_relay (i := id) hls with ⟨_, h2⟩ | ⟨R0, R1, h1, h2, h3⟩
              · rw [hR'] at h2; cases h2
              · rw [hR'] at h3
                cases h3
                have := hx id
                rw [h2, lfind_beg, if_neg (fun e => hne e.symm), h1] at this
                have this : R1.stat = R0.stat := Option.some.inj this
                rw [h2]
                obtain ⟨i0, i1, i2, i3, i4, i5, i6, i7, i8⟩ := R0
                obtain ⟨j0, j1, j2, j3, j4, j5, j6, j7, j8⟩ := R1
                simp only [LS.stat, LS.mk.injEq, and_true] at this
                obtain ⟨rfl, rfl, rfl, rfl, rfl, rfl, rfl⟩ := this
                rfl
            have hE : ∀ base, mutOk base m1 → base ≤ hp.n → Ext base hp (hp1.wls ls) := by
              intro base hmu hb
              have e1 := hext base hmu (by rw [hbn]; omega)
              refine ⟨by have := e1.1; rw [hbn] at this; show hp.n ≤ hp1.n; omega, fun id hid => (e1.2 id hid).trans (Hp.get_beg _ _ _ _ _ _ _ id (by omega)), fun i => relay_stat i hls, fun i hi => ?_⟩
              show lfind i ls = lfind i hp.ls
              rcases lfind_relay (i := i) hls with ⟨h1, h2⟩ | ⟨R0, R1, h1, h2, h3⟩
              · rw [h1, h2]
              · have h4 := e1.4 i hi
                rw [h2, lfind_beg, if_neg (by omega), h1] at h4
                cases h4
                rw [h1, h3]
            refine ⟨fun base hmu hb => hE base (mnorm_ok hmu hb) hb, fun fm W0 base S0 E a w Q hs hmu hQ => ?_⟩
            have hmu := mnorm_ok hmu hs.hs.le
            obtain ⟨us, vs, hgv, hus, hvs⟩ := (ev_ok hs.hs.gl hs.sl hg).of_fn
            rw [hus.unnil] at hgv
            have hold : ∀ id b' D', E.yb id = some (b', D') → b' < w.heap.size ∧ D' < w.heap.size := fun id b' D' hb' => by
              obtain ⟨k1, k2⟩ := hs.hs.ys.lt id _ hb'
              cases h7 : lfind id hp.ls with
              | none => rw [h7] at k2; cases k2
              | some R7 =>
                obtain ⟨b7, D7, r7, p1, p2, p3, p4, p5⟩ := hs.hs.ys.ok id R7 h7
                rw [(lfind_mem h7).2, hb'] at p1
                cases p1
                exact ⟨(Array.getElem?_eq_some_iff.1 p3).1, (Array.getElem?_eq_some_iff.1 p4).1⟩
            refine wpIn_rangeFunc fun fn _ => ?_
            -- the record is laid
            obtain ⟨b, mk, w2, D, r, k1, k2, k3, k4, k5, k6, k7, k8, k9, k10, k11, k12, k13, k14⟩ : ∃ (b : Nat) (mk : List Deferred) (w2 : World) (D : Nat) (r : Loop), (Instr.enterLoop fn a.tmps ps x y (Fr fm.ro).round).run P w = .ok (b, mk) w2 ∧ w2.heap[b]? = some (.loop r) ∧ w2.heap[D]? = some (.deferred (some [])) ∧ r.defers = D ∧
                r.state = .ready ∧ r.pending = none ∧ r.params = ps ∧ r.assign = x ∧ r.body = y ∧ r.tmps = a.tmps ∧ HS W0 base S0 E hp w2 ∧ Later E w E w2 ∧ (w.heap.size ≤ b ∧ Oth w w2) ∧ ((mk = [] ∧ a.defers = [] ∧ fm.ro.isSome = true) ∨ (mk = [mark w.heap.size] ∧ D = w.heap.size ∧ fm.ro = none)) := by
              cases hro : fm.ro with
              | none =>
                have a1 := hs.hs.allocO (.deferred (some []))
                have a2 := a1.allocO (.loop { state := .ready, pending := none, fn, tmps := a.tmps, params := ps, assign := x, body := y, defers := w.heap.size })
                refine ⟨w.heap.size + 1, [mark w.heap.size], _, w.heap.size, { state := .ready, pending := none, fn, tmps := a.tmps, params := ps, assign := x, body := y, defers := w.heap.size }, run_enterLoop_outer _ _ _ _ _, ?_, ?_, rfl, rfl, rfl, rfl, rfl, rfl, rfl, a2, ?_, ⟨by omega, (oth_allocO _).trans (oth_allocO _)⟩, .inr ⟨rfl, rfl, rfl⟩⟩
                · have := World.alloc_heap_new (w.alloc (.deferred (some []))) (.loop { state := .ready, pending := none, fn, tmps := a.tmps, params := ps, assign := x, body := y, defers := w.heap.size })
                  rwa [World.size_alloc] at this
                · exact (Below.heap_alloc _ _ _ (by simp)).trans (World.alloc_heap_new w _)
                · exact (later_allocO E _ hs.hs.ro).trans (later_allocO E _ a1.ro)
              | some b0 =>
                obtain ⟨d1, id0, D0, d2, d3⟩ := hs.ro b0 hro
                cases h7 : lfind id0 hp.ls with
                | none => rw [h7] at d3; cases d3
                | some R7 =>
                  obtain ⟨b7, D7, r7, p1, p2, p3, p4, p5⟩ := hs.hs.ys.ok id0 R7 h7
                  rw [(lfind_mem h7).2, d2] at p1
                  cases p1
                  have a1 := hs.hs.allocO (.loop { state := .ready, pending := none, fn, tmps := a.tmps, params := ps, assign := x, body := y, defers := r7.defers })
                  refine ⟨w.heap.size, [], _, r7.defers, { state := .ready, pending := none, fn, tmps := a.tmps, params := ps, assign := x, body := y, defers := r7.defers }, run_enterLoop_inner p3 _ _ _ _ _, World.alloc_heap_new w _, ?_, rfl, rfl, rfl, rfl, rfl, rfl, rfl, a1, later_allocO E _ hs.hs.ro, ⟨Nat.le_refl _, oth_allocO _⟩, .inl ⟨rfl, d1, rfl⟩⟩
                  rw [p5.1]
                  exact (Below.heap_alloc _ _ _ (Array.getElem?_eq_some_iff.1 p4).1).trans p4
            have hW0 := hs.hs.bel.size
            have hsb : HS W0 base S0 (E.withY hp.n b D) (hp.beg nc ks sl ps.toList x y) w2 := k11.beg (by omega) k2 k3 k4 k5 k6 (by rw [k7]) k8 k9 (by rw [k10]; exact hs.size) (fun t d ht => by rw [k10]; exact (hs.sl t d ht).later k12) fun id b' D' hb' => by
              have := (hold id b' D' hb').1
              omega
            have hly := k11.ys.later_withY b D
            refine ⟨b, mk, w2, { target := .fn (.func f) vs.toArray, args := #[.func (.yield b) #[] #[]] }, w2, f, #[.func (.yield b) #[] #[]] ++ vs.toArray, w2, k1, ?_, fun _ _ => trivial, ?_, fun h => (by cases h), ?_⟩
            · simp only [resolve, hgv]
              simp [go_sem]
            · simp [invoke, go_sem, run_callFunc_ok hf]
            have hargs : VRs (E.withY hp.n b D) w2 (.yld hp.n :: captured) (.func (.yield b) #[] #[] :: vs) := .cons (.yld _ hp.n b D (by show (if hp.n = hp.n then _ else _) = _; rw [if_pos rfl])) (hvs.later (k12.trans hly))
            have hcc := hc W0 base S0 _ w2 _ hmu hsb hargs
            have he1 : (#[.func (.yield b) #[] #[]] ++ vs.toArray : Array Value) = (Value.func (.yield b) #[] #[] :: vs).toArray := by simp
            rw [he1]
            refine (callsIn_fr hcc).mono ?_
            rintro en w3 ⟨E', v, rfl, hst, _⟩
            -- it has come back
            have hRid := (lfind_mem hR).2
            obtain ⟨b3, D3, r3, p1, p2, p3, p4, p5, p6, p7, p8⟩ := hst.hs.ys.ok _ R hR
            have hyb : E'.yb hp.n = some (b, D) := by
              rw [hst.yb]
              show (if hp.n = hp.n then _ else _) = _
              rw [if_pos rfl]
            rw [hRid, hyb] at p1
            cases p1
            have hlE : ∀ id z, E.yb id = some z → (E'.cut hp.n).yb id = some z := fun id z hz => by
              have := (hs.hs.ys.lt id z hz).1
              show (if id < hp.n then E'.yb id else none) = some z
              rw [if_pos this, hst.yb]
              show (if id = hp.n then _ else E.yb id) = some z
              rw [if_neg (by omega)]
              exact hz
            have hyE : (E'.cut hp.n).yb = E.yb := by
              funext id
              cases hz : E.yb id with
              | some z => exact hlE id z hz
              | none =>
                show (if id < hp.n then E'.yb id else none) = none
                split
                · rw [hst.yb]
                  show (if id = hp.n then _ else E.yb id) = none
                  rw [if_neg (by omega)]
                  exact hz
                · rfl
            have hys : YsOk W0 base (E'.cut hp.n) (hp1.wls ls) w3 := by
              refine ⟨fun id R' hR' => ?_, fun i j c1 c2 c3 q1 q2 => ?_, fun id z hz => ?_, hst.hs.gl⟩
              · replace hR' : lfind id ls = some R' := hR'
                have hlt : id < hp.n := by
                  rcases lfind_relay (i := id) hls with ⟨_, h2⟩ | ⟨R0, R1, h1, h2, h3⟩
                  · rw [hR'] at h2; cases h2
                  · exact hs.hs.ys.lsub h1
                have hR2 := hrel hst.ext.ls id R' (by omega) hR'
                have hid := (lfind_mem hR2).2
                obtain ⟨b4, D4, r4, q1, q2, q3, q4, q5, q6, q7, q8, q9, q10, q11, q12⟩ := hst.hs.ys.ok id R' hR2
                refine ⟨b4, D4, r4, ?_, q2, q3, q4, q5, q6, q7, q8, q9, q10, q11, fun t d ht => ?_⟩
                · show (if R'.id < hp.n then E'.yb R'.id else none) = _
                  rw [if_pos (by omega)]
                  exact q1
                · rw [Env.cut_cut _ (by omega)]
                  exact q12 t d ht
              · replace q1 : (if i < hp.n then E'.yb i else none) = some (c1, c2) := q1
                replace q2 : (if j < hp.n then E'.yb j else none) = some (c1, c3) := q2
                split at q1
                · split at q2
                  · exact hst.hs.ys.inj _ _ _ _ _ (by assumption) (by assumption)
                  · cases q2
                · cases q1
              · rw [hyE] at hz
                obtain ⟨q1, q2⟩ := hs.hs.ys.lt id z hz
                refine ⟨by have := hst.ext.1; rw [hbn] at this; show id < hp1.n; omega, ?_⟩
                have := congrArg Option.isSome (relay_stat id hls)
                simp only [Option.isSome_map] at this
                show (lfind id ls).isSome = true
                rw [this]
                exact q2
            have hs3 : HS W0 base S0 (E'.cut hp.n) (hp1.wls ls) w3 := hst.hs.cut (fun _ => rfl) rfl hys
            have hlp := later_putO (E'.cut hp.n) (o' := .loop { r3 with state := .exhausted }) p3 trivial trivial
            have hbo : ∀ id c1 c2, (E'.cut hp.n).yb id = some (c1, c2) → c1 ≠ b := fun id c1 c2 hz e => by
              rw [hyE] at hz
              have := (hold id c1 c2 hz).1
              have := k13.1
              omega
            have hs4 : HS W0 base S0 (E'.cut hp.n) (hp1.wls ls) (w3.putObj b (.loop { r3 with state := .exhausted })) := by
              refine hs3.putO p3 trivial trivial (by have := k13.1; omega) (fun _ => rfl) rfl ⟨fun id R' hR' => ?_, hys.inj, hys.lt, hys.gl.later hlp⟩
              obtain ⟨b4, D4, r4, q1, q2, q3, q4, q5⟩ := hys.ok id R' hR'
              exact ⟨b4, D4, r4, q1, q2, (World.putObj_heap_other (hbo _ _ _ q1)).trans q3, (World.putObj_heap_other (fun e => by rw [e, p3] at q4; cases q4)).trans q4, q5.1, q5.2.1, q5.2.2.1, q5.2.2.2.1, q5.2.2.2.2.1, q5.2.2.2.2.2.1, q5.2.2.2.2.2.2.1, fun t d ht => (q5.2.2.2.2.2.2.2 t d ht).later (hlp.cut _)⟩
            have hl0 : Later E w (E'.cut hp.n) w3 := by
              have hl1 := (k12.trans hly).trans hst.later
              exact ⟨hl1.S, hl1.D, hl1.cell, hlE⟩
            have hoth : Oth w (w3.putObj b (.loop { r3 with state := .exhausted })) := (k13.2.trans hst.oth).trans (oth_putL p3 rfl)
            have hstp : Stp W0 base S0 E hp w (E'.cut hp.n) (hp1.wls ls) (w3.putObj b (.loop { r3 with state := .exhausted })) :=
              ⟨hl0.trans hlp, hs4, hE base hmu hs.hs.le, fun id hid hd => hst.dom id (by rw [hbn]; omega) hd, hoth, hyE⟩
            have hsim : Sim fm W0 base S0 (E'.cut hp.n) nc sl (hp1.wls ls) { a with defers := mk ++ a.defers } (w3.putObj b (.loop { r3 with state := .exhausted })) := by
              refine ⟨hs4, ?_, ?_, hs.size, fun t d ht => (hs.sl t d ht).later (hl0.trans hlp)⟩
              · rcases k14 with ⟨rfl, _, _⟩ | ⟨rfl, rfl, hro⟩
                · exact hs.dfr.step hoth hyE
                · obtain ⟨f0, ds, f1, f2, f3⟩ := hs.dfr
                  refine ⟨Nat.le_trans f0 hoth.1, w.heap.size :: ds, by simp [f1], ?_, fun D4 hD4 => ?_⟩
                  · rw [List.nodup_cons]
                    refine ⟨fun hm => ?_, f2⟩
                    have := (Array.getElem?_eq_some_iff.1 (f3 _ hm).2.2.1).1
                    omega
                  · rcases List.mem_cons.1 hD4 with rfl | hD4
                    · refine ⟨hW0, f0, (oth_putL (r' := { r3 with state := .exhausted }) p3 rfl).2.1 _ _ p4, fun id c1 c2 hz e => ?_⟩
                      rw [hyE] at hz
                      have := (hold id c1 c2 hz).2
                      omega
                    · obtain ⟨f4, f5, f6, f7⟩ := f3 D4 hD4
                      exact ⟨f4, f5, hoth.2.1 _ _ f6, by rw [hyE]; exact f7⟩
              · rcases k14 with ⟨rfl, _, _⟩ | ⟨rfl, rfl, hro⟩
                · exact hs.ro.step hyE (fun i => relay_stat i hls)
                · intro b0 hb0
                  rw [hro] at hb0
                  cases hb0
            have hend := run_endLoop (P := P) p3 (by rw [p6]; exact ho2)
            have hend2 : (Instr.endLoop b).run P w3 = .ok (jumpOf e) (w3.putObj b (.loop { r3 with state := .exhausted })) := by
              rw [← p7.trans ho1]
              exact hend
            refine ⟨jumpOf e, _, hend2, ?_⟩
            have hfin := hQ _ _ _ hstp hsim
            cases e with
            | normal => exact hfin
            | exit id => exact wpIn_exit hfin
            | ret => exact wpIn_ret hfin
          · cases h
        · cases h
      · cases h
    · cases h
  · cases h
theorem seqX_ok {r : XR} {q : Slots → Hp → XR} {e : Ex} {sl' : Slots} {hp' : Hp} {mu : Mut} (h : seqX r q = some (e, sl', hp', mu)) : (∃ sl1 hp1 m1 m2, r = some (.normal, sl1, hp1, m1) ∧ q sl1 hp1 = some (e, sl', hp', m2) ∧ mu = mmin m1 m2) ∨ (e ≠ .normal ∧ r = some (e, sl', hp', mu)) := by
  unfold seqX at h
  split at h
  · rename_i sl1 hp1 m1
    split at h
    · rename_i e2 sl2 hp2 m2 hq
      cases h
      exact .inl ⟨sl1, hp1, m1, m2, rfl, hq, rfl⟩
    · cases h
  · rename_i hne
    refine .inr ⟨fun he => ?_, h⟩
    subst he
    exact hne _ _ _ h
theorem exec_ok (hT : TabOk P T) (hmix : P.follows .mixedOrders = true) (hF : FunOk P T F) (hC : ConOk P C) : ∀ n, ExecOk P T (exec T F C n) ∧ LoopOk P T (exec T F C n) n
  | 0 => ⟨(by intro N ks c sl hp e sl' hp' mu h; cases h), (by intro N ks c sl hp e sl' hp' mu h; cases h)⟩
  | n + 1 => by
    obtain ⟨ih, ihl⟩ := exec_ok hT hmix hF hC n
    have hcall : CallOk P (callX T F C (exec T F C n)) := ⟨callE_ok hT hF hC ih, yldE_ok ih⟩
    have hloop : LoopOk P T (exec T F C (n + 1)) (n + 1) := by
      intro N ks c sl hp e sl' hp' mu h hchk
      have h : seqX (exec T F C n ks c sl hp) (exec T F C n ks (.loop c)) = some (e, sl', hp', mu) := h
      rcases seqX_ok h with ⟨sl1, hp1, m1, m2, h1, h2, rfl⟩ | ⟨hne, h1⟩
      · obtain ⟨x1, w1⟩ := ih N ks c _ _ _ _ _ _ h1 hchk
        obtain ⟨x2, w2⟩ := ihl N ks c _ _ _ _ _ _ h2 hchk
        refine ⟨fun base hmu hb => ?_, fun fm W0 base S0 E a w Q hs hmu hQ => ?_⟩
        · obtain ⟨q1, q2⟩ := mutOk_mmin hmu
          have e1 := x1 base q1 hb
          exact e1.trans (x2 base q2 (Nat.le_trans hb e1.1))
        · obtain ⟨q1, q2⟩ := mutOk_mmin hmu
          rw [roundsIn_succ]
          exact w1 fm W0 base S0 E a w _ hs q1 fun E' a' w' hst hs' => w2 fm W0 base S0 E' a' w' Q hs' q2 fun E2 a2 w2' hst2 hs2 => hQ E2 a2 w2' (hst.trans hst2) hs2
      · obtain ⟨x1, w1⟩ := ih N ks c _ _ _ _ _ _ h1 hchk
        refine ⟨x1, fun fm W0 base S0 E a w Q hs hmu hQ => ?_⟩
        rw [roundsIn_succ]
        refine w1 fm W0 base S0 E a w _ hs hmu fun E' a' w' hst hs' => ?_
        have := hQ E' a' w' hst hs'
        cases e with
        | normal => exact absurd rfl hne
        | exit id => exact this
        | ret => exact this
    refine ⟨?_, hloop⟩
    intro N ks c sl hp e sl' hp' mu h hchk
    rw [exec_succ] at h
    unfold exec1 at h
    split at h
    · cases h
      exact ⟨fun _ _ _ => Ext.refl _ _, fun fm W0 base S0 E a w Q hs _ hQ => wpIn_skip (hQ E a w (Stp.refl hs.hs) hs)⟩
    · cases h
      exact ⟨fun _ _ _ => Ext.refl _ _, fun fm W0 base S0 E a w Q hs _ hQ => wpIn_label (hQ E a w (Stp.refl hs.hs) hs)⟩
    · cases h
      exact ⟨fun _ _ _ => Ext.refl _ _, fun fm W0 base S0 E a w Q hs _ hQ => wpIn_ret (hQ E a w (Stp.refl hs.hs) hs)⟩
    · cases h
      exact ⟨fun _ _ _ => Ext.refl _ _, fun fm W0 base S0 E a w Q hs _ hQ => wpIn_exit (hQ E a w (Stp.refl hs.hs) hs)⟩
    · -- a region in the text's order
      rename_i id ops
      unfold regN at h
      split at h
      · rename_i sl2 hp2 m2 hreg
        cases h
        have hd : dstsOk N (ops.toList.map (·.dst)) = true := hchk
        refine ⟨fun base hmu hb => regE_ext hcall hreg base hmu hb, fun fm W0 base S0 E a w Q hs hmu hQ => wpIn_region_list ?_⟩
        exact regE_ok hT hcall rfl ops.toList _ _ _ _ _ E a w hreg hd hs hmu hQ
      · cases h
    · -- a region in any order
      rename_i id ops
      have hchk' : (dstsOk N (ops.toList.map (·.dst)) && (match assoc ks id with | some k => chkK T ops k | none => false)) = true := hchk
      simp only [Bool.and_eq_true] at hchk'
      obtain ⟨hd, hk⟩ := hchk'
      split at hk
      · rename_i k hks
        rw [hks] at h
        refine ⟨fun base hmu hb => ?_, fun fm W0 base S0 E a w Q hs hmu hQ => ?_⟩
        · exact regD_ext hcall (fun h => regP_ext hcall h) (fun h => regE_ext hcall h) h base hmu hb
        · obtain ⟨he, hwp⟩ := regD_ok (id := id) (ro := fm.ro) (Q := Q) hT hmix hcall hk hd h hs hmu (fun E' a' w' h1 h2 => by
            have he := regD_normal h
            subst he
            exact hQ E' a' w' h1 h2)
          exact hwp
      · cases hk
    · -- one behind the other
      rename_i x y
      have hchk' : (codeChk T N ks x && codeChk T N ks y) = true := hchk
      simp only [Bool.and_eq_true] at hchk'
      obtain ⟨hx, hy⟩ := hchk'
      rcases seqX_ok h with ⟨sl1, hp1, m1, m2, h1, h2, rfl⟩ | ⟨hne, h1⟩
      · obtain ⟨x1, w1⟩ := ih N ks x _ _ _ _ _ _ h1 hx
        obtain ⟨x2, w2⟩ := ih N ks y _ _ _ _ _ _ h2 hy
        refine ⟨fun base hmu hb => ?_, fun fm W0 base S0 E a w Q hs hmu hQ => wpIn_seq ?_⟩
        · obtain ⟨q1, q2⟩ := mutOk_mmin hmu
          have e1 := x1 base q1 hb
          exact e1.trans (x2 base q2 (Nat.le_trans hb e1.1))
        · obtain ⟨q1, q2⟩ := mutOk_mmin hmu
          exact w1 fm W0 base S0 E a w _ hs q1 fun E' a' w' hst hs' => w2 fm W0 base S0 E' a' w' Q hs' q2 fun E2 a2 w2' hst2 hs2 => hQ E2 a2 w2' (hst.trans hst2) hs2
      · obtain ⟨x1, w1⟩ := ih N ks x _ _ _ _ _ _ h1 hx
        refine ⟨x1, fun fm W0 base S0 E a w Q hs hmu hQ => wpIn_seq ?_⟩
        refine w1 fm W0 base S0 E a w _ hs hmu fun E' a' w' hst hs' => ?_
        have := hQ E' a' w' hst hs'
        cases e with
        | normal => exact absurd rfl hne
        | exit id => exact this
        | ret => exact this
    · -- one of two
      rename_i x y z
      have hchk' : (codeChk T N ks y && codeChk T N ks z) = true := hchk
      simp only [Bool.and_eq_true] at hchk'
      obtain ⟨hy, hz⟩ := hchk'
      unfold condX at h
      split at h
      · rename_i hc
        obtain ⟨x1, w1⟩ := ih N ks y _ _ _ _ _ _ h hy
        exact ⟨x1, fun fm W0 base S0 E a w Q hs hmu hQ => wpIn_cond_true (ev_ok hs.hs.gl hs.sl hc).of_bool (w1 fm W0 base S0 E a w Q hs hmu hQ)⟩
      · rename_i hc
        obtain ⟨x1, w1⟩ := ih N ks z _ _ _ _ _ _ h hz
        exact ⟨x1, fun fm W0 base S0 E a w Q hs hmu hQ => wpIn_cond_false (ev_ok hs.hs.gl hs.sl hc).of_bool (w1 fm W0 base S0 E a w Q hs hmu hQ)⟩
      · cases h
    · -- a block
      rename_i id x
      have hx : codeChk T N ks x = true := hchk
      unfold blockX at h
      split at h
      · rename_i i sl1 hp1 m1 hin
        obtain ⟨x1, w1⟩ := ih N ks x _ _ _ _ _ _ hin hx
        split at h
        · rename_i hb
          have hb := Nat.eq_of_beq_eq_true hb
          subst hb
          cases h
          refine ⟨x1, fun fm W0 base S0 E a w Q hs hmu hQ => wpIn_block ?_⟩
          refine w1 fm W0 base S0 E a w _ hs hmu fun E' a' w' hst hs' => ?_
          have := hQ E' a' w' hst hs'
          simpa [Exit.inBlock, exOf] using this
        · rename_i hb
          cases h
          refine ⟨x1, fun fm W0 base S0 E a w Q hs hmu hQ => wpIn_block ?_⟩
          refine w1 fm W0 base S0 E a w _ hs hmu fun E' a' w' hst hs' => ?_
          have := hQ E' a' w' hst hs'
          have hne : i ≠ id := fun e => by rw [beqT e] at hb; cases hb
          simpa [Exit.inBlock, exOf, hne] using this
      · rename_i hne
        obtain ⟨x1, w1⟩ := ih N ks x _ _ _ _ _ _ h hx
        refine ⟨x1, fun fm W0 base S0 E a w Q hs hmu hQ => wpIn_block ?_⟩
        refine w1 fm W0 base S0 E a w _ hs hmu fun E' a' w' hst hs' => ?_
        have := hQ E' a' w' hst hs'
        cases e with
        | normal => exact this
        | exit i => exact (hne _ _ _ _ h).elim
        | ret => exact this
    · -- a loop
      rename_i x
      have hx : codeChk T N ks x = true := hchk
      obtain ⟨x1, w1⟩ := hloop N ks x sl hp e sl' hp' mu h hx
      exact ⟨x1, fun fm W0 base S0 E a w Q hs hmu hQ => wpIn_loop_rounds (n + 1) (w1 fm W0 base S0 E a w Q hs hmu hQ)⟩
    · -- a scope
      rename_i x
      have hx : codeChk T N ks x = true := hchk
      obtain ⟨x1, w1⟩ := ih N ks x _ _ _ _ _ _ h hx
      refine ⟨x1, fun fm W0 base S0 E a w Q hs hmu hQ => wpIn_scope_straight ?_⟩
      refine w1 fm W0 base S0 E a w _ hs hmu fun E' a' w' hst hs' => ?_
      have := hQ E' a' w' hst hs'
      cases e with
      | normal => exact this
      | exit i => exact this
      | ret => exact this
    · -- a range over a function
      rename_i g ps x y
      exact rngE_ok hT hF hC ih h hchk
    · cases h
theorem noC_ok : ConOk P noC := fun f args hp r hp' mu h => by cases h
end
end Go.Proofs.Ytgjgihlfkpbdgaa
