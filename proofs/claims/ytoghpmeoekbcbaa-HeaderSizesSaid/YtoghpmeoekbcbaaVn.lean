/- Code over abstract data: such regions; the theorem. No function of the program is named here. -/
import Derived.Test.YtoghpmeoekbcbaaVm
namespace Go.Proofs.Ytoghpmeoekbcbaa
open Go.RowKit

noncomputable section
section
variable {P : Program} {T : Tab} {call : CallF} {W0 : World} {base : Nat} {S0 : Nat → Prop} {N : Nat} {ops : Array Oper} {rs : List Rec} {sl0 : Slots} {hp0 hp1 : Hp} {Q : Exit → Act → World → Prop} {E0 : Env} {w0 : World} {D : Nat → Prop} {E : Env} {a : Act} {w : World}
variable {ro : Option Nat} {dl : List Deferred} {fm : Fm} {ds : List (Option Tmp)}
structure RegM (P : Program) (T : Tab) (call : CallF) (ops : Array Oper) (rs : List Rec) (sl0 : Slots) (hp0 hp1 : Hp) (base N : Nat) : Prop where
  len : ops.toList.length = rs.length
  st : ∀ (j : Nat) o r, ops.toList[j]? = some o → rs[j]? = some r → isMk o = false → StepC T call (ops.toList.map (·.dst)) o (slAt ops.toList rs sl0 j) (hpAt rs hp1 j) r
  mkr : ∀ (j : Nat) o r, ops.toList[j]? = some o → rs[j]? = some r → isMk o = true → r.hp = hpAt rs hp1 j ∧ r.mu = none ∧ ∃ id s n c e cells, r.d = .sl id 0 s n c ∧ hp0.n ≤ id ∧ id < hp1.n ∧ hp1.get id = some ⟨0, 0, e, cells⟩ ∧ ∀ hp2 sl2, aop T hp2 sl2 o.op = .done (.sl hp2.n 0 s n c, pushH hp2 0 e cells, none)
  ints : ∀ id o, hp0.n ≤ id → hp1.get id = some o → intsO o.cs = true
  inj : ∀ (j j' : Nat) o o' r r' id s n c id' s' n' c', ops.toList[j]? = some o → ops.toList[j']? = some o' → rs[j]? = some r → rs[j']? = some r' → isMk o = true → isMk o' = true → r.d = .sl id 0 s n c → r'.d = .sl id' 0 s' n' c' → j < j' → id < id'
  mu : ∀ r ∈ rs, mutOk base r.mu
  top : ∀ r ∈ rs, mutOk hp1.n r.mu
  lo : ∀ (j : Nat) o t x id off, ops.toList[j]? = some o → gate (ops.toList.map (·.dst)) (slAt ops.toList rs sl0 j) o.guard = some true → o.op = .load t x → ev (slAt ops.toList rs sl0 j) x = some (.ptr id off) → ∀ (q : Nat) r, rs[q]? = some r → id < (hpAt rs hp1 q).n → r.hp.get id = (hpAt rs hp1 q).get id
  chk : FlmOk T ops
  dst : dstsOk N (ops.toList.map (·.dst)) = true
  le : base ≤ hp0.n
  le1 : hp0.n ≤ hp1.n
theorem hpR_app (l m : List Rec) (hp : Hp) : hpR (l ++ m) hp = hpR m (hpR l hp) := by
  induction l generalizing hp with
  | nil => rfl
  | cons r l ih => exact ih r.hp
theorem hpAt_succ {hp : Hp} {i : Nat} {r : Rec} (h : rs[i]? = some r) : hpAt rs hp (i + 1) = r.hp := by
  unfold hpAt
  rw [List.take_add_one, h, hpR_app]
  rfl
theorem RegM.ext (h : RegM P T call ops rs sl0 hp0 hp1 base N) (hcall : CallOk P call) {b i j : Nat} (hij : i ≤ j) (hj : j ≤ ops.toList.length) (hb : b ≤ (hpAt rs hp1 i).n) (hm : ∀ r ∈ rs, mutOk b r.mu) : (hpAt rs hp1 i).n ≤ (hpAt rs hp1 j).n ∧ Ext b (hpAt rs hp1 i) (hpAt rs hp1 j) := by
  induction hij with
  | refl => exact ⟨Nat.le_refl _, Ext.refl _ _⟩
  | step hq ih =>
    rename_i m
    obtain ⟨h1, h2⟩ := ih (by omega)
    have hml : m < ops.toList.length := by omega
    have ho := List.getElem?_eq_getElem hml
    have hr : rs[m]? = some (rs[m]'(by rw [← h.len]; exact hml)) := List.getElem?_eq_getElem (by rw [← h.len]; exact hml)
    rw [hpAt_succ hr]
    cases hmk : isMk ops.toList[m] with
    | true =>
      rw [(h.mkr m _ _ ho hr hmk).1]
      exact ⟨h1, h2⟩
    | false =>
      have := step_ext hcall (h.st m _ _ ho hr hmk) (b := b) (hm _ (List.mem_of_getElem? hr)) (by omega)
      exact ⟨Nat.le_trans h1 this.1, h2.trans this⟩
theorem hpAt_zero (rs : List Rec) (hp : Hp) : hpAt rs hp 0 = hp := by simp [hpAt, hpR]
theorem RegM.n1 (h : RegM P T call ops rs sl0 hp0 hp1 base N) (hcall : CallOk P call) {i : Nat} (hi : i ≤ ops.toList.length) : hp1.n ≤ (hpAt rs hp1 i).n := by
  have := (h.ext hcall (Nat.zero_le i) hi (b := hp1.n) (by rw [hpAt_zero]; exact Nat.le_refl _) h.top).1
  rw [hpAt_zero] at this
  exact this
theorem RegM.mono (h : RegM P T call ops rs sl0 hp0 hp1 base N) (hcall : CallOk P call) {i j : Nat} (hij : i ≤ j) (hj : j ≤ ops.toList.length) : (hpAt rs hp1 i).n ≤ (hpAt rs hp1 j).n ∧ Ext base (hpAt rs hp1 i) (hpAt rs hp1 j) := by
  have h1 := h.n1 hcall (i := i) (by omega)
  have h2 := h.le
  have h3 := h.le1
  exact h.ext hcall hij hj (by omega) h.mu
/-- an object made out of constants -/
theorem RegM.made (h : RegM P T call ops rs sl0 hp0 hp1 base N) (hcall : CallOk P call) {id i : Nat} (hi : i ≤ ops.toList.length) (hid : id < hp1.n) : (hpAt rs hp1 i).get id = hp1.get id := by
  have := (h.ext hcall (Nat.zero_le i) hi (b := hp1.n) (by rw [hpAt_zero]; exact Nat.le_refl _) h.top).2.same id hid
  rw [hpAt_zero] at this
  exact this
/-- an object that nobody writes -/
theorem RegM.get (h : RegM P T call ops rs sl0 hp0 hp1 base N) (hcall : CallOk P call) {id i j : Nat} (hk : ∀ (q : Nat) r, rs[q]? = some r → id < (hpAt rs hp1 q).n → r.hp.get id = (hpAt rs hp1 q).get id) (hij : i ≤ j) (hj : j ≤ ops.toList.length) (hid : id < (hpAt rs hp1 i).n) : (hpAt rs hp1 j).get id = (hpAt rs hp1 i).get id := by
  induction hij with
  | refl => rfl
  | step hq ih =>
    rename_i m
    have hml : m < ops.toList.length := by omega
    have hr : rs[m]? = some (rs[m]'(by rw [← h.len]; exact hml)) := List.getElem?_eq_getElem (by rw [← h.len]; exact hml)
    have hle := (h.mono hcall hq (by omega)).1
    rw [hpAt_succ hr, hk m _ hr (by omega)]
    exact ih (by omega)
theorem RegM.flt (h : RegM P T call ops rs sl0 hp0 hp1 base N) {i j : Nat} (hij : i ≤ j) (hj : j ≤ ops.toList.length) (hf : ∀ (m : Nat) o, i ≤ m → m < j → ops.toList[m]? = some o → flm T o = true) : hpAt rs hp1 j = hpAt rs hp1 i := by
  induction hij with
  | refl => rfl
  | step hq ih =>
    rename_i m
    have hml : m < ops.toList.length := by omega
    have ho := List.getElem?_eq_getElem hml
    have hr : rs[m]? = some (rs[m]'(by rw [← h.len]; exact hml)) := List.getElem?_eq_getElem (by rw [← h.len]; exact hml)
    have hfm := hf m _ hq (Nat.lt_succ_self _) ho
    rw [hpAt_succ hr]
    have ihh := ih (by omega) fun m' o h1 h2 => hf m' o h1 (by omega)
    cases hmk : isMk ops.toList[m] with
    | true =>
      rw [(h.mkr m _ _ ho hr hmk).1]
      exact ihh
    | false =>
      unfold flm at hfm
      rw [hmk, Bool.false_or] at hfm
      rw [flt_hp hfm (h.st m _ _ ho hr hmk)]
      exact ihh
structure InvM (dl : List Deferred) (W0 : World) (base : Nat) (S0 : Nat → Prop) (N : Nat) (ops : Array Oper) (rs : List Rec) (sl0 : Slots) (hp0 hp1 : Hp) (E0 : Env) (w0 : World) (T : Tab) (D : Nat → Prop) (E : Env) (i : Nat) (a : Act) (w : World) : Prop where
  com : Com dl E0 w0 hp0 N E a w
  len : i ≤ ops.toList.length
  tail : ∀ j o, ops.toList[j]? = some o → flm T o = false → (D j ↔ j < i)
  hs : HS W0 base S0 E (hpAt rs hp1 i) w
  sl : Shown ops rs sl0 D (fun _ => E) a w
  mkd : ∀ (j : Nat) o r id s n c, ops.toList[j]? = some o → rs[j]? = some r → isMk o = true → r.d = .sl id 0 s n c → (E.D id ↔ D j)
def Env.at (E E' : Env) (n m : Nat) : Env := ⟨E'.S, fun id => if id = m then E'.b n else E.b id, fun id => if id = m then E'.base n else E.base id, fun id => if id = m then E'.sz n else E.sz id, fun id => (id = m ∧ E'.X n) ∨ (id ≠ m ∧ E.X id), fun id => E.D id ∨ id = m, E'.yb⟩
theorem Env.at_in (E E' : Env) (n m : Nat) : (E.at E' n m).b m = E'.b n ∧ (E.at E' n m).base m = E'.base n ∧ (E.at E' n m).sz m = E'.sz n ∧ ((E.at E' n m).X m ↔ E'.X n) :=
  ⟨if_pos rfl, if_pos rfl, if_pos rfl, ⟨fun h => h.elim (·.2) (fun h => absurd rfl h.1), fun h => .inl ⟨rfl, h⟩⟩⟩
theorem Env.at_out (E E' : Env) (n : Nat) {m id : Nat} (h : id ≠ m) : (E.at E' n m).b id = E.b id ∧ (E.at E' n m).base id = E.base id ∧ (E.at E' n m).sz id = E.sz id ∧ ((E.at E' n m).X id ↔ E.X id) :=
  ⟨if_neg h, if_neg h, if_neg h, ⟨fun k => k.elim (fun k => absurd k.1 h) (·.2), fun k => .inr ⟨h, k⟩⟩⟩
theorem intsO_vr {E E' : Env} {w w' : World} : ∀ {ds : List DV} {vs : List Value}, intsO ds = true → VRs E w ds vs → VRs E' w' ds vs
  | [], vs, _, h => by
    have := h.unnil
    subst this
    exact .nil _ _
  | .int k n :: l, vs, hi, h => by
    obtain ⟨v, vs', rfl, hv, hvs⟩ := h.uncons
    rw [hv.of_int]
    exact .cons (.int _ _ _) (intsO_vr hi hvs)
theorem HS.addAt {hp : Hp} (h : HS W0 base S0 E hp w) {m : Nat} {o : Ob} (hm : hp.get m = some o) (hmD : ¬ E.D m) (hbm : base ≤ m) {E' : Env} {w' : World} (hs : Stp w hp.n E.S E hp w E' (hp.push o) w') (hD : E'.D hp.n) (hint : intsO o.cs = true) :
    HS W0 base S0 (E.at E' hp.n m) hp w' ∧ Later E w (E.at E' hp.n m) w' := by
  have hbel := hs.hs.bel
  have hne : ∀ id, E.D id → id ≠ m := fun id hd e => hmD (e ▸ hd)
  have hl : Later E w (E.at E' hp.n m) w' := ⟨hs.later.S, fun id hd => by
    obtain ⟨m1, m2, m3, m4⟩ := Env.at_out E E' hp.n (hne id hd)
    exact ⟨.inl hd, m1, m2, m3, m4⟩, hs.later.cell, fun id x hx => (by show E'.yb id = some x; rw [hs.yb]; exact hx)⟩
  have hEb : ∀ id, E.D id → E.b id < w.heap.size := fun id hd => by
    obtain ⟨ob, _, hok⟩ := h.ob id hd
    exact hok.lt
  obtain ⟨i1, i2, i3, i4⟩ := Env.at_in E E' hp.n m
  have hown := hs.hs.own hp.n hD (Nat.le_refl _)
  refine ⟨⟨h.bel.trans (hbel.mono h.bel.size), fun id hd => ?_, fun id hd hbi => ?_, fun id hd hbi => ?_, fun i j oi oj hi hj hne' hbi hoi hoj hk he => ?_, fun x hx => hs.hs.ro x hx, fun x hx => ?_, h.le, h.ys.keep hl hs.yb rfl (Nat.le_refl _) fun k hk => hbel.block k (isO_lt hk)⟩, hl⟩
  · rcases hd with hd | rfl
    · obtain ⟨ob, hob, hok⟩ := h.ob id hd
      exact ⟨ob, hob, hok.keep hd hl (hbel.block _ hok.lt)⟩
    · obtain ⟨o2, ho2, hok⟩ := hs.hs.ob hp.n hD
      rw [Hp.get_push, if_pos rfl] at ho2
      cases ho2
      obtain ⟨q1, q2, vs, q3, q4, q5, q6⟩ := hok
      refine ⟨o, hm, q1.trans i4.symm, q2, vs, by rw [i1]; exact q3, by rw [i3]; exact q4, by rw [i2]; exact q5, by rw [i2]; exact intsO_vr hint q6⟩
  · rcases hd with hd | rfl
    · obtain ⟨m1, _⟩ := Env.at_out E E' hp.n (hne id hd)
      obtain ⟨o1, o2⟩ := h.own id hd hbi
      rw [m1]
      refine ⟨o1, fun hx => ?_⟩
      rcases hs.hs.olds _ hx with hx | hx
      · exact o2 hx
      · have := hEb id hd; omega
    · rw [i1]
      have := h.bel.size
      exact ⟨by omega, hown.2⟩
  · rcases hd with hd | rfl
    · obtain ⟨m1, _⟩ := Env.at_out E E' hp.n (hne id hd)
      rw [m1]
      exact h.old id hd hbi
    · omega
  · rcases hi with hi | rfl <;> rcases hj with hj | rfl
    · obtain ⟨m1, m2, _⟩ := Env.at_out E E' hp.n (hne i hi)
      obtain ⟨n1, n2, _⟩ := Env.at_out E E' hp.n (hne j hj)
      rw [m1, n1] at he
      rw [m2, n2]
      exact h.inj i j oi oj hi hj hne' hbi hoi hoj hk he
    · obtain ⟨m1, _⟩ := Env.at_out E E' hp.n (hne i hi)
      rw [m1, i1] at he
      have := hEb i hi
      omega
    · obtain ⟨n1, _⟩ := Env.at_out E E' hp.n (hne j hj)
      rw [n1, i1] at he
      have := hEb j hj
      omega
    · exact absurd rfl hne'
  · rcases hs.hs.olds x hx with hx | hx
    · exact h.olds x hx
    · have := h.bel.size
      exact .inr (by omega)
/-- one of those that may come at any time, at another heap -/
theorem flm_at (hcall : CallOk P call) (hR : RegM P T call ops rs sl0 hp0 hp1 base N) {q i : Nat} (hi : i ≤ ops.toList.length) {o : Oper} {r : Rec} (ho : ops.toList[q]? = some o) (hf : flt T o.op = true) (hst : StepC T call (ops.toList.map (·.dst)) o (slAt ops.toList rs sl0 q) (hpAt rs hp1 q) r)
    (hlook : ∀ x id off, o.op.operands = #[x] → ev (slAt ops.toList rs sl0 q) x = some (.ptr id off) → ∃ ob, (hpAt rs hp1 i).get id = some ob) : StepC T call (ops.toList.map (·.dst)) o (slAt ops.toList rs sl0 q) (hpAt rs hp1 i) ⟨r.d, hpAt rs hp1 i, none⟩ := by
  have hql := (List.getElem?_eq_some_iff.1 ho).1
  rcases hst with ⟨hg, hop⟩ | ⟨hg, hre⟩
  · refine .inl ⟨hg, ?_⟩
    unfold opE at hop ⊢
    cases hoo : o.op with
    | load t x =>
      rw [hoo] at hop
      simp only [aop] at hop ⊢
      unfold opLoad at hop ⊢
      cases ht : T t with
      | none => rw [ht] at hop; cases hop
      | some ti =>
        rw [ht] at hop
        cases hx : ev (slAt ops.toList rs sl0 q) x with
        | none => rw [hx] at hop; cases hop
        | some d =>
          rw [hx] at hop
          cases d with
          | ptr id off =>
            simp only at hop ⊢
            obtain ⟨ob, hob⟩ := hlook x id off (by rw [hoo]; rfl) hx
            cases hq : (hpAt rs hp1 q).get id with
            | none => rw [hq] at hop; cases hop
            | some o2 =>
              rw [hq] at hop
              have hlo := hR.lo q o t x id off ho hg hoo hx
              have e : o2 = ob := by
                rcases Nat.le_total i q with h1 | h1
                · have := hR.get hcall hlo h1 (by omega) (Hp.get_lt hob)
                  rw [hq, hob] at this
                  exact Option.some.inj this
                · have := hR.get hcall hlo h1 hi (Hp.get_lt hq)
                  rw [hq, hob] at this
                  exact (Option.some.inj this).symm
              subst e
              rw [hob]
              simp only at hop ⊢
              cases hp2 : partD ti o2.cs off with
              | none => rw [hp2] at hop; cases hop
              | some d =>
                rw [hp2] at hop
                simp only [keep, outR] at hop ⊢
                injection hop with hop
                injection hop with h1 h2
                rw [h1]
          | fptr cs =>
            simp only at hop ⊢
            cases hp2 : partD ti cs 0 with
            | none => rw [hp2] at hop; cases hop
            | some d =>
              rw [hp2] at hop
              simp only [keep, outR] at hop ⊢
              injection hop with hop
              injection hop with h1 h2
              rw [h1]
          | _ => cases hop
    | _ =>
      rw [hoo] at hop hf
      simp only [Go.Proofs.Ytoghpmeoekbcbaa.flt] at hf
      split at hop
      · rename_i z hz
        have hzz : z = (r.d, r.hp, r.mu) := by simpa using hop
        subst hzz
        obtain ⟨_, _, h3⟩ := aop_dry hf hz
        rw [h3]
      · rename_i f args hz
        exact absurd hz (dry_not_call hf f args)
      · rename_i f args hz
        exact absurd hz (dry_not_yld hf f args)
      · cases hop
  · exact .inr ⟨hg, by rw [hre]⟩
theorem stepM (hT : TabOk P T) (hcall : CallOk P call) (hR : RegM P T call ops rs sl0 hp0 hp1 base N) {i : Nat} (h : InvM dl W0 base S0 N ops rs sl0 hp0 hp1 E0 w0 T D E i a w) (hD : Closed ops.toList D) {q : Nat} {o : Oper} (ho : ops.toList[q]? = some o) (hDq : ¬ D q) (hw : Waits D o) :
    wpOpIn (Fr ro) 0 P ops Q q (fun a w => ∃ E i, InvM dl W0 base S0 N ops rs sl0 hp0 hp1 E0 w0 T (fun j => D j ∨ j = q) E i a w) a w := by
  have hql := (List.getElem?_eq_some_iff.1 ho).1
  have hr : rs[q]? = some (rs[q]'(by rw [← hR.len]; exact hql)) := List.getElem?_eq_getElem (by rw [← hR.len]; exact hql)
  generalize hrr : rs[q]'(by rw [← hR.len]; exact hql) = r at hr
  have hhp1 := hpAt_succ (hp := hp1) hr
  have hlook : ∀ t d, t ∈ o.looksAt ops → look (slAt ops.toList rs sl0 q) t = some d → VR w E d (a.tmps.getD t undef) := fun t d ht hd => h.sl t q (by omega) (look_pos hR.chk.chk hD ho hDq hw ht) d hd
  have hput := fun {E' : Env} {w' : World} {v : Value} (hl : Later E w E' w') (hv : VR w' E' r.d v) => shown_put0 hR.len hR.chk.chk hR.dst hD ho hr hDq h.sl (fun _ _ => hl) (fun _ _ _ => hv) h.com.size
  have hni := hR.n1 hcall h.len
  have hle1 := hR.le1
  have hle0 := hR.le
  cases hm : isMk o with
  | true =>
    obtain ⟨g1, g2, id, s, n, c, e, cells, hd, k1, k2, k3, k4⟩ := hR.mkr q o r ho hr hm
    have hg : o.guard = none := by
      unfold isMk at hm
      split at hm
      · assumption
      · assumption
      · cases hm
    have hst : StepC T call (ops.toList.map (·.dst)) o (slAt ops.toList rs sl0 q) (hpAt rs hp1 i) ⟨.sl (hpAt rs hp1 i).n 0 s n c, pushH (hpAt rs hp1 i) 0 e cells, none⟩ := by
      refine .inl ⟨by rw [hg]; rfl, ?_⟩
      unfold opE
      rw [k4]
    refine one_ok hT hcall ho hst h.hs.pure hlook trivial fun E' v w' hs hv => ⟨E.at E' (hpAt rs hp1 i).n id, i, ?_⟩
    have hDn : E'.D (hpAt rs hp1 i).n := by
      obtain ⟨A, c', _, hd', _⟩ := hv.of_sl
      exact hd'
    have hnot : ¬ E.D id := fun hh => hDq ((h.mkd q o r id s n c ho hr hm hd).1 hh)
    obtain ⟨m1, m2⟩ := h.hs.addAt (m := id) (o := ⟨0, 0, e, cells⟩) (by rw [hR.made hcall h.len k2]; exact k3) hnot (by omega) hs hDn (hR.ints id _ k1 k3)
    obtain ⟨i1, i2, i3, i4⟩ := Env.at_in E E' (hpAt rs hp1 i).n id
    have hv' : VR w' (E.at E' (hpAt rs hp1 i).n id) r.d v := by
      rw [hd]
      obtain ⟨A, c', rfl, q1, q2, q3, q4, q5, q6⟩ := hv.of_sl
      exact .sl _ id 0 s n c A c' (.inr rfl) q2 q3 q4 (fun hx => q5 (i4.1 hx)) (fun hc => by rw [i1, i2, i3]; exact q6 hc)
    refine ⟨h.com.next m2 (fun id' hid hd' => hd'.elim (fun hh => hh) (fun hh => by omega)) hs.oth hs.yb _ _, h.len, fun j oj hj hfj => ?_, m1, hput m2 hv', fun j oj rj id' s' n' c' hj hrj hmj hdj => ?_⟩
    · rw [← h.tail j oj hj hfj]
      refine ⟨fun hh => hh.resolve_right fun e => ?_, .inl⟩
      subst e
      rw [ho] at hj
      cases hj
      unfold flm at hfj
      rw [hm] at hfj
      cases hfj
    · have hh := h.mkd j oj rj id' s' n' c' hj hrj hmj hdj
      constructor
      · rintro (h1 | h1)
        · exact .inl (hh.1 h1)
        · right
          subst h1
          rcases Nat.lt_trichotomy j q with hlt | rfl | hlt
          · exact absurd (hR.inj j q oj o rj r _ _ _ _ _ _ _ _ hj ho hrj hr hmj hm hdj hd hlt) (Nat.lt_irrefl _)
          · rfl
          · exact absurd (hR.inj q j o oj r rj _ _ _ _ _ _ _ _ ho hj hr hrj hm hmj hd hdj hlt) (Nat.lt_irrefl _)
      · rintro (h1 | rfl)
        · exact .inl (hh.2 h1)
        · right
          rw [ho] at hj
          rw [hr] at hrj
          cases hj
          cases hrj
          rw [hd] at hdj
          cases hdj
          rfl
  | false =>
  have hst := hR.st q o r ho hr hm
  have hmkd : ∀ {E' : Env}, (∀ id, id < hp1.n → (E'.D id ↔ E.D id)) → ∀ (j : Nat) oj rj id s n c, ops.toList[j]? = some oj → rs[j]? = some rj → isMk oj = true → rj.d = .sl id 0 s n c → (E'.D id ↔ (D j ∨ j = q)) := by
    intro E' hE j oj rj id s n c hj hrj hmj hdj
    obtain ⟨_, _, id2, _, _, _, _, _, hd2, _, hlt, _⟩ := hR.mkr j oj rj hj hrj hmj
    rw [hdj] at hd2
    cases hd2
    rw [hE _ hlt, h.mkd j oj rj _ _ _ _ hj hrj hmj hdj]
    refine ⟨.inl, fun hh => hh.resolve_right fun e => ?_⟩
    subst e
    rw [ho] at hj
    cases hj
    rw [hm] at hmj
    cases hmj
  cases hf : flt T o.op
  · -- the next one
    have hflm : flm T o = false := by
      unfold flm
      rw [hm, hf]
      rfl
    have hqi : i ≤ q := by
      rcases Nat.lt_or_ge q i with hlt | hge
      · exact absurd ((h.tail q o ho hflm).2 hlt) hDq
      · exact hge
    have hbtw : ∀ (m : Nat) om, i ≤ m → m < q → ops.toList[m]? = some om → flm T om = true := by
      intro m om h1 h2 hom
      cases hfm : flm T om
      · exfalso
        have hDm : D m := by
          rcases hR.chk.pair q m o om (by omega) ho hom with hb | ⟨_, hb⟩
          · exact hb D hD hw
          · rcases hb with hb | hb | hb
            · rw [hflm] at hb; cases hb
            · omega
            · rw [hfm] at hb; cases hb
        have := (h.tail m om hom hfm).1 hDm
        omega
      · rfl
    have hheap := hR.flt hqi (by omega) hbtw
    have hs0 := h.hs
    rw [← hheap] at hs0
    have hnq := hR.n1 hcall (i := q) (by omega)
    refine one_ok hT hcall ho hst hs0 hlook (hR.mu r (List.mem_of_getElem? hr)) fun E' v w' hs hv => ⟨E', q + 1, ?_⟩
    refine ⟨h.com.next hs.later (fun id hid hd => hs.dom id (by omega) hd) hs.oth hs.yb _ _, by omega, fun j oj hj hfj => ?_, by rw [hhp1]; exact hs.hs, hput hs.later hv, hmkd fun id hid => ⟨fun hd => hs.dom id (by omega) hd, fun hd => (hs.later.D id hd).1⟩⟩
    rw [h.tail j oj hj hfj]
    constructor
    · rintro (h1 | h1) <;> omega
    · intro h1
      rcases Nat.lt_or_ge j i with h2 | h2
      · exact .inl h2
      · right
        rcases Nat.lt_or_ge j q with h3 | h3
        · have := hbtw j oj h2 h3 hj
          rw [hfj] at this; cases this
        · omega
  · -- one that may come at any time
    have hst' := flm_at hcall hR h.len ho hf hst fun x id off hx hev => by
      have hxt : ∃ t, x = .tmp t := by
        cases x with
        | tmp t => exact ⟨t, rfl⟩
        | const v =>
          exfalso
          simp only [ev] at hev
          cases v <;> simp only [cv, cv1] at hev <;> first | (cases hev; done) | skip
          all_goals (try (split at hev <;> cases hev))
        | func f => cases hev
        | _ => cases hev
      obtain ⟨t, rfl⟩ := hxt
      have hm : t ∈ o.looksAt ops := by
        unfold Oper.looksAt
        rw [List.mem_append]
        left
        rw [List.mem_filterMap]
        exact ⟨.tmp t, by rw [hx]; simp, rfl⟩
      obtain ⟨ob, hob, _⟩ := h.hs.ob id (hlook t _ hm hev).of_ptr.2
      exact ⟨ob, hob⟩
    refine one_ok hT hcall ho hst' h.hs.pure hlook trivial fun E' v w' hs hv => ⟨mrg E E' (hpAt rs hp1 i).n (hpAt rs hp1 i).n, i, ?_⟩
    have hno : ∀ id, ¬ ((hpAt rs hp1 i).n ≤ id ∧ id < (hpAt rs hp1 i).n) := fun id hh => by omega
    obtain ⟨m1, m2, m3⟩ := HS.merge h.hs (E1 := E) (E' := E') (hpX := hpAt rs hp1 i) (hpY := hpAt rs hp1 i) (a := (hpAt rs hp1 i).n) (b := (hpAt rs hp1 i).n) h.hs.pure hs.hs hs.later (fun id hd => ⟨hd, rfl, rfl, rfl, Iff.rfl⟩) rfl (fun id hd => .inl (hs.dom id (hs.hs.dlt hd) hd)) (fun id _ => hno id) (fun id h1 h2 => by omega) h.hs.le hs.yb
    refine ⟨h.com.next m2 (fun id hid hd => hd.elim (fun hh => hh) (fun hh => by omega)) hs.oth hs.yb _ _, h.len, fun j oj hj hfj => ?_, m1, hput m2 (hv.later m3), hmkd fun id hid => ⟨fun hd => hd.elim (fun hh => hh) (fun hh => by omega), .inl⟩⟩
    rw [← h.tail j oj hj hfj]
    refine ⟨fun hh => hh.resolve_right fun e => ?_, .inl⟩
    subst e
    rw [ho] at hj
    cases hj
    unfold flm at hfj
    rw [hm, hf] at hfj
    cases hfj
theorem InvM.done (hR : RegM P T call ops rs sl0 hp0 hp1 base N) (hx01 : Ext base hp0 hp1) (hcall : CallOk P call) (hdf : DfrOk W0 fm.fl E0 w0 dl) (hro : RoOk fm E0 hp0 dl) {i : Nat} (h : InvM dl W0 base S0 N ops rs sl0 hp0 hp1 E0 w0 T D E i a w) (hall : ∀ j, j < ops.toList.length → D j) :
    Stp W0 base S0 E0 hp0 w0 E (hpAt rs hp1 ops.toList.length) w ∧ Sim fm W0 base S0 E N (slAt ops.toList rs sl0 ops.toList.length) (hpAt rs hp1 ops.toList.length) a w := by
  have hheap := hR.flt h.len (Nat.le_refl _) fun m om h1 h2 hom => by
    cases hfm : flm T om
    · have := (h.tail m om hom hfm).1 (hall m h2)
      omega
    · rfl
  have hs0 := h.hs
  rw [← hheap] at hs0
  have hx := (hR.mono hcall (Nat.zero_le _) (Nat.le_refl _)).2
  rw [hpAt_zero] at hx
  have hx := hx01.trans hx
  refine ⟨⟨h.com.later, hs0, hx, h.com.dom, h.com.oth, h.com.yb⟩, hs0, (by rw [h.com.defers]; exact hdf.step h.com.oth h.com.yb), (by rw [h.com.defers]; exact hro.step h.com.yb hx.ls), h.com.size, fun t d hd => h.sl t _ (Nat.le_refl _) (fun j o hj _ => ?_) d hd⟩
  have := (List.getElem?_eq_some_iff.1 hj).1
  exact ⟨fun _ => this, fun _ => hall j this⟩
theorem intsM_ok : ∀ (n : Nat) (l : List Ob), intsM n l = true → ∀ (i : Nat) o, i < n → l[i]? = some o → intsO o.cs = true
  | 0, _, _, i, o, hi, _ => by omega
  | n + 1, o' :: l, h, i, o, hi, ho => by
    simp only [intsM, Bool.and_eq_true] at h
    cases i with
    | zero => simp at ho; subst ho; exact h.1
    | succ i => exact intsM_ok n l h.2 i o (by omega) (by simpa using ho)
theorem regMM_ok (hT : TabOk P T) (hmix : P.follows .mixedOrders = true) (hcall : CallOk P call) {id : Nat} (hc : flmChk T ops = true) (hds : dstsOk N (ops.toList.map (·.dst)) = true) {sl : Slots} {hp : Hp} {sl' : Slots} {hp' : Hp} {mu : Mut}
    (h : regMM T call (ops.toList.map (·.dst)) ops.toList sl hp = some (sl', hp', mu)) {E : Env} {a : Act} {w : World} (hs : Sim fm W0 base S0 E N sl hp a w) (hmu : mutOk base mu) (hQ : ∀ E' a' w', Stp W0 base S0 E hp w E' hp' w' → Sim fm W0 base S0 E' N sl' hp' a' w' → Q .normal a' w') :
    (Code.region id ops true).wpIn (Fr ro) 0 P Q a w := by
  unfold regMM at h
  split at h
  · rename_i dl0 hpm hm1
    split at h
    · rename_i hin
      have hmk := regM1_ok hm1
      obtain ⟨x1, x2, x3⟩ := mkR_ext hmk
      have hck := flmChk_ok hc
      obtain ⟨rs, LD, MS, hlen, h2, h3, h4, h5, ht, _, _, h8, h9, h10, h11, h12⟩ := regM_can hmk h
      have hlow : ∀ b, mutOk b mu → ∀ r ∈ rs, mutOk b r.mu := fun b hb => (h4 b hb).2
      have htop : mutOk hpm.n mu := by
        cases mu with
        | none => trivial
        | some m => exact Nat.le_of_ble_eq_true ht
      have hx01 : Ext base hp hpm := ⟨x1, fun id hid => x2 id (by have := hs.hs.le; omega), fun i => by rw [x3], fun i _ => by rw [x3]⟩
      have hR : RegM P T call ops rs sl hp hpm base N := ⟨hlen, h10, h11, fun id o hid ho => by
        have hlt := Hp.get_lt ho
        rw [Hp.get_eq, if_pos hlt] at ho
        exact intsM_ok _ _ hin _ o (by omega) ho, h12, hlow base hmu, hlow _ htop, fun j o t x id off hj hg hop hev q r hr hlt => by
        have hld := lmOk_ok h5 id (h8 j o t x id off hj hg hop hev)
        have hql : q < ops.toList.length := by rw [hlen]; exact (List.getElem?_eq_some_iff.1 hr).1
        have hoq := List.getElem?_eq_getElem hql
        cases hmq : isMk ops.toList[q] with
        | true => rw [(h11 q _ r hoq hr hmq).1]
        | false =>
          have hst := h10 q _ r hoq hr hmq
          have hlo : ∀ {m}, r.mu = m → mutOk (id + 1) m → r.hp.get id = (hpAt rs hpm q).get id := fun {m} hm hmo => (step_ext hcall hst (b := id + 1) (by rw [hm]; exact hmo) hlt).2 id (Nat.lt_succ_self _)
          cases hm : r.mu with
          | none => exact hlo hm trivial
          | some m =>
            obtain ⟨ex, hmem, hex⟩ := h9 q _ r m hoq hr hm
            rcases lmOk1_ok hld m ex hmem with ⟨e1, e2⟩ | hlt2
            · exact stEx_ok (hex e1) hst hm e2
            · exact hlo hm (show id + 1 ≤ m by omega), hck, hds, hs.hs.le, x1⟩
      have hhp : hpAt rs hpm ops.toList.length = hp' := by
        unfold hpAt
        rw [hlen, List.take_length, h3]
      have hsl : slAt ops.toList rs sl ops.toList.length = sl' := by rw [slR_take _ _ _ hlen, h2]
      obtain ⟨hdr, hldr⟩ := hs.hs.drew
      have hE0 : ∀ id, E.D id → id < hp.n := fun id hd => hs.hs.dlt hd
      have hdone : ∀ D a1 w1, (∃ E1 i, InvM a.defers W0 base S0 N ops rs sl hp hpm E w T D E1 i a1 w1) → (∀ j, j < ops.toList.length → D j) → Q .normal a1 w1 := by
        intro D a1 w1 hI hall
        obtain ⟨E1, i, hI⟩ := hI
        obtain ⟨q1, q2⟩ := hI.done (fm := fm) hR hx01 hcall hs.dfr hs.ro hall
        rw [hhp] at q1 q2
        rw [hsl] at q2
        exact hQ E1 a1 w1 q1 q2
      refine wpIn_region_any hmix (any_gen (ro := ro) (I := fun D a1 w1 => ∃ E1 i, InvM a.defers W0 base S0 N ops rs sl hp hpm E w T D E1 i a1 w1) hck.back (fun D a1 w1 hI hD q o ho hDq hw => hI.elim fun E1 hI => hI.elim fun i hI => stepM hT hcall hR hI hD ho hDq hw) hdone ops.size _ a _ (by simp) (fun i o e ho hi => ?_) ?_ ⟨E, 0, ?_⟩)
      · have hi : (Array.replicate ops.size false).getD i false = true := hi
        rw [rep_false] at hi
        cases hi
      · refine Nat.le_trans List.countP_le_length ?_
        simp
      · have hfalse : ∀ j, ¬ ((Array.replicate ops.size false).getD j false = true) := fun j h9 => by
          rw [rep_false] at h9
          cases h9
        refine ⟨⟨hldr, fun _ _ h => h, rfl, hs.size, ⟨Nat.le_refl _, fun _ _ h => h⟩, rfl⟩, Nat.zero_le _, fun j o hj _ => ⟨fun h9 => absurd h9 (hfalse j), fun h9 => by omega⟩, ?_, fun t i hi hat d hd => ?_, fun j o r id s n c hj hrj hmj hdj => ⟨fun hd => ?_, fun h9 => absurd h9 (hfalse j)⟩⟩
        · rw [hpAt_zero]
          exact hdr.move (fun _ h => h) (Later.refl _ _) hdr.bel (fun _ _ => rfl) (fun _ h => .inl h) hdr.ro (fun id hd => x2 id (hE0 id hd)) (by have := hs.hs.le; omega) (hdr.ys.keep' (Later.refl _ _) rfl (fun i => by rw [x3]) x1 fun _ _ => rfl)
        · have hno : ∀ (j : Nat) o, j < i → ops.toList[j]? = some o → o.dst ≠ some t := fun j o hj ho hdj => hfalse j ((hat j o ho hdj).2 hj)
          have key : ∀ m, m ≤ i → ∀ d, look (slAt ops.toList rs sl m) t = some d → look sl t = some d := by
            intro m
            induction m with
            | zero => intro _ d hd; simpa [slAt, slR] using hd
            | succ m ihm =>
              intro hm d hd
              have hml : m < ops.toList.length := by omega
              obtain ⟨r', hr', he⟩ := slAt_succ (sl := sl) hlen (List.getElem?_eq_getElem hml)
              rw [he] at hd
              refine ihm (by omega) d ?_
              cases hdd : (ops.toList[m]).dst with
              | none => rw [hdd] at hd; exact hd
              | some s =>
                rw [hdd] at hd
                simp only [putO] at hd
                rcases look_put hd with ⟨rfl, _⟩ | ⟨_, hd⟩
                · exact absurd hdd (hno m _ (by omega) (List.getElem?_eq_getElem hml))
                · exact hd
          exact (hs.sl t d (key i (Nat.le_refl _) d hd)).later hldr
        · exfalso
          obtain ⟨_, _, id2, _, _, _, _, _, hd2, hge, _⟩ := h11 j o r hj hrj hmj
          rw [hdj] at hd2
          cases hd2
          have := hE0 _ hd
          omega
    · cases h
  · cases h
theorem regMM_ext (hcall : CallOk P call) {l : List Oper} {sl : Slots} {hp : Hp} {sl' : Slots} {hp' : Hp} {mu : Mut} (h : regMM T call ds l sl hp = some (sl', hp', mu)) : ∀ b, mutOk b mu → b ≤ hp.n → Ext b hp hp' := by
  unfold regMM at h
  split at h
  · rename_i dl0 hpm hm1
    split at h
    · have hmk := regM1_ok hm1
      obtain ⟨x1, x2, x3⟩ := mkR_ext hmk
      obtain ⟨rs, LD, MS, hlen, h2, h3, h4, h5, ht, _, _, h8, h9, h10, h11, h12⟩ := regM_can hmk h
      intro b hb hle
      have hm := (h4 b hb).2
      have hx0 : Ext b hp hpm := ⟨x1, fun id hid => x2 id (by omega), fun i => by rw [x3], fun i _ => by rw [x3]⟩
      have key : ∀ i, i ≤ rs.length → hpm.n ≤ (hpAt rs hpm i).n ∧ Ext b hpm (hpAt rs hpm i) := by
        intro i
        induction i with
        | zero => intro _; rw [hpAt_zero]; exact ⟨Nat.le_refl _, Ext.refl _ _⟩
        | succ i ih =>
          intro hi
          obtain ⟨k1, k2⟩ := ih (by omega)
          have hr : rs[i]? = some rs[i] := List.getElem?_eq_getElem (by omega)
          have hil : i < l.length := by omega
          have ho := List.getElem?_eq_getElem hil
          rw [hpAt_succ hr]
          cases hmi : isMk l[i] with
          | true =>
            rw [(h11 i _ _ ho hr hmi).1]
            exact ⟨k1, k2⟩
          | false =>
            have := step_ext hcall (h10 i _ _ ho hr hmi) (b := b) (hm _ (List.mem_of_getElem? hr)) (by omega)
            exact ⟨Nat.le_trans k1 this.1, k2.trans this⟩
      have := (key rs.length (Nat.le_refl _)).2
      unfold hpAt at this
      rw [List.take_length, h3] at this
      exact hx0.trans this
    · cases h
  · cases h
theorem regD_ok (hT : TabOk P T) (hmix : P.follows .mixedOrders = true) (hcall : CallOk P call) {id : Nat} {k : Nat} (hc : chkK T ops k = true) (hds : dstsOk N (ops.toList.map (·.dst)) = true) {sl : Slots} {hp : Hp} {e : Ex} {sl' : Slots} {hp' : Hp} {mu : Mut}
    (h : regD T call (ops.toList.map (·.dst)) ops.toList sl hp (some k) = some (e, sl', hp', mu)) {E : Env} {a : Act} {w : World} (hs : Sim fm W0 base S0 E N sl hp a w) (hmu : mutOk base mu) (hQ : ∀ E' a' w', Stp W0 base S0 E hp w E' hp' w' → Sim fm W0 base S0 E' N sl' hp' a' w' → Q .normal a' w') :
    e = .normal ∧ (Code.region id ops true).wpIn (Fr ro) 0 P Q a w := by
  cases hk : Nat.ble 1000 k with
  | true =>
    cases hk2 : Nat.ble 2000 k with
    | false =>
      simp only [regD, hk, hk2, regN] at h
      simp only [chkK, hk, hk2] at hc
      split at h
      · rename_i hF
        cases h
        exact ⟨rfl, regF_ok hT hmix hcall hc hds hF hs hmu hQ⟩
      · cases h
    | true =>
      simp only [regD, hk, hk2, regN] at h
      simp only [chkK, hk, hk2] at hc
      split at h
      · rename_i hF
        cases h
        exact ⟨rfl, regMM_ok hT hmix hcall hc hds hF hs hmu hQ⟩
      · cases h
  | false =>
    simp only [regD, hk] at h
    simp only [chkK, hk] at hc
    exact regA_ok hT hmix hcall hc hds h hs hmu hQ
theorem regD_normal {l : List Oper} {sl : Slots} {hp : Hp} {k : Nat} {e : Ex} {sl' : Slots} {hp' : Hp} {mu : Mut} (h : regD T call ds l sl hp (some k) = some (e, sl', hp', mu)) : e = .normal := by
  have hN : ∀ {r : Option (Slots × Hp × Mut)}, regN r = some (e, sl', hp', mu) → e = .normal := by
    intro r hr
    unfold regN at hr
    split at hr
    · cases hr; rfl
    · cases hr
  simp only [regD] at h
  split at h
  · exact hN h
  · exact hN h
  · unfold regA at h
    split at h
    · exact hN h
    · cases h
theorem regD_ext (hcall : CallOk P call) (hP : ∀ {l : List Oper} {sl : Slots} {hp : Hp} {sl' : Slots} {hp' : Hp}, regP T call ds l sl hp = some (sl', hp') → ∀ b, b ≤ hp.n → Ext b hp hp') (hE : ∀ {l : List Oper} {sl : Slots} {hp : Hp} {sl' : Slots} {hp' : Hp} {mu : Mut}, regE T call ds l sl hp = some (sl', hp', mu) → ∀ b, mutOk b mu → b ≤ hp.n → Ext b hp hp')
    {l : List Oper} {sl : Slots} {hp : Hp} {k : Nat} {e : Ex} {sl' : Slots} {hp' : Hp} {mu : Mut} (h : regD T call ds l sl hp (some k) = some (e, sl', hp', mu)) : ∀ b, mutOk b mu → b ≤ hp.n → Ext b hp hp' := by
  have hN : ∀ {r : Option (Slots × Hp × Mut)}, regN r = some (e, sl', hp', mu) → r = some (sl', hp', mu) := by
    intro r hr
    unfold regN at hr
    split at hr
    · cases hr; rfl
    · cases hr
  intro b hb hle
  simp only [regD] at h
  split at h
  · exact regF_ext hcall (hN h) b hb hle
  · exact regMM_ext hcall (hN h) b hb hle
  · unfold regA at h
    split at h
    · rename_i h1
      have e1 := hP h1 b hle
      exact e1.trans (hE (hN h) b hb (Nat.le_trans hle e1.1))
    · cases h
end
end
end Go.Proofs.Ytoghpmeoekbcbaa
