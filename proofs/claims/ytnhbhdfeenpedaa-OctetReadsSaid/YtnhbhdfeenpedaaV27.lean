/- More fuel does not change an answer. No function of the program is named here. -/
import Derived.Test.YtnhbhdfeenpedaaV24
namespace Go.Proofs.Ytnhbhdfeenpedaa
open Go.RowKit

noncomputable section
def XLe (q q' : XF) : Prop := ∀ ⦃ks c sl hp r⦄, q ks c sl hp = some r → q' ks c sl hp = some r
def CLe (c c' : CallF) : Prop := ∀ ⦃f args hp r⦄, c f args hp = some r → c' f args hp = some r
variable {T : Tab} {F : FTab} {C : CallF}
theorem callE_mono {q q' : XF} (h : XLe q q') : CLe (callE T F C q) (callE T F C q') := by
  intro f args hp r hr
  unfold callE at hr ⊢
  split at hr
  · exact hr
  · split at hr
    · split at hr
      · split at hr
        · cases hr
        · rename_i hne heq
          rw [h heq]
          split
          · rename_i heq
            cases heq
            exact absurd rfl (hne _)
          · rename_i heq
            cases heq
            exact hr
          · rename_i heq
            cases heq
        · cases hr
      · cases hr
    · cases hr
theorem opE_mono {c c' : CallF} (h : CLe c c') {o : Oper} {sl : Slots} {hp : Hp} {r : DV × Hp × Mut} (hr : opE T c o sl hp = some r) : opE T c' o sl hp = some r := by
  unfold opE at hr ⊢
  split at hr
  · exact hr
  · exact h hr
  · cases hr
theorem regE_mono {c c' : CallF} (h : CLe c c') {ds : List (Option Tmp)} : ∀ {l : List Oper} {sl : Slots} {hp : Hp} {r : Slots × Hp × Mut}, regE T c ds l sl hp = some r → regE T c' ds l sl hp = some r
  | [], _, _, _, hr => hr
  | o :: l, sl, hp, r, hr => by
    rw [regE_cons] at hr ⊢
    unfold gateX at hr ⊢
    split at hr
    · unfold regE1 at hr
      split at hr
      · rename_i hop
        split at hr
        · rename_i hrest
          cases hr
          simp only [regE1, opE_mono h hop, regE_mono h hrest]
        · cases hr
      · cases hr
    · exact regE_mono h hr
    · cases hr
theorem regP_mono {c c' : CallF} (h : CLe c c') {ds : List (Option Tmp)} : ∀ {l : List Oper} {sl : Slots} {hp : Hp} {r : Slots × Hp}, regP T c ds l sl hp = some r → regP T c' ds l sl hp = some r
  | [], _, _, _, hr => hr
  | o :: l, sl, hp, r, hr => by
    rw [regP_cons] at hr ⊢
    unfold gateX at hr ⊢
    split at hr
    · unfold regP1 at hr
      split at hr
      · rename_i hop
        simp only [regP1, opE_mono h hop]
        exact regP_mono h hr
      · cases hr
    · exact regP_mono h hr
    · cases hr
theorem seqX_mono {r r' : XR} {q q' : Slots → Hp → XR} (h1 : ∀ {x}, r = some x → r' = some x) (h2 : ∀ {sl hp x}, q sl hp = some x → q' sl hp = some x) {x : Ex × Slots × Hp × Mut} (h : seqX r q = some x) : seqX r' q' = some x := by
  unfold seqX at h
  split at h
  · split at h
    · rename_i hq
      rw [h1 rfl]
      simp only [seqX, h2 hq, h]
    · cases h
  · rename_i hne
    rw [h1 h]
    obtain ⟨e, sl, hp, mu⟩ := x
    cases e with
    | normal => exact absurd h (fun h => hne _ _ _ h)
    | exit i => rfl
    | ret => rfl
theorem exec1_mono {q q' : XF} (h : XLe q q') : XLe (exec1 T F C q) (exec1 T F C q') := by
  intro ks c sl hp r hr
  have hc : CLe (callE T F C q) (callE T F C q') := callE_mono h
  unfold exec1 at hr ⊢
  split at hr
  · exact hr
  · exact hr
  · exact hr
  · exact hr
  · unfold regN at hr ⊢
    split at hr
    · rename_i heq
      rw [regE_mono hc heq]
      exact hr
    · cases hr
  · unfold regD at hr ⊢
    split at hr
    · split at hr
      · rename_i heq
        rw [regP_mono hc heq]
        unfold regN at hr ⊢
        split at hr
        · rename_i heq
          simp only [regE_mono hc heq]
          exact hr
        · cases hr
      · cases hr
    · cases hr
  · exact seqX_mono (fun hx => h hx) (fun hx => h hx) hr
  · unfold condX at hr ⊢
    split at hr
    · exact h hr
    · exact h hr
    · cases hr
  · unfold blockX at hr
    split at hr
    · rename_i heq
      rw [h heq]
      exact hr
    · rename_i hne
      rw [h hr]
      obtain ⟨e, sl', hp', mu⟩ := r
      cases e with
      | exit i => exact absurd hr (fun h => hne _ _ _ _ h)
      | normal => rfl
      | ret => rfl
  · exact seqX_mono (fun hx => h hx) (fun hx => h hx) hr
  · exact h hr
  · cases hr
theorem exec_mono1 : ∀ n, XLe (exec T F C n) (exec T F C (n + 1))
  | 0 => fun ks c sl hp r h => by cases h
  | n + 1 => by
    rw [exec_succ, exec_succ (n := n + 1)]
    exact exec1_mono (exec_mono1 n)
theorem exec_mono {n m : Nat} (h : n ≤ m) : XLe (exec T F C n) (exec T F C m) := by
  induction h with
  | refl => exact fun ks c sl hp r h => h
  | step _ ih => exact fun ks c sl hp r h => exec_mono1 _ (ih h)

/-! ### A text runs, with some fuel -/
theorem mmin_none (a : Mut) : mmin a none = a := by cases a <;> rfl
theorem mmin_assoc (a b c : Mut) : mmin (mmin a b) c = mmin a (mmin b c) := by
  cases a with
  | none => rfl
  | some a => cases b with
    | none => rfl
    | some b => cases c with
      | none => rw [mmin_none, mmin_none]
      | some c =>
        have key : ∀ x y : Nat, mmin (some x) (some y) = some (min x y) := fun x y => by
          simp only [mmin]
          by_cases h : x ≤ y
          · rw [bleT h]
            simp [Nat.min_eq_left h]
          · rw [bleF h]
            simp [Nat.min_eq_right (by omega : y ≤ x)]
        rw [key, key, key, key, Nat.min_assoc]
/-- c runs from sl, hp, M being what has been written before, to something of Q -/
def Runs (T : Tab) (F : FTab) (C : CallF) (ks : List (Nat × Nat)) (c : Code) (M : Mut) (sl : Slots) (hp : Hp) (Q : Ex → Slots → Hp → Mut → Prop) : Prop :=
  ∃ n e sl' hp' mu, exec T F C n ks c sl hp = some (e, sl', hp', mu) ∧ Q e sl' hp' (mmin M mu)
variable {ks : List (Nat × Nat)} {M : Mut} {sl : Slots} {hp : Hp} {Q : Ex → Slots → Hp → Mut → Prop}
theorem Runs.mono {c : Code} {Q' : Ex → Slots → Hp → Mut → Prop} (h : Runs T F C ks c M sl hp Q) (hq : ∀ e sl hp m, Q e sl hp m → Q' e sl hp m) : Runs T F C ks c M sl hp Q' := by
  obtain ⟨n, e, sl', hp', mu, h1, h2⟩ := h
  exact ⟨n, e, sl', hp', mu, h1, hq _ _ _ _ h2⟩
theorem Runs.of {c : Code} {n : Nat} {e : Ex} {sl' : Slots} {hp' : Hp} {mu : Mut} (h : exec T F C n ks c sl hp = some (e, sl', hp', mu)) (hq : Q e sl' hp' (mmin M mu)) : Runs T F C ks c M sl hp Q := ⟨n, e, sl', hp', mu, h, hq⟩
theorem Runs.seq {a b : Code} (h : Runs T F C ks a M sl hp fun e sl1 hp1 M1 => (e = .normal ∧ Runs T F C ks b M1 sl1 hp1 Q) ∨ (e ≠ .normal ∧ Q e sl1 hp1 M1)) : Runs T F C ks (.seq a b) M sl hp Q := by
  obtain ⟨n, e, sl1, hp1, m1, h1, h2⟩ := h
  rcases h2 with ⟨rfl, n2, e2, sl2, hp2, m2, h3, h4⟩ | ⟨hne, h4⟩
  · refine ⟨max n n2 + 1, e2, sl2, hp2, mmin m1 m2, ?_, by rw [← mmin_assoc]; exact h4⟩
    rw [exec_succ]
    simp only [exec1, exec_mono (Nat.le_max_left n n2) h1, seqX, exec_mono (Nat.le_max_right n n2) h3]
  · refine ⟨n + 1, e, sl1, hp1, m1, ?_, h4⟩
    rw [exec_succ]
    simp only [exec1, h1]
    cases e with
    | normal => exact absurd rfl hne
    | exit i => rfl
    | ret => rfl
theorem Runs.cond {x : Operand} {a b : Code} {v : Bool} (hv : ev sl x = some (.bool v)) (h : Runs T F C ks (if v = true then a else b) M sl hp Q) : Runs T F C ks (.cond x a b) M sl hp Q := by
  obtain ⟨n, e, sl1, hp1, m1, h1, h2⟩ := h
  refine ⟨n + 1, e, sl1, hp1, m1, ?_, h2⟩
  rw [exec_succ]
  cases v with
  | true =>
    rw [if_pos rfl] at h1
    simpa only [exec1, hv, condX] using h1
  | false =>
    rw [if_neg (by simp)] at h1
    simpa only [exec1, hv, condX] using h1
theorem Runs.block {id : Nat} {a : Code} (h : Runs T F C ks a M sl hp fun e sl1 hp1 M1 => Q (match e with | .exit i => if i = id then .normal else .exit i | e => e) sl1 hp1 M1) : Runs T F C ks (.block id a) M sl hp Q := by
  obtain ⟨n, e, sl1, hp1, m1, h1, h2⟩ := h
  refine ⟨n + 1, _, sl1, hp1, m1, ?_, h2⟩
  rw [exec_succ]
  simp only [exec1, h1]
  cases e with
  | normal => rfl
  | ret => rfl
  | exit i =>
    by_cases hi : i = id
    · subst hi
      simp [blockX]
    · have : Nat.beq i id = false := by
        cases hq : Nat.beq i id
        · rfl
        · exact absurd (Nat.eq_of_beq_eq_true hq) hi
      simp [blockX, this, hi]
/-- a loop: what holds before each round, with a measure that falls -/
theorem Runs.loop {a : Code} (I : Nat → Mut → Slots → Hp → Prop) (hI : ∀ k M sl hp, I k M sl hp → Runs T F C ks a M sl hp fun e sl1 hp1 M1 => (e = .normal ∧ ∃ k', k' < k ∧ I k' M1 sl1 hp1) ∨ (e ≠ .normal ∧ Q e sl1 hp1 M1)) :
    ∀ k M sl hp, I k M sl hp → Runs T F C ks (.loop a) M sl hp Q := by
  intro k
  induction k using Nat.strongRecOn with
  | ind k ih =>
    intro M sl hp h
    obtain ⟨n, e, sl1, hp1, m1, h1, h2⟩ := hI k M sl hp h
    rcases h2 with ⟨rfl, k', hk, h3⟩ | ⟨hne, h4⟩
    · obtain ⟨n2, e2, sl2, hp2, m2, h5, h6⟩ := ih k' hk _ _ _ h3
      refine ⟨max n n2 + 1, e2, sl2, hp2, mmin m1 m2, ?_, by rw [← mmin_assoc]; exact h6⟩
      rw [exec_succ]
      simp only [exec1, exec_mono (Nat.le_max_left n n2) h1, seqX, exec_mono (Nat.le_max_right n n2) h5]
    · refine ⟨n + 1, e, sl1, hp1, m1, ?_, h4⟩
      rw [exec_succ]
      simp only [exec1, h1]
      cases e with
      | normal => exact absurd rfl hne
      | exit i => rfl
      | ret => rfl
end
end Go.Proofs.Ytnhbhdfeenpedaa
/- Slots that know more give the same answer. No function of the program is named here. -/
namespace Go.Proofs.Ytnhbhdfeenpedaa
open Go.RowKit

noncomputable section
variable {T : Tab} {F : FTab} {C : CallF}
theorem evs_known {sl : Slots} : ∀ {xs : List Operand} {ds : List DV}, evs sl xs = some ds → ∀ x ∈ xs, (ev sl x).isSome = true
  | [], _, _, x, hx => by cases hx
  | y :: xs, ds, h, x, hx => by
    rw [evs_cons] at h
    unfold evs1 at h
    split at h
    · rename_i h1 h2
      rcases List.mem_cons.1 hx with rfl | hx
      · rw [h1]; rfl
      · exact evs_known h2 x hx
    · cases h
theorem evParts_known {sl : Slots} : ∀ {xs : List (Nat × Operand)} {ds : List (Nat × DV)}, evParts sl xs = some ds → ∀ x ∈ xs, (ev sl x.2).isSome = true
  | [], _, _, x, hx => by cases hx
  | y :: xs, ds, h, x, hx => by
    rw [evParts_cons] at h
    unfold evP1 at h
    split at h
    · rename_i h1 h2
      rcases List.mem_cons.1 hx with rfl | hx
      · rw [h1]; rfl
      · exact evParts_known h2 x hx
    · cases h
theorem evO_known {sl : Slots} {x : Option Operand} {d : Option DV} (h : evO sl x = some d) : ∀ y, x = some y → (ev sl y).isSome = true := by
  rintro y rfl
  simp only [evO] at h
  cases hv : ev sl y with
  | some d => rfl
  | none => rw [hv] at h; simp at h
/-- an operation that is carried out knows its operands -/
theorem aop_known {hp : Hp} {sl : Slots} (op : Op) (h : aop T hp sl op ≠ .fail) : ∀ x ∈ op.operands, (ev sl x).isSome = true := by
  cases op with
  | build t parts =>
    simp only [aop, opBuild] at h
    split at h
    · rename_i h2
      intro x hx
      simp only [Op.operands, List.mem_toArray, List.mem_map] at hx
      obtain ⟨y, hy, rfl⟩ := hx
      exact evParts_known h2 y hy
    · exact absurd rfl h
  | buildSlice t n parts =>
    simp only [aop, opBuildSlice] at h
    split at h
    · rename_i h2
      intro x hx
      simp only [Op.operands, List.mem_toArray, List.mem_map] at hx
      obtain ⟨y, hy, rfl⟩ := hx
      exact evParts_known h2 y hy
    · exact absurd rfl h
  | makeFunc f first captured =>
    simp only [aop, opMakeFunc] at h
    split at h
    · rename_i h1 h2
      intro x hx
      simp only [Op.operands, Array.mem_append] at hx
      rcases hx with hx | hx
      · exact evs_known h1 x (by simpa using hx)
      · exact evs_known h2 x (by simpa using hx)
    · exact absurd rfl h
  | slice t x lo hi mx =>
    simp only [aop, opSlice] at h
    split at h
    · rename_i h1 h2 h3 h4
      intro y hy
      simp only [Op.operands] at hy
      have hy : y = x ∨ lo = some y ∨ hi = some y ∨ mx = some y := by
        simp at hy
        rcases hy with hy | hy | hy | hy <;> simp [hy]
      rcases hy with rfl | hy | hy | hy
      · rw [h1]; rfl
      · exact evO_known h2 y hy
      · exact evO_known h3 y hy
      · exact evO_known h4 y hy
    · exact absurd rfl h
  | call c =>
    obtain ⟨callee, args, ats⟩ := c
    simp only [aop, callD] at h
    split at h
    · exact absurd rfl h
    · rename_i h1
      intro x hx
      simp only [Op.operands, Call.operands, Array.mem_append] at hx
      rcases hx with hx | hx
      · cases callee with
        | value f =>
          simp only at h
          have : x = f := by simpa using hx
          subst this
          split at h
          · rename_i h2; rw [h2]; rfl
          · rename_i h2; rw [h2]; rfl
          · exact absurd rfl h
        | invoke r m => exact absurd rfl h
        | builtin b => simp at hx
      · exact evs_known h1 x (by simpa using hx)
  | move x =>
    intro y hy
    simp only [Op.operands] at hy
    simp at hy
    subst hy
    simp only [aop] at h
    cases hv : ev sl y with
    | some d => rfl
    | none => rw [hv] at h; exact absurd rfl h
  | assign x =>
    intro y hy
    simp only [Op.operands] at hy
    simp at hy
    subst hy
    simp only [aop] at h
    cases hv : ev sl y with
    | some d => rfl
    | none => rw [hv] at h; exact absurd rfl h
  | alloc t =>
    intro y hy
    simp [Op.operands] at hy
  | _ =>
    first
    | exact absurd rfl h
    | (simp only [aop, opPick, opBox, opMakeSlice, opLoad, opStore, opNilCheck, opBinOp, opUnOp, opConvert, opFieldAddr, opField, opIndexAddr, opIndex, opExtract, opMakeInterface] at h
       intro y hy
       simp only [Op.operands] at hy
       simp at hy
       first
       | (split at h <;> first
          | exact absurd rfl h
          | (rcases hy with rfl | rfl | rfl <;> simp_all)
          | (rcases hy with rfl | rfl <;> simp_all)
          | (subst hy; simp_all)))
/-- sl' knows all that sl knows -/
def SLe (sl sl' : Slots) : Prop := ∀ t d, look sl t = some d → look sl' t = some d
theorem ev_le {sl sl' : Slots} (h : SLe sl sl') {x : Operand} {d : DV} (hx : ev sl x = some d) : ev sl' x = some d := by
  cases x with
  | tmp t => exact h t d hx
  | _ => exact hx
theorem aop_le {hp : Hp} {sl sl' : Slots} (h : SLe sl sl') (op : Op) (hne : aop T hp sl op ≠ .fail) : aop T hp sl' op = aop T hp sl op := by
  refine (aop_congr op fun x hx => ?_).symm
  have := aop_known op hne x hx
  cases hv : ev sl x with
  | some d => rw [ev_le h hv]
  | none => rw [hv] at this; cases this
end
end Go.Proofs.Ytnhbhdfeenpedaa
/- A text runs alike from slots that know more. No function of the program is named here. -/
namespace Go.Proofs.Ytnhbhdfeenpedaa
open Go.RowKit

noncomputable section
variable {T : Tab} {F : FTab} {C : CallF}
/-- of one shape; what the first knows, the second knows -/
inductive Kn : Slots → Slots → Prop
  | lf : Kn .lf .lf
  | nd {u u' : Option DV} {l l' r r' : Slots} : (∀ d, u = some d → u' = some d) → Kn l l' → Kn r r' → Kn (.nd u l r) (.nd u' l' r')
theorem Kn.refl : ∀ s, Kn s s
  | .lf => .lf
  | .nd _ l r => .nd (fun _ h => h) (Kn.refl l) (Kn.refl r)
theorem Kn.trans {a b c : Slots} (h : Kn a b) (k : Kn b c) : Kn a c := by
  induction h generalizing c with
  | lf => exact k
  | nd h1 _ _ il ir =>
    cases k with
    | nd k1 k2 k3 => exact .nd (fun d hd => k1 d (h1 d hd)) (il k2) (ir k3)
theorem Kn.sle {s s' : Slots} (h : Kn s s') : SLe s s' := by
  induction h with
  | lf => exact fun t d h => h
  | nd h1 _ _ il ir =>
    intro t d h
    rw [look_nd] at h ⊢
    by_cases a : t = 0
    · rw [if_pos a] at h ⊢
      exact h1 d h
    · rw [if_neg a] at h ⊢
      by_cases b : t % 2 = 1
      · rw [if_pos b] at h ⊢
        exact il _ d h
      · rw [if_neg b] at h ⊢
        exact ir _ d h
theorem Kn.put {s s' : Slots} (h : Kn s s') (t : Nat) (d : DV) : Kn (putS s t d) (putS s' t d) := by
  induction h generalizing t with
  | lf => exact .lf
  | nd h1 h2 h3 il ir =>
    rw [putS_nd, putS_nd]
    split
    · exact .nd (fun _ h => h) h2 h3
    · split
      · exact .nd h1 (il _) h3
      · exact .nd h1 h2 (ir _)
theorem Kn.putO {s s' : Slots} (h : Kn s s') (o : Option Tmp) (d : DV) : Kn (putO s o d) (putO s' o d) := by
  cases o with
  | none => exact h
  | some t => exact h.put t d
theorem kn_restr : ∀ (s : Slots) (p : Nat → Bool), Kn (restr s p) s
  | .lf, _ => .lf
  | .nd u l r, p => by
    unfold restr
    refine .nd (fun d h => ?_) (kn_restr l _) (kn_restr r _)
    split at h
    · exact h
    · cases h
theorem gate_le {ds : List (Option Tmp)} {s s' : Slots} (h : Kn s s') {g : Option (Nat × Bool)} {b : Bool} (hg : gate ds s g = some b) : gate ds s' g = some b := by
  unfold gate at hg ⊢
  split at hg
  · exact hg
  · split at hg
    · rename_i t _
      cases hl : look s t with
      | none => rw [hl] at hg; cases hg
      | some d =>
        rw [hl] at hg
        rw [h.sle t d hl]
        exact hg
    · cases hg
theorem opE_le {call : CallF} {o : Oper} {s s' : Slots} (h : Kn s s') {hp : Hp} {r : DV × Hp × Mut} (hr : opE T call o s hp = some r) : opE T call o s' hp = some r := by
  have hne : aop T hp s o.op ≠ .fail := fun e => by
    unfold opE at hr
    rw [e] at hr
    cases hr
  unfold opE at hr ⊢
  rw [aop_le h.sle o.op hne]
  exact hr
theorem regE_le {call : CallF} {ds : List (Option Tmp)} : ∀ {l : List Oper} {s s' : Slots} {hp : Hp} {s1 : Slots} {hp1 : Hp} {mu : Mut}, Kn s s' → regE T call ds l s hp = some (s1, hp1, mu) → ∃ s1', regE T call ds l s' hp = some (s1', hp1, mu) ∧ Kn s1 s1'
  | [], s, s', hp, s1, hp1, mu, h, hr => by cases hr; exact ⟨s', rfl, h⟩
  | o :: l, s, s', hp, s1, hp1, mu, h, hr => by
    rw [regE_cons] at hr
    rw [regE_cons]
    unfold gateX at hr
    split at hr
    · rename_i hg
      rw [gate_le h hg]
      unfold regE1 at hr
      split at hr
      · rename_i hop
        split at hr
        · rename_i hrest
          cases hr
          obtain ⟨s1', h1, h2⟩ := regE_le (h.putO o.dst _) hrest
          refine ⟨s1', ?_, h2⟩
          simp only [gateX, regE1, opE_le h hop, h1]
        · cases hr
      · cases hr
    · rename_i hg
      rw [gate_le h hg]
      exact regE_le (h.putO o.dst _) hr
    · cases hr
theorem regP_le {call : CallF} {ds : List (Option Tmp)} : ∀ {l : List Oper} {s s' : Slots} {hp : Hp} {s1 : Slots} {hp1 : Hp}, Kn s s' → regP T call ds l s hp = some (s1, hp1) → ∃ s1', regP T call ds l s' hp = some (s1', hp1) ∧ Kn s1 s1'
  | [], s, s', hp, s1, hp1, h, hr => by cases hr; exact ⟨s', rfl, h⟩
  | o :: l, s, s', hp, s1, hp1, h, hr => by
    rw [regP_cons] at hr
    rw [regP_cons]
    unfold gateX at hr
    split at hr
    · rename_i hg
      rw [gate_le h hg]
      unfold regP1 at hr
      split at hr
      · rename_i hop
        obtain ⟨s1', h1, h2⟩ := regP_le (h.putO o.dst _) hr
        refine ⟨s1', ?_, h2⟩
        simp only [gateX, regP1, opE_le h hop, h1]
      · cases hr
    · rename_i hg
      rw [gate_le h hg]
      exact regP_le (h.putO o.dst _) hr
    · cases hr
def XKn (q : XF) : Prop := ∀ ⦃ks c s s' hp e s1 hp1 mu⦄, Kn s s' → q ks c s hp = some (e, s1, hp1, mu) → ∃ s1', q ks c s' hp = some (e, s1', hp1, mu) ∧ Kn s1 s1'
theorem seqX_le {r r' : XR} {q : Slots → Hp → XR} (h1 : ∀ {e s1 hp1 mu}, r = some (e, s1, hp1, mu) → ∃ s1', r' = some (e, s1', hp1, mu) ∧ Kn s1 s1') (h2 : ∀ {s s' hp e s1 hp1 mu}, Kn s s' → q s hp = some (e, s1, hp1, mu) → ∃ s1', q s' hp = some (e, s1', hp1, mu) ∧ Kn s1 s1')
    {e : Ex} {s1 : Slots} {hp1 : Hp} {mu : Mut} (h : seqX r q = some (e, s1, hp1, mu)) : ∃ s1', seqX r' q = some (e, s1', hp1, mu) ∧ Kn s1 s1' := by
  unfold seqX at h
  split at h
  · split at h
    · rename_i hq
      cases h
      obtain ⟨sa, ha, hka⟩ := h1 rfl
      obtain ⟨sb, hb, hkb⟩ := h2 hka hq
      refine ⟨sb, ?_, hkb⟩
      rw [ha]
      simp only [seqX, hb]
    · cases h
  · rename_i hne
    obtain ⟨sa, ha, hka⟩ := h1 h
    refine ⟨sa, ?_, hka⟩
    rw [ha]
    cases e with
    | normal => exact absurd h (fun h => hne _ _ _ h)
    | exit i => rfl
    | ret => rfl
theorem exec1_le {q : XF} (hq : XKn q) : XKn (exec1 T F C q) := by
  intro ks c s s' hp e s1 hp1 mu hk h
  unfold exec1 at h ⊢
  split at h
  · cases h; exact ⟨s', rfl, hk⟩
  · cases h; exact ⟨s', rfl, hk⟩
  · cases h; exact ⟨s', rfl, hk⟩
  · cases h; exact ⟨s', rfl, hk⟩
  · unfold regN at h
    split at h
    · rename_i hr
      cases h
      obtain ⟨sa, ha, hka⟩ := regE_le hk hr
      exact ⟨sa, by simp only [regN, ha], hka⟩
    · cases h
  · unfold regD at h ⊢
    split at h
    · split at h
      · rename_i hr
        obtain ⟨sa, ha, hka⟩ := regP_le hk hr
        unfold regN at h
        split at h
        · rename_i hr2
          cases h
          obtain ⟨sb, hb, hkb⟩ := regE_le hka hr2
          exact ⟨sb, by simp only [ha, regN, hb], hkb⟩
        · cases h
      · cases h
    · cases h
  · rename_i a b
    exact seqX_le (r := q ks a s hp) (r' := q ks a s' hp) (q := q ks b) (fun hx => hq hk hx) (fun hk hx => hq hk hx) h
  · unfold condX at h
    split at h
    · rename_i hv
      obtain ⟨sa, ha, hka⟩ := hq hk h
      exact ⟨sa, by simp only [condX, ev_le hk.sle hv, ha], hka⟩
    · rename_i hv
      obtain ⟨sa, ha, hka⟩ := hq hk h
      exact ⟨sa, by simp only [condX, ev_le hk.sle hv, ha], hka⟩
    · cases h
  · unfold blockX at h
    split at h
    · rename_i hr
      obtain ⟨sa, ha, hka⟩ := hq hk hr
      split at h
      · rename_i hb
        cases h
        exact ⟨sa, by simp only [blockX, ha, hb], hka⟩
      · rename_i hb
        cases h
        exact ⟨sa, by simp only [blockX, ha, hb], hka⟩
    · rename_i hne
      obtain ⟨sa, ha, hka⟩ := hq hk h
      refine ⟨sa, ?_, hka⟩
      rw [ha]
      cases e with
      | exit i => exact absurd h (fun h => hne _ _ _ _ h)
      | normal => rfl
      | ret => rfl
  · rename_i a
    exact seqX_le (r := q ks a s hp) (r' := q ks a s' hp) (q := q ks (.loop a)) (fun hx => hq hk hx) (fun hk hx => hq hk hx) h
  · exact hq hk h
  · cases h
theorem exec_le : ∀ n, XKn (exec T F C n)
  | 0 => by intro ks c s s' hp e s1 hp1 mu _ h; cases h
  | n + 1 => by
    rw [exec_succ]
    exact exec1_le (exec_le n)
/-- what is not needed may be forgotten -/
theorem Runs.weak {ks : List (Nat × Nat)} {c : Code} {M : Mut} {s s' : Slots} {hp : Hp} {Q : Ex → Slots → Hp → Mut → Prop} (h : Runs T F C ks c M s hp Q) (hk : Kn s s') : Runs T F C ks c M s' hp fun e s1' hp1 m => ∃ s1, Kn s1 s1' ∧ Q e s1 hp1 m := by
  obtain ⟨n, e, s1, hp1, mu, h1, h2⟩ := h
  obtain ⟨sa, ha, hka⟩ := exec_le n hk h1
  exact ⟨n, e, sa, hp1, mu, ha, s1, hka, h2⟩
end
end Go.Proofs.Ytnhbhdfeenpedaa
