/- More fuel does not change an answer. No function of the program is named here. -/
import Derived.Test.YtmdomipnjlhmeabV24
namespace Go.Proofs.Ytmdomipnjlhmeab
open Go.RowKit

noncomputable section
def XLe (q q' : XF) : Prop := ∀ ⦃ks c sl hp r⦄, q ks c sl hp = some r → q' ks c sl hp = some r
def CLe (c c' : CallF) : Prop := ∀ ⦃f args hp r⦄, c f args hp = some r → c' f args hp = some r
variable {T : Tab} {F : FTab} {C : CallF}
theorem callE_mono {q q' : XF} (h : XLe q q') : CLe (callE T F C q) (callE T F C q') := by
  intro f args hp r hr
  unfold callE at hr ⊢
  split at hr
  · exact hr
  · split at hr
    · split at hr
      · split at hr
        · cases hr
        · rename_i hne heq
          rw [h heq]
          split
          · rename_i heq
            cases heq
            exact absurd rfl (hne _)
          · rename_i heq
            cases heq
            exact hr
          · rename_i heq
            cases heq
        · cases hr
      · cases hr
    · cases hr
theorem opE_mono {c c' : CallF} (h : CLe c c') {o : Oper} {sl : Slots} {hp : Hp} {r : DV × Hp × Mut} (hr : opE T c o sl hp = some r) : opE T c' o sl hp = some r := by
  unfold opE at hr ⊢
  split at hr
  · exact hr
  · exact h hr
  · cases hr
theorem regE_mono {c c' : CallF} (h : CLe c c') {ds : List (Option Tmp)} : ∀ {l : List Oper} {sl : Slots} {hp : Hp} {r : Slots × Hp × Mut}, regE T c ds l sl hp = some r → regE T c' ds l sl hp = some r
  | [], _, _, _, hr => hr
  | o :: l, sl, hp, r, hr => by
    rw [regE_cons] at hr ⊢
    unfold gateX at hr ⊢
    split at hr
    · unfold regE1 at hr
      split at hr
      · rename_i hop
        split at hr
        · rename_i hrest
          cases hr
          simp only [regE1, opE_mono h hop, regE_mono h hrest]
        · cases hr
      · cases hr
    · exact regE_mono h hr
    · cases hr
theorem regP_mono {c c' : CallF} (h : CLe c c') {ds : List (Option Tmp)} : ∀ {l : List Oper} {sl : Slots} {hp : Hp} {r : Slots × Hp}, regP T c ds l sl hp = some r → regP T c' ds l sl hp = some r
  | [], _, _, _, hr => hr
  | o :: l, sl, hp, r, hr => by
    rw [regP_cons] at hr ⊢
    unfold gateX at hr ⊢
    split at hr
    · unfold regP1 at hr
      split at hr
      · rename_i hop
        simp only [regP1, opE_mono h hop]
        exact regP_mono h hr
      · cases hr
    · exact regP_mono h hr
    · cases hr
theorem seqX_mono {r r' : XR} {q q' : Slots → Hp → XR} (h1 : ∀ {x}, r = some x → r' = some x) (h2 : ∀ {sl hp x}, q sl hp = some x → q' sl hp = some x) {x : Ex × Slots × Hp × Mut} (h : seqX r q = some x) : seqX r' q' = some x := by
  unfold seqX at h
  split at h
  · split at h
    · rename_i hq
      rw [h1 rfl]
      simp only [seqX, h2 hq, h]
    · cases h
  · rename_i hne
    rw [h1 h]
    obtain ⟨e, sl, hp, mu⟩ := x
    cases e with
    | normal => exact absurd h (fun h => hne _ _ _ h)
    | exit i => rfl
    | ret => rfl
theorem exec1_mono {q q' : XF} (h : XLe q q') : XLe (exec1 T F C q) (exec1 T F C q') := by
  intro ks c sl hp r hr
  have hc : CLe (callE T F C q) (callE T F C q') := callE_mono h
  unfold exec1 at hr ⊢
  split at hr
  · exact hr
  · exact hr
  · exact hr
  · exact hr
  · unfold regN at hr ⊢
    split at hr
    · rename_i heq
      rw [regE_mono hc heq]
      exact hr
    · cases hr
  · unfold regD at hr ⊢
    split at hr
    · split at hr
      · rename_i heq
        rw [regP_mono hc heq]
        unfold regN at hr ⊢
        split at hr
        · rename_i heq
          simp only [regE_mono hc heq]
          exact hr
        · cases hr
      · cases hr
    · cases hr
  · exact seqX_mono (fun hx => h hx) (fun hx => h hx) hr
  · unfold condX at hr ⊢
    split at hr
    · exact h hr
    · exact h hr
    · cases hr
  · unfold blockX at hr
    split at hr
    · rename_i heq
      rw [h heq]
      exact hr
    · rename_i hne
      rw [h hr]
      obtain ⟨e, sl', hp', mu⟩ := r
      cases e with
      | exit i => exact absurd hr (fun h => hne _ _ _ _ h)
      | normal => rfl
      | ret => rfl
  · exact seqX_mono (fun hx => h hx) (fun hx => h hx) hr
  · exact h hr
  · cases hr
theorem exec_mono1 : ∀ n, XLe (exec T F C n) (exec T F C (n + 1))
  | 0 => fun ks c sl hp r h => by cases h
  | n + 1 => by
    rw [exec_succ, exec_succ (n := n + 1)]
    exact exec1_mono (exec_mono1 n)
theorem exec_mono {n m : Nat} (h : n ≤ m) : XLe (exec T F C n) (exec T F C m) := by
  induction h with
  | refl => exact fun ks c sl hp r h => h
  | step _ ih => exact fun ks c sl hp r h => exec_mono1 _ (ih h)

/-! ### A text runs, with some fuel -/
theorem mmin_none (a : Mut) : mmin a none = a := by cases a <;> rfl
theorem mmin_assoc (a b c : Mut) : mmin (mmin a b) c = mmin a (mmin b c) := by
  cases a with
  | none => rfl
  | some a => cases b with
    | none => rfl
    | some b => cases c with
      | none => rw [mmin_none, mmin_none]
      | some c =>
        have key : ∀ x y : Nat, mmin (some x) (some y) = some (min x y) := fun x y => by
          simp only [mmin]
          by_cases h : x ≤ y
          · rw [bleT h]
            simp [Nat.min_eq_left h]
          · rw [bleF h]
            simp [Nat.min_eq_right (by omega : y ≤ x)]
        rw [key, key, key, key, Nat.min_assoc]
/-- c runs from sl, hp, M being what has been written before, to something of Q -/
def Runs (T : Tab) (F : FTab) (C : CallF) (ks : List (Nat × Nat)) (c : Code) (M : Mut) (sl : Slots) (hp : Hp) (Q : Ex → Slots → Hp → Mut → Prop) : Prop :=
  ∃ n e sl' hp' mu, exec T F C n ks c sl hp = some (e, sl', hp', mu) ∧ Q e sl' hp' (mmin M mu)
variable {ks : List (Nat × Nat)} {M : Mut} {sl : Slots} {hp : Hp} {Q : Ex → Slots → Hp → Mut → Prop}
theorem Runs.mono {c : Code} {Q' : Ex → Slots → Hp → Mut → Prop} (h : Runs T F C ks c M sl hp Q) (hq : ∀ e sl hp m, Q e sl hp m → Q' e sl hp m) : Runs T F C ks c M sl hp Q' := by
  obtain ⟨n, e, sl', hp', mu, h1, h2⟩ := h
  exact ⟨n, e, sl', hp', mu, h1, hq _ _ _ _ h2⟩
theorem Runs.of {c : Code} {n : Nat} {e : Ex} {sl' : Slots} {hp' : Hp} {mu : Mut} (h : exec T F C n ks c sl hp = some (e, sl', hp', mu)) (hq : Q e sl' hp' (mmin M mu)) : Runs T F C ks c M sl hp Q := ⟨n, e, sl', hp', mu, h, hq⟩
theorem Runs.seq {a b : Code} (h : Runs T F C ks a M sl hp fun e sl1 hp1 M1 => (e = .normal ∧ Runs T F C ks b M1 sl1 hp1 Q) ∨ (e ≠ .normal ∧ Q e sl1 hp1 M1)) : Runs T F C ks (.seq a b) M sl hp Q := by
  obtain ⟨n, e, sl1, hp1, m1, h1, h2⟩ := h
  rcases h2 with ⟨rfl, n2, e2, sl2, hp2, m2, h3, h4⟩ | ⟨hne, h4⟩
  · refine ⟨max n n2 + 1, e2, sl2, hp2, mmin m1 m2, ?_, by rw [← mmin_assoc]; exact h4⟩
    rw [exec_succ]
    simp only [exec1, exec_mono (Nat.le_max_left n n2) h1, seqX, exec_mono (Nat.le_max_right n n2) h3]
  · refine ⟨n + 1, e, sl1, hp1, m1, ?_, h4⟩
    rw [exec_succ]
    simp only [exec1, h1]
    cases e with
    | normal => exact absurd rfl hne
    | exit i => rfl
    | ret => rfl
theorem Runs.cond {x : Operand} {a b : Code} {v : Bool} (hv : ev sl x = some (.bool v)) (h : Runs T F C ks (if v = true then a else b) M sl hp Q) : Runs T F C ks (.cond x a b) M sl hp Q := by
  obtain ⟨n, e, sl1, hp1, m1, h1, h2⟩ := h
  refine ⟨n + 1, e, sl1, hp1, m1, ?_, h2⟩
  rw [exec_succ]
  cases v with
  | true =>
    rw [if_pos rfl] at h1
    simpa only [exec1, hv, condX] using h1
  | false =>
    rw [if_neg (by simp)] at h1
    simpa only [exec1, hv, condX] using h1
theorem Runs.block {id : Nat} {a : Code} (h : Runs T F C ks a M sl hp fun e sl1 hp1 M1 => Q (match e with | .exit i => if i = id then .normal else .exit i | e => e) sl1 hp1 M1) : Runs T F C ks (.block id a) M sl hp Q := by
  obtain ⟨n, e, sl1, hp1, m1, h1, h2⟩ := h
  refine ⟨n + 1, _, sl1, hp1, m1, ?_, h2⟩
  rw [exec_succ]
  simp only [exec1, h1]
  cases e with
  | normal => rfl
  | ret => rfl
  | exit i =>
    by_cases hi : i = id
    · subst hi
      simp [blockX]
    · have : Nat.beq i id = false := by
        cases hq : Nat.beq i id
        · rfl
        · exact absurd (Nat.eq_of_beq_eq_true hq) hi
      simp [blockX, this, hi]
/-- a loop: what holds before each round, with a measure that falls -/
theorem Runs.loop {a : Code} (I : Nat → Mut → Slots → Hp → Prop) (hI : ∀ k M sl hp, I k M sl hp → Runs T F C ks a M sl hp fun e sl1 hp1 M1 => (e = .normal ∧ ∃ k', k' < k ∧ I k' M1 sl1 hp1) ∨ (e ≠ .normal ∧ Q e sl1 hp1 M1)) :
    ∀ k M sl hp, I k M sl hp → Runs T F C ks (.loop a) M sl hp Q := by
  intro k
  induction k using Nat.strongRecOn with
  | ind k ih =>
    intro M sl hp h
    obtain ⟨n, e, sl1, hp1, m1, h1, h2⟩ := hI k M sl hp h
    rcases h2 with ⟨rfl, k', hk, h3⟩ | ⟨hne, h4⟩
    · obtain ⟨n2, e2, sl2, hp2, m2, h5, h6⟩ := ih k' hk _ _ _ h3
      refine ⟨max n n2 + 1, e2, sl2, hp2, mmin m1 m2, ?_, by rw [← mmin_assoc]; exact h6⟩
      rw [exec_succ]
      simp only [exec1, exec_mono (Nat.le_max_left n n2) h1, seqX, exec_mono (Nat.le_max_right n n2) h5]
    · refine ⟨n + 1, e, sl1, hp1, m1, ?_, h4⟩
      rw [exec_succ]
      simp only [exec1, h1]
      cases e with
      | normal => exact absurd rfl hne
      | exit i => rfl
      | ret => rfl
end
end Go.Proofs.Ytmdomipnjlhmeab
