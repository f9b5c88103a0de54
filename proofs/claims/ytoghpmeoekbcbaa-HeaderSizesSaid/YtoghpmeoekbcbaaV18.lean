/- Code over abstract data: operations in any order that the edges allow. No function of the program is named here. -/
import Derived.Test.YtoghpmeoekbcbaaV17
namespace Go.Proofs.Ytoghpmeoekbcbaa
open Go.RowKit

noncomputable section
variable {P : Program} {T : Tab}
theorem aop_dry {hp hp' : Hp} {sl : Slots} {op : Op} {d : DV} {mu : Mut} (hd : dry T op = true) (h : aop T hp sl op = .done (d, hp', mu)) : hp' = hp ∧ mu = none ∧ ∀ hp2, aop T hp2 sl op = .done (d, hp2, none) := by
  have hk : ∀ {x : Option DV}, outR (keep hp x) = .done (d, hp', mu) → hp' = hp ∧ mu = none ∧ ∀ hp2, outR (keep hp2 x) = .done (d, hp2, none) := by
    intro x hx
    cases x with
    | none => cases hx
    | some y => cases hx; exact ⟨rfl, rfl, fun _ => rfl⟩
  cases op <;> simp only [dry, Bool.false_eq_true] at hd <;> simp only [aop] at h ⊢
  case move x => exact hk h
  case assign x => exact hk h
  case slice t x lo hi mx =>
    unfold opSlice at h ⊢
    split at h
    · rename_i i dd lo' hi' mx' h1 h2 h3 h4 h5
      have := hk h
      refine ⟨this.1, this.2.1, fun hp2 => ?_⟩
      have e : sliceD T hp2 i dd lo' hi' mx' = sliceD T hp i dd lo' hi' mx' := by
        rw [h1] at hd
        simp only at hd
        unfold sliceD
        split <;> first | rfl | skip
        rename_i hq
        rw [hq] at hd
        cases hd
      rw [e]
      exact this.2.2 hp2
    · cases h
  all_goals
    simp only [opPick, opBuild, opNilCheck, opBinOp, opUnOp, opFieldAddr, opField, opIndexAddr, opIndex, opExtract, opMakeFunc] at h ⊢
    repeat' (split at h)
    all_goals first | (cases h; done) | (cases h; exact ⟨rfl, rfl, fun _ => rfl⟩) | exact hk h
theorem dry_not_call {hp : Hp} {sl : Slots} {op : Op} (hd : dry T op = true) (f : FuncId) (args : List DV) : aop T hp sl op ≠ .call f args := by
  intro h
  have hk : ∀ {x : Option DV}, outR (keep hp x) ≠ .call f args := by
    intro x hx
    cases x <;> cases hx
  cases op <;> simp only [dry, Bool.false_eq_true] at hd <;> simp only [aop] at h
  case move x => exact hk h
  case assign x => exact hk h
  all_goals
    simp only [opPick, opBuild, opNilCheck, opBinOp, opUnOp, opFieldAddr, opField, opIndexAddr, opIndex, opExtract, opMakeFunc, opSlice] at h
    repeat' (split at h)
    all_goals first | (cases h; done) | exact hk h
theorem dry_not_yld {hp : Hp} {sl : Slots} {op : Op} (hd : dry T op = true) (f : Nat) (args : List DV) : aop T hp sl op ≠ .yld f args := by
  intro h
  have hk : ∀ {x : Option DV}, outR (keep hp x) ≠ .yld f args := by
    intro x hx
    cases x <;> cases hx
  cases op <;> simp only [dry, Bool.false_eq_true] at hd <;> simp only [aop] at h
  case move x => exact hk h
  case assign x => exact hk h
  all_goals
    simp only [opPick, opBuild, opNilCheck, opBinOp, opUnOp, opFieldAddr, opField, opIndexAddr, opIndex, opExtract, opMakeFunc, opSlice] at h
    repeat' (split at h)
    all_goals first | (cases h; done) | exact hk h
structure Rec where
  d : DV
  hp : Hp
  mu : Mut
/-- one operation of the run in the text's order -/
def StepC (T : Tab) (call : CallF) (ds : List (Option Tmp)) (o : Oper) (sl : Slots) (hp : Hp) (r : Rec) : Prop :=
  (gate ds sl o.guard = some true ∧ opE T call o sl hp = some (r.d, r.hp, r.mu)) ∨ (gate ds sl o.guard = some false ∧ r = ⟨.tuple [], hp, none⟩)
def Can (T : Tab) (call : CallF) (ds : List (Option Tmp)) : List Oper → List Rec → Slots → Hp → Prop
  | [], [], _, _ => True
  | o :: l, r :: rs, sl, hp => StepC T call ds o sl hp r ∧ Can T call ds l rs (putO sl o.dst r.d) r.hp
  | _, _, _, _ => False
def slR : List Oper → List Rec → Slots → Slots
  | o :: l, r :: rs, sl => slR l rs (putO sl o.dst r.d)
  | _, _, sl => sl
def hpR : List Rec → Hp → Hp
  | r :: rs, _ => hpR rs r.hp
  | [], hp => hp
variable {call : CallF} {ds : List (Option Tmp)}
theorem regP_can : ∀ {l : List Oper} {sl : Slots} {hp : Hp} {sl' : Slots} {hp' : Hp}, regP T call ds l sl hp = some (sl', hp') → ∃ rs, Can T call ds l rs sl hp ∧ slR l rs sl = sl' ∧ hpR rs hp = hp' ∧ ∀ r ∈ rs, r.mu = none
  | [], sl, hp, sl', hp', h => by cases h; exact ⟨[], trivial, rfl, rfl, fun r hr => by cases hr⟩
  | o :: l, sl, hp, sl', hp', h => by
    rw [regP_cons] at h
    unfold gateX at h
    split at h
    · rename_i hg
      unfold regP1 at h
      split at h
      · rename_i d hp1 hop
        obtain ⟨rs, h1, h2, h3, h4⟩ := regP_can h
        exact ⟨⟨d, hp1, none⟩ :: rs, ⟨.inl ⟨hg, hop⟩, h1⟩, h2, h3, fun r hr => by rcases List.mem_cons.1 hr with rfl | hr; rfl; exact h4 r hr⟩
      · cases h
    · rename_i hg
      obtain ⟨rs, h1, h2, h3, h4⟩ := regP_can h
      exact ⟨⟨.tuple [], hp, none⟩ :: rs, ⟨.inr ⟨hg, rfl⟩, h1⟩, h2, h3, fun r hr => by rcases List.mem_cons.1 hr with rfl | hr; rfl; exact h4 r hr⟩
    · cases h
theorem regE_can : ∀ {l : List Oper} {sl : Slots} {hp : Hp} {sl' : Slots} {hp' : Hp} {mu : Mut}, regE T call ds l sl hp = some (sl', hp', mu) → ∃ rs, Can T call ds l rs sl hp ∧ slR l rs sl = sl' ∧ hpR rs hp = hp' ∧ ∀ base, mutOk base mu → ∀ r ∈ rs, mutOk base r.mu
  | [], sl, hp, sl', hp', mu, h => by cases h; exact ⟨[], trivial, rfl, rfl, fun _ _ r hr => by cases hr⟩
  | o :: l, sl, hp, sl', hp', mu, h => by
    rw [regE_cons] at h
    unfold gateX at h
    split at h
    · rename_i hg
      unfold regE1 at h
      split at h
      · rename_i d hp1 m1 hop
        split at h
        · rename_i sl2 hp2 m2 hrest
          cases h
          obtain ⟨rs, h1, h2, h3, h4⟩ := regE_can hrest
          exact ⟨⟨d, hp1, m1⟩ :: rs, ⟨.inl ⟨hg, hop⟩, h1⟩, h2, h3, fun base hb r hr => by rcases List.mem_cons.1 hr with rfl | hr; exact (mutOk_mmin hb).1; exact h4 base (mutOk_mmin hb).2 r hr⟩
        · cases h
      · cases h
    · rename_i hg
      obtain ⟨rs, h1, h2, h3, h4⟩ := regE_can h
      exact ⟨⟨.tuple [], hp, none⟩ :: rs, ⟨.inr ⟨hg, rfl⟩, h1⟩, h2, h3, fun base hb r hr => by rcases List.mem_cons.1 hr with rfl | hr; trivial; exact h4 base hb r hr⟩
    · cases h
theorem can_append : ∀ {l m : List Oper} {rs qs : List Rec} {sl : Slots} {hp : Hp}, Can T call ds l rs sl hp → Can T call ds m qs (slR l rs sl) (hpR rs hp) → Can T call ds (l ++ m) (rs ++ qs) sl hp ∧ slR (l ++ m) (rs ++ qs) sl = slR m qs (slR l rs sl) ∧ hpR (rs ++ qs) hp = hpR qs (hpR rs hp)
  | [], m, [], qs, sl, hp, _, h => ⟨h, rfl, rfl⟩
  | [], m, _ :: _, qs, sl, hp, h, _ => h.elim
  | _ :: _, m, [], qs, sl, hp, h, _ => h.elim
  | o :: l, m, r :: rs, qs, sl, hp, h, k => by
    obtain ⟨h1, h2, h3⟩ := can_append (l := l) (rs := rs) h.2 k
    exact ⟨⟨h.1, h1⟩, h2, h3⟩
/-- before operation i -/
def slAt (l : List Oper) (rs : List Rec) (sl : Slots) (i : Nat) : Slots := slR (l.take i) (rs.take i) sl
def hpAt (rs : List Rec) (hp : Hp) (i : Nat) : Hp := hpR (rs.take i) hp
theorem can_len : ∀ {l : List Oper} {rs : List Rec} {sl : Slots} {hp : Hp}, Can T call ds l rs sl hp → l.length = rs.length
  | [], [], _, _, _ => rfl
  | [], _ :: _, _, _, h => h.elim
  | _ :: _, [], _, _, h => h.elim
  | _ :: l, _ :: rs, _, _, h => by simp [can_len (l := l) (rs := rs) h.2]
theorem can_at : ∀ {l : List Oper} {rs : List Rec} {sl : Slots} {hp : Hp}, Can T call ds l rs sl hp → ∀ (i : Nat) o, l[i]? = some o → ∃ r, rs[i]? = some r ∧ StepC T call ds o (slAt l rs sl i) (hpAt rs hp i) r ∧ slAt l rs sl (i + 1) = putO (slAt l rs sl i) o.dst r.d ∧ hpAt rs hp (i + 1) = r.hp
  | [], rs, _, _, _, i, o, h => by simp at h
  | _ :: _, [], _, _, h, _, _, _ => h.elim
  | o' :: l, r' :: rs, sl, hp, h, 0, o, ho => by
    simp at ho
    subst ho
    refine ⟨r', rfl, h.1, ?_, ?_⟩
    · simp [slAt, slR]
    · simp [hpAt, hpR]
  | o' :: l, r' :: rs, sl, hp, h, i + 1, o, ho => by
    obtain ⟨r, h1, h2, h3, h4⟩ := can_at (l := l) (rs := rs) h.2 i o (by simpa using ho)
    exact ⟨r, by simpa using h1, h2, h3, h4⟩
end
end Go.Proofs.Ytoghpmeoekbcbaa
