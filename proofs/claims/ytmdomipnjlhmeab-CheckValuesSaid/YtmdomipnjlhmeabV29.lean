/- A text runs alike from slots that know more. No function of the program is named here. -/
import Derived.Test.YtmdomipnjlhmeabV28
namespace Go.Proofs.Ytmdomipnjlhmeab
open Go.RowKit

noncomputable section
variable {T : Tab} {F : FTab} {C : CallF}
/-- of one shape; what the first knows, the second knows -/
inductive Kn : Slots → Slots → Prop
  | lf : Kn .lf .lf
  | nd {u u' : Option DV} {l l' r r' : Slots} : (∀ d, u = some d → u' = some d) → Kn l l' → Kn r r' → Kn (.nd u l r) (.nd u' l' r')
theorem Kn.refl : ∀ s, Kn s s
  | .lf => .lf
  | .nd _ l r => .nd (fun _ h => h) (Kn.refl l) (Kn.refl r)
theorem Kn.trans {a b c : Slots} (h : Kn a b) (k : Kn b c) : Kn a c := by
  induction h generalizing c with
  | lf => exact k
  | nd h1 _ _ il ir =>
    cases k with
    | nd k1 k2 k3 => exact .nd (fun d hd => k1 d (h1 d hd)) (il k2) (ir k3)
theorem Kn.sle {s s' : Slots} (h : Kn s s') : SLe s s' := by
  induction h with
  | lf => exact fun t d h => h
  | nd h1 _ _ il ir =>
    intro t d h
    rw [look_nd] at h ⊢
    by_cases a : t = 0
    · rw [if_pos a] at h ⊢
      exact h1 d h
    · rw [if_neg a] at h ⊢
      by_cases b : t % 2 = 1
      · rw [if_pos b] at h ⊢
        exact il _ d h
      · rw [if_neg b] at h ⊢
        exact ir _ d h
theorem Kn.put {s s' : Slots} (h : Kn s s') (t : Nat) (d : DV) : Kn (putS s t d) (putS s' t d) := by
  induction h generalizing t with
  | lf => exact .lf
  | nd h1 h2 h3 il ir =>
    rw [putS_nd, putS_nd]
    split
    · exact .nd (fun _ h => h) h2 h3
    · split
      · exact .nd h1 (il _) h3
      · exact .nd h1 h2 (ir _)
theorem Kn.putO {s s' : Slots} (h : Kn s s') (o : Option Tmp) (d : DV) : Kn (putO s o d) (putO s' o d) := by
  cases o with
  | none => exact h
  | some t => exact h.put t d
theorem kn_restr : ∀ (s : Slots) (p : Nat → Bool), Kn (restr s p) s
  | .lf, _ => .lf
  | .nd u l r, p => by
    unfold restr
    refine .nd (fun d h => ?_) (kn_restr l _) (kn_restr r _)
    split at h
    · exact h
    · cases h
theorem gate_le {ds : List (Option Tmp)} {s s' : Slots} (h : Kn s s') {g : Option (Nat × Bool)} {b : Bool} (hg : gate ds s g = some b) : gate ds s' g = some b := by
  unfold gate at hg ⊢
  split at hg
  · exact hg
  · split at hg
    · rename_i t _
      cases hl : look s t with
      | none => rw [hl] at hg; cases hg
      | some d =>
        rw [hl] at hg
        rw [h.sle t d hl]
        exact hg
    · cases hg
theorem opE_le {call : CallF} {o : Oper} {s s' : Slots} (h : Kn s s') {hp : Hp} {r : DV × Hp × Mut} (hr : opE T call o s hp = some r) : opE T call o s' hp = some r := by
  have hne : aop T hp s o.op ≠ .fail := fun e => by
    unfold opE at hr
    rw [e] at hr
    cases hr
  unfold opE at hr ⊢
  rw [aop_le h.sle o.op hne]
  exact hr
theorem regE_le {call : CallF} {ds : List (Option Tmp)} : ∀ {l : List Oper} {s s' : Slots} {hp : Hp} {s1 : Slots} {hp1 : Hp} {mu : Mut}, Kn s s' → regE T call ds l s hp = some (s1, hp1, mu) → ∃ s1', regE T call ds l s' hp = some (s1', hp1, mu) ∧ Kn s1 s1'
  | [], s, s', hp, s1, hp1, mu, h, hr => by cases hr; exact ⟨s', rfl, h⟩
  | o :: l, s, s', hp, s1, hp1, mu, h, hr => by
    rw [regE_cons] at hr
    rw [regE_cons]
    unfold gateX at hr
    split at hr
    · rename_i hg
      rw [gate_le h hg]
      unfold regE1 at hr
      split at hr
      · rename_i hop
        split at hr
        · rename_i hrest
          cases hr
          obtain ⟨s1', h1, h2⟩ := regE_le (h.putO o.dst _) hrest
          refine ⟨s1', ?_, h2⟩
          simp only [gateX, regE1, opE_le h hop, h1]
        · cases hr
      · cases hr
    · rename_i hg
      rw [gate_le h hg]
      exact regE_le (h.putO o.dst _) hr
    · cases hr
theorem regP_le {call : CallF} {ds : List (Option Tmp)} : ∀ {l : List Oper} {s s' : Slots} {hp : Hp} {s1 : Slots} {hp1 : Hp}, Kn s s' → regP T call ds l s hp = some (s1, hp1) → ∃ s1', regP T call ds l s' hp = some (s1', hp1) ∧ Kn s1 s1'
  | [], s, s', hp, s1, hp1, h, hr => by cases hr; exact ⟨s', rfl, h⟩
  | o :: l, s, s', hp, s1, hp1, h, hr => by
    rw [regP_cons] at hr
    rw [regP_cons]
    unfold gateX at hr
    split at hr
    · rename_i hg
      rw [gate_le h hg]
      unfold regP1 at hr
      split at hr
      · rename_i hop
        obtain ⟨s1', h1, h2⟩ := regP_le (h.putO o.dst _) hr
        refine ⟨s1', ?_, h2⟩
        simp only [gateX, regP1, opE_le h hop, h1]
      · cases hr
    · rename_i hg
      rw [gate_le h hg]
      exact regP_le (h.putO o.dst _) hr
    · cases hr
def XKn (q : XF) : Prop := ∀ ⦃ks c s s' hp e s1 hp1 mu⦄, Kn s s' → q ks c s hp = some (e, s1, hp1, mu) → ∃ s1', q ks c s' hp = some (e, s1', hp1, mu) ∧ Kn s1 s1'
theorem seqX_le {r r' : XR} {q : Slots → Hp → XR} (h1 : ∀ {e s1 hp1 mu}, r = some (e, s1, hp1, mu) → ∃ s1', r' = some (e, s1', hp1, mu) ∧ Kn s1 s1') (h2 : ∀ {s s' hp e s1 hp1 mu}, Kn s s' → q s hp = some (e, s1, hp1, mu) → ∃ s1', q s' hp = some (e, s1', hp1, mu) ∧ Kn s1 s1')
    {e : Ex} {s1 : Slots} {hp1 : Hp} {mu : Mut} (h : seqX r q = some (e, s1, hp1, mu)) : ∃ s1', seqX r' q = some (e, s1', hp1, mu) ∧ Kn s1 s1' := by
  unfold seqX at h
  split at h
  · split at h
    · rename_i hq
      cases h
      obtain ⟨sa, ha, hka⟩ := h1 rfl
      obtain ⟨sb, hb, hkb⟩ := h2 hka hq
      refine ⟨sb, ?_, hkb⟩
      rw [ha]
      simp only [seqX, hb]
    · cases h
  · rename_i hne
    obtain ⟨sa, ha, hka⟩ := h1 h
    refine ⟨sa, ?_, hka⟩
    rw [ha]
    cases e with
    | normal => exact absurd h (fun h => hne _ _ _ h)
    | exit i => rfl
    | ret => rfl
theorem exec1_le {q : XF} (hq : XKn q) : XKn (exec1 T F C q) := by
  intro ks c s s' hp e s1 hp1 mu hk h
  unfold exec1 at h ⊢
  split at h
  · cases h; exact ⟨s', rfl, hk⟩
  · cases h; exact ⟨s', rfl, hk⟩
  · cases h; exact ⟨s', rfl, hk⟩
  · cases h; exact ⟨s', rfl, hk⟩
  · unfold regN at h
    split at h
    · rename_i hr
      cases h
      obtain ⟨sa, ha, hka⟩ := regE_le hk hr
      exact ⟨sa, by simp only [regN, ha], hka⟩
    · cases h
  · unfold regD at h ⊢
    split at h
    · split at h
      · rename_i hr
        obtain ⟨sa, ha, hka⟩ := regP_le hk hr
        unfold regN at h
        split at h
        · rename_i hr2
          cases h
          obtain ⟨sb, hb, hkb⟩ := regE_le hka hr2
          exact ⟨sb, by simp only [ha, regN, hb], hkb⟩
        · cases h
      · cases h
    · cases h
  · rename_i a b
    exact seqX_le (r := q ks a s hp) (r' := q ks a s' hp) (q := q ks b) (fun hx => hq hk hx) (fun hk hx => hq hk hx) h
  · unfold condX at h
    split at h
    · rename_i hv
      obtain ⟨sa, ha, hka⟩ := hq hk h
      exact ⟨sa, by simp only [condX, ev_le hk.sle hv, ha], hka⟩
    · rename_i hv
      obtain ⟨sa, ha, hka⟩ := hq hk h
      exact ⟨sa, by simp only [condX, ev_le hk.sle hv, ha], hka⟩
    · cases h
  · unfold blockX at h
    split at h
    · rename_i hr
      obtain ⟨sa, ha, hka⟩ := hq hk hr
      split at h
      · rename_i hb
        cases h
        exact ⟨sa, by simp only [blockX, ha, hb], hka⟩
      · rename_i hb
        cases h
        exact ⟨sa, by simp only [blockX, ha, hb], hka⟩
    · rename_i hne
      obtain ⟨sa, ha, hka⟩ := hq hk h
      refine ⟨sa, ?_, hka⟩
      rw [ha]
      cases e with
      | exit i => exact absurd h (fun h => hne _ _ _ _ h)
      | normal => rfl
      | ret => rfl
  · rename_i a
    exact seqX_le (r := q ks a s hp) (r' := q ks a s' hp) (q := q ks (.loop a)) (fun hx => hq hk hx) (fun hk hx => hq hk hx) h
  · exact hq hk h
  · cases h
theorem exec_le : ∀ n, XKn (exec T F C n)
  | 0 => by intro ks c s s' hp e s1 hp1 mu _ h; cases h
  | n + 1 => by
    rw [exec_succ]
    exact exec1_le (exec_le n)
/-- what is not needed may be forgotten -/
theorem Runs.weak {ks : List (Nat × Nat)} {c : Code} {M : Mut} {s s' : Slots} {hp : Hp} {Q : Ex → Slots → Hp → Mut → Prop} (h : Runs T F C ks c M s hp Q) (hk : Kn s s') : Runs T F C ks c M s' hp fun e s1' hp1 m => ∃ s1, Kn s1 s1' ∧ Q e s1 hp1 m := by
  obtain ⟨n, e, s1, hp1, mu, h1, h2⟩ := h
  obtain ⟨sa, ha, hka⟩ := exec_le n hk h1
  exact ⟨n, e, sa, hp1, mu, ha, s1, hka, h2⟩
end
end Go.Proofs.Ytmdomipnjlhmeab
