/- Code over abstract data: operations in any order that the edges allow. No function of the program is named here. -/
import Derived.Test.YtoghpmeoekbcbaaV19
namespace Go.Proofs.Ytoghpmeoekbcbaa
open Go.RowKit

noncomputable section
variable {P : Program} {T : Tab} {call : CallF} {W0 : World} {base : Nat} {S0 : Nat → Prop} {N : Nat}
theorem step_ext (hcall : CallOk P call) {ds : List (Option Tmp)} {o : Oper} {sl : Slots} {hp : Hp} {r : Rec} (h : StepC T call ds o sl hp r) {b : Nat} (hmu : mutOk b r.mu) (hb : b ≤ hp.n) : Ext b hp r.hp := by
  rcases h with ⟨_, h⟩ | ⟨_, rfl⟩
  · unfold opE at h
    split at h
    · rename_i q hq
      have : q = (r.d, r.hp, r.mu) := by simpa using h
      subst this
      exact aop_ext hq hmu hb
    · rename_i f args hq
      exact (hcall.f _ _ _ _ _ _ h).2.1 b hmu hb
    · exact (hcall.y _ _ _ _ _ _ h).1 b hmu hb
    · cases h
  · exact Ext.refl _ _
/-- the run of a region in the text's order -/
structure Reg (P : Program) (T : Tab) (call : CallF) (ops : Array Oper) (k : Nat) (rs : List Rec) (sl0 : Slots) (hp0 : Hp) (base N : Nat) : Prop where
  can : Can T call (ops.toList.map (·.dst)) ops.toList rs sl0 hp0
  pre : ∀ (j : Nat) r, j < k → rs[j]? = some r → r.mu = none
  mu : ∀ r ∈ rs, mutOk base r.mu
  chk : ChkOk T ops k
  dst : dstsOk N (ops.toList.map (·.dst)) = true
  le : base ≤ hp0.n
variable {ops : Array Oper} {k : Nat} {rs : List Rec} {sl0 : Slots} {hp0 : Hp}
theorem Reg.ext (h : Reg P T call ops k rs sl0 hp0 base N) (hcall : CallOk P call) : ∀ i, i ≤ ops.toList.length → hp0.n ≤ (hpAt rs hp0 i).n ∧ Ext base hp0 (hpAt rs hp0 i)
  | 0, _ => ⟨Nat.le_refl _, Ext.refl _ _⟩
  | i + 1, hi => by
    obtain ⟨h1, h2⟩ := h.ext hcall i (by omega)
    obtain ⟨r, hr, hst, _, he⟩ := can_at h.can i _ (List.getElem?_eq_getElem (show i < ops.toList.length by omega))
    rw [he]
    have hl := h.le
    have := step_ext hcall hst (b := base) (h.mu r (List.mem_of_getElem? hr)) (by omega)
    exact ⟨Nat.le_trans h1 this.1, h2.trans this⟩
theorem Reg.mono (h : Reg P T call ops k rs sl0 hp0 base N) (hcall : CallOk P call) {i j : Nat} (hij : i ≤ j) (hj : j ≤ ops.toList.length) : (hpAt rs hp0 i).n ≤ (hpAt rs hp0 j).n := by
  induction hij with
  | refl => exact Nat.le_refl _
  | step hq ih =>
    rename_i m
    refine Nat.le_trans (ih (by omega)) ?_
    obtain ⟨r, hr, hst, _, he⟩ := can_at h.can m _ (List.getElem?_eq_getElem (show m < ops.toList.length by omega))
    rw [he]
    have hl := h.le
    have := (h.ext hcall m (by omega)).1
    exact (step_ext hcall hst (b := base) (h.mu r (List.mem_of_getElem? hr)) (by omega)).1
/-- among the first k objects are made alone -/
theorem Reg.same (h : Reg P T call ops k rs sl0 hp0 base N) (hcall : CallOk P call) {i j : Nat} (hij : i ≤ j) (hj : j ≤ k) : Ext (hpAt rs hp0 i).n (hpAt rs hp0 i) (hpAt rs hp0 j) := by
  induction hij with
  | refl => exact Ext.refl _ _
  | step hq ih =>
    rename_i m
    have hml : m < ops.toList.length := by have := h.chk.le; omega
    refine (ih (by omega)).trans ?_
    obtain ⟨r, hr, hst, _, he⟩ := can_at h.can m _ (List.getElem?_eq_getElem hml)
    rw [he]
    exact step_ext hcall hst (by rw [h.pre m r (by omega) hr]; trivial) (h.mono hcall hq (by omega))
/-- who writes slot t has come exactly if it stands before i -/
def AtPos (ops : Array Oper) (D : Nat → Prop) (t i : Nat) : Prop := ∀ (j : Nat) o, ops.toList[j]? = some o → o.dst = some t → (D j ↔ j < i)
def Shown (ops : Array Oper) (rs : List Rec) (sl0 : Slots) (D : Nat → Prop) (Ei : Nat → Env) (a : Act) (w : World) : Prop :=
  ∀ t i, i ≤ ops.toList.length → AtPos ops D t i → ∀ d, look (slAt ops.toList rs sl0 i) t = some d → VR w (Ei i) d (a.tmps.getD t undef)
/-- what an operation looks at -/
theorem look_pos (h : ChkOk T ops k) {D : Nat → Prop} (hD : Closed ops.toList D) {i : Nat} {o : Oper} (ho : ops.toList[i]? = some o) (hDi : ¬ D i) (hw : Waits D o) {t : Nat} (ht : t ∈ o.looksAt ops) : AtPos ops D t i := by
  intro j oj hj hdj
  have hlt : Closed ops.toList (· < i) := fun i' o' e ho' hi' he hb => Nat.lt_trans (h.back i' o' e ho' he hb) hi'
  have hlt' : Closed ops.toList (· < j) := fun i' o' e ho' hi' he hb => Nat.lt_trans (h.back i' o' e ho' he hb) hi'
  by_cases e : j = i
  · subst e
    exact ⟨fun h => absurd h hDi, fun h => absurd h (Nat.lt_irrefl _)⟩
  · rcases h.pair i j o oj e ho hj with hb | ⟨hb | hb, _⟩
    · exact ⟨fun _ => hb (· < i) hlt fun e he hb => h.back i o e ho he hb, fun _ => hb D hD hw⟩
    · have h1 : i < j := hb (· < j) hlt' fun e he hb => h.back j oj e hj he hb
      refine ⟨fun hDj => absurd (hb D hD fun e he hbd => hD j oj e hj hDj he hbd) hDi, fun h => by omega⟩
    · exact absurd ht (hb t hdj).1
theorem slR_app : ∀ (l m : List Oper) (rs qs : List Rec) (sl : Slots), l.length = rs.length → slR (l ++ m) (rs ++ qs) sl = slR m qs (slR l rs sl)
  | [], m, [], qs, sl, _ => rfl
  | o :: l, m, r :: rs, qs, sl, h => slR_app l m rs qs (putO sl o.dst r.d) (by simpa using h)
  | [], _, _ :: _, _, _, h => by simp at h
  | _ :: _, _, [], _, _, h => by simp at h
theorem slAt_succ {l : List Oper} {rs : List Rec} {sl : Slots} (h : l.length = rs.length) {i : Nat} {o : Oper} (ho : l[i]? = some o) : ∃ r, rs[i]? = some r ∧ slAt l rs sl (i + 1) = putO (slAt l rs sl i) o.dst r.d := by
  have hi := (List.getElem?_eq_some_iff.1 ho).1
  have hir : i < rs.length := by omega
  refine ⟨rs[i], List.getElem?_eq_getElem hir, ?_⟩
  unfold slAt
  rw [List.take_add_one, List.take_add_one, ho, List.getElem?_eq_getElem hir, slR_app _ _ _ _ _ (by simp; omega)]
  rfl
/-- behind an operation -/
theorem shown_put0 (hlen : ops.toList.length = rs.length) (hchk : ChkOk T ops k) (hds : dstsOk N (ops.toList.map (·.dst)) = true) {D : Nat → Prop} (hD : Closed ops.toList D) {q : Nat} {o : Oper} {r : Rec} (ho : ops.toList[q]? = some o) (hr : rs[q]? = some r) (hDq : ¬ D q) {Ei Ei' : Nat → Env} {a : Act} {w w' : World} {v : Value}
    (hs : Shown ops rs sl0 D Ei a w) (hl : ∀ i, i ≤ ops.toList.length → Later (Ei i) w (Ei' i) w') (hv : ∀ i, q < i → i ≤ ops.toList.length → VR w' (Ei' i) r.d v) (hsz : a.tmps.size = N) : Shown ops rs sl0 (fun j => D j ∨ j = q) Ei' (a.put o.dst v) w' := by
  intro t i hi hat d hd
  have hdst : ∀ t, o.dst = some t → t < N := fun t ht => dstsOk_spec hds t (by rw [← ht]; exact List.mem_map.2 ⟨o, List.mem_of_getElem? ho, rfl⟩)
  by_cases e : o.dst = some t
  · -- its own slot
    have hqi : q < i := (hat q o ho e).1 (.inr rfl)
    have hval : (a.put o.dst v).tmps.getD t undef = v := by
      rw [e]
      simp only [Act.put]
      rw [getD_set (by rw [hsz]; exact hdst t e), if_pos rfl]
    rw [hval]
    -- no other writer stands between
    have hno : ∀ (j : Nat) oj, ops.toList[j]? = some oj → q < j → j < i → oj.dst ≠ some t := by
      intro j oj hj hqj hji hdj
      have hDj : D j := by
        rcases (hat j oj hj hdj).2 hji with h | rfl
        · exact h
        · omega
      rcases hchk.pair q j o oj (by omega) ho hj with hb | ⟨hb | hb, _⟩
      · have : j < q := hb (· < q) (fun i' o' e ho' hi' he hb => Nat.lt_trans (hchk.back i' o' e ho' he hb) hi') fun e he hb => hchk.back q o e ho he hb
        omega
      · exact hDq (hb D hD fun e he hbd => hD j oj e hj hDj he hbd)
      · exact (hb t hdj).2 e
    have key : ∀ m, q + 1 ≤ m → m ≤ i → ∀ d, look (slAt ops.toList rs sl0 m) t = some d → d = r.d := by
      intro m hm
      induction hm with
      | refl =>
        intro _ d hd
        obtain ⟨r', hr', he⟩ := slAt_succ (sl := sl0) hlen ho
        rw [hr] at hr'
        cases hr'
        rw [he, e] at hd
        simp only [putO] at hd
        rcases look_put hd with ⟨_, rfl⟩ | ⟨hne, _⟩
        · rfl
        · exact absurd rfl hne
      | step hq ih =>
        rename_i m
        intro hmi d hd
        have hml : m < ops.toList.length := by omega
        obtain ⟨r', hr', he⟩ := slAt_succ (sl := sl0) hlen (List.getElem?_eq_getElem hml)
        rw [he] at hd
        have hne := hno m _ (List.getElem?_eq_getElem hml) (Nat.lt_of_succ_le hq) (by omega)
        refine ih (by omega) d ?_
        cases hdd : (ops.toList[m]).dst with
        | none => rw [hdd] at hd; exact hd
        | some s =>
          rw [hdd] at hd
          simp only [putO] at hd
          rcases look_put hd with ⟨rfl, _⟩ | ⟨_, hd⟩
          · exact absurd hdd hne
          · exact hd
    rw [key i (by omega) (Nat.le_refl _) d hd]
    exact hv i hqi hi
  · have hval : (a.put o.dst v).tmps.getD t undef = a.tmps.getD t undef := by
      cases hdd : o.dst with
      | none => rfl
      | some s =>
        simp only [Act.put]
        rw [getD_set (by rw [hsz]; exact hdst s hdd), if_neg (fun q => e (by rw [hdd, q]))]
    rw [hval]
    refine (hs t i hi (fun j oj hj hdj => ?_) d hd).later (hl i hi)
    rw [← hat j oj hj hdj]
    refine ⟨.inl, fun h => h.resolve_right fun q => ?_⟩
    subst q
    rw [ho] at hj
    cases hj
    exact e hdj
theorem shown_put (h : Reg P T call ops k rs sl0 hp0 base N) {D : Nat → Prop} (hD : Closed ops.toList D) {q : Nat} {o : Oper} {r : Rec} (ho : ops.toList[q]? = some o) (hr : rs[q]? = some r) (hDq : ¬ D q) {Ei Ei' : Nat → Env} {a : Act} {w w' : World} {v : Value}
    (hs : Shown ops rs sl0 D Ei a w) (hl : ∀ i, i ≤ ops.toList.length → Later (Ei i) w (Ei' i) w') (hv : ∀ i, q < i → i ≤ ops.toList.length → VR w' (Ei' i) r.d v) (hsz : a.tmps.size = N) : Shown ops rs sl0 (fun j => D j ∨ j = q) Ei' (a.put o.dst v) w' :=
  shown_put0 (can_len h.can) h.chk h.dst hD ho hr hDq hs hl hv hsz
theorem shown_skip (_h : Reg P T call ops k rs sl0 hp0 base N) (w : World) (E : Env) : VR w E (.tuple []) undef := vr_undef w E
end
end Go.Proofs.Ytoghpmeoekbcbaa
