/- A function's statements in groups, each run by itself: between them the objects are melted. No function of the program is named here. -/
import Derived.Test.YtejlbkhddehaiaaMJ
namespace Go.Proofs.Ytejlbkhddehaiaa
open Go.RowKit

noncomputable section
/-- the statements of a body -/
def spine : Code → List Code
  | .seq a b => a :: spine b
  | c => [c]
inductive GL (P : Program) (T : Tab) (ks : List (Nat × Nat)) : List Code → Slots → Hp → Ex → Slots → Hp → Prop
  | one (c : Code) (sl : Slots) (hp : Hp) (e : Ex) (s1 : Slots) (h1 : Hp) : Goes P T ks c sl hp e s1 h1 → GL P T ks [c] sl hp e s1 h1
  | step (c : Code) (r : List Code) (sl : Slots) (hp : Hp) (s1 : Slots) (h1 : Hp) (e : Ex) (s2 : Slots) (h2 : Hp) : Goes P T ks c sl hp .normal s1 h1 → GL P T ks r s1 h1 e s2 h2 → GL P T ks (c :: r) sl hp e s2 h2
theorem GL.pre {P : Program} {T : Tab} {ks : List (Nat × Nat)} {L : List Code} {s0 sl s2 : Slots} {h0 hp h2 : Hp} {e : Ex} (hw : Seen s0 h0 sl hp) (h : GL P T ks L sl hp e s2 h2) : GL P T ks L s0 h0 e s2 h2 := by
  cases h with
  | one c _ _ _ _ _ g => exact .one _ _ _ _ _ _ (g.pre hw)
  | step c r _ _ s1 h1 _ _ _ g k => exact .step _ _ _ _ _ _ _ _ _ (g.pre hw) k
theorem gl_one {P : Program} {T : Tab} {ks : List (Nat × Nat)} {c : Code} {sl s2 : Slots} {hp h2 : Hp} {e : Ex} (h : GL P T ks [c] sl hp e s2 h2) : Goes P T ks c sl hp e s2 h2 := by
  cases h with
  | one _ _ _ _ _ _ g => exact g
  | step _ _ _ _ _ _ _ _ _ _ k => cases k
theorem goes_spine {P : Program} {T : Tab} {ks : List (Nat × Nat)} : ∀ (c : Code) {sl s2 : Slots} {hp h2 : Hp} {e : Ex}, GL P T ks (spine c) sl hp e s2 h2 → Goes P T ks c sl hp e s2 h2
  | .seq a b, _, _, _, _, _, h => by
    have h' : GL P T ks (a :: spine b) _ _ _ _ _ := h
    cases hb : spine b with
    | nil => cases b <;> cases hb
    | cons c r =>
      rw [hb] at h'
      cases h' with
      | step _ _ _ _ s1 h1 _ _ _ g k => exact g.seq (goes_spine b (by rw [hb]; exact k))
  | .skip, _, _, _, _, _, h => gl_one h
  | .region _ _ _, _, _, _, _, _, h => gl_one h
  | .cond _ _ _, _, _, _, _, _, h => gl_one h
  | .ret, _, _, _, _, _, h => gl_one h
  | .block _ _, _, _, _, _, _, h => gl_one h
  | .loop _, _, _, _, _, _, h => gl_one h
  | .rangeFunc _ _ _ _, _, _, _, _, _, h => gl_one h
  | .exit _, _, _, _, _, _, h => gl_one h
  | .scope _, _, _, _, _, _, h => gl_one h
  | .label _, _, _, _, _, _, h => gl_one h
  | .goto _, _, _, _, _, _, h => gl_one h
  | .refuse _, _, _, _, _, _, h => gl_one h
section
variable (P : Program) (T : Tab) (F : FTab) (C : ConF) (ks : List (Nat × Nat))
/-- statements one after another, all of them going on -/
def zl : List Code → Slots → Hp → Yath → Option (Slots × Hp × Yath × List Prop)
  | [], sl, hp, p => some (sl, hp, p, [])
  | c :: r, sl, hp, p => match zz P T F C 1000 ks 1000 c sl hp p with
    | some (.normal, s1, h1, p1, cs) => match zl r s1 h1 p1 with
      | some (s2, h2, p2, cs2) => some (s2, h2, p2, cs ++ cs2)
      | none => none
    | _ => none
end
variable {P : Program} {T : Tab} {F : FTab} {C : ConF} {ks : List (Nat × Nat)}
theorem zl_ok (hT : TabOk P T) (hmix : P.follows .mixedOrders = true) (hF : FunOk P T F) (hC : ConOk P C) : ∀ (L : List Code) {B : List Code} {sl s1 s2 : Slots} {hp h1 h2 : Hp} {p p1 : Yath} {cs : List Prop} {e : Ex}, zl P T F C ks L sl hp p = some (s1, h1, p1, cs) → AskedP cs → GL P T ks B s1 h1 e s2 h2 → GL P T ks (L ++ B) sl hp e s2 h2
  | [], _, _, _, _, _, _, _, _, _, _, _, h, _, k => by
    cases h
    exact k
  | c :: r, B, sl, s1, s2, hp, h1, h2, p, p1, cs, e, h, hc, k => by
    unfold zl at h
    split at h
    · rename_i t1 g1 q1 cs1 hz
      split at h
      · rename_i t2 g2 q2 cs2 hr
        cases h
        exact .step _ _ _ _ _ _ _ _ _ (zz_ok hT hmix hF hC 1000 hz fun x hx => hc x (List.mem_append_left _ hx)) (zl_ok hT hmix hF hC r hr (fun x hx => hc x (List.mem_append_right _ hx)) k)
      · cases h
    · cases h
def sameI : DV → DV → Bool
  | .int k n, .int k' n' => decide (k = k') && decide (n = n')
  | .bool a, .bool b => a == b
  | _, _ => false
theorem sameI_ok {a b : DV} (h : sameI a b = true) : b = a ∧ flat0 a = true := by
  unfold sameI at h
  split at h
  · simp only [Bool.and_eq_true, decide_eq_true_eq] at h
    rw [h.1, h.2]
    exact ⟨rfl, rfl⟩
  · rw [beq_iff_eq.1 h]
    exact ⟨rfl, rfl⟩
  · cases h
/-- numbers in slots -/
def chkI (sl : Slots) : List (Nat × DV) → Bool
  | [] => true
  | (t, a) :: r => match look sl t with
    | some b => sameI a b && chkI sl r
    | none => false
theorem chkI_ok {sl : Slots} : ∀ {vs : List (Nat × DV)}, chkI sl vs = true → ∀ t d, (t, d) ∈ vs → look sl t = some d ∧ flat0 d = true
  | (t, a) :: r, h, t', d, hm => by
    unfold chkI at h
    cases hl : look sl t with
    | none => rw [hl] at h; cases h
    | some b =>
      rw [hl] at h
      simp only [Bool.and_eq_true] at h
      obtain ⟨rfl, h2⟩ := sameI_ok h.1
      rcases List.mem_cons.1 hm with e | hm
      · cases e
        exact ⟨hl, h2⟩
      · exact chkI_ok h.2 t' d hm
/-- the numbers that are left of statements' run -/
def zl0 (vs : List (Nat × DV)) : Option (Slots × Hp × Yath × List Prop) → Option (List Prop)
  | some (s, h, [], cs) => match h.ls, chkI s vs with
    | [], true => some cs
    | _, _ => none
  | _ => none
theorem zl0_ok (hT : TabOk P T) (hmix : P.follows .mixedOrders = true) (hF : FunOk P T F) (hC : ConOk P C) {L B : List Code} {vs : List (Nat × DV)} {nt : Nat} {sl s2 : Slots} {hp h2 : Hp} {p : Yath} {cs : List Prop} {e : Ex} (h : zl0 vs (zl P T F C ks L sl hp p) = some cs) (hc : AskedP cs) (k : GL P T ks B (mkT nt vs) ⟨0, [], []⟩ e s2 h2) : GL P T ks (L ++ B) sl hp e s2 h2 := by
  unfold zl0 at h
  split at h
  · rename_i s h' cs' hz
    split at h
    · rename_i hls hchk
      cases h
      refine zl_ok hT hmix hF hC L hz hc (.pre (seen_melt (melt_nil hls) fun t d ht => ?_) k)
      obtain ⟨h1, h2⟩ := chkI_ok hchk t d ht
      exact ⟨d, h1, .frz _ _ (.flat _ h2)⟩
    · cases h
  · cases h
end
end Go.Proofs.Ytejlbkhddehaiaa
