/- What a call answers where no object is: said once, used in every heap. No function of the program is named here. -/
import Derived.Test.YtnhbhdfeenpedaaV33
namespace Go.Proofs.Ytnhbhdfeenpedaa
open Go.RowKit

noncomputable section
variable {P : Program} {T : Tab} {F : FTab} {C : CallF}
/-- what a call answers, its caller having no objects -/
def Ans (P : Program) (f : FuncId) (args : List DV) (d : DV) (hp' : Hp) : Prop :=
  FnOk P f ∧ ∀ W0 S0 E w vs, HS W0 0 S0 E ⟨0, []⟩ w → VRs E w args vs → Calls P f vs.toArray w fun e w' => ∃ E' v, e = .returned v ∧ Later (ro E.S) w (ro E'.S) w' ∧ HS W0 0 S0 E' hp' w' ∧ VR w' E' d v
theorem ans_of_goes (hT : TabOk P T) (hF : FunOk P T F) {f : FuncId} {fn : FnT} {args : List DV} {e : Ex} {sl' : Slots} {hp' : Hp} {ds : List DV} (hfn : F f = some fn) (hlen : Nat.ble args.length fn.nt = true) (h : Goes P T fn.ks fn.body (initS fn.nt args) ⟨0, []⟩ e sl' hp') (hex : ∀ i, e ≠ .exit i) (hds : resD T hp' sl' fn.res = some ds) : Ans P f args (one ds) hp' := by
  obtain ⟨g, g1, g2, g3, g4, g5, g6⟩ := hF f fn hfn
  have hlen := Nat.le_of_ble_eq_true hlen
  refine ⟨⟨g, g1, by rw [g2]; rfl, g3⟩, fun W0 S0 E w vs hs hv => ?_⟩
  refine calls_of_wp g1 g2 ?_
  have hl := hv.1
  have hsim : Sim W0 0 S0 E fn.nt (initS fn.nt args) ⟨0, []⟩ { tmps := vs.toArray ++ Array.replicate (g.ntmps - vs.toArray.size) undef, defers := [] } w := by
    refine ⟨hs, rfl, by simp; omega, fun t d ht => ?_⟩
    obtain ⟨v, hv1, hv2⟩ := hv.get (look_initS ht)
    have hlt := (List.getElem?_eq_some_iff.1 hv1).1
    have : (vs.toArray ++ Array.replicate (g.ntmps - vs.toArray.size) undef).getD t undef = v := by
      rw [Array.getD_eq_getD_getElem?, Array.getElem?_append_left (by simpa using hlt)]
      simp [hv1]
    rw [this]
    exact hv2
  refine h fn.nt g6 W0 S0 E _ w _ hsim fun E' a' w' hl hs' => ?_
  obtain ⟨v, hv1, hv2⟩ := results_ok (P := P) hT hs'.hs hs'.sl hds g4
  cases e with
  | normal => exact ⟨hs'.defers, v, hv1, E', v, rfl, hl, hs'.hs, hv2⟩
  | ret => exact ⟨hs'.defers, v, hv1, E', v, rfl, hl, hs'.hs, hv2⟩
  | exit id => exact (hex id rfl).elim
/-- a datum and a heap seen otherwise -/
def SeenV (d : DV) (hp : Hp) (d' : DV) (hp' : Hp) : Prop := ∀ W0 S0 E w v, HS W0 0 S0 E hp w → VR w E d v → ∃ E', E'.S = E.S ∧ HS W0 0 S0 E' hp' w ∧ VR w E' d' v
theorem Ans.see {f : FuncId} {args : List DV} {d d' : DV} {hp hp' : Hp} (h : Ans P f args d hp) (hs : SeenV d hp d' hp') : Ans P f args d' hp' := by
  refine ⟨h.1, fun W0 S0 E w vs hh hv => (h.2 W0 S0 E w vs hh hv).mono ?_⟩
  rintro e w' ⟨E1, v, rfl, h1, h2, h3⟩
  obtain ⟨E2, e2, h4, h5⟩ := hs _ _ _ _ _ h2 h3
  exact ⟨E2, v, rfl, by rw [e2]; exact h1, h4, h5⟩
theorem hs_none {W0 : World} {S0 : Nat → Prop} {E : Env} {hp : Hp} {w : World} (hs : HS W0 0 S0 E hp w) : HS W0 0 S0 (ro E.S) ⟨0, []⟩ w :=
  ⟨hs.bel, fun _ h => h.elim, fun _ h => h.elim, fun _ h => h.elim, fun _ _ _ _ h => h.elim, hs.ro, hs.olds, Nat.le_refl _⟩
theorem seenV_flat {d : DV} (hp : Hp) (h : flatD d = true) : SeenV d hp d ⟨0, []⟩ := fun _ _ E _ _ hs hv => ⟨ro E.S, rfl, hs_none hs, flatD_ok hv h fun _ h => h⟩
theorem Ans.flat {f : FuncId} {args : List DV} {d : DV} {hp : Hp} (h : Ans P f args d hp) (hd : flatD d = true) : Ans P f args d ⟨0, []⟩ := h.see (seenV_flat hp hd)

/-! ### Objects numbered anew -/
def posN (id : Nat) : List Nat → Option Nat
  | [] => none
  | a :: l => match Nat.beq a id with
    | true => some 0
    | false => match posN id l with
      | some k => some (k + 1)
      | none => none
theorem posN_ok {id : Nat} : ∀ {L : List Nat} {k : Nat}, posN id L = some k → L[k]? = some id
  | a :: l, k, h => by
    simp only [posN] at h
    split at h
    · rename_i hb
      cases h
      simp [Nat.eq_of_beq_eq_true hb]
    · split at h
      · rename_i hk
        cases h
        simpa using posN_ok hk
      · cases h
def ren1 (L : List Nat) : DV → Option DV
  | .sl id off s n c => match posN id L with
    | some k => some (.sl k off s n c)
    | none => none
  | .ptr id off => match posN id L with
    | some k => some (.ptr k off)
    | none => none
  | .int k n => some (.int k n)
  | .bool b => some (.bool b)
  | .str s => some (.str s)
  | .nil => some .nil
  | .list s xs => some (.list s xs)
  | .nilp => some .nilp
  | .nilf => some .nilf
  | .nili => some .nili
  | .fn f [] [] => some (.fn f [] [])
  | _ => none
def rens (q : DV → Option DV) : List DV → Option (List DV)
  | [] => some []
  | d :: l => match q d, rens q l with
    | some d', some l' => some (d' :: l')
    | _, _ => none
def ren2 (L : List Nat) : DV → Option DV
  | .agg cs => match rens (ren1 L) cs with
    | some cs' => some (.agg cs')
    | none => none
  | d => ren1 L d
def ren3 (L : List Nat) : DV → Option DV
  | .tuple cs => match rens (ren2 L) cs with
    | some cs' => some (.tuple cs')
    | none => none
  | d => ren2 L d
/-- the environment of the objects numbered anew -/
def Env.ren (E : Env) (L : List Nat) (X : Nat → Prop) : Env := ⟨E.S, fun i => E.b (L.getD i 0), fun i => E.base (L.getD i 0), fun i => E.sz (L.getD i 0), X, fun i => ∃ id, L[i]? = some id ∧ E.D id⟩
/-- cells as they are, where they name no object -/
def plain : DV → Bool
  | .int _ _ | .bool _ | .str _ | .nil | .nilp | .nilf | .nili => true
  | _ => false
theorem plain_ok {E E' : Env} {w w' : World} {d : DV} {v : Value} (h : VR w E d v) (hp : plain d = true) : VR w' E' d v := by
  cases h <;> first | (simp [plain] at hp; done) | constructor
section
variable {E : Env} {w : World} {L : List Nat} {X : Nat → Prop}
theorem ren_getD {i id : Nat} (h : L[i]? = some id) : L.getD i 0 = id := by simp [List.getD, h]
theorem ren1_ok (hX : ∀ (i id : Nat), L[i]? = some id → E.D id → (X i → E.X id)) {d d' : DV} {v : Value} (h : VR w E d v) (hr : ren1 L d = some d') : VR w (E.ren L X) d' v := by
  unfold ren1 at hr
  split at hr
  · split at hr
    · rename_i k hk
      cases hr
      have hk := posN_ok hk
      obtain ⟨A, c', rfl, h1, h2, h3, h4, h5, h6⟩ := h.of_sl
      refine .sl _ k _ _ _ _ A c' ⟨_, hk, h1⟩ h2 h3 h4 (fun hx => h5 (hX k _ hk h1 hx)) fun hc => ?_
      obtain ⟨h7, h8⟩ := h6 hc
      simp only [Env.ren, ren_getD hk]
      exact ⟨h7, h8⟩
    · cases hr
  · rename_i id off
    split at hr
    · rename_i k hk
      cases hr
      have hk := posN_ok hk
      obtain ⟨rfl, h1⟩ := h.of_ptr
      have : VR w (E.ren L X) (.ptr k off) (.pointer (some ⟨(E.ren L X).b k, (E.ren L X).base k + off, none⟩)) := .ptr _ k _ ⟨_, hk, h1⟩
      simpa only [Env.ren, ren_getD hk] using this
    · cases hr
  · cases hr; cases h; constructor
  · cases hr; cases h; constructor
  · cases hr; cases h; constructor
  · cases hr; cases h; constructor
  · cases hr
    exact flat1_ok (d := .list _ _) h rfl fun _ h => h
  · cases hr; cases h; constructor
  · cases hr; cases h; constructor
  · cases hr; cases h; constructor
  · cases hr
    obtain ⟨us, vs, rfl, h1, h2⟩ := h.of_fn
    rw [h1.unnil, h2.unnil]
    exact .fn _ _ [] [] [] [] rfl rfl (fun j d v h => by simp at h) (fun j d v h => by simp at h)
  · cases hr
theorem rens_ok {q : DV → Option DV} {E' : Env} (hq : ∀ {d d' v}, VR w E d v → q d = some d' → VR w E' d' v) : ∀ {ds ds' : List DV} {vs : List Value}, VRs E w ds vs → rens q ds = some ds' → VRs E' w ds' vs
  | [], ds', vs, h, hr => by
    cases hr
    rw [h.unnil]
    exact .nil _ _
  | d :: ds, ds', vs, h, hr => by
    obtain ⟨v, vs', rfl, h1, h2⟩ := h.uncons
    simp only [rens] at hr
    split at hr
    · rename_i h3 h4
      cases hr
      exact .cons (hq h1 h3) (rens_ok hq h2 h4)
    · cases hr
theorem ren2_ok (hX : ∀ (i id : Nat), L[i]? = some id → E.D id → (X i → E.X id)) {d d' : DV} {v : Value} (h : VR w E d v) (hr : ren2 L d = some d') : VR w (E.ren L X) d' v := by
  unfold ren2 at hr
  split at hr
  · split at hr
    · rename_i hk
      cases hr
      obtain ⟨vs, rfl, hvs⟩ := h.of_agg
      exact (rens_ok (fun h hr => ren1_ok hX h hr) hvs hk).agg
    · cases hr
  · exact ren1_ok hX h hr
theorem ren3_ok (hX : ∀ (i id : Nat), L[i]? = some id → E.D id → (X i → E.X id)) {d d' : DV} {v : Value} (h : VR w E d v) (hr : ren3 L d = some d') : VR w (E.ren L X) d' v := by
  unfold ren3 at hr
  split at hr
  · split at hr
    · rename_i hk
      cases hr
      obtain ⟨vs, rfl, hvs⟩ := h.of_tuple
      exact (rens_ok (fun h hr => ren2_ok hX h hr) hvs hk).tuple
    · cases hr
  · exact ren2_ok hX h hr
end
/-- an object as it is seen when those before it are forgotten -/
def oldOb (o : Ob) : Ob := match o.k with
  | 3 => ⟨1, 0, o.t, o.cs⟩
  | k => ⟨k, 0, o.t, o.cs⟩
def renOb (hp : Hp) (id : Nat) : Option Ob := match hp.get id with
  | some o => match Nat.beq o.k 2 with
    | true => none
    | false => some (oldOb o)
  | none => none
/-- the objects L, the first one first; their cells name none -/
def renObs (hp : Hp) : List Nat → Option (List Ob)
  | [] => some []
  | id :: l => match renOb hp id, renObs hp l with
    | some o, some os => some (o :: os)
    | _, _ => none
def nodupN : List Nat → Bool
  | [] => true
  | a :: l => (match posN a l with
    | some _ => false
    | none => true) && nodupN l
theorem posN_none {a : Nat} : ∀ {l : List Nat}, posN a l = none → a ∉ l
  | [], _ => by simp
  | b :: l, h => by
    simp only [posN] at h
    split at h
    · cases h
    · rename_i hb
      split at h
      · cases h
      · rename_i hn
        have : b ≠ a := fun e => by rw [beqT e] at hb; cases hb
        simp [posN_none hn, Ne.symm this]
theorem nodupN_ok : ∀ {l : List Nat}, nodupN l = true → l.Nodup
  | [], _ => List.nodup_nil
  | a :: l, h => by
    simp only [nodupN, Bool.and_eq_true] at h
    obtain ⟨h1, h2⟩ := h
    split at h1
    · cases h1
    · rename_i hp
      exact List.nodup_cons.2 ⟨posN_none hp, nodupN_ok h2⟩
theorem renObs_ok {hp : Hp} : ∀ {L : List Nat} {os : List Ob}, renObs hp L = some os → os.length = L.length ∧ ∀ (i id : Nat), L[i]? = some id → ∃ o, hp.get id = some o ∧ o.k ≠ 2 ∧ os[i]? = some (oldOb o)
  | [], os, h => by cases h; exact ⟨rfl, fun i id h => by simp at h⟩
  | id :: l, os, h => by
    simp only [renObs] at h
    split at h
    · rename_i o1 os1 h1 h2
      cases h
      obtain ⟨h3, h4⟩ := renObs_ok h2
      refine ⟨by simp [h3], fun i id' hi => ?_⟩
      cases i with
      | zero =>
        simp at hi
        subst hi
        unfold renOb at h1
        split at h1
        · rename_i o ho
          split at h1
          · cases h1
          · rename_i hk
            cases h1
            refine ⟨o, ho, fun e => ?_, rfl⟩
            rw [beqT e] at hk
            cases hk
        · cases h1
      | succ i => simpa using h4 i id' (by simpa using hi)
    · cases h
/-- the heap of the objects L alone -/
def renH (L : List Nat) (hp : Hp) : Option Hp := match nodupN L, renObs hp L with
  | true, some os => some ⟨L.length, os.reverse⟩
  | _, _ => none
def plains : List DV → Bool
  | [] => true
  | d :: l => plain d && plains l
theorem plains_iff (l : List DV) : plains l = true ↔ ∀ d ∈ l, plain d = true := by
  induction l with
  | nil => simp [plains]
  | cons x l ih => simp [plains, ih]
/-- no cell of the heap names an object -/
def Plain (hp : Hp) : Prop := ∀ id o, hp.get id = some o → ∀ d ∈ o.cs, plain d = true
/-- nor does any of the objects L -/
def PlainL (L : List Nat) (hp : Hp) : Prop := ∀ id o, id ∈ L → hp.get id = some o → ∀ d ∈ o.cs, plain d = true
theorem Plain.toL {hp : Hp} (h : Plain hp) (L : List Nat) : PlainL L hp := fun id o _ hg => h id o hg
theorem oldOb_cs (o : Ob) : (oldOb o).cs = o.cs := by unfold oldOb; split <;> rfl
theorem oldOb_t (o : Ob) : (oldOb o).t = o.t := by unfold oldOb; split <;> rfl
theorem oldOb_k (o : Ob) : (oldOb o).k = if o.k = 3 then 1 else o.k := by
  unfold oldOb
  split
  · rename_i h; simp [h]
  · rename_i h; rw [if_neg h]
theorem hs_ren {W0 : World} {S0 : Nat → Prop} {E : Env} {hp hp' : Hp} {w : World} {L : List Nat} (hs : HS W0 0 S0 E hp w) (hpl : PlainL L hp) (hr : renH L hp = some hp') : HS W0 0 S0 (E.ren L fun i => ∃ id, L[i]? = some id ∧ E.X id) hp' w := by
  unfold renH at hr
  split at hr
  · rename_i os hnd hos
    cases hr
    obtain ⟨hlen, hob⟩ := renObs_ok hos
    have hget : ∀ (i id : Nat), L[i]? = some id → ∃ o, hp.get id = some o ∧ o.k ≠ 2 ∧ (⟨L.length, os.reverse⟩ : Hp).get i = some (oldOb o) := fun i id hi => by
      obtain ⟨o, h1, h2, h3⟩ := hob i id hi
      refine ⟨o, h1, h2, ?_⟩
      have hlt := (List.getElem?_eq_some_iff.1 hi).1
      have hn : (⟨L.length, os.reverse⟩ : Hp).get i = os[i]? := by
        rw [Hp.get_eq]
        show (if i < L.length then os.reverse[L.length - 1 - i]? else none) = _
        rw [if_pos hlt, List.getElem?_reverse (by omega), show os.length - 1 - (L.length - 1 - i) = i by omega]
      rw [hn]
      exact h3
    refine ⟨hs.bel, ?_, ?_, fun id _ h => absurd h (by omega), ?_, hs.ro, hs.olds, Nat.zero_le _⟩
    · rintro i ⟨id, hi, hd⟩
      obtain ⟨o, h1, h2, h3⟩ := hget i id hi
      obtain ⟨o', h1', hok⟩ := hs.ob id hd
      rw [h1] at h1'
      cases h1'
      refine ⟨_, h3, ?_⟩
      obtain ⟨k0, k1, vs, k2, k3, k4, k5⟩ := hok
      refine ⟨?_, by rw [oldOb_cs]; exact k1, vs, ?_, ?_, ?_, ?_⟩
      · rw [oldOb_k]
        constructor
        · intro h
          refine ⟨id, hi, k0.1 ?_⟩
          split at h
          · cases h
          · exact h
        · rintro ⟨id', hi', hx⟩
          rw [hi] at hi'
          cases hi'
          have := k0.2 hx
          rw [this]
          rfl
      · simp only [Env.ren, ren_getD hi, oldOb_t]; exact k2
      · simp only [Env.ren, ren_getD hi]; exact k3
      · simp only [Env.ren, ren_getD hi, oldOb_cs]; exact k4
      · simp only [Env.ren, ren_getD hi, oldOb_cs]
        exact ⟨k5.1, fun j d v hj hv => plain_ok (k5.2 j d v hj hv) (hpl _ _ (List.mem_of_getElem? hi) h1 d (List.mem_of_getElem? hj))⟩
    · rintro i ⟨id, hi, hd⟩ _
      obtain ⟨h1, h2⟩ := hs.own id hd (Nat.zero_le _)
      simp only [Env.ren, ren_getD hi]
      exact ⟨h1, h2⟩
    · rintro i j oi oj ⟨id, hi, hd⟩ ⟨jd, hj, hdj⟩ hne _ hoi hoj hk he
      obtain ⟨o1, p1, p2, p3⟩ := hget i id hi
      obtain ⟨o2, q1, q2, q3⟩ := hget j jd hj
      rw [p3] at hoi
      rw [q3] at hoj
      cases hoi
      cases hoj
      simp only [Env.ren, ren_getD hi, ren_getD hj] at he
      have hid : id ≠ jd := fun e => by
        subst e
        exact hne ((List.getElem?_inj (List.getElem?_eq_some_iff.1 hi).1 (nodupN_ok hnd)).1 (hi.trans hj.symm))
      exact absurd (hs.inj id jd o1 o2 hd hdj hid (Nat.zero_le _) p1 q1 p2 he).1 q2
  · cases hr
theorem hs_ren_X {W0 : World} {S0 : Nat → Prop} {E : Env} {hp : Hp} {w : World} (_hs : HS W0 0 S0 E hp w) (L : List Nat) : ∀ (i id : Nat), L[i]? = some id → E.D id → ((∃ id, L[i]? = some id ∧ E.X id) → E.X id) := fun i id hi _ ⟨id', hi', hx⟩ => by
  rw [hi] at hi'
  cases hi'
  exact hx
theorem seenV_ren {L : List Nat} {d d' : DV} {hp hp' : Hp} (hpl : PlainL L hp) (hr : renH L hp = some hp') (hd : ren3 L d = some d') : SeenV d hp d' hp' := fun _ _ E _ _ hs hv =>
  ⟨E.ren L _, rfl, hs_ren hs hpl hr, ren3_ok (hs_ren_X hs L) hv hd⟩
/-- slots, with objects numbered anew -/
def renS (L : List Nat) : Slots → Slots
  | .lf => .lf
  | .nd u l r => .nd (match u with
    | some d => ren3 L d
    | none => none) (renS L l) (renS L r)
theorem look_renS {L : List Nat} {d' : DV} : ∀ {s : Slots} {t : Nat}, look (renS L s) t = some d' → ∃ d, look s t = some d ∧ ren3 L d = some d'
  | .lf, t, h => by
    unfold renS at h
    cases h
  | .nd u l r, t, h => by
    unfold renS at h
    rw [look_nd] at h ⊢
    by_cases a : t = 0
    · rw [if_pos a] at h ⊢
      cases u with
      | none => cases h
      | some d => exact ⟨d, rfl, h⟩
    · rw [if_neg a] at h ⊢
      by_cases b : t % 2 = 1
      · rw [if_pos b] at h ⊢
        exact look_renS h
      · rw [if_neg b] at h ⊢
        exact look_renS h
theorem seen_ren {L : List Nat} {sl : Slots} {hp hp' : Hp} (hpl : PlainL L hp) (hr : renH L hp = some hp') : Seen sl hp (renS L sl) hp' := fun _ _ E _ _ _ hs =>
  ⟨E.ren L _, fun _ h => h, hs_ren hs.hs hpl hr, hs.defers, hs.size, fun t d ht => by
    obtain ⟨d0, h1, h2⟩ := look_renS ht
    exact ren3_ok (hs_ren_X hs.hs L) (hs.sl t d0 h1) h2⟩
end
end Go.Proofs.Ytnhbhdfeenpedaa
