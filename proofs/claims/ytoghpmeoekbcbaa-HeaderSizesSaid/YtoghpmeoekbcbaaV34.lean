/- What a call answers where no object is: said once, used in every heap. No function of the program is named here. -/
import Derived.Test.YtoghpmeoekbcbaaV33
namespace Go.Proofs.Ytoghpmeoekbcbaa
open Go.RowKit

noncomputable section
variable {P : Program} {T : Tab} {F : FTab} {C : ConF}
/-- what a call answers, all objects being the caller's own -/
def AnsH (P : Program) (f : FuncId) (args : List DV) (hp : Hp) (d : DV) (hp' : Hp) : Prop :=
  FnOk P f ∧ ∀ W0 S0 E w vs, HS W0 0 S0 E hp w → VRs E w args vs → Calls P f vs.toArray w fun e w' => ∃ E' v, e = .returned v ∧ Gon E hp w E' hp' w' ∧ HS W0 0 S0 E' hp' w' ∧ VR w' E' d v
/-- what a call answers, its caller having no objects -/
abbrev Ans (P : Program) (f : FuncId) (args : List DV) (d : DV) (hp' : Hp) : Prop := AnsH P f args ⟨0, [], []⟩ d hp'
theorem gon_take {W0 : World} {S0 : Nat → Prop} {E E' : Env} {hp hp0 : Hp} {w0 w : World} {D : Nat} {x : Option (List Deferred)} (hs : HS W0 0 S0 E' hp w) (g : Gon E hp0 w0 E' hp w) (hD : W0.heap.size ≤ D) (hD0 : w0.heap.size ≤ D) (hk : w.heap[D]? = some (.deferred x)) (hn : ∀ id b D', E'.yb id = some (b, D') → D' ≠ D) :
    HS W0 0 S0 E' hp (w.putObj D (.deferred none)) ∧ Gon E hp0 w0 E' hp (w.putObj D (.deferred none)) ∧ Later E' w E' (w.putObj D (.deferred none)) := by
  have t2 := later_putO E' (o' := .deferred none) hk trivial trivial
  refine ⟨hs.putO hk trivial trivial hD (fun _ => rfl) rfl ⟨fun id R hR => ?_, hs.ys.inj, hs.ys.lt⟩, ⟨g.later.trans t2.ro_ro, ⟨by have := g.oth.1; simpa using this, fun k y hk0 => ?_⟩, g.yb, g.dm⟩, t2⟩
  · obtain ⟨b2, D2, r2, p1, p2, p3, p4, p5⟩ := hs.ys.ok id R hR
    exact ⟨b2, D2, r2, p1, p2, (World.putObj_heap_other (fun e => by rw [e, hk] at p3; cases p3)).trans p3, (World.putObj_heap_other (hn _ _ _ p1)).trans p4, p5.1, p5.2.1, p5.2.2.1, p5.2.2.2.1, p5.2.2.2.2.1, p5.2.2.2.2.2.1, p5.2.2.2.2.2.2.1, fun t d ht => (p5.2.2.2.2.2.2.2 t d ht).later (t2.cut _)⟩
  · have := (Array.getElem?_eq_some_iff.1 hk0).1
    exact (World.putObj_heap_other (by omega)).trans (g.oth.2 k y hk0)
theorem leavesG_ok (hT : TabOk P T) {g : Func} {ts : List ResultVar} (hr : g.results = ts.toArray) {W0 : World} {S0 : Nat → Prop} {E E' : Env} {N : Nat} {sl : Slots} {hp hp1 : Hp} {a : Act} {w w' : World} (hst : Gon E hp w E' hp1 w') (hs : Sim ⟨none, w.heap.size⟩ W0 0 S0 E' N sl hp1 a w')
    {ds : List DV} (hds : resD T hp1 sl ts = some ds) {R : Ending → World → Prop} (hR : ∀ E' v w', Gon E hp w E' hp1 w' → HS W0 0 S0 E' hp1 w' → VR w' E' (one ds) v → R (.returned v) w') : LeavesInM (Fr none) 0 P g a.tmps R a.defers .returning w' := by
  obtain ⟨h0, Ds, h1, h2, h3⟩ := hs.dfr
  clear h0
  rw [h1]
  have hsl := hs.sl
  have hhs := hs.hs
  clear h1 hs
  induction Ds generalizing w' with
  | nil =>
    obtain ⟨v, hv1, hv2⟩ := results_ok (P := P) hT hhs hsl hds hr
    exact ⟨v, hv1, hR E' v w' hst hhs hv2⟩
  | cons D Ds ih =>
    obtain ⟨q1, q2, q3, q4⟩ := h3 D (List.mem_cons_self ..)
    obtain ⟨t1, t2, t3⟩ := gon_take hhs hst q1 q2 q3 q4
    have h2' := List.nodup_cons.1 h2
    refine ⟨by simp, .inl ⟨D, _, rfl, run_takeDeferred q3, ih t2 h2'.2 (fun D' hD' => ?_) (fun t d ht => (hsl t d ht).later t3) t1⟩⟩
    obtain ⟨r1, r2, r3, r4⟩ := h3 D' (List.mem_cons_of_mem _ hD')
    exact ⟨r1, r2, (World.putObj_heap_other (fun e => h2'.1 (by rw [← e]; exact hD'))).trans r3, r4⟩
theorem ansH_of_goes (hT : TabOk P T) (hF : FunOk P T F) {f : FuncId} {fn : FnT} {args : List DV} {hp : Hp} {e : Ex} {sl' : Slots} {hp' : Hp} {ds : List DV} (hfn : F f = some fn) (hlen : Nat.ble args.length fn.nt = true) (h : Goes P T fn.ks fn.body (initS fn.nt args) hp e sl' hp') (hex : ∀ i, e ≠ .exit i) (hds : resD T hp' sl' fn.res = some ds) : AnsH P f args hp (one ds) hp' := by
  obtain ⟨g, g1, g2, g3, g4, g5, g6⟩ := hF f fn hfn
  have hlen := Nat.le_of_ble_eq_true hlen
  refine ⟨⟨g, g1, by rw [g2]; rfl, g3⟩, fun W0 S0 E w vs hs hv => ?_⟩
  refine calls_fr (ro := none) (callsIn_of_wp_marks g1 g2 trivial ?_ rfl)
  have hl := hv.1
  have hsim : Sim ⟨none, w.heap.size⟩ W0 0 S0 E fn.nt (initS fn.nt args) hp { tmps := vs.toArray ++ Array.replicate (g.ntmps - vs.toArray.size) undef, defers := [] } w := by
    refine ⟨hs, .nil _ _ (Nat.le_refl _), fun b hb => (by cases hb), (by simp; omega), fun t d ht => ?_⟩
    obtain ⟨v, hv1, hv2⟩ := hv.get (look_initS ht)
    have hlt := (List.getElem?_eq_some_iff.1 hv1).1
    have : (vs.toArray ++ Array.replicate (g.ntmps - vs.toArray.size) undef).getD t undef = v := by
      rw [Array.getD_eq_getD_getElem?, Array.getElem?_append_left (by simpa using hlt)]
      simp [hv1]
    rw [this]
    exact hv2
  refine h fn.nt g6 ⟨none, w.heap.size⟩ W0 S0 E _ w _ hsim fun E' a' w' hl hs' => ?_
  have hlv := leavesG_ok (ds := ds) (R := fun e w' => ∃ E' v, e = .returned v ∧ Gon E hp w E' hp' w' ∧ HS W0 0 S0 E' hp' w' ∧ VR w' E' (one ds) v) hT g4 hl hs' hds fun E' v w' h1 h2 h3 => ⟨E', v, rfl, h1, h2, h3⟩
  cases e with
  | normal => exact hlv
  | ret => exact hlv
  | exit id => exact (hex id rfl).elim
theorem ans_of_goes (hT : TabOk P T) (hF : FunOk P T F) {f : FuncId} {fn : FnT} {args : List DV} {e : Ex} {sl' : Slots} {hp' : Hp} {ds : List DV} (hfn : F f = some fn) (hlen : Nat.ble args.length fn.nt = true) (h : Goes P T fn.ks fn.body (initS fn.nt args) ⟨0, [], []⟩ e sl' hp') (hex : ∀ i, e ≠ .exit i) (hds : resD T hp' sl' fn.res = some ds) : Ans P f args (one ds) hp' := ansH_of_goes hT hF hfn hlen h hex hds
/-- a datum and a heap seen otherwise -/
def SeenV (d : DV) (hp : Hp) (d' : DV) (hp' : Hp) : Prop := ∀ W0 S0 E w v, HS W0 0 S0 E hp w → VR w E d v → ∃ E', Gon E hp w E' hp' w ∧ HS W0 0 S0 E' hp' w ∧ VR w E' d' v
theorem AnsH.see {f : FuncId} {args : List DV} {d d' : DV} {h0 hp hp' : Hp} (h : AnsH P f args h0 d hp) (hs : SeenV d hp d' hp') : AnsH P f args h0 d' hp' := by
  refine ⟨h.1, fun W0 S0 E w vs hh hv => (h.2 W0 S0 E w vs hh hv).mono ?_⟩
  rintro e w' ⟨E1, v, rfl, h1, h2, h3⟩
  obtain ⟨E2, e2, h4, h5⟩ := hs _ _ _ _ _ h2 h3
  exact ⟨E2, v, rfl, h1.trans e2, h4, h5⟩
theorem yb_none {W0 : World} {base : Nat} {E : Env} {hp : Hp} {w : World} (h : YsOk W0 base E hp w) (hl : hp.ls = []) : ∀ id, E.yb id = none := fun id => by
  cases hy : E.yb id with
  | none => rfl
  | some x =>
    have := (h.lt id x hy).2
    rw [hl] at this
    cases this
theorem hs_none {W0 : World} {S0 : Nat → Prop} {E : Env} {hp : Hp} {w : World} (hs : HS W0 0 S0 E hp w) : HS W0 0 S0 (ro E.S) ⟨0, [], []⟩ w :=
  ⟨hs.bel, fun _ h => h.elim, fun _ h => h.elim, fun _ h => h.elim, fun _ _ _ _ h => h.elim, hs.ro, hs.olds, Nat.le_refl _, .none rfl fun _ => rfl⟩
theorem seenV_flat {d : DV} {hp : Hp} (hl : hp.ls = []) (h : flatD d = true) : SeenV d hp d ⟨0, [], []⟩ := fun _ _ E _ _ hs hv => ⟨ro E.S, .up (E := E) (E' := ro E.S) (fun _ h => h) (funext fun id => (yb_none hs.ys hl id).symm) (fun i => by rw [hl]) _, hs_none hs, flatD_ok hv h fun _ h => h⟩
theorem AnsH.flat {f : FuncId} {args : List DV} {d : DV} {h0 hp : Hp} (h : AnsH P f args h0 d hp) (hl : hp.ls = []) (hd : flatD d = true) : AnsH P f args h0 d ⟨0, [], []⟩ := h.see (seenV_flat hl hd)

/-! ### Objects numbered anew -/
def posN (id : Nat) : List Nat → Option Nat
  | [] => none
  | a :: l => match Nat.beq a id with
    | true => some 0
    | false => match posN id l with
      | some k => some (k + 1)
      | none => none
theorem posN_ok {id : Nat} : ∀ {L : List Nat} {k : Nat}, posN id L = some k → L[k]? = some id
  | a :: l, k, h => by
    simp only [posN] at h
    split at h
    · rename_i hb
      cases h
      simp [Nat.eq_of_beq_eq_true hb]
    · split at h
      · rename_i hk
        cases h
        simpa using posN_ok hk
      · cases h
def rens (q : DV → Option DV) : List DV → Option (List DV)
  | [] => some []
  | d :: l => match q d, rens q l with
    | some d', some l' => some (d' :: l')
    | _, _ => none
def ren0 (L : List Nat) : DV → Option DV
  | .sl id off s n c => match posN id L with
    | some k => some (.sl k off s n c)
    | none => none
  | .ptr id off => match posN id L with
    | some k => some (.ptr k off)
    | none => none
  | .int k n => some (.int k n)
  | .bool b => some (.bool b)
  | .str s => some (.str s)
  | .nil => some .nil
  | .list s xs => some (.list s xs)
  | .nilp => some .nilp
  | .nilf => some .nilf
  | .nili => some .nili
  | .yld k => some (.yld k)
  | _ => none
def ren1 (L : List Nat) : DV → Option DV
  | .fn f [] cs => match rens (ren0 L) cs with
    | some cs' => some (.fn f [] cs')
    | none => none
  | d => ren0 L d
def ren2 (L : List Nat) : DV → Option DV
  | .agg cs => match rens (ren1 L) cs with
    | some cs' => some (.agg cs')
    | none => none
  | d => ren1 L d
def ren3 (L : List Nat) : DV → Option DV
  | .tuple cs => match rens (ren2 L) cs with
    | some cs' => some (.tuple cs')
    | none => none
  | d => ren2 L d
/-- the environment of the objects numbered anew -/
def Env.ren (E : Env) (L : List Nat) (X : Nat → Prop) : Env := ⟨E.S, fun i => E.b (L.getD i 0), fun i => E.base (L.getD i 0), fun i => E.sz (L.getD i 0), X, fun i => ∃ id, L[i]? = some id ∧ E.D id, E.yb⟩
/-- cells as they are, where they name no object -/
def plain : DV → Bool
  | .int _ _ | .bool _ | .str _ | .nil | .nilp | .nilf | .nili => true
  | _ => false
theorem plain_ok {E E' : Env} {w w' : World} {d : DV} {v : Value} (h : VR w E d v) (hp : plain d = true) : VR w' E' d v := by
  cases h <;> first | (simp [plain] at hp; done) | constructor
section
variable {E : Env} {w : World} {L : List Nat} {X : Nat → Prop}
theorem ren_getD {i id : Nat} (h : L[i]? = some id) : L.getD i 0 = id := by simp [List.getD, h]
theorem ren0_ok (hX : ∀ (i id : Nat), L[i]? = some id → E.D id → (X i → E.X id)) {d d' : DV} {v : Value} (h : VR w E d v) (hr : ren0 L d = some d') : VR w (E.ren L X) d' v := by
  unfold ren0 at hr
  split at hr
  · split at hr
    · rename_i k hk
      cases hr
      have hk := posN_ok hk
      obtain ⟨A, c', rfl, h1, h2, h3, h4, h5, h6⟩ := h.of_sl
      refine .sl _ k _ _ _ _ A c' ⟨_, hk, h1⟩ h2 h3 h4 (fun hx => h5 (hX k _ hk h1 hx)) fun hc => ?_
      obtain ⟨h7, h8⟩ := h6 hc
      simp only [Env.ren, ren_getD hk]
      exact ⟨h7, h8⟩
    · cases hr
  · rename_i id off
    split at hr
    · rename_i k hk
      cases hr
      have hk := posN_ok hk
      obtain ⟨rfl, h1⟩ := h.of_ptr
      have : VR w (E.ren L X) (.ptr k off) (.pointer (some ⟨(E.ren L X).b k, (E.ren L X).base k + off, none⟩)) := .ptr _ k _ ⟨_, hk, h1⟩
      simpa only [Env.ren, ren_getD hk] using this
    · cases hr
  · cases hr; cases h; constructor
  · cases hr; cases h; constructor
  · cases hr; cases h; constructor
  · cases hr; cases h; constructor
  · cases hr
    exact flat1_ok (d := .list _ _) h rfl fun _ h => h
  · cases hr; cases h; constructor
  · cases hr; cases h; constructor
  · cases hr; cases h; constructor
  · cases hr
    obtain ⟨b, D, rfl, h1⟩ := h.of_yld
    exact .yld _ _ b D h1
  · cases hr
theorem rens_ok {q : DV → Option DV} {E' : Env} (hq : ∀ {d d' v}, VR w E d v → q d = some d' → VR w E' d' v) : ∀ {ds ds' : List DV} {vs : List Value}, VRs E w ds vs → rens q ds = some ds' → VRs E' w ds' vs
  | [], ds', vs, h, hr => by
    cases hr
    rw [h.unnil]
    exact .nil _ _
  | d :: ds, ds', vs, h, hr => by
    obtain ⟨v, vs', rfl, h1, h2⟩ := h.uncons
    simp only [rens] at hr
    split at hr
    · rename_i h3 h4
      cases hr
      exact .cons (hq h1 h3) (rens_ok hq h2 h4)
    · cases hr
theorem ren1_ok (hX : ∀ (i id : Nat), L[i]? = some id → E.D id → (X i → E.X id)) {d d' : DV} {v : Value} (h : VR w E d v) (hr : ren1 L d = some d') : VR w (E.ren L X) d' v := by
  unfold ren1 at hr
  split at hr
  · split at hr
    · rename_i hk
      cases hr
      obtain ⟨us, vs, rfl, h1, h2⟩ := h.of_fn
      rw [h1.unnil]
      have h3 := rens_ok (fun h hr => ren0_ok hX h hr) h2 hk
      exact .fn _ _ [] _ [] vs rfl h3.1 (fun j d v h => by simp at h) h3.2
    · cases hr
  · exact ren0_ok hX h hr
theorem ren2_ok (hX : ∀ (i id : Nat), L[i]? = some id → E.D id → (X i → E.X id)) {d d' : DV} {v : Value} (h : VR w E d v) (hr : ren2 L d = some d') : VR w (E.ren L X) d' v := by
  unfold ren2 at hr
  split at hr
  · split at hr
    · rename_i hk
      cases hr
      obtain ⟨vs, rfl, hvs⟩ := h.of_agg
      exact (rens_ok (fun h hr => ren1_ok hX h hr) hvs hk).agg
    · cases hr
  · exact ren1_ok hX h hr
theorem ren3_ok (hX : ∀ (i id : Nat), L[i]? = some id → E.D id → (X i → E.X id)) {d d' : DV} {v : Value} (h : VR w E d v) (hr : ren3 L d = some d') : VR w (E.ren L X) d' v := by
  unfold ren3 at hr
  split at hr
  · split at hr
    · rename_i hk
      cases hr
      obtain ⟨vs, rfl, hvs⟩ := h.of_tuple
      exact (rens_ok (fun h hr => ren2_ok hX h hr) hvs hk).tuple
    · cases hr
  · exact ren2_ok hX h hr
end
/-- an object as it is seen when those before it are forgotten -/
def oldOb (o : Ob) : Ob := match o.k with
  | 3 => ⟨1, 0, o.t, o.cs⟩
  | k => ⟨k, 0, o.t, o.cs⟩
def renOb (hp : Hp) (id : Nat) : Option Ob := match hp.get id with
  | some o => match Nat.beq o.k 2 with
    | true => none
    | false => some (oldOb o)
  | none => none
/-- the objects L, the first one first; their cells name none -/
def renObs (hp : Hp) : List Nat → Option (List Ob)
  | [] => some []
  | id :: l => match renOb hp id, renObs hp l with
    | some o, some os => some (o :: os)
    | _, _ => none
def nodupN : List Nat → Bool
  | [] => true
  | a :: l => (match posN a l with
    | some _ => false
    | none => true) && nodupN l
theorem posN_none {a : Nat} : ∀ {l : List Nat}, posN a l = none → a ∉ l
  | [], _ => by simp
  | b :: l, h => by
    simp only [posN] at h
    split at h
    · cases h
    · rename_i hb
      split at h
      · cases h
      · rename_i hn
        have : b ≠ a := fun e => by rw [beqT e] at hb; cases hb
        simp [posN_none hn, Ne.symm this]
theorem nodupN_ok : ∀ {l : List Nat}, nodupN l = true → l.Nodup
  | [], _ => List.nodup_nil
  | a :: l, h => by
    simp only [nodupN, Bool.and_eq_true] at h
    obtain ⟨h1, h2⟩ := h
    split at h1
    · cases h1
    · rename_i hp
      exact List.nodup_cons.2 ⟨posN_none hp, nodupN_ok h2⟩
theorem renObs_ok {hp : Hp} : ∀ {L : List Nat} {os : List Ob}, renObs hp L = some os → os.length = L.length ∧ ∀ (i id : Nat), L[i]? = some id → ∃ o, hp.get id = some o ∧ o.k ≠ 2 ∧ os[i]? = some (oldOb o)
  | [], os, h => by cases h; exact ⟨rfl, fun i id h => by simp at h⟩
  | id :: l, os, h => by
    simp only [renObs] at h
    split at h
    · rename_i o1 os1 h1 h2
      cases h
      obtain ⟨h3, h4⟩ := renObs_ok h2
      refine ⟨by simp [h3], fun i id' hi => ?_⟩
      cases i with
      | zero =>
        simp at hi
        subst hi
        unfold renOb at h1
        split at h1
        · rename_i o ho
          split at h1
          · cases h1
          · rename_i hk
            cases h1
            refine ⟨o, ho, fun e => ?_, rfl⟩
            rw [beqT e] at hk
            cases hk
        · cases h1
      | succ i => simpa using h4 i id' (by simpa using hi)
    · cases h
/-- slots, with objects numbered anew -/
def renS (L : List Nat) : Slots → Slots
  | .lf => .lf
  | .nd u l r => .nd (match u with
    | some d => ren3 L d
    | none => none) (renS L l) (renS L r)
theorem look_renS {L : List Nat} {d' : DV} : ∀ {s : Slots} {t : Nat}, look (renS L s) t = some d' → ∃ d, look s t = some d ∧ ren3 L d = some d'
  | .lf, t, h => by
    unfold renS at h
    cases h
  | .nd u l r, t, h => by
    unfold renS at h
    rw [look_nd] at h ⊢
    by_cases a : t = 0
    · rw [if_pos a] at h ⊢
      cases u with
      | none => cases h
      | some d => exact ⟨d, rfl, h⟩
    · rw [if_neg a] at h ⊢
      by_cases b : t % 2 = 1
      · rw [if_pos b] at h ⊢
        exact look_renS h
      · rw [if_neg b] at h ⊢
        exact look_renS h
def ltIds (n : Nat) : List LS → Bool
  | [] => true
  | R :: l => Nat.blt R.id n && ltIds n l
def renLs (L : List Nat) : List LS → List LS
  | [] => []
  | R :: l => { R with sl := renS L R.sl } :: renLs L l
theorem ltIds_ok {n id : Nat} : ∀ {l : List LS}, ltIds n l = true → (lfind id l).isSome = true → id < n
  | [], _, h => by cases h
  | R :: l, h, hs => by
    simp only [ltIds, Bool.and_eq_true] at h
    simp only [lfind] at hs
    split at hs
    · rename_i hb
      have := Nat.eq_of_beq_eq_true hb
      have h1 : R.id < n := Nat.le_of_ble_eq_true h.1
      omega
    · exact ltIds_ok h.2 hs
theorem lfind_renLs (L : List Nat) (id : Nat) : ∀ l, lfind id (renLs L l) = (lfind id l).map fun R => { R with sl := renS L R.sl }
  | [] => rfl
  | R :: l => by
    simp only [renLs, lfind]
    split
    · rfl
    · exact lfind_renLs L id l
/-- the heap of the objects L alone -/
def renH (L : List Nat) (hp : Hp) : Option Hp := match nodupN L && ltIds L.length hp.ls, renObs hp L with
  | true, some os => some ⟨L.length, os.reverse, renLs L hp.ls⟩
  | _, _ => none
def plains : List DV → Bool
  | [] => true
  | d :: l => plain d && plains l
theorem plains_iff (l : List DV) : plains l = true ↔ ∀ d ∈ l, plain d = true := by
  induction l with
  | nil => simp [plains]
  | cons x l ih => simp [plains, ih]
/-- no cell of the heap names an object -/
def Plain (hp : Hp) : Prop := ∀ id o, hp.get id = some o → ∀ d ∈ o.cs, plain d = true
/-- nor does any of the objects L -/
def PlainL (L : List Nat) (hp : Hp) : Prop := ∀ id o, id ∈ L → hp.get id = some o → ∀ d ∈ o.cs, plain d = true
theorem Plain.toL {hp : Hp} (h : Plain hp) (L : List Nat) : PlainL L hp := fun id o _ hg => h id o hg
theorem oldOb_cs (o : Ob) : (oldOb o).cs = o.cs := by unfold oldOb; split <;> rfl
theorem oldOb_t (o : Ob) : (oldOb o).t = o.t := by unfold oldOb; split <;> rfl
theorem oldOb_k (o : Ob) : (oldOb o).k = if o.k = 3 then 1 else o.k := by
  unfold oldOb
  split
  · rename_i h; simp [h]
  · rename_i h; rw [if_neg h]
theorem hs_ren {W0 : World} {S0 : Nat → Prop} {E : Env} {hp hp' : Hp} {w : World} {L : List Nat} (hs : HS W0 0 S0 E hp w) (hpl : PlainL L hp) (hr : renH L hp = some hp') : HS W0 0 S0 (E.ren L fun i => ∃ id, L[i]? = some id ∧ E.X id) hp' w := by
  unfold renH at hr
  split at hr
  · rename_i os hnd hos
    cases hr
    rw [Bool.and_eq_true] at hnd
    obtain ⟨hnd, hli⟩ := hnd
    obtain ⟨hlen, hob⟩ := renObs_ok hos
    have hget : ∀ (i id : Nat), L[i]? = some id → ∃ o, hp.get id = some o ∧ o.k ≠ 2 ∧ (⟨L.length, os.reverse, renLs L hp.ls⟩ : Hp).get i = some (oldOb o) := fun i id hi => by
      obtain ⟨o, h1, h2, h3⟩ := hob i id hi
      refine ⟨o, h1, h2, ?_⟩
      have hlt := (List.getElem?_eq_some_iff.1 hi).1
      have hn : (⟨L.length, os.reverse, renLs L hp.ls⟩ : Hp).get i = os[i]? := by
        rw [Hp.get_eq]
        show (if i < L.length then os.reverse[L.length - 1 - i]? else none) = _
        rw [if_pos hlt, List.getElem?_reverse (by omega), show os.length - 1 - (L.length - 1 - i) = i by omega]
      rw [hn]
      exact h3
    refine ⟨hs.bel, ?_, ?_, fun id _ h => absurd h (by omega), ?_, hs.ro, hs.olds, Nat.zero_le _, ?_⟩
    · rintro i ⟨id, hi, hd⟩
      obtain ⟨o, h1, h2, h3⟩ := hget i id hi
      obtain ⟨o', h1', hok⟩ := hs.ob id hd
      rw [h1] at h1'
      cases h1'
      refine ⟨_, h3, ?_⟩
      obtain ⟨k0, k1, vs, k2, k3, k4, k5⟩ := hok
      refine ⟨?_, by rw [oldOb_cs]; exact k1, vs, ?_, ?_, ?_, ?_⟩
      · rw [oldOb_k]
        constructor
        · intro h
          refine ⟨id, hi, k0.1 ?_⟩
          split at h
          · cases h
          · exact h
        · rintro ⟨id', hi', hx⟩
          rw [hi] at hi'
          cases hi'
          have := k0.2 hx
          rw [this]
          rfl
      · simp only [Env.ren, ren_getD hi, oldOb_t]; exact k2
      · simp only [Env.ren, ren_getD hi]; exact k3
      · simp only [Env.ren, ren_getD hi, oldOb_cs]; exact k4
      · simp only [Env.ren, ren_getD hi, oldOb_cs]
        exact ⟨k5.1, fun j d v hj hv => plain_ok (k5.2 j d v hj hv) (hpl _ _ (List.mem_of_getElem? hi) h1 d (List.mem_of_getElem? hj))⟩
    · rintro i ⟨id, hi, hd⟩ _
      obtain ⟨h1, h2⟩ := hs.own id hd (Nat.zero_le _)
      simp only [Env.ren, ren_getD hi]
      exact ⟨h1, h2⟩
    · rintro i j oi oj ⟨id, hi, hd⟩ ⟨jd, hj, hdj⟩ hne _ hoi hoj hk he
      obtain ⟨o1, p1, p2, p3⟩ := hget i id hi
      obtain ⟨o2, q1, q2, q3⟩ := hget j jd hj
      rw [p3] at hoi
      rw [q3] at hoj
      cases hoi
      cases hoj
      simp only [Env.ren, ren_getD hi, ren_getD hj] at he
      have hid : id ≠ jd := fun e => by
        subst e
        exact hne ((List.getElem?_inj (List.getElem?_eq_some_iff.1 hi).1 (nodupN_ok hnd)).1 (hi.trans hj.symm))
      exact absurd (hs.inj id jd o1 o2 hd hdj hid (Nat.zero_le _) p1 q1 p2 he).1 q2
    · refine ⟨fun id R hR => ?_, hs.ys.inj, fun id x hx => ?_⟩
      · rw [lfind_renLs] at hR
        cases hR0 : lfind id hp.ls with
        | none => rw [hR0] at hR; cases hR
        | some R0 =>
          rw [hR0] at hR
          cases hR
          obtain ⟨b2, D2, r2, p1, p2, p3, p4, p5⟩ := hs.ys.ok id R0 hR0
          refine ⟨b2, D2, r2, p1, p2, p3, p4, p5.1, p5.2.1, p5.2.2.1, p5.2.2.2.1, p5.2.2.2.2.1, p5.2.2.2.2.2.1, p5.2.2.2.2.2.2.1, fun t d ht => ?_⟩
          obtain ⟨d0, e1, e2⟩ := look_renS ht
          have := ren3_ok (E := E.cut R0.id) (L := L) (X := fun i => ∃ id, L[i]? = some id ∧ E.X id) (fun i id hi _ ⟨id', hi', hx⟩ => by
            rw [hi] at hi'
            cases hi'
            exact hx) (p5.2.2.2.2.2.2.2 t d0 e1) e2
          exact this
      · have := hs.ys.lt id x hx
        exact ⟨ltIds_ok hli this.2, by rw [lfind_renLs, Option.isSome_map]; exact this.2⟩
  · cases hr
theorem hs_ren_X {W0 : World} {S0 : Nat → Prop} {E : Env} {hp : Hp} {w : World} (_hs : HS W0 0 S0 E hp w) (L : List Nat) : ∀ (i id : Nat), L[i]? = some id → E.D id → ((∃ id, L[i]? = some id ∧ E.X id) → E.X id) := fun i id hi _ ⟨id', hi', hx⟩ => by
  rw [hi] at hi'
  cases hi'
  exact hx
theorem renH_dm {L : List Nat} {hp hp' : Hp} (hr : renH L hp = some hp') (i : Nat) : (lfind i hp'.ls).isSome = (lfind i hp.ls).isSome := by
  unfold renH at hr
  split at hr
  · cases hr
    show (lfind i (renLs L hp.ls)).isSome = _
    rw [lfind_renLs, Option.isSome_map]
  · cases hr
theorem seenV_ren {L : List Nat} {d d' : DV} {hp hp' : Hp} (hpl : PlainL L hp) (hr : renH L hp = some hp') (hd : ren3 L d = some d') : SeenV d hp d' hp' := fun _ _ E _ _ hs hv =>
  ⟨E.ren L fun i => ∃ id, L[i]? = some id ∧ E.X id, .up (E := E) (E' := E.ren L fun i => ∃ id, L[i]? = some id ∧ E.X id) (fun _ h => h) rfl (renH_dm hr) _, hs_ren hs hpl hr, ren3_ok (hs_ren_X hs L) hv hd⟩
theorem seen_ren {L : List Nat} {sl : Slots} {hp hp' : Hp} (hpl : PlainL L hp) (hr : renH L hp = some hp') : Seen sl hp (renS L sl) hp' := fun _ _ _ E _ _ _ hs =>
  have g : Gon E hp _ (E.ren L fun i => ∃ id, L[i]? = some id ∧ E.X id) hp' _ := .up (E := E) (E' := E.ren L fun i => ∃ id, L[i]? = some id ∧ E.X id) (fun _ h => h) rfl (renH_dm hr) _
  ⟨E.ren L _, g, hs_ren hs.hs hpl hr, hs.dfr.gon g, hs.ro.gon g, hs.size, fun t d ht => by
    obtain ⟨d0, h1, h2⟩ := look_renS ht
    exact ren3_ok (hs_ren_X hs.hs L) (hs.sl t d0 h1) h2⟩
end
end Go.Proofs.Ytoghpmeoekbcbaa
