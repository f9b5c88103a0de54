/- What a call answers in a heap of its caller's: said of a heap, used in it. No function of the program is named here. -/
import Derived.Test.YtmnpkgonanpgfaaMK
namespace Go.Proofs.Ytmnpkgonanpgfaa
open Go.RowKit

noncomputable section
variable {P : Program} {T : Tab} {F : FTab} {C : ConF} {K : Nat}
/-- the function f, called with args in the heap hp, along the path p: its answer, the objects then, what is to be shown -/
def zansK (K : Nat) (P : Program) (T : Tab) (F : FTab) (C : ConF) (f : FuncId) (args : List DV) (hp : Hp) (p : Yath) : Option (DV × Hp × List Prop) := match F f with
  | some fn => match Nat.ble args.length fn.nt with
    | true => zRes T fn.res (zzK K P T F C 1000 fn.ks 1000 fn.body (initS fn.nt args) hp p)
    | false => none
  | none => none
theorem zansK_ok (hT : TabOk P T) (hmix : P.follows .mixedOrders = true) (hF : FunOk P T F) (hC : ConOk P C) {f : FuncId} {args : List DV} {p : Yath} {d : DV} {hp0 hp : Hp} {cs : List Prop} (h : zansK K P T F C f args hp0 p = some (d, hp, cs)) (hc : AskedP cs) : AnsK K P f args hp0 d hp := by
  unfold zansK at h
  split at h
  · rename_i fn hfn
    split at h
    · rename_i hl
      unfold zRes at h
      split at h
      · cases h
      · rename_i e sl hp1 p1 cs1 hne hz
        split at h
        · rename_i ds hds
          cases h
          exact ansK_of_goes hT hF hfn hl (zzK_ok hT hmix hF hC 1000 hz hc) hne hds
        · cases h
      · cases h
    · cases h
  · cases h
/-- the answer seen otherwise, the objects L being kept, the first K among them at their places -/
theorem AnsK.melt {f : FuncId} {args : List DV} {h0 hp hp' : Hp} {d d' : DV} {L fl : List Nat} (h : AnsK K P f args h0 d hp) (hK : pre0 K 0 L = true) (hr : renHC L fl hp = some hp') (hfl : FlatIn fl hp) (hd : Mlt L hp d d') : AnsK K P f args h0 d' hp' := by
  have hm := renHC_melt hfl hr
  refine ⟨h.1, fun W0 S0 E w vs hs hv => (h.2 W0 S0 E w vs hs hv).mono ?_⟩
  rintro e w' ⟨E', v, rfl, hg, hh, hvr⟩
  refine ⟨meltE E' L hp, v, rfl, hg.trans ⟨gon_melt hm E' w', fun _ => ⟨pre0_le hK hr, kept_melt hK⟩⟩, hs_melt hh hm, mlt_ok hh hd hvr⟩
def zkpK (K : Nat) (L fl : List Nat) : Option (DV × Hp × List Prop) → Option (DV × Hp × List Prop)
  | some (d, hp, cs) => match pre0 K 0 L, ren3 L d, renHC L fl hp with
    | true, some d', some hp' => some (d', hp', FlatIn fl hp :: cs)
    | _, _, _ => none
  | none => none
theorem zkpK_ok (hT : TabOk P T) (hmix : P.follows .mixedOrders = true) (hF : FunOk P T F) (hC : ConOk P C) {f : FuncId} {args : List DV} {p : Yath} {L fl : List Nat} {d : DV} {hp0 hp : Hp} {cs : List Prop} (h : zkpK K L fl (zansK K P T F C f args hp0 p) = some (d, hp, cs)) (hc : AskedP cs) : AnsK K P f args hp0 d hp := by
  unfold zkpK at h
  split at h
  · rename_i h1
    split at h
    · rename_i h2 h3 h4
      cases h
      exact (zansK_ok hT hmix hF hC h1 fun x hx => hc x (List.mem_cons_of_mem _ hx)).melt h2 h4 (hc _ (List.mem_cons_self ..)) (ren3_mlt h3)
    · cases h
  · cases h
theorem AnsK.ansH {f : FuncId} {args : List DV} {h0 hp : Hp} {d : DV} (h : AnsK K P f args h0 d hp) : AnsH P f args h0 d hp :=
  ⟨h.1, fun W0 S0 E w vs hs hv => (h.2 W0 S0 E w vs hs hv).mono fun _ _ ⟨E', v, e1, e2, e3, e4⟩ => ⟨E', v, e1, e2.g, e3, e4⟩⟩
theorem GoesK.goes {ks : List (Nat × Nat)} {c : Code} {sl sl' : Slots} {hp hp' : Hp} {e : Ex} (h : GoesK K P T ks c sl hp e sl' hp') : Goes P T ks c sl hp e sl' hp' := fun N hN fm W0 S0 E a w Q hs hQ => h N hN fm W0 S0 E a w Q hs fun E' a' w' hg hs' => hQ E' a' w' hg.g hs'
/-- a contract in heaps of the caller's, no object of which is lost -/
def heapC {α : Type} (f0 : FuncId) (A : α → List DV) (H : α → Hp) (B : α → DV × Hp) : ConF := fun f args hp => match Nat.beq f f0 with
  | true => @dite _ (∃ x, args = A x ∧ hp = H x) (Classical.propDecidable _) (fun h => some ((B h.choose).1, (B h.choose).2, some 0)) (fun _ => none)
  | false => none
theorem heapC_at {α : Type} {f0 : FuncId} {A : α → List DV} {H : α → Hp} {B : α → DV × Hp} (hinj : ∀ x y, A x = A y → H x = H y → B x = B y) (x : α) : heapC f0 A H B f0 (A x) (H x) = some ((B x).1, (B x).2, some 0) := by
  have hex : ∃ y, A x = A y ∧ H x = H y := ⟨x, rfl, rfl⟩
  have hB : B hex.choose = B x := hinj _ _ hex.choose_spec.1.symm hex.choose_spec.2.symm
  have hb : Nat.beq f0 f0 = true := beqT rfl
  unfold heapC
  rw [hb]
  simp only
  rw [dif_pos hex, hB]
theorem heapC_other {α : Type} {f0 f : FuncId} {A : α → List DV} {H : α → Hp} {B : α → DV × Hp} {args : List DV} {hp : Hp} (h : Nat.beq f f0 = false) : heapC f0 A H B f args hp = none := by
  unfold heapC
  rw [h]
theorem heapC_ok {α : Type} {f0 : FuncId} {A : α → List DV} {H : α → Hp} {B : α → DV × Hp} (h : ∀ x, AnsK (H x).n P f0 (A x) (H x) (B x).1 (B x).2) (hn : ∀ x, (H x).n ≤ (B x).2.n) (hls : ∀ x i, (lfind i (B x).2.ls).map LS.stat = (lfind i (H x).ls).map LS.stat) : ConOk P (heapC f0 A H B) := by
  intro f args hp r hp' mu heq
  unfold heapC at heq
  split at heq
  · rename_i hb
    have hb := Nat.eq_of_beq_eq_true hb
    subst hb
    by_cases hex : ∃ x, args = A x ∧ hp = H x
    · rw [dif_pos hex] at heq
      cases heq
      have hA := h hex.choose
      have hn := hn hex.choose
      have hls := hls hex.choose
      obtain ⟨ha, hh⟩ := hex.choose_spec
      generalize hex.choose = x at *
      subst ha hh
      have hext : Ext 0 (H x) (B x).2 := ⟨hn, fun id hid => absurd hid (Nat.not_lt_zero _), hls, fun i hi => absurd hi (Nat.not_lt_zero _)⟩
      refine ⟨hA.1, fun base hm _ => ?_, fun W0 base S0 E w vs hm hs hv => ?_⟩
      · obtain rfl : base = 0 := Nat.le_zero.1 hm
        exact hext
      · obtain rfl : base = 0 := Nat.le_zero.1 hm
        refine (hA.2 W0 S0 E w vs hs hv).mono ?_
        rintro e w' ⟨E', v, rfl, hg, hh, hr⟩
        obtain ⟨_, hk⟩ := hg.k (Nat.le_refl _)
        refine ⟨E', v, rfl, ⟨⟨hg.g.later.S, fun id hd => ?_, hg.g.later.cell, fun id x hx => by rw [hg.g.yb]; exact hx⟩, hh, hext, fun id hid hd => (hk id hid).1.1 hd, hg.g.oth, hg.g.yb⟩, hr⟩
        obtain ⟨o, ho, _⟩ := hs.ob id hd
        have := hk id (Hp.get_lt ho)
        exact ⟨this.1.2 hd, this.2 hd⟩
    · rw [dif_neg hex] at heq
      cases heq
  · cases heq
/-- a place is laid where no object is -/
theorem seenK_pad {sl : Slots} {n : Nat} {l : List Ob} {ls : List LS} (o : Ob) (_hl : l.length = n) : SeenK K sl ⟨n, l, ls⟩ sl ⟨n + 1, o :: l, ls⟩ := fun _ _ _ E _ _ w hs => by
  have hD : ∀ id, E.D id → id < n := fun id hd => by
    obtain ⟨o', ho, _⟩ := hs.hs.ob id hd
    exact Hp.get_lt ho
  have hget : ∀ id, id < n → (⟨n + 1, o :: l, ls⟩ : Hp).get id = (⟨n, l, ls⟩ : Hp).get id := fun id hid => by
    rw [Hp.get_eq, Hp.get_eq]
    show (if id < n + 1 then (o :: l)[n + 1 - 1 - id]? else none) = if id < n then l[n - 1 - id]? else none
    rw [if_pos (by omega), if_pos hid, show n + 1 - 1 - id = (n - 1 - id) + 1 by omega, List.getElem?_cons_succ]
  have hdm : ∀ i, (lfind i (⟨n + 1, o :: l, ls⟩ : Hp).ls).isSome = (lfind i (⟨n, l, ls⟩ : Hp).ls).isSome := fun _ => rfl
  have hg : Gon E ⟨n, l, ls⟩ w E ⟨n + 1, o :: l, ls⟩ w := ⟨Later.refl _ _, Oth.refl _, rfl, hdm⟩
  refine ⟨E, ⟨hg, fun hk => ⟨Nat.le_succ_of_le hk, .refl _ _⟩⟩, ⟨hs.hs.bel, fun id hd => ?_, hs.hs.own, hs.hs.old, fun i j oi oj hi hj hne hb hoi hoj => ?_, hs.hs.ro, hs.hs.olds, Nat.le_succ_of_le hs.hs.le, ⟨hs.hs.ys.ok, hs.hs.ys.inj, fun id x hx => ?_, hs.hs.gl⟩⟩, hs.dfr.gon hg, hs.ro.gon hg, hs.size, hs.sl⟩
  · rw [hget id (hD id hd)]
    exact hs.hs.ob id hd
  · rw [hget i (hD i hi)] at hoi
    rw [hget j (hD j hj)] at hoj
    exact hs.hs.inj i j oi oj hi hj hne hb hoi hoj
  · obtain ⟨h1, h2⟩ := hs.hs.ys.lt id x hx
    exact ⟨Nat.lt_succ_of_lt h1, h2⟩
theorem vrs_ren {L : List Nat} {hp : Hp} {W0 : World} {base : Nat} {S0 : Nat → Prop} {E : Env} {w : World} (hs : HS W0 base S0 E hp w) : ∀ {args args0 : List DV} {vs : List Value}, rens (ren3 L) args = some args0 → VRs E w args vs → VRs (meltE E L hp) w args0 vs
  | [], args0, vs, h, hv => by
    cases h
    rw [hv.unnil]
    exact .nil _ _
  | a :: args, args0, vs, h, hv => by
    simp only [rens] at h
    split at h
    · rename_i h1 h2
      cases h
      obtain ⟨v, vs', rfl, k1, k2⟩ := hv.uncons
      exact .cons (mlt_ok hs (ren3_mlt h1) k1) (vrs_ren hs h2 k2)
    · cases h
/-- the callee needs the objects L alone -/
theorem AnsH.pre {f : FuncId} {args args0 : List DV} {hp1 hp0 hp' : Hp} {d : DV} {L fl : List Nat} (h : AnsH P f args0 hp0 d hp') (hr : renHC L fl hp1 = some hp0) (ha : rens (ren3 L) args = some args0) (hfl : FlatIn fl hp1) : AnsH P f args hp1 d hp' := by
  have hm := renHC_melt hfl hr
  refine ⟨h.1, fun W0 S0 E w vs hs hv => (h.2 W0 S0 (meltE E L hp1) w vs (hs_melt hs hm) (vrs_ren hs ha hv)).mono ?_⟩
  rintro e w' ⟨E', v, rfl, hg, hh, hvr⟩
  exact ⟨E', v, rfl, (gon_melt hm E w).trans hg, hh, hvr⟩
theorem AnsH.melt {f : FuncId} {args : List DV} {h0 hp hp' : Hp} {d d' : DV} {L fl : List Nat} (h : AnsH P f args h0 d hp) (hr : renHC L fl hp = some hp') (hfl : FlatIn fl hp) (hd : Mlt L hp d d') : AnsH P f args h0 d' hp' := by
  have hm := renHC_melt hfl hr
  refine ⟨h.1, fun W0 S0 E w vs hs hv => (h.2 W0 S0 E w vs hs hv).mono ?_⟩
  rintro e w' ⟨E', v, rfl, hg, hh, hvr⟩
  exact ⟨meltE E' L hp, v, rfl, hg.trans (gon_melt hm E' w'), hs_melt hh hm, mlt_ok hh hd hvr⟩
def zansH (P : Program) (T : Tab) (F : FTab) (C : ConF) (f : FuncId) (args : List DV) (hp : Hp) (p : Yath) : Option (DV × Hp × List Prop) := match F f with
  | some fn => match Nat.ble args.length fn.nt with
    | true => zRes T fn.res (zz P T F C 1000 fn.ks 1000 fn.body (initS fn.nt args) hp p)
    | false => none
  | none => none
theorem zansH_ok (hT : TabOk P T) (hmix : P.follows .mixedOrders = true) (hF : FunOk P T F) (hC : ConOk P C) {f : FuncId} {args : List DV} {p : Yath} {d : DV} {hp0 hp : Hp} {cs : List Prop} (h : zansH P T F C f args hp0 p = some (d, hp, cs)) (hc : AskedP cs) : AnsH P f args hp0 d hp := by
  unfold zansH at h
  split at h
  · rename_i fn hfn
    split at h
    · rename_i hl
      unfold zRes at h
      split at h
      · cases h
      · rename_i e sl hp1 p1 cs1 hne hz
        split at h
        · rename_i ds hds
          cases h
          exact ansH_of_goes hT hF hfn hl (zz_ok hT hmix hF hC 1000 hz hc) hne hds
        · cases h
      · cases h
    · cases h
  · cases h
def zkpH (L fl : List Nat) : Option (DV × Hp × List Prop) → Option (DV × Hp × List Prop)
  | some (d, hp, cs) => match ren3 L d, renHC L fl hp with
    | some d', some hp' => some (d', hp', FlatIn fl hp :: cs)
    | _, _ => none
  | none => none
theorem zkpH_ok (hT : TabOk P T) (hmix : P.follows .mixedOrders = true) (hF : FunOk P T F) (hC : ConOk P C) {f : FuncId} {args : List DV} {p : Yath} {L fl : List Nat} {d : DV} {hp0 hp : Hp} {cs : List Prop} (h : zkpH L fl (zansH P T F C f args hp0 p) = some (d, hp, cs)) (hc : AskedP cs) : AnsH P f args hp0 d hp := by
  unfold zkpH at h
  split at h
  · rename_i h1
    split at h
    · rename_i h3 h4
      cases h
      exact (zansH_ok hT hmix hF hC h1 fun x hx => hc x (List.mem_cons_of_mem _ hx)).melt h4 (hc _ (List.mem_cons_self ..)) (ren3_mlt h3)
    · cases h
  · cases h
theorem SeenK.seen {sl sl' : Slots} {hp hp' : Hp} (h : SeenK K sl hp sl' hp') : Seen sl hp sl' hp' := fun fm W0 S0 E N a w hs => by
  obtain ⟨E', h1, h2⟩ := h fm W0 S0 E N a w hs
  exact ⟨E', h1.g, h2⟩
end
end Go.Proofs.Ytmnpkgonanpgfaa
