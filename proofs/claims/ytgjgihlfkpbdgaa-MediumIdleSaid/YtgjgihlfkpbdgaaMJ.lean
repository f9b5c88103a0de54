/- Objects numbered anew, also where cells and records of loops name them. No function of the program is named here. -/
import Derived.Test.YtgjgihlfkpbdgaaMI
namespace Go.Proofs.Ytgjgihlfkpbdgaa
open Go.RowKit

noncomputable section
variable {P : Program} {T : Tab} {F : FTab} {C : ConF}
theorem rens_at {q : DV → Option DV} : ∀ {ds es : List DV}, rens q ds = some es → ds.length = es.length ∧ ∀ (j : Nat) (d e : DV), ds[j]? = some d → es[j]? = some e → q d = some e
  | [], es, h => by
    cases h
    exact ⟨rfl, fun j d e h => by simp at h⟩
  | d :: ds, es, h => by
    simp only [rens] at h
    split at h
    · rename_i d' l' h1 h2
      cases h
      obtain ⟨k1, k2⟩ := rens_at h2
      refine ⟨by simp [k1], fun j x e hx he => ?_⟩
      cases j with
      | zero =>
        simp at hx he
        subst hx he
        exact h1
      | succ j => exact k2 j x e (by simpa using hx) (by simpa using he)
    · cases h
section
variable {L : List Nat} {hp : Hp}
theorem ren0_mlt {d e : DV} (h : ren0 L d = some e) : Mlt L hp d e := by
  unfold ren0 at h
  split at h
  · split at h
    · rename_i hk
      cases h
      exact .sl _ _ _ _ _ _ hk
    · cases h
  · split at h
    · rename_i hk
      cases h
      exact .ptr _ _ _ hk
    · cases h
  all_goals first | (cases h; exact .frz _ _ (.flat _ rfl)) | (cases h; exact .yld _) | (cases h; done)
theorem ren1_mlt {d e : DV} (h : ren1 L d = some e) : Mlt L hp d e := by
  unfold ren1 at h
  split at h
  · split at h
    · rename_i h0 h1
      cases h
      obtain ⟨k1, k2⟩ := rens_at h1
      obtain ⟨k3, k4⟩ := rens_at h0
      exact .fn _ _ _ _ _ k3 k1 (fun j d e hd he => ren0_mlt (k4 j d e hd he)) fun j d e hd he => ren0_mlt (k2 j d e hd he)
    · cases h
  · exact ren0_mlt h
theorem ren2_mlt {d e : DV} (h : ren2 L d = some e) : Mlt L hp d e := by
  unfold ren2 at h
  split at h
  · split at h
    · rename_i h1
      cases h
      obtain ⟨k1, k2⟩ := rens_at h1
      exact .agg _ _ k1 fun j d e hd he => ren1_mlt (k2 j d e hd he)
    · cases h
  · exact ren1_mlt h
theorem ren3_mlt {d e : DV} (h : ren3 L d = some e) : Mlt L hp d e := by
  unfold ren3 at h
  split at h
  · split at h
    · rename_i h1
      cases h
      obtain ⟨k1, k2⟩ := rens_at h1
      exact .tuple _ _ k1 fun j d e hd he => ren2_mlt (k2 j d e hd he)
    · cases h
  · exact ren2_mlt h
end
def hasN (a : Nat) : List Nat → Bool
  | [] => false
  | b :: l => match Nat.beq b a with
    | true => true
    | false => hasN a l
theorem hasN_ok {a : Nat} : ∀ {l : List Nat}, hasN a l = true → a ∈ l
  | [], h => by cases h
  | b :: l, h => by
    simp only [hasN] at h
    split at h
    · rename_i hb
      have := Nat.eq_of_beq_eq_true hb
      subst this
      exact List.mem_cons_self ..
    · exact List.mem_cons_of_mem _ (hasN_ok h)
/-- an object's cells, seen anew; those of fl as they are -/
def renC (L fl : List Nat) (hp : Hp) (id : Nat) : Option Ob := match hp.get id with
  | some o => match Nat.beq o.k 2, hasN id fl with
    | true, _ => none
    | false, true => some ⟨(oldOb o).k, (oldOb o).r, o.t, o.cs⟩
    | false, false => match rens (ren0 L) o.cs with
      | some cs => match scals cs with
        | true => some ⟨(oldOb o).k, (oldOb o).r, o.t, cs⟩
        | false => none
      | none => none
  | none => none
def renCs (L fl : List Nat) (hp : Hp) : List Nat → Option (List Ob)
  | [] => some []
  | id :: l => match renC L fl hp id, renCs L fl hp l with
    | some o, some os => some (o :: os)
    | _, _ => none
/-- the cells of these objects name none -/
def FlatIn (fl : List Nat) (hp : Hp) : Prop := ∀ id o, id ∈ fl → hp.get id = some o → ∀ d ∈ o.cs, flat0 d = true
theorem flat0_scal {d : DV} (h : flat0 d = true) : scal d = true := by cases d <;> first | rfl | (cases h; done)
theorem renCs_ok {L fl : List Nat} {hp : Hp} (hfl : FlatIn fl hp) : ∀ {M : List Nat} {os : List Ob}, renCs L fl hp M = some os → os.length = M.length ∧ ∀ (i id : Nat), M[i]? = some id → ∃ o o', hp.get id = some o ∧ o.k ≠ 2 ∧ os[i]? = some o' ∧ o'.k = (oldOb o).k ∧ o'.t = o.t ∧ o'.cs.length = o.cs.length ∧ scals o'.cs = true ∧ ∀ (j : Nat) (d e : DV), o.cs[j]? = some d → o'.cs[j]? = some e → Mlt L hp d e
  | [], os, h => by
    cases h
    exact ⟨rfl, fun i id h => by simp at h⟩
  | id :: l, os, h => by
    simp only [renCs] at h
    split at h
    · rename_i o1 os1 h1 h2
      cases h
      obtain ⟨h3, h4⟩ := renCs_ok hfl h2
      refine ⟨by simp [h3], fun i id' hi => ?_⟩
      cases i with
      | succ i => simpa using h4 i id' (by simpa using hi)
      | zero =>
        simp at hi
        subst hi
        unfold renC at h1
        split at h1
        · rename_i o ho
          have hk : ∀ {b}, Nat.beq o.k 2 = b → b = false → o.k ≠ 2 := fun {b} hb hf e => by
            rw [beqT e] at hb
            rw [← hb] at hf
            cases hf
          split at h1
          · cases h1
          · rename_i hb hm
            cases h1
            refine ⟨o, _, ho, hk hb rfl, rfl, rfl, rfl, rfl, (scals_iff _).2 fun d hd => flat0_scal (hfl _ _ (hasN_ok hm) ho d hd), fun j d e hd he => ?_⟩
            have he : o.cs[j]? = some e := he
            rw [hd] at he
            cases he
            exact .frz _ _ (.flat _ (hfl _ _ (hasN_ok hm) ho d (List.mem_of_getElem? hd)))
          · rename_i hb hm
            split at h1
            · rename_i cs hcs
              split at h1
              · rename_i hsc
                cases h1
                obtain ⟨k1, k2⟩ := rens_at hcs
                exact ⟨o, _, ho, hk hb rfl, rfl, rfl, rfl, k1.symm, hsc, fun j d e hd he => ren0_mlt (k2 j d e hd he)⟩
              · cases h1
            · cases h1
        · cases h1
    · cases h
/-- the heap of the objects L, whose cells are seen anew -/
def renHC (L fl : List Nat) (hp : Hp) : Option Hp := match nodupN L && ltIds L.length hp.ls, renCs L fl hp L with
  | true, some os => some ⟨L.length, os.reverse, renLs L hp.ls⟩
  | _, _ => none
theorem renHC_melt {L fl : List Nat} {hp hp' : Hp} (hfl : FlatIn fl hp) (h : renHC L fl hp = some hp') : MeltH L hp hp' := by
  unfold renHC at h
  split at h
  · rename_i os hnd hos
    cases h
    rw [Bool.and_eq_true] at hnd
    obtain ⟨hnd, hli⟩ := hnd
    obtain ⟨hlen, hob⟩ := renCs_ok hfl hos
    refine ⟨fun id R hR => ?_, fun i => ?_, fun i hi => ltIds_ok hli hi, nodupN_ok hnd, fun i id hi => ?_⟩
    · have hR : lfind id (renLs L hp.ls) = some R := hR
      rw [lfind_renLs] at hR
      cases hR0 : lfind id hp.ls with
      | none => rw [hR0] at hR; cases hR
      | some R0 =>
        rw [hR0] at hR
        cases hR
        refine ⟨R0, rfl, rfl, fun t d ht => ?_⟩
        obtain ⟨d0, e1, e2⟩ := look_renS ht
        exact ⟨d0, e1, ren3_mlt e2⟩
    · show (lfind i (renLs L hp.ls)).isSome = _
      rw [lfind_renLs, Option.isSome_map]
    · obtain ⟨o, o', h1, h2, h3, h4⟩ := hob i id hi
      refine ⟨o, o', h1, h2, ?_, h4⟩
      have hlt := (List.getElem?_eq_some_iff.1 hi).1
      rw [Hp.get_eq]
      show (if i < L.length then os.reverse[L.length - 1 - i]? else none) = _
      rw [if_pos hlt, List.getElem?_reverse (by omega), show os.length - 1 - (L.length - 1 - i) = i by omega]
      exact h3
  · cases h
theorem seen_renC {L fl : List Nat} {sl : Slots} {hp hp' : Hp} (hfl : FlatIn fl hp) (h : renHC L fl hp = some hp') : Seen sl hp (renS L sl) hp' := fun _ _ _ E _ _ w hs =>
  have hm := renHC_melt hfl h
  ⟨meltE E L hp, gon_melt hm E w, hs_melt hs.hs hm, hs.dfr.gon (gon_melt hm E w), hs.ro.gon (gon_melt hm E w), hs.size, fun t d ht => by
    obtain ⟨d0, h1, h2⟩ := look_renS ht
    exact mlt_ok hs.hs (ren3_mlt h2) (hs.sl t d0 h1)⟩
/-- a text's end, the objects L being kept, their cells seen anew; those of fl name no object -/
def zgm (L fl : List Nat) : Option (Ex × Slots × Hp × List Prop) → Option (Ex × Slots × Hp × List Prop)
  | some (e, sl, hp, cs) => match renHC L fl hp with
    | some hp' => some (e, renS L sl, hp', FlatIn fl hp :: cs)
    | none => none
  | none => none
theorem zgm_ok (hT : TabOk P T) (hmix : P.follows .mixedOrders = true) (hF : FunOk P T F) (hC : ConOk P C) {ks : List (Nat × Nat)} {live : List Nat} {c : Code} {sl : Slots} {hp : Hp} {p : Yath} {L fl : List Nat} {e : Ex} {sl' : Slots} {hp' : Hp} {cs : List Prop} (h : zgm L fl (zsee P T F C ks live c sl hp p) = some (e, sl', hp', cs)) (hc : AskedP cs) : Goes P T ks c sl hp e sl' hp' := by
  unfold zgm at h
  split at h
  · rename_i h1
    split at h
    · rename_i h3
      cases h
      exact (zsee_ok hT hmix hF hC h1 fun x hx => hc x (List.mem_cons_of_mem _ hx)).post (seen_renC (hc _ (List.mem_cons_self ..)) h3)
    · cases h
  · cases h
end
end Go.Proofs.Ytgjgihlfkpbdgaa
