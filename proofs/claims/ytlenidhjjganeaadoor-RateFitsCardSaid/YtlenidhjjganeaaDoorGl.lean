/- Package-level variables that the row's condition lays: what they hold, cell by cell. No function of the program is named here. -/
import Derived.Test.YtlenidhjjganeaaDoorML
import Derived.ChangeArms
import Derived.LaidMore
import Derived.WalkKit
import Derived.ProofKit
import Derived.OpenShut
import Derived.ChangeOld
import Derived.DataReads
namespace Go.Proofs.YtlenidhjjganeaaDoor
open Go.ChangeShapes Go.WideShapes Go.ChangeAt Go.RowKit

section
variable (P : Program)
def flatP (q : TypeId → DataW Unit → Option (List DV)) : Nat → List (Nat × TypeId) → List (DataW Unit) → Option (Nat × List DV)
  | off, [], [] => some (off, [])
  | off, (o, t) :: l, d :: ds => match Nat.beq o off, q t d with
    | true, some cs => match flatP q (off + P.cellsOf t) l ds with
      | some (e, r) => some (e, cs ++ r)
      | none => none
    | _, _ => none
  | _, _, _ => none
def flatE (n : Nat) : Option (Nat × List DV) → Option (List DV)
  | some (e, r) => match Nat.beq e n with
    | true => some r
    | false => none
  | none => none
def flatW : Nat → TypeId → DataW Unit → Option (List DV)
  | 0, _, _ => none
  | n + 1, t, d => match P.underlying t, d with
    | some .bool, .lit (.bool b) => some [.bool b]
    | some (.int k), .lit (.int k' z) => if k' = k then some [.int k z] else none
    | some .string, .lit (.string bs) => some [.str ⟨bs.toArray⟩]
    | some (.array m e), .agg ds => flatE (P.cellsOf t) (flatP P (flatW n) 0 ((List.range m).map fun i => (i * P.cellsOf e, e)) ds)
    | some (.struct fs), .agg ds => flatE (P.cellsOf t) (flatP P (flatW n) 0 (fs.toList.map fun f => (f.offset, f.type)) ds)
    | _, _ => none
end
section
variable {P : Program} {w : World} {E : Env}
theorem flatP_ok {q : TypeId → DataW Unit → Option (List DV)} {tr : TypeId → List Value → Option (DataW Unit × List MemPlace)} (hq : ∀ t cs d p ds, tr t cs = some (d, p) → q t d = some ds → VRs E w ds cs) {cs : List Value} :
    ∀ {l : List (Nat × TypeId)} {off : Nat} {ds : List (DataW Unit)} {e : Nat} {r : List DV}, flatP P q off l ds = some (e, r) → (∀ (i : Nat) (o : Nat) (t : TypeId), l[i]? = some (o, t) → ∃ d p, ds[i]? = some d ∧ tr t ((cs.drop o).take (P.cellsOf t)) = some (d, p)) → e = cs.length → VRs E w r (cs.drop off)
  | [], off, [], e, r, h, _, he => by
    simp only [flatP, Option.some.injEq, Prod.mk.injEq] at h
    obtain ⟨rfl, rfl⟩ := h
    rw [List.drop_eq_nil_of_le (by omega)]
    exact .nil _ _
  | [], off, d :: ds, e, r, h, _, he => by simp [flatP] at h
  | (o, t) :: l, off, [], e, r, h, _, he => by simp [flatP] at h
  | (o, t) :: l, off, d :: ds, e, r, h, hi, he => by
    simp only [flatP] at h
    split at h
    · rename_i cs1 hb h1
      split at h
      · rename_i e' r' h2
        simp only [Option.some.injEq, Prod.mk.injEq] at h
        obtain ⟨rfl, rfl⟩ := h
        have ho := Nat.eq_of_beq_eq_true hb
        subst ho
        obtain ⟨d', p, hd, htr⟩ := hi 0 o t rfl
        simp only [List.getElem?_cons_zero, Option.some.injEq] at hd
        subst hd
        have k1 := hq _ _ _ _ _ htr h1
        have k2 := flatP_ok hq h2 (fun i o' t' hit => by
          obtain ⟨d2, p2, e1, e2⟩ := hi (i + 1) o' t' (by simpa using hit)
          exact ⟨d2, p2, by simpa using e1, e2⟩) he
        have e3 : cs.drop o = (cs.drop o).take (P.cellsOf t) ++ cs.drop (o + P.cellsOf t) := by
          rw [← List.drop_drop, List.take_append_drop]
        rw [e3]
        exact k1.append k2
      · cases h
    · cases h
theorem flatE_ok {n : Nat} {x : Option (Nat × List DV)} {r : List DV} (h : flatE n x = some r) : x = some (n, r) := by
  unfold flatE at h
  split at h
  · split at h
    · rename_i hb
      cases h
      rw [Nat.eq_of_beq_eq_true hb]
    · cases h
  · cases h
theorem flatW_ok {enc : TypeId × Value → Unit} {sp : Nat → Bool} {held : Bool} : ∀ {n fuel : Nat} {t : TypeId} {cs : List Value} {d : DataW Unit} {p : List MemPlace} {ds : List DV}, DataW.trod enc P w 0 sp held fuel t cs = some (d, p) → flatW P n t d = some ds → VRs E w ds cs := by
  intro n
  induction n with
  | zero => intro fuel t cs d p ds _ h; cases h
  | succ n ih =>
    intro fuel t cs d p ds ht h
    simp only [flatW] at h
    split at h
    · rename_i b hu
      obtain ⟨b', rfl, hx⟩ := DataW.trod_bool hu ht
      simp only [Prod.mk.injEq, DataW.lit.injEq, Lit.bool.injEq] at hx
      obtain ⟨rfl, _⟩ := hx
      cases h
      exact .cons (.bool _ _) (.nil _ _)
    · rename_i k k' z hu
      obtain ⟨z', rfl, hx, _⟩ := DataW.trod_int hu ht
      simp only [Prod.mk.injEq, DataW.lit.injEq, Lit.int.injEq] at hx
      obtain ⟨⟨rfl, rfl⟩, _⟩ := hx
      rw [if_pos rfl] at h
      cases h
      exact .cons (.int _ _ _) (.nil _ _)
    · rename_i bs hu
      obtain ⟨s, rfl, hx, _⟩ := DataW.trod_string hu ht
      simp only [Prod.mk.injEq, DataW.lit.injEq, Lit.string.injEq] at hx
      obtain ⟨rfl, _⟩ := hx
      cases h
      exact .cons (.str _ _) (.nil _ _)
    · rename_i m e ds' hu
      obtain ⟨xs, fu, _, hx, hl, hn, hel⟩ := DataW.trod_array hu ht
      simp only [Prod.mk.injEq, DataW.agg.injEq] at hx
      obtain ⟨rfl, _⟩ := hx
      have h' := flatE_ok h
      have := flatP_ok (E := E) (w := w) (tr := DataW.trod enc P w 0 sp held fu) (cs := cs) (fun t cs d p ds a b => ih a b) h' (fun i o t hi => by
        rw [List.getElem?_map, Option.map_eq_some_iff] at hi
        obtain ⟨j, hj, he⟩ := hi
        have hlt : i < m := by have := (List.getElem?_eq_some_iff.1 hj).1; simpa using this
        rw [List.getElem?_range hlt, Option.some.injEq] at hj
        subst hj
        cases he
        have hi' : i < xs.length := by omega
        have hk := hel i hlt
        rw [List.getElem?_eq_getElem hi'] at hk
        exact ⟨(xs[i]).1, (xs[i]).2, by simp [hi'], hk⟩) hl.symm
      simpa using this
    · rename_i fs ds' hu
      obtain ⟨xs, fu, _, hx, hl, hn, hel⟩ := DataW.trod_struct hu ht
      simp only [Prod.mk.injEq, DataW.agg.injEq] at hx
      obtain ⟨rfl, _⟩ := hx
      have h' := flatE_ok h
      have := flatP_ok (E := E) (w := w) (tr := DataW.trod enc P w 0 sp held fu) (cs := cs) (fun t cs d p ds a b => ih a b) h' (fun i o t hi => by
        rw [List.getElem?_map, Option.map_eq_some_iff] at hi
        obtain ⟨f, hj, he⟩ := hi
        cases he
        have hlt : i < fs.size := by have := (List.getElem?_eq_some_iff.1 hj).1; simpa using this
        have hi' : i < xs.length := by omega
        have hk := hel i f (by simpa using hj)
        rw [List.getElem?_eq_getElem hi'] at hk
        exact ⟨(xs[i]).1, (xs[i]).2, by simp [hi'], hk⟩) hl.symm
      simpa using this
    · cases h
theorem laid_var : ∀ {laid : List (String × DataW Unit)} {ps : List MemPlace}, DataW.LaidVars P w laid ps → ∀ {n : String} {d : DataW Unit}, (n, d) ∈ laid →
    ∃ g t cs fuel p, P.globalNamed n = some g ∧ (P.globals[g]?).map (·.type) = some t ∧ w.var? P n = some cs ∧ DataW.trod (fun _ => ()) P w 0 (fun _ => true) false fuel t cs.toList = some (d, p)
  | [], _, _, n, d, hm => by simp at hm
  | (n0, d0) :: l, ps, h, n, d, hm => by
    obtain ⟨g, t, cs, fuel, p, q, h1, h2, h3, h4, h5, _⟩ := h
    rcases List.mem_cons.1 hm with e | hm
    · cases e
      exact ⟨g, t, cs, fuel, p, h1, h2, h3, h4⟩
    · exact laid_var h5 hm
theorem gl_var {laid : List (String × DataW Unit)} {W : World} (h : laidMet P laid W) {n : String} {d : DataW Unit} (hm : (n, d) ∈ laid) {g : Nat} {cs : List DV} (hg : P.globalNamed n = some g) (hf : (((P.globals[g]?).map (·.type)).bind fun t => flatW P 8 t d) = some cs) :
    VR W (ro fun b => b < W.heap.size) (.fptr cs) (.pointer (some ⟨g, 0, none⟩)) := by
  obtain ⟨ps, hL, _⟩ := h
  obtain ⟨g', t', vs, fuel, p, h1, h2, h3, h4⟩ := laid_var hL hm
  rw [hg] at h1
  cases h1
  rw [h2, Option.bind_some] at hf
  have hv := flatW_ok (E := ro fun b => b < W.heap.size) h4 hf
  have hlt : g < W.heap.size := by
    rcases Nat.lt_or_ge g W.heap.size with h | h
    · exact h
    · simp only [World.var?, hg, Option.bind_some] at h3
      rw [Array.getElem?_eq_none h] at h3
      cases h3
  refine .fptr _ cs g 0 (fun j => (vs[j]?).getD undef) hlt (fun j d hj => ?_) (fun j d hj => ?_)
  · obtain ⟨v, hv1, _⟩ := hv.get hj
    have : vs[j]? = some v := by simpa using hv1
    rw [Nat.zero_add, World.var?_cell hg h3 j, this]
    rfl
  · obtain ⟨v, hv1, hv2⟩ := hv.get hj
    have : vs[j]? = some v := by simpa using hv1
    rw [this]
    exact hv2
end
end Go.Proofs.YtlenidhjjganeaaDoor
