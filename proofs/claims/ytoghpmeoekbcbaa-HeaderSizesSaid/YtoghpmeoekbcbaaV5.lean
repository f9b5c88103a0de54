/- Operations on abstract data are what the model does: values. No function of the program is named here. -/
import Derived.Test.YtoghpmeoekbcbaaV2
namespace Go.Proofs.Ytoghpmeoekbcbaa
open Go.RowKit

section
variable {P : Program} {E : Env} {w : World}
theorem cellsD_ok {d : DV} {v : Value} {cs : List DV} (h : VR w E d v) (hc : cellsD d = some cs) : VRs E w cs v.cells.toList ∧ (∀ u ∈ v.cells.toList, u.oneCell' = true) ∧ scals cs = true := by
  unfold cellsD at hc
  split at hc
  · rename_i ds
    split at hc
    · rename_i hs
      cases hc
      obtain ⟨vs, rfl, h1⟩ := h.of_agg
      exact ⟨by simpa [Value.cells] using h1, by simpa [Value.cells] using scals_one h1 hs, hs⟩
    · cases hc
  · split at hc
    · rename_i hs
      cases hc
      obtain ⟨h1, h2⟩ := scal_one h hs
      rw [h2]
      exact ⟨VRs.cons h (.nil _ _), by simpa using h1, by simp [scals, hs]⟩
    · cases hc
theorem cv1_ok {v : Value} {d : DV} (h : cv1 v = some d) : VR w E d v := by
  unfold cv1 at h
  split at h <;> first | (cases h; constructor) | cases h
theorem cvs_ok : ∀ {vs : List Value} {ds : List DV}, cvs vs = some ds → VRs E w ds vs
  | [], ds, h => by simp [cvs] at h; subst h; exact .nil _ _
  | v :: vs, ds, h => by
    simp only [cvs] at h
    split at h
    · rename_i d ds' h1 h2
      cases h
      exact .cons (cv1_ok h1) (cvs_ok h2)
    · cases h
theorem cv_ok {v : Value} {d : DV} (h : cv v = some d) : VR w E d v := by
  unfold cv at h
  split at h
  · rename_i cs
    split at h
    · rename_i ds hd
      cases h
      have := VRs.agg (cvs_ok (E := E) (w := w) hd)
      simpa using this
    · cases h
  · exact cv1_ok h
theorem ev_ok {sl : Slots} {a : Act} (hsl : ∀ t d, look sl t = some d → VR w E d (a.tmps.getD t undef)) {x : Operand} {d : DV} (h : ev sl x = some d) : VR w E d (a.eval x) := by
  cases x with
  | tmp t => exact hsl t d h
  | const v => exact cv_ok h
  | global g => simp [ev] at h
  | func f => simp [ev] at h; subst h; exact .fn _ f [] [] [] [] rfl rfl (fun j d v h => by simp at h) (fun j d v h => by simp at h)
theorem evs_ok {sl : Slots} {a : Act} (hsl : ∀ t d, look sl t = some d → VR w E d (a.tmps.getD t undef)) : ∀ {xs : List Operand} {ds : List DV}, evs sl xs = some ds → VRs E w ds (xs.map a.eval)
  | [], ds, h => by cases h; exact .nil _ _
  | x :: xs, ds, h => by
    rw [evs_cons] at h
    unfold evs1 at h
    split at h
    · rename_i d ds' h1 h2
      cases h
      exact .cons (ev_ok hsl h1) (evs_ok hsl h2)
    · cases h
/-! ### The table of types -/
theorem run_sizeOf' {t : TypeId} {i : TypeInfo} (h : P.info? t = some i) : (sizeOf t).run P w = .ok i.size w := by simp [sizeOf, typeInfo, h]
theorem run_isAgg {t : TypeId} {d : TypeDesc} {i : TI} (hu : P.underlying t = some d) (hd : tdOk P i.td d) : (isAgg t).run P w = .ok (isAggT i) w := by
  simp only [isAgg, Sem.run_bind, run_underlying hu, Result.andThen_ok]
  unfold isAggT
  generalize i.td = td at hd
  cases td <;> cases d <;> simp_all [tdOk]
/-- cells that lie in a row -/
def Lies (E : Env) (w : World) (b off : Nat) (cs : List DV) : Prop := ∀ (j : Nat) (d : DV), cs[j]? = some d → ∃ v, w.cell? ⟨b, off + j, none⟩ = some v ∧ VR w E d v
theorem Lies.drop {b off : Nat} {cs : List DV} (h : Lies E w b off cs) (n : Nat) : Lies E w b (off + n) (cs.drop n) := fun j d hj => by
  rw [Nat.add_assoc]
  exact h (n + j) d (by simpa using hj)
theorem Lies.take {b off : Nat} {cs : List DV} (h : Lies E w b off cs) (n : Nat) : Lies E w b off (cs.take n) := fun j d hj => by
  rw [List.getElem?_take] at hj
  split at hj
  · exact h j d hj
  · cases hj
theorem Lies.of_ob {id : Nat} {o : Ob} (h : ObOk E w id o) : Lies E w (E.b id) (E.base id) o.cs := fun j d hj => by
  obtain ⟨_, _, vs, hb, h1, h2, h3⟩ := h
  obtain ⟨v, hv, hd⟩ := h3.get hj
  refine ⟨v, ?_, hd⟩
  rw [hb.cell]
  rw [List.getElem?_take] at hv
  split at hv
  · simpa using hv
  · cases hv
theorem Lies.vals {b off : Nat} {cs : List DV} (h : Lies E w b off cs) : ∃ vs : List Value, VRs E w cs vs ∧ ∀ j v, vs[j]? = some v → w.cell? ⟨b, off + j, none⟩ = some v := by
  induction cs generalizing off with
  | nil => exact ⟨[], .nil _ _, fun j v hj => by simp at hj⟩
  | cons d cs ih =>
    obtain ⟨v, hv, hd⟩ := h 0 d rfl
    obtain ⟨vs, h1, h2⟩ := ih (off := off + 1) (fun j d hj => by
      obtain ⟨v, hv, hd⟩ := h (j + 1) d (by simpa using hj)
      exact ⟨v, by rw [show off + 1 + j = off + (j + 1) by omega]; exact hv, hd⟩)
    refine ⟨v :: vs, .cons hd h1, fun j u hj => ?_⟩
    cases j with
    | zero => simp at hj; subst hj; exact hv
    | succ j => rw [show off + (j + 1) = off + 1 + j by omega]; exact h2 j u (by simpa using hj)

theorem part_ok {t : TypeId} {info : TypeInfo} {d : TypeDesc} {i : TI} (hi : P.info? t = some info) (hu : P.underlying t = some d) (hs : info.size = i.size) (hd : tdOk P i.td d) {cs : List DV} {vs : List Value} (h : VRs E w cs vs) (off : Nat) {e : DV}
    (hp : partD i cs off = some e) : ∃ u, (part t vs.toArray off).run P w = .ok u w ∧ VR w E e u := by
  unfold partD at hp
  simp only [part, Sem.run_bind, run_isAgg hu hd, Result.andThen_ok]
  rcases ha : isAggT i with _ | _
  rotate_left
  · rw [ha] at hp
    simp only at hp
    split at hp
    · cases hp
      refine ⟨.agg ((vs.drop off).take i.size).toArray, ?_, (h.drop off |>.take i.size).agg⟩
      simp only [if_true, Sem.run_bind, run_sizeOf' hi, Result.andThen_ok, Sem.run_pure, hs]
      congr 2
      simp [List.extract_toArray, List.extract_eq_take_drop]
    · cases hp
  · rw [ha] at hp
    simp only at hp
    · have hd' := hp
      rw [nth_eq] at hd'
      obtain ⟨u, hu', hv⟩ := h.get hd'
      refine ⟨u, ?_, hv⟩
      simp [hu']
theorem load_ok {t : TypeId} {info : TypeInfo} {d : TypeDesc} {i : TI} (hi : P.info? t = some info) (hu : P.underlying t = some d) (hs : info.size = i.size) (hd : tdOk P i.td d) {cs : List DV} {b base : Nat} (h : Lies E w b base cs) (off : Nat) {e : DV}
    (hp : partD i cs off = some e) : ∃ u, (loadVar t ⟨b, base + off, none⟩).run P w = .ok u w ∧ VR w E e u := by
  unfold partD at hp
  simp only [loadVar, Sem.run_bind, run_isAgg hu hd, Result.andThen_ok]
  rcases ha : isAggT i with _ | _
  rotate_left
  · rw [ha] at hp
    simp only at hp
    split at hp
    · rename_i hle
      have hle := Nat.le_of_ble_eq_true hle
      cases hp
      obtain ⟨vs, h1, h2⟩ := ((h.drop off).take i.size).vals
      refine ⟨.agg vs.toArray, ?_, h1.agg⟩
      have hlen : vs.length = i.size := by rw [← h1.1]; simp; omega
      have hl := run_loadCells_list (P := P) w ⟨b, base + off, none⟩ vs (fun j v hj => by rw [add_none]; exact h2 j v hj)
      simp only [if_true, Sem.run_bind, run_sizeOf' hi, Result.andThen_ok, hs, ← hlen, hl, Sem.run_pure]
    · cases hp
  · rw [ha] at hp
    simp only at hp
    · have hd' := hp
      rw [nth_eq] at hd'
      obtain ⟨u, hc, hv⟩ := h off _ hd'
      refine ⟨u, ?_, hv⟩
      simp [hc]
end
end Go.Proofs.Ytoghpmeoekbcbaa
