/- A law's arguments as data, by shapes: structs, arrays and slices to whatever depth. No function of the program is named here. -/
import Derived.Test.YtmnpkgonanpgfaaMG
import Derived.Deep.Slices
import Derived.OpenShut
import Derived.ChangeArms
namespace Go.Proofs.Ytmnpkgonanpgfaa
open Go.RowKit Go.Deep

mutual
inductive Sp where
  | int (k : IntKind)
  | bool
  | str
  | arr (n : Nat) (e : Sp)
  | agg (fs : Sps)
  | sl (e : Sp)
  | leaf (t : Nat)
inductive Sps where
  | nil
  | cons (f : Sp) (r : Sps)
end
mutual
def szP : Sp → Nat
  | .int _ => 1
  | .bool => 1
  | .str => 1
  | .arr n e => n * szP e
  | .agg fs => szPs fs
  | .sl _ => 1
  | .leaf _ => 1
def szPs : Sps → Nat
  | .nil => 0
  | .cons f r => szP f + szPs r
end
mutual
/-- the data of a shape; Gl: those of the types that are leaves -/
def Gd (Gl : Nat → List DV → Prop) : Sp → List DV → Prop
  | .int k, ds => ∃ n, ds = [.int k n] ∧ (Lit.int k n).wf = true
  | .bool, ds => ∃ b, ds = [.bool b]
  | .str, ds => ∃ s : ByteArray, ds = [.str s] ∧ s.size ≤ maxLen
  | .arr n e, ds => ∃ rows : List (List DV), rows.length = n ∧ ds = rows.flatten ∧ ∀ r ∈ rows, Gd Gl e r
  | .agg fs, ds => GdL Gl fs ds
  | .sl e, ds => ∃ rows : List (List DV), ds = [.list (szP e) rows] ∧ rows.length ≤ maxLen ∧ ∀ r ∈ rows, Gd Gl e r
  | .leaf t, ds => Gl t ds
def GdL (Gl : Nat → List DV → Prop) : Sps → List DV → Prop
  | .nil, ds => ds = []
  | .cons f r, ds => ∃ a b, ds = a ++ b ∧ Gd Gl f a ∧ GdL Gl r b
end
section
variable (P : Program)
mutual
def spOk : Sp → Nat → Bool
  | .int k, t => match P.underlying t with
    | some (.int k') => decide (k' = k)
    | _ => false
  | .bool, t => match P.underlying t with
    | some .bool => true
    | _ => false
  | .str, t => match P.underlying t with
    | some .string => true
    | _ => false
  | .arr n e, t => match P.underlying t with
    | some (.array n' u) => Nat.beq n' n && (spOk e u && (Nat.beq (P.cellsOf u) (szP e) && Nat.beq (P.cellsOf t) (n * szP e)))
    | _ => false
  | .agg fs, t => match P.underlying t with
    | some (.struct gs) => spsOk fs 0 gs.toList && Nat.beq (P.cellsOf t) (szPs fs)
    | _ => false
  | .sl e, t => match P.underlying t with
    | some (.slice u) => spOk e u && (Nat.beq (P.cellsOf u) (szP e) && Nat.blt 0 (szP e))
    | _ => false
  | .leaf u, t => Nat.beq u t
def spsOk : Sps → Nat → List Field → Bool
  | .nil, _, [] => true
  | .cons f r, off, g :: gs => Nat.beq g.offset off && (spOk f g.type && (Nat.beq (P.cellsOf g.type) (szP f) && spsOk r (off + szP f) gs))
  | _, _, _ => false
end
end
mutual
def isLf : Sp → Nat → Prop
  | .arr _ e, t => isLf e t
  | .agg fs, t => isLfs fs t
  | .sl e, t => isLf e t
  | .leaf u, t => u = t
  | _, _ => False
def isLfs : Sps → Nat → Prop
  | .nil, _ => False
  | .cons f r, t => isLf f t ∨ isLfs r t
end
section
variable {P : Program} {H : Type} {enc : TypeId × Value → H} {w : World} {base : Nat} {spare : Nat → Bool} {held : Bool} {Gl : Nat → List DV → Prop}
theorem scals_app {a b : List DV} (ha : scals a = true) (hb : scals b = true) : scals (a ++ b) = true := by
  induction a with
  | nil => exact hb
  | cons d r ih =>
    simp only [scals, Bool.and_eq_true] at ha
    simp only [List.cons_append, scals, Bool.and_eq_true]
    exact ⟨ha.1, ih ha.2⟩
/-- what a reading of a type gives -/
def RdTo (P : Program) (enc : TypeId × Value → H) (w : World) (base : Nat) (spare : Nat → Bool) (held : Bool) (t : Nat) (G : List DV → Prop) (sz : Nat) : Prop :=
  ∀ (fuel : Nat) (cs : List Value) (x : DataW H × List MemPlace), DataW.trod enc P w base spare held fuel t cs = some x → ∃ ds, G ds ∧ VRs (ro (· < w.heap.size)) w ds cs ∧ scals ds = true ∧ ds.length = sz
theorem rd_arr {n : Nat} {u : Nat} {e : Sp} (hu : P.cellsOf u = szP e) (ih : RdTo P enc w base spare held u (Gd Gl e) (szP e)) {m : Nat} {cs : List Value} {xs : List (DataW H × List MemPlace)} (hx : xs.length = n)
    (hel : ∀ (i : Nat), i < n → DataW.trod enc P w base spare held m u ((cs.drop (i * P.cellsOf u)).take (P.cellsOf u)) = xs[i]?) (_hl : cs.length = n * szP e) :
    ∀ k, k ≤ n → ∃ rows : List (List DV), rows.length = k ∧ (∀ r ∈ rows, Gd Gl e r) ∧ VRs (ro (· < w.heap.size)) w rows.flatten (cs.take (k * szP e)) ∧ scals rows.flatten = true ∧ rows.flatten.length = k * szP e := by
  intro k
  induction k with
  | zero => exact fun _ => ⟨[], rfl, fun r h => by simp at h, by simpa using VRs.nil _ w, rfl, by simp⟩
  | succ k ik =>
    intro hk
    obtain ⟨rows, h1, h2, h3, h4, h5⟩ := ik (by omega)
    have hi : k < xs.length := by omega
    have ht := hel k (by omega)
    rw [List.getElem?_eq_getElem hi, hu] at ht
    obtain ⟨ds, g1, g2, g3, g4⟩ := ih _ _ _ ht
    refine ⟨rows ++ [ds], by simp [h1], fun r hr => ?_, ?_, ?_, ?_⟩
    · rcases List.mem_append.1 hr with hr | hr
      · exact h2 r hr
      · obtain rfl := List.mem_singleton.1 hr
        exact g1
    · have e1 : cs.take ((k + 1) * szP e) = cs.take (k * szP e) ++ (cs.drop (k * szP e)).take (szP e) := by
        rw [Nat.succ_mul, List.take_add]
      rw [e1, List.flatten_append]
      simpa using h3.append g2
    · rw [List.flatten_append]
      exact scals_app h4 (by simpa using g3)
    · rw [List.flatten_append, List.length_append, h5, Nat.succ_mul]
      simpa using g4
theorem rd_sl {t u : Nat} {e : Sp} (ht : P.underlying t = some (.slice u)) (hu : P.cellsOf u = szP e) (hpos : 0 < szP e) (ih : RdTo P enc w base spare held u (Gd Gl e) (szP e)) : RdTo P enc w base spare held t (Gd Gl (.sl e)) 1 := by
  intro fuel cs x h
  rcases open_slice ht h with ⟨rfl, _⟩ | ⟨a, len, cap, mm, n, D, Pl, rfl, hb, hlc, hcm, hmm, rfl, hi⟩
  · exact ⟨[.list (szP e) []], ⟨[], rfl, Nat.zero_le _, fun r h => by simp at h⟩, .cons (.list _ (szP e) [] none 0 0 0 (fun _ _ => undef) (Nat.zero_le _) (Nat.zero_le _) (fun _ => rfl) (fun h => absurd h (by simp)) (fun i cs h => by simp at h) (fun i cs j d h => by simp at h) (fun i cs j d h => by simp at h) (fun cs h => by simp at h)) (.nil _ _), rfl, rfl⟩
  have hlm : len ≤ mm := by rw [hmm]; split <;> omega
  rw [hu] at hi
  have each : ∀ i : Nat, ∃ y : List DV × List Value, i < len → Gd Gl e y.1 ∧ VRs (ro (· < w.heap.size)) w y.1 y.2 ∧ scals y.1 = true ∧ y.1.length = szP e ∧ ∀ (j : Nat) (v : Value), y.2[j]? = some v → w.cell? ((a.add (i * szP e)).add j) = some v := fun i => by
    rcases Nat.lt_or_ge i len with hlt | hge
    · obtain ⟨cs', hc', ht'⟩ := hi i (by omega)
      obtain ⟨_, hcl, hat⟩ := World.cells?_some hc'
      obtain ⟨ds, g1, g2, g3, g4⟩ := ih _ _ _ ht'
      exact ⟨(ds, cs'), fun _ => ⟨g1, g2, g3, g4, fun j v hv => by
        have hj : j < szP e := by
          have h1 := (List.getElem?_eq_some_iff.1 hv).1
          have h2 := g2.1
          dsimp only at h1
          omega
        rw [hat j hj]
        exact hv⟩⟩
    · exact ⟨([], []), fun h => absurd h (by omega)⟩
  obtain ⟨f, hf⟩ := Classical.axiomOfChoice each
  have hrow : ∀ (i : Nat) (cs : List DV), ((List.range len).map fun i => (f i).1)[i]? = some cs → i < len ∧ cs = (f i).1 := fun i cs h => by
    rw [List.getElem?_map, Option.map_eq_some_iff] at h
    obtain ⟨j, hj, he⟩ := h
    have hlt : i < len := by have := (List.getElem?_eq_some_iff.1 hj).1; simpa using this
    rw [List.getElem?_range hlt, Option.some.injEq] at hj
    subst hj
    exact ⟨hlt, he.symm⟩
  have hlen : ((List.range len).map fun i => (f i).1).length = len := by simp
  have hmem : ∀ r, r ∈ ((List.range len).map fun i => (f i).1) → ∃ i, i < len ∧ r = (f i).1 := fun r hr => by
    obtain ⟨i, hi⟩ := List.mem_iff_getElem?.1 hr
    obtain ⟨h1, h2⟩ := hrow i r hi
    exact ⟨i, h1, h2⟩
  refine ⟨[.list (szP e) ((List.range len).map fun i => (f i).1)], ⟨_, rfl, by rw [hlen]; omega, fun r hr => ?_⟩, .cons ?_ (.nil _ _), rfl, rfl⟩
  · obtain ⟨i, h1, rfl⟩ := hmem r hr
    exact (hf i h1).1
  rcases Nat.eq_zero_or_pos len with h0 | hlp
  · have he : ((List.range len).map fun i => (f i).1) = [] := by rw [h0]; rfl
    rw [he, h0]
    exact .list _ (szP e) [] (some a) cap 0 0 (fun _ _ => undef) (Nat.zero_le _) hcm (fun h => by cases h) (fun h => absurd h (by simp)) (fun i cs h => by simp at h) (fun i cs j d h => by simp at h) (fun i cs j d h => by simp at h) (fun cs h => by simp at h)
  obtain ⟨_, v0, _, n0, c0⟩ := hf 0 hlp
  obtain ⟨u0, hu0, _⟩ := v0.get (j := 0) (d := (f 0).1[0]'(by omega)) (List.getElem?_eq_getElem (by omega))
  have hc0 := c0 0 u0 hu0
  have hspot : a.spot = none := by
    have := World.cell?_spot hc0
    simpa [Addr.add] using this
  obtain ⟨b, off, sp⟩ := a
  subst hspot
  have hbw : b < w.heap.size := by
    have := cell_lt hc0
    simpa [Addr.add] using this
  have hcell : ∀ i, i < len → ∀ (j : Nat) (v : Value), (f i).2[j]? = some v → w.cell? ⟨b, off + (i * szP e + j), none⟩ = some v := fun i hi j v hv => by
    have := (hf i hi).2.2.2.2 j v hv
    rwa [add_none, add_none, Nat.add_assoc] at this
  have key := VR.list (w := w) (ro (· < w.heap.size)) (szP e) ((List.range len).map fun i => (f i).1) (some ⟨b, off, none⟩) cap b off (fun i j => (w.cell? ⟨b, off + (i * szP e + j), none⟩).getD undef) (by rw [hlen]; omega) hcm (fun h => by cases h) (fun _ => ⟨rfl, hbw⟩) (fun i cs hi => ?_) (fun i cs j d hi hj => ?_) (fun i cs j d hi hj => ?_) (fun cs hcs => ?_)
  · rw [hlen] at key
    exact key
  · obtain ⟨h1, rfl⟩ := hrow i cs hi
    exact (hf i h1).2.2.2.1
  · obtain ⟨h1, rfl⟩ := hrow i cs hi
    obtain ⟨v, hv1, hv2⟩ := (hf i h1).2.1.get hj
    rw [hcell i h1 j v hv1]
    rfl
  · obtain ⟨h1, rfl⟩ := hrow i cs hi
    obtain ⟨v, hv1, hv2⟩ := (hf i h1).2.1.get hj
    show VR _ _ _ ((w.cell? ⟨b, off + (i * szP e + j), none⟩).getD undef)
    rw [hcell i h1 j v hv1]
    exact hv2
  · obtain ⟨i, h1, rfl⟩ := hmem cs hcs
    exact (hf i h1).2.2.1
mutual
theorem rd_ok : ∀ (s : Sp) {t : Nat}, spOk P s t = true → (∀ u, isLf s u → RdTo P enc w base spare held u (Gl u) 1) → RdTo P enc w base spare held t (Gd Gl s) (szP s)
  | .int k, t, h, _ => by
    intro fuel cs x hx
    simp only [spOk] at h
    split at h
    · rename_i k' hu
      have hk := of_decide_eq_true h
      subst hk
      obtain ⟨n, rfl, _, wf⟩ := DataW.trod_int hu hx
      exact ⟨[.int k' n], ⟨n, rfl, wf⟩, .cons (.int _ _ _) (.nil _ _), rfl, rfl⟩
    · cases h
  | .bool, t, h, _ => by
    intro fuel cs x hx
    simp only [spOk] at h
    split at h
    · rename_i hu
      obtain ⟨b, rfl, _⟩ := DataW.trod_bool hu hx
      exact ⟨[.bool b], ⟨b, rfl⟩, .cons (.bool _ _) (.nil _ _), rfl, rfl⟩
    · cases h
  | .str, t, h, _ => by
    intro fuel cs x hx
    simp only [spOk] at h
    split at h
    · rename_i hu
      obtain ⟨b, rfl, _, hs⟩ := DataW.trod_string hu hx
      exact ⟨[.str b], ⟨b, rfl, hs⟩, .cons (.str _ _) (.nil _ _), rfl, rfl⟩
    · cases h
  | .arr n e, t, h, hO => by
    intro fuel cs x hx
    simp only [spOk] at h
    split at h
    · rename_i n' u hu
      simp only [Bool.and_eq_true] at h
      obtain ⟨h1, h2, h3, h4⟩ := h
      have h1 := Nat.eq_of_beq_eq_true h1
      have h3 := Nat.eq_of_beq_eq_true h3
      have h4 := Nat.eq_of_beq_eq_true h4
      subst h1
      obtain ⟨xs, m, _, _, hl, hn, hel⟩ := DataW.trod_array hu hx
      rw [h4] at hl
      obtain ⟨rows, g1, g2, g3, g4, g5⟩ := rd_arr h3 (rd_ok e h2 hO) hn hel hl n' (Nat.le_refl _)
      refine ⟨rows.flatten, ⟨rows, g1, rfl, g2⟩, ?_, g4, g5⟩
      rwa [List.take_of_length_le (by omega)] at g3
    · cases h
  | .agg fs, t, h, hO => by
    intro fuel cs x hx
    simp only [spOk] at h
    split at h
    · rename_i gs hu
      simp only [Bool.and_eq_true] at h
      obtain ⟨h1, h2⟩ := h
      have h2 := Nat.eq_of_beq_eq_true h2
      obtain ⟨xs, m, _, _, hl, hn, hf⟩ := DataW.trod_struct hu hx
      obtain ⟨ds, g1, g2, g3, g4⟩ := rds_ok fs (m := m) (cs := cs) h1 hO (fun i g hi => by
        have hg : gs[i]? = some g := by simpa using hi
        have hlt : i < xs.length := by
          have := (Array.getElem?_eq_some_iff.1 hg).1
          omega
        have := hf i g hg
        rw [List.getElem?_eq_getElem hlt] at this
        exact ⟨_, this⟩) (by omega)
      exact ⟨ds, g1, by simpa using g2, g3, g4⟩
    · cases h
  | .sl e, t, h, hO => by
    simp only [spOk] at h
    split at h
    · rename_i u hu
      simp only [Bool.and_eq_true] at h
      obtain ⟨h1, h2, h3⟩ := h
      exact rd_sl hu (Nat.eq_of_beq_eq_true h2) (Nat.le_of_ble_eq_true h3) (rd_ok e h1 hO)
    · cases h
  | .leaf u, t, h, hO => by
    have := Nat.eq_of_beq_eq_true h
    subst this
    exact hO _ rfl
theorem rds_ok : ∀ (s : Sps) {off : Nat} {gs : List Field} {m : Nat} {cs : List Value}, spsOk P s off gs = true → (∀ u, isLfs s u → RdTo P enc w base spare held u (Gl u) 1) →
    (∀ (i : Nat) (g : Field), gs[i]? = some g → ∃ x, DataW.trod enc P w base spare held m g.type ((cs.drop g.offset).take (P.cellsOf g.type)) = some x) → cs.length = off + szPs s →
    ∃ ds, GdL Gl s ds ∧ VRs (ro (· < w.heap.size)) w ds (cs.drop off) ∧ scals ds = true ∧ ds.length = szPs s
  | .nil, off, gs, m, cs, h, _, _, hl => by
    refine ⟨[], rfl, ?_, rfl, rfl⟩
    rw [List.drop_eq_nil_of_le (by simp only [szPs] at hl; omega)]
    exact .nil _ _
  | .cons f r, off, [], m, cs, h, _, _, _ => by cases h
  | .cons f r, off, g :: gs, m, cs, h, hO, hf, hl => by
    simp only [spsOk, Bool.and_eq_true] at h
    obtain ⟨h1, h2, h3, h4⟩ := h
    have h1 := Nat.eq_of_beq_eq_true h1
    have h3 := Nat.eq_of_beq_eq_true h3
    simp only [szPs] at hl
    obtain ⟨x, hx⟩ := hf 0 g rfl
    rw [h1, h3] at hx
    obtain ⟨ds, a1, a2, a3, a4⟩ := rd_ok f h2 (fun u hu => hO u (.inl hu)) _ _ _ hx
    obtain ⟨es, b1, b2, b3, b4⟩ := rds_ok r h4 (fun u hu => hO u (.inr hu)) (fun i g' hi => hf (i + 1) g' (by simpa using hi)) (by omega)
    refine ⟨ds ++ es, ⟨ds, es, rfl, a1, b1⟩, ?_, scals_app a3 b3, by rw [List.length_append, a4, b4]; rfl⟩
    have e : cs.drop off = (cs.drop off).take (szP f) ++ cs.drop (off + szP f) := by rw [← List.drop_drop, List.take_append_drop]
    rw [e]
    exact a2.append b2
end
end
end Go.Proofs.Ytmnpkgonanpgfaa
