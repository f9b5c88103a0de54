/- Operations on abstract data are what the model does: aggregates, conversions. No function of the program is named here. -/
import Derived.Test.YtoghpmeoekbcbaaV11
namespace Go.Proofs.Ytoghpmeoekbcbaa
open Go.RowKit

section
variable {P : Program} {T : Tab} {E : Env} {w : World} {a : Act} {hp : Hp} {sl : Slots} {o : Oper}
theorem setCells_list (off : Nat) : ∀ (vs : List Value) (i : Nat) (cells : Array Value), off + i + vs.length ≤ cells.size →
    ((vs.zipIdx i).foldl (fun (cs : Array Value) (e : Value × Nat) => cs.setIfInBounds (off + e.2) e.1) cells).toList = cells.toList.take (off + i) ++ vs ++ cells.toList.drop (off + i + vs.length)
  | [], i, cells, h => by simp
  | v :: vs, i, cells, h => by
    simp only [List.zipIdx_cons, List.foldl_cons]
    rw [setCells_list off vs (i + 1) _ (by simp at h ⊢; omega)]
    simp only [Array.toList_setIfInBounds, List.length_cons] at h ⊢
    apply List.ext_getElem?
    intro k
    simp only [List.getElem?_append, List.length_append, List.length_take, List.length_set, Array.length_toList, List.getElem?_take, List.getElem?_set, List.getElem?_drop, List.length_cons, List.getElem?_cons]
    have h' : off + i < cells.size := by omega
    rw [Nat.min_eq_left (by omega), Nat.min_eq_left (by omega)]
    by_cases h1 : k < off + i
    · simp [show k < off + (i + 1) by omega, h1, show off + i ≠ k by omega, show k < off + (i + 1) + vs.length by omega, show k < off + i + (vs.length + 1) by omega]
    · by_cases h2 : k = off + i
      · subst h2
        simp [h', show off + i < off + (i + 1) by omega, show off + i < off + (i + 1) + vs.length by omega]
      · by_cases h3 : k < off + (i + 1) + vs.length
        · simp [h3, h1, show ¬ k < off + (i + 1) by omega, show k < off + i + (vs.length + 1) by omega, show k - (off + i) ≠ 0 by omega, show k - (off + i) - 1 = k - (off + (i + 1)) by omega]
        · simp only [h3, if_false, show ¬ k < off + i + (vs.length + 1) by omega, show off + (i + 1) + vs.length + (k - (off + (i + 1) + vs.length)) = k by omega, show off + i + (vs.length + 1) + (k - (off + i + (vs.length + 1))) = k by omega, show off + i ≠ k by omega]
theorem fill_ok {place pl : Nat → Option (Nat × Nat)} (hpl : ∀ (i off sz : Nat), pl i = some (off, sz) → place i = some (off, sz)) :
    ∀ {ps : List (Nat × DV)} {us : List (Nat × Value)} {cells : List DV} {vs : Array Value} {out : List DV}, ps.length = us.length → (∀ (j : Nat) (i : Nat) (d : DV), ps[j]? = some (i, d) → ∃ v, us[j]? = some (i, v) ∧ VR w E d v) →
      VRs E w cells vs.toList → fillD pl cells ps = some out → ∃ rs : Array Value, Instr.fill place vs us = some rs ∧ VRs E w out rs.toList
  | [], us, cells, vs, out, hl, _, hc, hf => by
    have : us = [] := List.eq_nil_of_length_eq_zero (by simpa using hl.symm)
    subst this
    simp only [fillD, Option.some.injEq] at hf
    subst hf
    exact ⟨vs, rfl, hc⟩
  | (i, d) :: ps, us, cells, vs, out, hl, hu, hc, hf => by
    obtain ⟨v, hv, hd⟩ := hu 0 i d rfl
    cases us with
    | nil => simp at hv
    | cons u us =>
      simp at hv
      subst hv
      simp only [fillD] at hf
      split at hf
      · rename_i off sz cs h1 h2
        split at hf
        · rename_i hcond0
          simp only [Bool.and_eq_true] at hcond0
          have hcond1 := Nat.eq_of_beq_eq_true hcond0.1
          have hcond2 := Nat.le_of_ble_eq_true hcond0.2
          obtain ⟨hcs, hone, _⟩ := cellsD_ok hd h2
          have hsz : v.cells.size = sz := by have := hcs.1; simp at this; omega
          have hcl : cells.length = vs.size := by have := hc.1; simpa using this
          have hfold := setCells_list off v.cells.toList 0 vs (by simp; omega)
          simp only [Array.length_toList, Nat.add_zero, hsz] at hfold
          obtain ⟨rs, hr1, hr2⟩ := fill_ok hpl (ps := ps) (us := us) (cells := cells.take off ++ cs ++ cells.drop (off + sz))
            (vs := (v.cells.toList.zipIdx 0).foldl (fun (cs : Array Value) (e : Value × Nat) => cs.setIfInBounds (off + e.2) e.1) vs) (out := out) (by simpa using hl) (fun j i d hj => hu (j + 1) i d (by simpa using hj)) (by
              rw [hfold]
              exact ((hc.take off).append hcs).append (hc.drop (off + sz))) hf
          refine ⟨rs, ?_, hr2⟩
          simp only [Instr.fill, hpl i off sz h1]
          rw [if_neg (by simp [hsz]; omega)]
          rw [← hr1]
          congr 1
          rw [← Array.foldl_toList]
          simp
        · cases hf
      · cases hf
theorem evParts_ok (hsl : ∀ t d, look sl t = some d → VR w E d (a.tmps.getD t undef)) : ∀ {xs : List (Nat × Operand)} {ps : List (Nat × DV)}, evParts sl xs = some ps →
    ps.length = (xs.map fun (e : Nat × Operand) => (e.1, a.eval e.2)).length ∧ ∀ (j i : Nat) (d : DV), ps[j]? = some (i, d) → ∃ v, (xs.map fun (e : Nat × Operand) => (e.1, a.eval e.2))[j]? = some (i, v) ∧ VR w E d v
  | [], ps, h => by cases h; exact ⟨rfl, fun j i d h => by simp at h⟩
  | (i, x) :: xs, ps, h => by
    rw [evParts_cons] at h
    unfold evP1 at h
    split at h
    · rename_i d ds h1 h2
      cases h
      obtain ⟨h3, h4⟩ := evParts_ok hsl h2
      refine ⟨by simpa using h3, fun j i' d' hj => ?_⟩
      cases j with
      | zero => simp at hj; obtain ⟨rfl, rfl⟩ := hj; exact ⟨_, rfl, ev_ok hsl h1⟩
      | succ j => simpa using h4 j i' d' (by simpa using hj)
    · cases h
theorem fieldOf_ok {s : TypeId} {i : TI} (hi : TiOk P s i) {f t off sz : Nat} (hf : fieldOf i f = some (t, off, sz)) : ∃ fs fl, P.underlying s = some (.struct fs) ∧ fs[f]? = some fl ∧ fl.type = t ∧ fl.offset = off ∧ P.cellsOf t = sz ∧ 0 < sz := by
  obtain ⟨info, d, h1, h2, h3, h3', h4, h5, h6⟩ := hi
  unfold fieldOf at hf
  split at hf
  · rename_i fs htd
    rw [htd] at h4
    cases d <;> first | (simp [tdOk] at h4; done) | skip
    rename_i gs
    obtain ⟨fl, hg, h6, h7, h8, h9, _⟩ := h4.2 f t off sz hf
    exact ⟨gs, fl, h2, hg, h6, h7, h8, h9⟩
  · cases hf
theorem fieldAt_ok {s : TypeId} {i : TI} (hi : TiOk P s i) {f t off sz : Nat} (hf : fieldOf i f = some (t, off, sz)) (b base : Nat) : (Instr.fieldAt s (.pointer (some ⟨b, base, none⟩)) f).run P w = .ok (.pointer (some ⟨b, base + off, none⟩)) w := by
  obtain ⟨fs, fl, h1, h2, h3, h4, h5, h6⟩ := fieldOf_ok hi hf
  have hs : (sizeOf fl.type).run P w = .ok sz w := by
    unfold Program.cellsOf at h5
    cases hq : P.info? t with
    | none => rw [hq] at h5; simp at h5; omega
    | some info => rw [hq] at h5; simp at h5; rw [h3]; simp [sizeOf, typeInfo, hq, h5]
  have hz : ¬ sz = 0 := by omega
  simp [Instr.fieldAt, run_underlying h1, h2, Instr.sureAddr, fieldPlace, hs, hz, h4, add_none]

theorem fillD_scals {pl : Nat → Option (Nat × Nat)} : ∀ {ps : List (Nat × DV)} {cells out : List DV}, scals cells = true → fillD pl cells ps = some out → scals out = true ∧ out.length = cells.length
  | [], cells, out, hs, h => by cases h; exact ⟨hs, rfl⟩
  | (i, d) :: ps, cells, out, hs, h => by
    unfold fillD at h
    split at h
    · rename_i off sz cs h1 h2
      split at h
      · rename_i hb
        simp only [Bool.and_eq_true] at hb
        have b1 := Nat.eq_of_beq_eq_true hb.1
        have b2 := Nat.le_of_ble_eq_true hb.2
        have hcs : scals cs = true := by
          unfold cellsD at h2
          split at h2
          · split at h2
            · rename_i hq; cases h2; exact hq
            · cases h2
          · split at h2
            · rename_i hq; cases h2; simp [scals, hq]
            · cases h2
        obtain ⟨r1, r2⟩ := fillD_scals (ps := ps) (by
          rw [scals_append, scals_append, hcs, scals_sub hs (fun d hd => List.mem_of_mem_take hd), scals_sub hs (fun d hd => List.mem_of_mem_drop hd)]
          rfl) h
        refine ⟨r1, r2.trans ?_⟩
        simp
        omega
      · cases h
    · cases h
theorem nlist_ok {E : Env} {w : World} {ds : List DV} {zs : List Value} (h : VRs E w ds zs) : ∀ n, VRs E w (nlist n ds) (List.replicate n zs).flatten ∧ (scals ds = true → scals (nlist n ds) = true)
  | 0 => ⟨.nil _ _, fun _ => rfl⟩
  | n + 1 => by
    obtain ⟨h1, h2⟩ := nlist_ok h n
    refine ⟨?_, fun hs => ?_⟩
    · rw [List.replicate_succ, List.flatten_cons]
      exact h.append h1
    · show scals (ds ++ nlist n ds) = true
      rw [scals_append, hs, h2 hs]
      rfl
theorem madeCells_list (z : Array Value) (n : Nat) : (madeCells z (n * z.size)).toList = (List.replicate n z.toList).flatten := by
  apply List.ext_getElem?
  intro j
  have hlen : ∀ n, ((List.replicate n z.toList).flatten).length = n * z.size := fun n => by
    induction n with
    | zero => simp
    | succ n ih => rw [List.replicate_succ, List.flatten_cons, List.length_append, ih, Nat.add_mul]; simp; omega
  by_cases hj : j < n * z.size
  · have hz : 0 < z.size := by
      rcases Nat.eq_zero_or_pos z.size with h | h
      · rw [h] at hj; omega
      · exact h
    have hm : j % z.size < z.size := Nat.mod_lt _ hz
    have key : ∀ (n j : Nat), j < n * z.size → ((List.replicate n z.toList).flatten)[j]? = z.toList[j % z.size]? := by
      intro n
      induction n with
      | zero => intro j h; omega
      | succ n ih =>
        intro j h
        rw [List.replicate_succ, List.flatten_cons, List.getElem?_append]
        by_cases hlt : j < z.size
        · rw [if_pos (by simpa using hlt), Nat.mod_eq_of_lt hlt]
        · rw [if_neg (by simpa using hlt)]
          have h' : j - z.size < n * z.size := by rw [Nat.add_mul] at h; omega
          have := ih (j - z.size) h'
          rw [show j - z.toList.length = j - z.size by simp, this]
          congr 1
          exact (Nat.mod_eq_sub_mod (by omega)).symm
    rw [key n j hj]
    simp [madeCells, hj, hm]
  · rw [List.getElem?_eq_none (by simp [madeCells]; omega), List.getElem?_eq_none (by rw [hlen]; omega)]
theorem bytesOf_ok : ∀ {cs : List DV} {l : List UInt8}, bytesOf cs = some l → ∃ ns : List Int, cs = ns.map (DV.int .u8 ·) ∧ l = ns.map fun n => UInt8.ofNat n.toNat
  | [], l, h => by cases h; exact ⟨[], rfl, rfl⟩
  | d :: cs, l, h => by
    unfold bytesOf at h
    split at h
    · rename_i e; cases e
    · rename_i n r e
      cases e
      split at h
      · rename_i l' hl
        cases h
        obtain ⟨ns, h1, h2⟩ := bytesOf_ok hl
        exact ⟨n :: ns, by rw [h1]; rfl, by rw [h2]; rfl⟩
      · cases h
    · cases h
theorem ints_VRs {E : Env} {w : World} : ∀ {ns : List Int} {us : List Value}, VRs E w (ns.map (DV.int .u8 ·)) us → us = ns.map (Value.int .u8 ·)
  | [], us, h => h.unnil
  | n :: ns, us, h => by
    obtain ⟨v, vs, rfl, h1, h2⟩ := VRs.uncons (d := .int .u8 n) (ds := ns.map (DV.int .u8 ·)) h
    rw [h1.of_int, ints_VRs h2]
    rfl
end
end Go.Proofs.Ytoghpmeoekbcbaa
