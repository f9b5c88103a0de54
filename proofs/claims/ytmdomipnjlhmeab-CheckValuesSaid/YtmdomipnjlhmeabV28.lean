/- Slots that know more give the same answer. No function of the program is named here. -/
import Derived.Test.YtmdomipnjlhmeabV27
namespace Go.Proofs.Ytmdomipnjlhmeab
open Go.RowKit

noncomputable section
variable {T : Tab} {F : FTab} {C : CallF}
theorem evs_known {sl : Slots} : ∀ {xs : List Operand} {ds : List DV}, evs sl xs = some ds → ∀ x ∈ xs, (ev sl x).isSome = true
  | [], _, _, x, hx => by cases hx
  | y :: xs, ds, h, x, hx => by
    rw [evs_cons] at h
    unfold evs1 at h
    split at h
    · rename_i h1 h2
      rcases List.mem_cons.1 hx with rfl | hx
      · rw [h1]; rfl
      · exact evs_known h2 x hx
    · cases h
theorem evParts_known {sl : Slots} : ∀ {xs : List (Nat × Operand)} {ds : List (Nat × DV)}, evParts sl xs = some ds → ∀ x ∈ xs, (ev sl x.2).isSome = true
  | [], _, _, x, hx => by cases hx
  | y :: xs, ds, h, x, hx => by
    rw [evParts_cons] at h
    unfold evP1 at h
    split at h
    · rename_i h1 h2
      rcases List.mem_cons.1 hx with rfl | hx
      · rw [h1]; rfl
      · exact evParts_known h2 x hx
    · cases h
theorem evO_known {sl : Slots} {x : Option Operand} {d : Option DV} (h : evO sl x = some d) : ∀ y, x = some y → (ev sl y).isSome = true := by
  rintro y rfl
  simp only [evO] at h
  cases hv : ev sl y with
  | some d => rfl
  | none => rw [hv] at h; simp at h
/-- an operation that is carried out knows its operands -/
theorem aop_known {hp : Hp} {sl : Slots} (op : Op) (h : aop T hp sl op ≠ .fail) : ∀ x ∈ op.operands, (ev sl x).isSome = true := by
  cases op with
  | build t parts =>
    simp only [aop, opBuild] at h
    split at h
    · rename_i h2
      intro x hx
      simp only [Op.operands, List.mem_toArray, List.mem_map] at hx
      obtain ⟨y, hy, rfl⟩ := hx
      exact evParts_known h2 y hy
    · exact absurd rfl h
  | buildSlice t n parts =>
    simp only [aop, opBuildSlice] at h
    split at h
    · rename_i h2
      intro x hx
      simp only [Op.operands, List.mem_toArray, List.mem_map] at hx
      obtain ⟨y, hy, rfl⟩ := hx
      exact evParts_known h2 y hy
    · exact absurd rfl h
  | makeFunc f first captured =>
    simp only [aop, opMakeFunc] at h
    split at h
    · rename_i h1 h2
      intro x hx
      simp only [Op.operands, Array.mem_append] at hx
      rcases hx with hx | hx
      · exact evs_known h1 x (by simpa using hx)
      · exact evs_known h2 x (by simpa using hx)
    · exact absurd rfl h
  | slice t x lo hi mx =>
    simp only [aop, opSlice] at h
    split at h
    · rename_i h1 h2 h3 h4
      intro y hy
      simp only [Op.operands] at hy
      have hy : y = x ∨ lo = some y ∨ hi = some y ∨ mx = some y := by
        simp at hy
        rcases hy with hy | hy | hy | hy <;> simp [hy]
      rcases hy with rfl | hy | hy | hy
      · rw [h1]; rfl
      · exact evO_known h2 y hy
      · exact evO_known h3 y hy
      · exact evO_known h4 y hy
    · exact absurd rfl h
  | call c =>
    obtain ⟨callee, args, ats⟩ := c
    simp only [aop, callD] at h
    split at h
    · exact absurd rfl h
    · rename_i h1
      intro x hx
      simp only [Op.operands, Call.operands, Array.mem_append] at hx
      rcases hx with hx | hx
      · cases callee with
        | value f =>
          simp only at h
          have : x = f := by simpa using hx
          subst this
          split at h
          · rename_i h2; rw [h2]; rfl
          · rename_i h2; rw [h2]; rfl
          · exact absurd rfl h
        | invoke r m => exact absurd rfl h
        | builtin b => simp at hx
      · exact evs_known h1 x (by simpa using hx)
  | move x =>
    intro y hy
    simp only [Op.operands] at hy
    simp at hy
    subst hy
    simp only [aop] at h
    cases hv : ev sl y with
    | some d => rfl
    | none => rw [hv] at h; exact absurd rfl h
  | assign x =>
    intro y hy
    simp only [Op.operands] at hy
    simp at hy
    subst hy
    simp only [aop] at h
    cases hv : ev sl y with
    | some d => rfl
    | none => rw [hv] at h; exact absurd rfl h
  | alloc t =>
    intro y hy
    simp [Op.operands] at hy
  | _ =>
    first
    | exact absurd rfl h
    | (simp only [aop, opPick, opBox, opMakeSlice, opLoad, opStore, opNilCheck, opBinOp, opUnOp, opConvert, opFieldAddr, opField, opIndexAddr, opIndex, opExtract, opMakeInterface] at h
       intro y hy
       simp only [Op.operands] at hy
       simp at hy
       first
       | (split at h <;> first
          | exact absurd rfl h
          | (rcases hy with rfl | rfl | rfl <;> simp_all)
          | (rcases hy with rfl | rfl <;> simp_all)
          | (subst hy; simp_all)))
/-- sl' knows all that sl knows -/
def SLe (sl sl' : Slots) : Prop := ∀ t d, look sl t = some d → look sl' t = some d
theorem ev_le {sl sl' : Slots} (h : SLe sl sl') {x : Operand} {d : DV} (hx : ev sl x = some d) : ev sl' x = some d := by
  cases x with
  | tmp t => exact h t d hx
  | _ => exact hx
theorem aop_le {hp : Hp} {sl sl' : Slots} (h : SLe sl sl') (op : Op) (hne : aop T hp sl op ≠ .fail) : aop T hp sl' op = aop T hp sl op := by
  refine (aop_congr op fun x hx => ?_).symm
  have := aop_known op hne x hx
  cases hv : ev sl x with
  | some d => rw [ev_le h hv]
  | none => rw [hv] at this; cases this
end
end Go.Proofs.Ytmdomipnjlhmeab
