/- A closed call's contract that the kernel reads. No function of the program is named here. -/
import Derived.Test.YtoghpmeoekbcbaaV37
namespace Go.Proofs.Ytoghpmeoekbcbaa
open Go.RowKit

noncomputable section
variable {P : Program}
/-- a function with one number as its argument, where no object is -/
def fixI (f0 : FuncId) (k : IntKind) (c : Int) (d : DV) : ConF := fun f args hp => match Nat.beq f f0, args, hp with
  | true, [.int k' n], ⟨0, [], []⟩ => match decide (k' = k), decide (n = c) with
    | true, true => some (d, ⟨0, [], []⟩, none)
    | _, _ => none
  | _, _, _ => none
theorem fixI_ok {f0 : FuncId} {k : IntKind} {c : Int} {d : DV} (h : Ans P f0 [.int k c] d ⟨0, [], []⟩) : ConOk P (fixI f0 k c d) := by
  intro f args hp r hp' mu heq
  unfold fixI at heq
  split at heq
  · rename_i hb
    have hb := Nat.eq_of_beq_eq_true hb
    subst hb
    split at heq
    · rename_i hk hc
      cases heq
      rw [decide_eq_true_eq] at hk hc
      subst hk
      subst hc
      exact eqC_ok (α := Unit) (A := fun _ => [.int _ _]) (B := fun _ => (d, ⟨0, [], []⟩)) (fun _ => h) (fun _ => rfl) f _ _ _ _ _ (eqC_at (fun _ _ _ => rfl) ())
    · cases heq
  · cases heq
/-- a contract that is computed, where no object is -/
def comC (f0 : FuncId) (g : List DV → Option DV) : ConF := fun f args hp => match Nat.beq f f0, hp with
  | true, ⟨0, [], []⟩ => match g args with
    | some d => some (d, ⟨0, [], []⟩, none)
    | none => none
  | _, _ => none
theorem comC_ok {f0 : FuncId} {g : List DV → Option DV} (h : ∀ args d, g args = some d → Ans P f0 args d ⟨0, [], []⟩) : ConOk P (comC f0 g) := by
  intro f args hp r hp' mu heq
  unfold comC at heq
  split at heq
  · rename_i hb
    have hb := Nat.eq_of_beq_eq_true hb
    subst hb
    split at heq
    · rename_i d hg
      cases heq
      exact eqC_ok (α := Unit) (A := fun _ => args) (B := fun _ => (r, ⟨0, [], []⟩)) (fun _ => h args r hg) (fun _ => rfl) f _ _ _ _ _ (eqC_at (fun _ _ _ => rfl) ())
    · cases heq
  · cases heq
end
end Go.Proofs.Ytoghpmeoekbcbaa
