/- Slots that know more. No function of the program is named here. -/
import Derived.Test.YtoghpmeoekbcbaaV24
namespace Go.Proofs.Ytoghpmeoekbcbaa
open Go.RowKit

noncomputable section
/-- sl' knows all that sl knows -/
def SLe (sl sl' : Slots) : Prop := ∀ t d, look sl t = some d → look sl' t = some d
/-- of one shape; what the first knows, the second knows -/
inductive Kn : Slots → Slots → Prop
  | lf : Kn .lf .lf
  | nd {u u' : Option DV} {l l' r r' : Slots} : (∀ d, u = some d → u' = some d) → Kn l l' → Kn r r' → Kn (.nd u l r) (.nd u' l' r')
theorem Kn.refl : ∀ s, Kn s s
  | .lf => .lf
  | .nd _ l r => .nd (fun _ h => h) (Kn.refl l) (Kn.refl r)
theorem Kn.trans {a b c : Slots} (h : Kn a b) (k : Kn b c) : Kn a c := by
  induction h generalizing c with
  | lf => exact k
  | nd h1 _ _ il ir =>
    cases k with
    | nd k1 k2 k3 => exact .nd (fun d hd => k1 d (h1 d hd)) (il k2) (ir k3)
theorem Kn.sle {s s' : Slots} (h : Kn s s') : SLe s s' := by
  induction h with
  | lf => exact fun t d h => h
  | nd h1 _ _ il ir =>
    intro t d h
    rw [look_nd] at h ⊢
    by_cases a : t = 0
    · rw [if_pos a] at h ⊢
      exact h1 d h
    · rw [if_neg a] at h ⊢
      by_cases b : t % 2 = 1
      · rw [if_pos b] at h ⊢
        exact il _ d h
      · rw [if_neg b] at h ⊢
        exact ir _ d h
theorem Kn.put {s s' : Slots} (h : Kn s s') (t : Nat) (d : DV) : Kn (putS s t d) (putS s' t d) := by
  induction h generalizing t with
  | lf => exact .lf
  | nd h1 h2 h3 il ir =>
    rw [putS_nd, putS_nd]
    split
    · exact .nd (fun _ h => h) h2 h3
    · split
      · exact .nd h1 (il _) h3
      · exact .nd h1 h2 (ir _)
theorem Kn.putO {s s' : Slots} (h : Kn s s') (o : Option Tmp) (d : DV) : Kn (putO s o d) (putO s' o d) := by
  cases o with
  | none => exact h
  | some t => exact h.put t d
theorem kn_restr : ∀ (s : Slots) (p : Nat → Bool), Kn (restr s p) s
  | .lf, _ => .lf
  | .nd u l r, p => by
    unfold restr
    refine .nd (fun d h => ?_) (kn_restr l _) (kn_restr r _)
    split at h
    · exact h
    · cases h
end
end Go.Proofs.Ytoghpmeoekbcbaa
