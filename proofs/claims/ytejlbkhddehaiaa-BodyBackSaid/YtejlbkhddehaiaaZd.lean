/- Statements in groups, some objects being kept between them. No function of the program is named here. -/
import Derived.Test.YtejlbkhddehaiaaZa
namespace Go.Proofs.Ytejlbkhddehaiaa
open Go.RowKit

noncomputable section
/-- what is left of statements' run: the slots 'live', the objects L (of those the objects fl name none) -/
def zlm (L fl live : List Nat) : Option (Slots × Hp × Yath × List Prop) → Option (Slots × Hp × List Prop)
  | some (s, h, [], cs) => match renHC L fl h with
    | some h' => some (renS L (seeS live s), h', FlatIn fl h :: cs)
    | none => none
  | _ => none
variable {P : Program} {T : Tab} {F : FTab} {C : ConF} {ks : List (Nat × Nat)}
theorem zlm_ok (hT : TabOk P T) (hmix : P.follows .mixedOrders = true) (hF : FunOk P T F) (hC : ConOk P C) {L fl live : List Nat} {A B : List Code} {sl s1 s2 : Slots} {hp h1 h2 : Hp} {p : Yath} {cs : List Prop} {e : Ex} (h : zlm L fl live (zl P T F C ks A sl hp p) = some (s1, h1, cs)) (hc : AskedP cs) (k : GL P T ks B s1 h1 e s2 h2) : GL P T ks (A ++ B) sl hp e s2 h2 := by
  unfold zlm at h
  split at h
  · rename_i s h' cs' hz
    split at h
    · rename_i hr
      cases h
      exact zl_ok hT hmix hF hC A hz (fun x hx => hc x (List.mem_cons_of_mem _ hx)) (.pre (Seen.trans (.kn (kn_restr _ _) _) (seen_renC (hc _ (List.mem_cons_self ..)) hr)) k)
    · cases h
  · cases h
end
end Go.Proofs.Ytejlbkhddehaiaa
