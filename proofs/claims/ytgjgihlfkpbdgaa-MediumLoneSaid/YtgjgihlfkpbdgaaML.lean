/- What a call answers in a heap of its caller's: said of a heap, used in it. No function of the program is named here. -/
import Derived.Test.YtgjgihlfkpbdgaaMK
namespace Go.Proofs.Ytgjgihlfkpbdgaa
open Go.RowKit

noncomputable section
variable {P : Program} {T : Tab} {F : FTab} {C : ConF} {K : Nat}
theorem GoesK.goes {ks : List (Nat × Nat)} {c : Code} {sl sl' : Slots} {hp hp' : Hp} {e : Ex} (h : GoesK K P T ks c sl hp e sl' hp') : Goes P T ks c sl hp e sl' hp' := fun N hN fm W0 S0 E a w Q hs hQ => h N hN fm W0 S0 E a w Q hs fun E' a' w' hg hs' => hQ E' a' w' hg.g hs'
theorem vrs_ren {L : List Nat} {hp : Hp} {W0 : World} {base : Nat} {S0 : Nat → Prop} {E : Env} {w : World} (hs : HS W0 base S0 E hp w) : ∀ {args args0 : List DV} {vs : List Value}, rens (ren3 L) args = some args0 → VRs E w args vs → VRs (meltE E L hp) w args0 vs
  | [], args0, vs, h, hv => by
    cases h
    rw [hv.unnil]
    exact .nil _ _
  | a :: args, args0, vs, h, hv => by
    simp only [rens] at h
    split at h
    · rename_i h1 h2
      cases h
      obtain ⟨v, vs', rfl, k1, k2⟩ := hv.uncons
      exact .cons (mlt_ok hs (ren3_mlt h1) k1) (vrs_ren hs h2 k2)
    · cases h
/-- the callee needs the objects L alone -/
theorem AnsH.pre {f : FuncId} {args args0 : List DV} {hp1 hp0 hp' : Hp} {d : DV} {L fl : List Nat} (h : AnsH P f args0 hp0 d hp') (hr : renHC L fl hp1 = some hp0) (ha : rens (ren3 L) args = some args0) (hfl : FlatIn fl hp1) : AnsH P f args hp1 d hp' := by
  have hm := renHC_melt hfl hr
  refine ⟨h.1, fun W0 S0 E w vs hs hv => (h.2 W0 S0 (meltE E L hp1) w vs (hs_melt hs hm) (vrs_ren hs ha hv)).mono ?_⟩
  rintro e w' ⟨E', v, rfl, hg, hh, hvr⟩
  exact ⟨E', v, rfl, (gon_melt hm E w).trans hg, hh, hvr⟩
def zansH (P : Program) (T : Tab) (F : FTab) (C : ConF) (f : FuncId) (args : List DV) (hp : Hp) (p : Yath) : Option (DV × Hp × List Prop) := match F f with
  | some fn => match Nat.ble args.length fn.nt with
    | true => zRes T fn.res (zz P T F C 1000 fn.ks 1000 fn.body (initS fn.nt args) hp p)
    | false => none
  | none => none
theorem zansH_ok (hT : TabOk P T) (hmix : P.follows .mixedOrders = true) (hF : FunOk P T F) (hC : ConOk P C) {f : FuncId} {args : List DV} {p : Yath} {d : DV} {hp0 hp : Hp} {cs : List Prop} (h : zansH P T F C f args hp0 p = some (d, hp, cs)) (hc : AskedP cs) : AnsH P f args hp0 d hp := by
  unfold zansH at h
  split at h
  · rename_i fn hfn
    split at h
    · rename_i hl
      unfold zRes at h
      split at h
      · cases h
      · rename_i e sl hp1 p1 cs1 hne hz
        split at h
        · rename_i ds hds
          cases h
          exact ansH_of_goes hT hF hfn hl (zz_ok hT hmix hF hC 1000 hz hc) hne hds
        · cases h
      · cases h
    · cases h
  · cases h
theorem SeenK.seen {sl sl' : Slots} {hp hp' : Hp} (h : SeenK K sl hp sl' hp') : Seen sl hp sl' hp' := fun fm W0 S0 E N a w hs => by
  obtain ⟨E', h1, h2⟩ := h fm W0 S0 E N a w hs
  exact ⟨E', h1.g, h2⟩
end
end Go.Proofs.Ytgjgihlfkpbdgaa
