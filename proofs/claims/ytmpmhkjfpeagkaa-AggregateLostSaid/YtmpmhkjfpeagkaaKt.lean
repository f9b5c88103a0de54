/- Arguments that are arrays of integers. No function of the program is named here. -/
import Derived.Test.YtmpmhkjfpeagkaaMG
import Derived.OpenShut
import Derived.WideShapes
namespace Go.Proofs.Ytmpmhkjfpeagkaa
open Go.RowKit

/-- an array of integers -/
def intsV (k : IntKind) (xs : List Int) : Value := .agg (xs.map fun a => Value.int k a).toArray
theorem okWide_array {P : Program} {w : World} {r : Reach} {base : Nat} {t e : TypeId} {n : Nat} {v : Value} (ht : P.underlying t = some (.array n e)) (h : Value.okWide P w r base t v) : ∃ cs, v = .agg cs ∧ cs.size = P.cellsOf t := by
  simp only [Value.okWide, ht] at h
  obtain ⟨cs, h1, h2, _⟩ := h
  exact ⟨cs, h1, h2⟩
theorem open_ints {H : Type} {enc : TypeId × Value → H} {P : Program} {w : World} {base : Nat} {sp : Nat → Bool} {held : Bool} {fuel : Nat} {t e : TypeId} {n : Nat} {k : IntKind} {cs : Array Value} {x : DataW H × List MemPlace}
    (ht : P.underlying t = some (.array n e)) (he : P.underlying e = some (.int k)) (hc : P.cellsOf e = 1) (hct : P.cellsOf t = n) (h : DataW.trod enc P w base sp held fuel t cs.toList = some x) :
    ∃ xs : List Int, xs.length = n ∧ Value.agg cs = intsV k xs ∧ ∀ a ∈ xs, (Lit.int k a).wf = true := by
  obtain ⟨ys, m, _, _, hl, hyl, hi⟩ := DataW.trod_array ht h
  rw [hct] at hl
  have hel : ∀ i, i < n → ∃ a, cs.toList[i]? = some (.int k a) ∧ (Lit.int k a).wf = true := by
    intro i hin
    have h1 := hi i hin
    rw [hc, Nat.mul_one, List.getElem?_eq_getElem (by omega)] at h1
    obtain ⟨a, ha, _, hw⟩ := DataW.trod_int he h1
    refine ⟨a, ?_, hw⟩
    have : ((cs.toList.drop i).take 1)[0]? = some (.int k a) := by rw [ha]; rfl
    simpa using this
  refine ⟨cs.toList.map fun v => match v with | .int _ a => a | _ => 0, by simp [← hl], ?_, fun a ha => ?_⟩
  · unfold intsV
    congr 1
    apply Array.toList_inj.1
    simp only [List.map_map]
    refine List.ext_getElem? fun i => ?_
    rcases Nat.lt_or_ge i n with hlt | hge
    · obtain ⟨a, ha, _⟩ := hel i hlt
      rw [List.getElem?_map, ha]
      rfl
    · rw [List.getElem?_eq_none (by omega), List.getElem?_eq_none (by simpa using (by omega : cs.toList.length ≤ i))]
  · obtain ⟨v, hv, rfl⟩ := List.mem_map.1 ha
    obtain ⟨i, hi'⟩ := List.mem_iff_getElem?.1 hv
    obtain ⟨b, hb, hw⟩ := hel i (by have := (List.getElem?_eq_some_iff.1 hi').1; omega)
    rw [hi'] at hb
    cases hb
    exact hw
end Go.Proofs.Ytmpmhkjfpeagkaa
