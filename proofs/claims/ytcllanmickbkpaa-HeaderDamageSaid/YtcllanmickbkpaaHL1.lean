/- Arguments that are arrays of integers. No function of the program is named here. -/
import Derived.Test.YtcllanmickbkpaaMG
import Derived.OpenShut
import Derived.WideShapes
import Derived.Test.YtcllanmickbkpaaHA1
namespace Go.Proofs.Ytcllanmickbkpaa
open Go.RowKit

/-- an array of integers -/
def intsV (k : IntKind) (xs : List Int) : Value := .agg (xs.map fun a => Value.int k a).toArray
theorem okWide_array {P : Program} {w : World} {r : Reach} {base : Nat} {t e : TypeId} {n : Nat} {v : Value} (ht : P.underlying t = some (.array n e)) (h : Value.okWide P w r base t v) : ∃ cs, v = .agg cs ∧ cs.size = P.cellsOf t := by
  simp only [Value.okWide, ht] at h
  obtain ⟨cs, h1, h2, _⟩ := h
  exact ⟨cs, h1, h2⟩
theorem open_ints {H : Type} {enc : TypeId × Value → H} {P : Program} {w : World} {base : Nat} {sp : Nat → Bool} {held : Bool} {fuel : Nat} {t e : TypeId} {n : Nat} {k : IntKind} {cs : Array Value} {x : DataW H × List MemPlace}
    (ht : P.underlying t = some (.array n e)) (he : P.underlying e = some (.int k)) (hc : P.cellsOf e = 1) (hct : P.cellsOf t = n) (h : DataW.trod enc P w base sp held fuel t cs.toList = some x) :
    ∃ xs : List Int, xs.length = n ∧ Value.agg cs = intsV k xs ∧ ∀ a ∈ xs, (Lit.int k a).wf = true := by
  obtain ⟨ys, m, _, _, hl, hyl, hi⟩ := DataW.trod_array ht h
  rw [hct] at hl
  have hel : ∀ i, i < n → ∃ a, cs.toList[i]? = some (.int k a) ∧ (Lit.int k a).wf = true := by
    intro i hin
    have h1 := hi i hin
    rw [hc, Nat.mul_one, List.getElem?_eq_getElem (by omega)] at h1
    obtain ⟨a, ha, _, hw⟩ := DataW.trod_int he h1
    refine ⟨a, ?_, hw⟩
    have : ((cs.toList.drop i).take 1)[0]? = some (.int k a) := by rw [ha]; rfl
    simpa using this
  refine ⟨cs.toList.map fun v => match v with | .int _ a => a | _ => 0, by simp [← hl], ?_, fun a ha => ?_⟩
  · unfold intsV
    congr 1
    apply Array.toList_inj.1
    simp only [List.map_map]
    refine List.ext_getElem? fun i => ?_
    rcases Nat.lt_or_ge i n with hlt | hge
    · obtain ⟨a, ha, _⟩ := hel i hlt
      rw [List.getElem?_map, ha]
      rfl
    · rw [List.getElem?_eq_none (by omega), List.getElem?_eq_none (by simpa using (by omega : cs.toList.length ≤ i))]
  · obtain ⟨v, hv, rfl⟩ := List.mem_map.1 ha
    obtain ⟨i, hi'⟩ := List.mem_iff_getElem?.1 hv
    obtain ⟨b, hb, hw⟩ := hel i (by have := (List.getElem?_eq_some_iff.1 hi').1; omega)
    rw [hi'] at hb
    cases hb
    exact hw
theorem list6 {α : Type} {xs : List α} (h : xs.length = 6) : ∃ a b c d e f, xs = [a, b, c, d, e, f] := by
  match xs, h with
  | [a, b, c, d, e, f], _ => exact ⟨a, b, c, d, e, f, rfl⟩
end Go.Proofs.Ytcllanmickbkpaa
/- Headers and addresses as a law's arguments. -/
namespace Go.Proofs.Ytcllanmickbkpaa
open Go.RowKit

def ad6Ty : Ty Ad6 where
  size := 6
  rep _ _ a cs := cs = [.int .u8 a.b0, .int .u8 a.b1, .int .u8 a.b2, .int .u8 a.b3, .int .u8 a.b4, .int .u8 a.b5] ∧ ∀ x ∈ [a.b0, a.b1, a.b2, a.b3, a.b4, a.b5], (Lit.int .u8 x).wf = true
  len h := by rw [h.1]; rfl
  mono _ _ h := h
theorem opensAd6 : Opens Try.prog 23 ad6Ty := by
  refine ⟨by kernel_rfl, fun {H enc w base spare held fuel cs x} h => ?_⟩
  obtain ⟨xs, hl, he, hw⟩ := open_ints (cs := cs.toArray) Try.underlying23 Try.underlying5 (by kernel_rfl) (by kernel_rfl) (by simpa using h)
  obtain ⟨a, b, c, d, e, g, rfl⟩ := list6 hl
  have hcs : cs = [.int .u8 a, .int .u8 b, .int .u8 c, .int .u8 d, .int .u8 e, .int .u8 g] := by simpa [intsV] using he
  exact ⟨⟨a, b, c, d, e, g⟩, hcs, hw⟩
theorem ad6_of {xs : List Int} (h : xs.length = 6) : ∃ a : Ad6, xs = [a.b0, a.b1, a.b2, a.b3, a.b4, a.b5] := by
  obtain ⟨a, b, c, d, e, g, rfl⟩ := list6 h
  exact ⟨⟨a, b, c, d, e, g⟩, rfl⟩
theorem vr_ad {w : World} {E : Env} (a : Ad6) : VR w E (.agg (acs a)) (intsV .u8 [a.b0, a.b1, a.b2, a.b3, a.b4, a.b5]) :=
  VRs.agg (.cons (.int _ _ _) (.cons (.int _ _ _) (.cons (.int _ _ _) (.cons (.int _ _ _) (.cons (.int _ _ _) (.cons (.int _ _ _) (.nil _ _)))))))
def hdTy : Ty (Int × Int × Bool × Bool × Bool × Bool × Bool × Bool × Bool × Int × Ad6 × Ad6 × Ad6 × Ad6 × Int × Int × Int × Int × Bool × Bool × Unit) := Ty.pair (Ty.int .u8) (Ty.pair (Ty.int .u8) (Ty.pair (Ty.bool) (Ty.pair (Ty.bool) (Ty.pair (Ty.bool) (Ty.pair (Ty.bool) (Ty.pair (Ty.bool) (Ty.pair (Ty.bool) (Ty.pair (Ty.bool) (Ty.pair (Ty.int .i64) (Ty.pair (ad6Ty) (Ty.pair (ad6Ty) (Ty.pair (ad6Ty) (Ty.pair (ad6Ty) (Ty.pair (Ty.int .i64) (Ty.pair (Ty.int .i64) (Ty.pair (Ty.int .i64) (Ty.pair (Ty.int .u8) (Ty.pair (Ty.bool) (Ty.pair (Ty.bool) (Ty.unit))))))))))))))))))))
theorem opensHd : Opens Try.prog 25 hdTy :=
  Opens.struct Try.underlying25 (by kernel_rfl)
    (by show OpensF Try.prog 0 (_ :: _ :: _ :: _ :: _ :: _ :: _ :: _ :: _ :: _ :: _ :: _ :: _ :: _ :: _ :: _ :: _ :: _ :: _ :: _ :: []) (Ty.pair _ (Ty.pair _ (Ty.pair _ (Ty.pair _ (Ty.pair _ (Ty.pair _ (Ty.pair _ (Ty.pair _ (Ty.pair _ (Ty.pair _ (Ty.pair _ (Ty.pair _ (Ty.pair _ (Ty.pair _ (Ty.pair _ (Ty.pair _ (Ty.pair _ (Ty.pair _ (Ty.pair _ (Ty.pair _ Ty.unit)))))))))))))))))))); exact (OpensF.cons (Opens.int Try.underlying5 (by kernel_rfl)) rfl (OpensF.cons (Opens.int Try.underlying5 (by kernel_rfl)) rfl (OpensF.cons (Opens.bool Try.underlying4 (by kernel_rfl)) rfl (OpensF.cons (Opens.bool Try.underlying4 (by kernel_rfl)) rfl (OpensF.cons (Opens.bool Try.underlying4 (by kernel_rfl)) rfl (OpensF.cons (Opens.bool Try.underlying4 (by kernel_rfl)) rfl (OpensF.cons (Opens.bool Try.underlying4 (by kernel_rfl)) rfl (OpensF.cons (Opens.bool Try.underlying4 (by kernel_rfl)) rfl (OpensF.cons (Opens.bool Try.underlying4 (by kernel_rfl)) rfl (OpensF.cons (Opens.int Try.underlying3 (by kernel_rfl)) rfl (OpensF.cons opensAd6 rfl (OpensF.cons opensAd6 rfl (OpensF.cons opensAd6 rfl (OpensF.cons opensAd6 rfl (OpensF.cons (Opens.int Try.underlying3 (by kernel_rfl)) rfl (OpensF.cons (Opens.int Try.underlying3 (by kernel_rfl)) rfl (OpensF.cons (Opens.int Try.underlying3 (by kernel_rfl)) rfl (OpensF.cons (Opens.int Try.underlying5 (by kernel_rfl)) rfl (OpensF.cons (Opens.bool Try.underlying4 (by kernel_rfl)) rfl (OpensF.cons (Opens.bool Try.underlying4 (by kernel_rfl)) rfl (OpensF.nil _))))))))))))))))))))))
theorem vr_app {w : World} {E : Env} {d1 d2 : List DV} {c1 c2 : List Value} (h1 : VRs E w d1 c1) (h2 : VRs E w d2 c2) : VRs E w (d1 ++ d2) (c1 ++ c2) := h1.append h2
def acsV (a : Ad6) : List Value := [.int .u8 a.b0, .int .u8 a.b1, .int .u8 a.b2, .int .u8 a.b3, .int .u8 a.b4, .int .u8 a.b5]
theorem vr_hd {w : World} {S : Nat → Prop} {cs : Array Value} {x : Int × Int × Bool × Bool × Bool × Bool × Bool × Bool × Bool × Int × Ad6 × Ad6 × Ad6 × Ad6 × Int × Int × Int × Int × Bool × Bool × Unit} (h : hdTy.rep w S x cs.toList) : ∃ h : Hd, VR w (ro S) (hdr h) (.agg cs) := by
  refine ⟨⟨x.1, x.2.1, x.2.2.1, x.2.2.2.1, x.2.2.2.2.1, x.2.2.2.2.2.1, x.2.2.2.2.2.2.1, x.2.2.2.2.2.2.2.1, x.2.2.2.2.2.2.2.2.1, x.2.2.2.2.2.2.2.2.2.1, x.2.2.2.2.2.2.2.2.2.2.1, x.2.2.2.2.2.2.2.2.2.2.2.1, x.2.2.2.2.2.2.2.2.2.2.2.2.1, x.2.2.2.2.2.2.2.2.2.2.2.2.2.1, x.2.2.2.2.2.2.2.2.2.2.2.2.2.2.1, x.2.2.2.2.2.2.2.2.2.2.2.2.2.2.2.1, x.2.2.2.2.2.2.2.2.2.2.2.2.2.2.2.2.1, x.2.2.2.2.2.2.2.2.2.2.2.2.2.2.2.2.2.1, x.2.2.2.2.2.2.2.2.2.2.2.2.2.2.2.2.2.2.1, x.2.2.2.2.2.2.2.2.2.2.2.2.2.2.2.2.2.2.2.1⟩, ?_⟩
  obtain ⟨cs⟩ := cs
  have h : hdTy.rep w S x cs := h
  obtain ⟨c0, r0, e0, q0, h0⟩ := h
  obtain ⟨c1, r1, e1, q1, h1⟩ := h0
  obtain ⟨c2, r2, e2, q2, h2⟩ := h1
  obtain ⟨c3, r3, e3, q3, h3⟩ := h2
  obtain ⟨c4, r4, e4, q4, h4⟩ := h3
  obtain ⟨c5, r5, e5, q5, h5⟩ := h4
  obtain ⟨c6, r6, e6, q6, h6⟩ := h5
  obtain ⟨c7, r7, e7, q7, h7⟩ := h6
  obtain ⟨c8, r8, e8, q8, h8⟩ := h7
  obtain ⟨c9, r9, e9, q9, h9⟩ := h8
  obtain ⟨c10, r10, e10, q10, h10⟩ := h9
  obtain ⟨c11, r11, e11, q11, h11⟩ := h10
  obtain ⟨c12, r12, e12, q12, h12⟩ := h11
  obtain ⟨c13, r13, e13, q13, h13⟩ := h12
  obtain ⟨c14, r14, e14, q14, h14⟩ := h13
  obtain ⟨c15, r15, e15, q15, h15⟩ := h14
  obtain ⟨c16, r16, e16, q16, h16⟩ := h15
  obtain ⟨c17, r17, e17, q17, h17⟩ := h16
  obtain ⟨c18, r18, e18, q18, h18⟩ := h17
  obtain ⟨c19, r19, e19, q19, h19⟩ := h18
  have hn : r19 = [] := h19
  have q0 : c0 = [.int .u8 x.1] := q0.1
  have q1 : c1 = [.int .u8 x.2.1] := q1.1
  have q2 : c2 = [.bool x.2.2.1] := q2
  have q3 : c3 = [.bool x.2.2.2.1] := q3
  have q4 : c4 = [.bool x.2.2.2.2.1] := q4
  have q5 : c5 = [.bool x.2.2.2.2.2.1] := q5
  have q6 : c6 = [.bool x.2.2.2.2.2.2.1] := q6
  have q7 : c7 = [.bool x.2.2.2.2.2.2.2.1] := q7
  have q8 : c8 = [.bool x.2.2.2.2.2.2.2.2.1] := q8
  have q9 : c9 = [.int .i64 x.2.2.2.2.2.2.2.2.2.1] := q9.1
  have q10 : c10 = acsV x.2.2.2.2.2.2.2.2.2.2.1 := q10.1
  have q11 : c11 = acsV x.2.2.2.2.2.2.2.2.2.2.2.1 := q11.1
  have q12 : c12 = acsV x.2.2.2.2.2.2.2.2.2.2.2.2.1 := q12.1
  have q13 : c13 = acsV x.2.2.2.2.2.2.2.2.2.2.2.2.2.1 := q13.1
  have q14 : c14 = [.int .i64 x.2.2.2.2.2.2.2.2.2.2.2.2.2.2.1] := q14.1
  have q15 : c15 = [.int .i64 x.2.2.2.2.2.2.2.2.2.2.2.2.2.2.2.1] := q15.1
  have q16 : c16 = [.int .i64 x.2.2.2.2.2.2.2.2.2.2.2.2.2.2.2.2.1] := q16.1
  have q17 : c17 = [.int .u8 x.2.2.2.2.2.2.2.2.2.2.2.2.2.2.2.2.2.1] := q17.1
  have q18 : c18 = [.bool x.2.2.2.2.2.2.2.2.2.2.2.2.2.2.2.2.2.2.1] := q18
  have q19 : c19 = [.bool x.2.2.2.2.2.2.2.2.2.2.2.2.2.2.2.2.2.2.2.1] := q19
  subst hn q0 q1 q2 q3 q4 q5 q6 q7 q8 q9 q10 q11 q12 q13 q14 q15 q16 q17 q18 q19
  subst e19
  subst e18
  subst e17
  subst e16
  subst e15
  subst e14
  subst e13
  subst e12
  subst e11
  subst e10
  subst e9
  subst e8
  subst e7
  subst e6
  subst e5
  subst e4
  subst e3
  subst e2
  subst e1
  subst e0
  exact VRs.agg (cs := hcs _) (.cons (.int _ _ _) (.cons (.int _ _ _) (.cons (.bool _ _) (.cons (.bool _ _) (.cons (.bool _ _) (.cons (.bool _ _) (.cons (.bool _ _) (.cons (.bool _ _) (.cons (.bool _ _) (.cons (.int _ _ _) (.cons (.int _ _ _) (.cons (.int _ _ _) (.cons (.int _ _ _) (.cons (.int _ _ _) (.cons (.int _ _ _) (.cons (.int _ _ _) (.cons (.int _ _ _) (.cons (.int _ _ _) (.cons (.int _ _ _) (.cons (.int _ _ _) (.cons (.int _ _ _) (.cons (.int _ _ _) (.cons (.int _ _ _) (.cons (.int _ _ _) (.cons (.int _ _ _) (.cons (.int _ _ _) (.cons (.int _ _ _) (.cons (.int _ _ _) (.cons (.int _ _ _) (.cons (.int _ _ _) (.cons (.int _ _ _) (.cons (.int _ _ _) (.cons (.int _ _ _) (.cons (.int _ _ _) (.cons (.int _ _ _) (.cons (.int _ _ _) (.cons (.int _ _ _) (.cons (.int _ _ _) (.cons (.bool _ _) (.cons (.bool _ _) (.nil _ _)))))))))))))))))))))))))))))))))))))))))
end Go.Proofs.Ytcllanmickbkpaa
