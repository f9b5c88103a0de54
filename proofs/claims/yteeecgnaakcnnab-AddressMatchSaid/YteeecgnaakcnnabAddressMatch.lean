/- AddressMatch: matching is an equivalence. -/
import Derived.Test.YteeecgnaakcnnabMa
import Derived.WalkKit
import Derived.ProofKit
import Derived.OpenShut
import Derived.ShutString
import Derived.ChangeOld
import Derived.Below
namespace Go.Proofs.Yteeecgnaakcnnab.addressMatch
open Go.ChangeShapes Go.WideShapes Go.ChangeAt Go.RowKit

theorem own : ownKnob Try.prog.godebug = none := by kernel_rfl
theorem laidOut : laidOutB Try.prog = true := by kernel_rfl

noncomputable def C : CallF := orC cAlive cMatch
theorem C_ok : CallOk Try.prog C := orC_ok cAlive_ok cMatch_ok
set_option maxRecDepth 1000000 in
theorem pathA (a0 a1 a2 a3 a4 a5 b0 b1 b2 b3 b4 b5 c0 c1 c2 c3 c4 c5 m0 m1 m2 m3 m4 m5 : Int) : pcall tab ftab C 100 6 [intsD .u8 [a0, a1, a2, a3, a4, a5], intsD .u8 [b0, b1, b2, b3, b4, b5], intsD .u8 [c0, c1, c2, c3, c4, c5], intsD .u8 [m0, m1, m2, m3, m4, m5]] ⟨0, []⟩ [none, none, none, some false, none, none, none, none, none, none, some true, none, none, none, none, some true, none, none, some true, none, none, none, none, some true, none] = some ((.bool true, ⟨0, []⟩, none), [(matchB [a0, a1, a2, a3, a4, a5] [b0, b1, b2, b3, b4, b5] [m0, m1, m2, m3, m4, m5], false), (matchB [a0, a1, a2, a3, a4, a5] [a0, a1, a2, a3, a4, a5] [m0, m1, m2, m3, m4, m5], true), (matchB [a0, a1, a2, a3, a4, a5] [b0, b1, b2, b3, b4, b5] [m0, m1, m2, m3, m4, m5] == matchB [b0, b1, b2, b3, b4, b5] [a0, a1, a2, a3, a4, a5] [m0, m1, m2, m3, m4, m5], true), (matchB [a0, a1, a2, a3, a4, a5] [b0, b1, b2, b3, b4, b5] [0, 0, 0, 0, 0, 0], true), (matchB [a0, a1, a2, a3, a4, a5] [b0, b1, b2, b3, b4, b5] [255, 255, 255, 255, 255, 255] == eqL [a0, a1, a2, a3, a4, a5] [b0, b1, b2, b3, b4, b5], true)]) := by
  kernel_rfl
set_option maxRecDepth 1000000 in
theorem pathB (a0 a1 a2 a3 a4 a5 b0 b1 b2 b3 b4 b5 c0 c1 c2 c3 c4 c5 m0 m1 m2 m3 m4 m5 : Int) : pcall tab ftab C 100 6 [intsD .u8 [a0, a1, a2, a3, a4, a5], intsD .u8 [b0, b1, b2, b3, b4, b5], intsD .u8 [c0, c1, c2, c3, c4, c5], intsD .u8 [m0, m1, m2, m3, m4, m5]] ⟨0, []⟩ [none, none, none, some true, none, some false, none, none, none, none, none, some true, none, none, none, none, some true, none, none, some true, none, none, none, none, some true, none] = some ((.bool true, ⟨0, []⟩, none), [(matchB [a0, a1, a2, a3, a4, a5] [b0, b1, b2, b3, b4, b5] [m0, m1, m2, m3, m4, m5], true), (matchB [b0, b1, b2, b3, b4, b5] [c0, c1, c2, c3, c4, c5] [m0, m1, m2, m3, m4, m5], false), (matchB [a0, a1, a2, a3, a4, a5] [a0, a1, a2, a3, a4, a5] [m0, m1, m2, m3, m4, m5], true), (matchB [a0, a1, a2, a3, a4, a5] [b0, b1, b2, b3, b4, b5] [m0, m1, m2, m3, m4, m5] == matchB [b0, b1, b2, b3, b4, b5] [a0, a1, a2, a3, a4, a5] [m0, m1, m2, m3, m4, m5], true), (matchB [a0, a1, a2, a3, a4, a5] [b0, b1, b2, b3, b4, b5] [0, 0, 0, 0, 0, 0], true), (matchB [a0, a1, a2, a3, a4, a5] [b0, b1, b2, b3, b4, b5] [255, 255, 255, 255, 255, 255] == eqL [a0, a1, a2, a3, a4, a5] [b0, b1, b2, b3, b4, b5], true)]) := by
  kernel_rfl
set_option maxRecDepth 1000000 in
theorem pathC (a0 a1 a2 a3 a4 a5 b0 b1 b2 b3 b4 b5 c0 c1 c2 c3 c4 c5 m0 m1 m2 m3 m4 m5 : Int) : pcall tab ftab C 100 6 [intsD .u8 [a0, a1, a2, a3, a4, a5], intsD .u8 [b0, b1, b2, b3, b4, b5], intsD .u8 [c0, c1, c2, c3, c4, c5], intsD .u8 [m0, m1, m2, m3, m4, m5]] ⟨0, []⟩ [none, none, none, some true, none, some true, none, none, some true, none, none, none, none, some true, none, none, none, none, some true, none, none, some true, none, none, none, none, some true, none] = some ((.bool true, ⟨0, []⟩, none), [(matchB [a0, a1, a2, a3, a4, a5] [b0, b1, b2, b3, b4, b5] [m0, m1, m2, m3, m4, m5], true), (matchB [b0, b1, b2, b3, b4, b5] [c0, c1, c2, c3, c4, c5] [m0, m1, m2, m3, m4, m5], true), (matchB [a0, a1, a2, a3, a4, a5] [c0, c1, c2, c3, c4, c5] [m0, m1, m2, m3, m4, m5], true), (matchB [a0, a1, a2, a3, a4, a5] [a0, a1, a2, a3, a4, a5] [m0, m1, m2, m3, m4, m5], true), (matchB [a0, a1, a2, a3, a4, a5] [b0, b1, b2, b3, b4, b5] [m0, m1, m2, m3, m4, m5] == matchB [b0, b1, b2, b3, b4, b5] [a0, a1, a2, a3, a4, a5] [m0, m1, m2, m3, m4, m5], true), (matchB [a0, a1, a2, a3, a4, a5] [b0, b1, b2, b3, b4, b5] [0, 0, 0, 0, 0, 0], true), (matchB [a0, a1, a2, a3, a4, a5] [b0, b1, b2, b3, b4, b5] [255, 255, 255, 255, 255, 255] == eqL [a0, a1, a2, a3, a4, a5] [b0, b1, b2, b3, b4, b5], true)]) := by
  kernel_rfl

set_option maxRecDepth 100000 in
set_option maxHeartbeats 8000000 in
theorem walk (w : World) (x0 : List Int) (l0 : x0.length = 6) (w0 : ∀ a ∈ x0, (Lit.int .u8 a).wf = true) (x1 : List Int) (l1 : x1.length = 6) (w1 : ∀ a ∈ x1, (Lit.int .u8 a).wf = true) (x2 : List Int) (l2 : x2.length = 6) (w2 : ∀ a ∈ x2, (Lit.int .u8 a).wf = true) (x3 : List Int) (l3 : x3.length = 6) (w3 : ∀ a ∈ x3, (Lit.int .u8 a).wf = true) :
    Calls Try.prog 6 #[intsV .u8 x0, intsV .u8 x1, intsV .u8 x2, intsV .u8 x3] w fun e w' => e = .returned (.bool true) ∧ Below w.heap.size w w' := by
  obtain ⟨X0, hX0, e0⟩ := numL_nat l0 w0
  obtain ⟨X1, hX1, e1⟩ := numL_nat l1 w1
  obtain ⟨X2, hX2, e2⟩ := numL_nat l2 w2
  obtain ⟨X3, hX3, e3⟩ := numL_nat l3 w3
  have ez : numL [0, 0, 0, 0, 0, 0] = ((0 : Nat) : Int) := numL_eq (a := 0) (b := 0) (c := 0) (d := 0) (e := 0) (g := 0) (by omega) (by omega) (by omega) (by omega) (by omega) (by omega)
  have ef : numL [255, 255, 255, 255, 255, 255] = ((2 ^ 48 - 1 : Nat) : Int) := numL_eq (a := 255) (b := 255) (c := 255) (d := 255) (e := 255) (g := 255) (by omega) (by omega) (by omega) (by omega) (by omega) (by omega)
  have q1 : matchB x0 x0 x3 = true := by
    rw [matchB_eq e0 hX0 e0 hX0 e3 hX3]
    simp
  have q2 : (matchB x0 x1 x3 == matchB x1 x0 x3) = true := by
    rw [matchB_eq e0 hX0 e1 hX1 e3 hX3, matchB_eq e1 hX1 e0 hX0 e3 hX3, Nat.xor_comm]
    simp
  have q3 : matchB x0 x1 [0, 0, 0, 0, 0, 0] = true := by
    rw [matchB_eq e0 hX0 e1 hX1 ez (by omega)]
    simp
  have q4 : (matchB x0 x1 [255, 255, 255, 255, 255, 255] == eqL x0 x1) = true := by
    rw [matchB_eq e0 hX0 e1 hX1 ef (by omega), numL_inj l0 w0 l1 w1, e0, e1]
    have := and_full hX0 hX1
    rw [beq_iff_eq, Bool.eq_iff_iff]
    simp only [decide_eq_true_eq, this]
    omega
  have q5 : matchB x0 x1 x3 = true → matchB x1 x2 x3 = true → matchB x0 x2 x3 = true := by
    rw [matchB_eq e0 hX0 e1 hX1 e3 hX3, matchB_eq e1 hX1 e2 hX2 e3 hX3, matchB_eq e0 hX0 e2 hX2 e3 hX3]
    simp only [decide_eq_true_eq]
    exact and_trans
  clear e0 e1 e2 e3 ez ef w0 w1 w2 w3 hX0 hX1 hX2 hX3 X0 X1 X2 X3
  obtain ⟨a0, a1, a2, a3, a4, a5, rfl⟩ := list6 l0
  obtain ⟨b0, b1, b2, b3, b4, b5, rfl⟩ := list6 l1
  obtain ⟨c0, c1, c2, c3, c4, c5, rfl⟩ := list6 l2
  obtain ⟨m0, m1, m2, m3, m4, m5, rfl⟩ := list6 l3
  have hv : VRs (ro (· < w.heap.size)) w [intsD .u8 [a0, a1, a2, a3, a4, a5], intsD .u8 [b0, b1, b2, b3, b4, b5], intsD .u8 [c0, c1, c2, c3, c4, c5], intsD .u8 [m0, m1, m2, m3, m4, m5]] [intsV .u8 [a0, a1, a2, a3, a4, a5], intsV .u8 [b0, b1, b2, b3, b4, b5], intsV .u8 [c0, c1, c2, c3, c4, c5], intsV .u8 [m0, m1, m2, m3, m4, m5]] := .cons (intsD_rep _ _ _ _) (.cons (intsD_rep _ _ _ _) (.cons (intsD_rep _ _ _ _) (.cons (intsD_rep _ _ _ _) (.nil _ _))))
  have hlast : Asked [(matchB [a0, a1, a2, a3, a4, a5] [a0, a1, a2, a3, a4, a5] [m0, m1, m2, m3, m4, m5], true), (matchB [a0, a1, a2, a3, a4, a5] [b0, b1, b2, b3, b4, b5] [m0, m1, m2, m3, m4, m5] == matchB [b0, b1, b2, b3, b4, b5] [a0, a1, a2, a3, a4, a5] [m0, m1, m2, m3, m4, m5], true), (matchB [a0, a1, a2, a3, a4, a5] [b0, b1, b2, b3, b4, b5] [0, 0, 0, 0, 0, 0], true), (matchB [a0, a1, a2, a3, a4, a5] [b0, b1, b2, b3, b4, b5] [255, 255, 255, 255, 255, 255] == eqL [a0, a1, a2, a3, a4, a5] [b0, b1, b2, b3, b4, b5], true)] := .cons q1 (.cons q2 (.cons q3 (.cons q4 .nil)))
  have hrun : callE tab ftab C (exec tab ftab C 100) 6 [intsD .u8 [a0, a1, a2, a3, a4, a5], intsD .u8 [b0, b1, b2, b3, b4, b5], intsD .u8 [c0, c1, c2, c3, c4, c5], intsD .u8 [m0, m1, m2, m3, m4, m5]] ⟨0, []⟩ = some (.bool true, ⟨0, []⟩, none) := by
    cases h1 : matchB [a0, a1, a2, a3, a4, a5] [b0, b1, b2, b3, b4, b5] [m0, m1, m2, m3, m4, m5] with
    | false => exact pcall_ok (pathA a0 a1 a2 a3 a4 a5 b0 b1 b2 b3 b4 b5 c0 c1 c2 c3 c4 c5 m0 m1 m2 m3 m4 m5) (.cons h1 hlast)
    | true =>
      cases h2 : matchB [b0, b1, b2, b3, b4, b5] [c0, c1, c2, c3, c4, c5] [m0, m1, m2, m3, m4, m5] with
      | false => exact pcall_ok (pathB a0 a1 a2 a3 a4 a5 b0 b1 b2 b3 b4 b5 c0 c1 c2 c3 c4 c5 m0 m1 m2 m3 m4 m5) (.cons h1 (.cons h2 hlast))
      | true => exact pcall_ok (pathC a0 a1 a2 a3 a4 a5 b0 b1 b2 b3 b4 b5 c0 c1 c2 c3 c4 c5 m0 m1 m2 m3 m4 m5) (.cons h1 (.cons h2 (.cons (q5 h1 h2) hlast)))
  exact args_ok tab_ok mixed fun_ok C_ok hrun w hv

set_option maxRecDepth 100000 in
theorem lifted (os : Os) (started : os.Started) (H : Type) (enc : TypeId × Value → H) :
    ReturnsInHanded {} Try.checked os 6 .any (Rows.addressMatchSpec.pre6 enc Try.prog Try.f6 Rows.addressMatchRow.domain false) (Rows.addressMatchSpec.post enc Try.prog Try.f6 false true false false) := by
  refine returnsInHanded_of_change (C := Try.checked) own started (by kernel_rfl) Try.func6
    (ChangeSpec.witness6 (enc := enc) (C := Try.checked) false ⟨#[], #[.agg #[.int .u8 0, .int .u8 0, .int .u8 0, .int .u8 0, .int .u8 0, .int .u8 0], .agg #[.int .u8 0, .int .u8 0, .int .u8 0, .int .u8 0, .int .u8 0, .int .u8 0], .agg #[.int .u8 0, .int .u8 0, .int .u8 0, .int .u8 0, .int .u8 0, .int .u8 0], .agg #[.int .u8 0, .int .u8 0, .int .u8 0, .int .u8 0, .int .u8 0, .int .u8 0]], []⟩ 8 (by kernel_rfl) (by kernel_rfl) (by kernel_rfl) (by kernel_rfl)) ?_
  intro W base args ds gs before hval0 hW hcnd _
  have hval : ∀ (j : Nat) t v, Try.f6.params[j]? = some t → args[j]? = some v → Value.okWide Try.prog W .any base t v := hval0
  have hW' := hW
  obtain ⟨p, q, hA0, hV, rfl, hfz, hnd⟩ := hW
  have hA : DataW.TrodAll enc Try.prog W 0 (fun _ => true) true Try.f6.params.toList args.toList ds p := hA0
  rw [Try.params6] at hA hval
  obtain ⟨v0, vs0, d0, ds0, p0, q0, hargs, rfl, rfl, h0, r0'⟩ := trodAll_cons hA
  obtain ⟨v1, vs1, d1, ds1, p1, q1, rfl, rfl, rfl, h1, r1'⟩ := trodAll_cons r0'
  obtain ⟨v2, vs2, d2, ds2, p2, q2, rfl, rfl, rfl, h2, r2'⟩ := trodAll_cons r1'
  obtain ⟨v3, vs3, d3, ds3, p3, q3, rfl, rfl, rfl, h3, r3'⟩ := trodAll_cons r2'
  obtain ⟨rfl, rfl, rfl⟩ := trodAll_nil r3'
  obtain rfl : args = #[v0, v1, v2, v3] := by cases args; simp_all
  obtain ⟨rfl, rfl⟩ := trodVars_none hV
  have k0 := h0
  have lt0 : ∀ x ∈ p0, x.block < W.heap.size := by obtain ⟨m, hm⟩ := k0; exact DataW.trod_lt m _ _ _ hm
  obtain ⟨s0, rfl, _⟩ := okWide_array Try.underlying23 (hval 0 23 v0 rfl rfl)
  obtain ⟨fu0, hf0⟩ := h0
  obtain ⟨x0, l0, e0, w0⟩ := open_ints Try.underlying23 Try.underlying5 (by kernel_rfl) (by kernel_rfl) hf0
  obtain rfl : s0 = (x0.map fun a => Value.int .u8 a).toArray := by simpa [intsV, Value.cells] using e0
  have k1 := h1
  have lt1 : ∀ x ∈ p1, x.block < W.heap.size := by obtain ⟨m, hm⟩ := k1; exact DataW.trod_lt m _ _ _ hm
  obtain ⟨s1, rfl, _⟩ := okWide_array Try.underlying23 (hval 1 23 v1 rfl rfl)
  obtain ⟨fu1, hf1⟩ := h1
  obtain ⟨x1, l1, e1, w1⟩ := open_ints Try.underlying23 Try.underlying5 (by kernel_rfl) (by kernel_rfl) hf1
  obtain rfl : s1 = (x1.map fun a => Value.int .u8 a).toArray := by simpa [intsV, Value.cells] using e1
  have k2 := h2
  have lt2 : ∀ x ∈ p2, x.block < W.heap.size := by obtain ⟨m, hm⟩ := k2; exact DataW.trod_lt m _ _ _ hm
  obtain ⟨s2, rfl, _⟩ := okWide_array Try.underlying23 (hval 2 23 v2 rfl rfl)
  obtain ⟨fu2, hf2⟩ := h2
  obtain ⟨x2, l2, e2, w2⟩ := open_ints Try.underlying23 Try.underlying5 (by kernel_rfl) (by kernel_rfl) hf2
  obtain rfl : s2 = (x2.map fun a => Value.int .u8 a).toArray := by simpa [intsV, Value.cells] using e2
  have k3 := h3
  have lt3 : ∀ x ∈ p3, x.block < W.heap.size := by obtain ⟨m, hm⟩ := k3; exact DataW.trod_lt m _ _ _ hm
  obtain ⟨s3, rfl, _⟩ := okWide_array Try.underlying23 (hval 3 23 v3 rfl rfl)
  obtain ⟨fu3, hf3⟩ := h3
  obtain ⟨x3, l3, e3, w3⟩ := open_ints Try.underlying23 Try.underlying5 (by kernel_rfl) (by kernel_rfl) hf3
  obtain rfl : s3 = (x3.map fun a => Value.int .u8 a).toArray := by simpa [intsV, Value.cells] using e3
  clear hA0 hval0
  refine (walk W x0 l0 w0 x1 l1 w1 x2 l2 w2 x3 l3 w3).mono fun e W' ⟨he, bel⟩ => ?_
  subst he
  exact ⟨_, rfl, _, _, _, [], _, [], hW', trodAll_mk1 (shut_bool Try.underlying4 _), (trodAll_cons_mk (Below.trod laidOut (by kernel_rfl) (of_decide_eq_true (by kernel_rfl)) k0 bel lt0) (trodAll_cons_mk (Below.trod laidOut (by kernel_rfl) (of_decide_eq_true (by kernel_rfl)) k1 bel lt1) (trodAll_cons_mk (Below.trod laidOut (by kernel_rfl) (of_decide_eq_true (by kernel_rfl)) k2 bel lt2) (trodAll_cons_mk (Below.trod laidOut (by kernel_rfl) (of_decide_eq_true (by kernel_rfl)) k3 bel lt3) trodAll_mk0)))), rfl, bel.frame _, fun h => by cases h⟩

theorem over : Rows.addressMatchRow.holds Try.pinned (OpenSpec.ofChange Rows.addressMatchSpec) :=
  OpenClaim.holds_of_wide 6 Try.f6 rfl rfl rfl rfl rfl rfl rfl ⟨rfl, rfl, rfl, rfl, rfl⟩ rfl rfl rfl rfl rfl (by kernel_rfl) Try.func6 (by kernel_rfl)
    (of_decide_eq_true (by kernel_rfl)) (by unfold Func.isWrapper; first | (rw [if_pos (by decide +kernel)]; kernel_rfl) | (rw [if_neg (by decide +kernel)]; exact ⟨rfl, rfl⟩))
    (fun os started H enc _ => lifted os started H enc)

theorem proved : Rows.AddressMatchSaid :=
  over
end Go.Proofs.Yteeecgnaakcnnab.addressMatch
