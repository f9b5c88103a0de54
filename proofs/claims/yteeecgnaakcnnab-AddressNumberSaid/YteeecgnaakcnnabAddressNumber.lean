/- AddressNumber: numbers and addresses correspond. -/
import Derived.Test.YteeecgnaakcnnabMo
import Derived.WalkKit
import Derived.ProofKit
import Derived.OpenShut
import Derived.ShutString
import Derived.ChangeOld
import Derived.Below
namespace Go.Proofs.Yteeecgnaakcnnab.addressNumber
open Go.ChangeShapes Go.WideShapes Go.ChangeAt Go.RowKit

theorem own : ownKnob Try.prog.godebug = none := by kernel_rfl
theorem laidOut : laidOutB Try.prog = true := by kernel_rfl

noncomputable def C : CallF := orC cAlive (orC cNum (orC cOf cCompare))
theorem C_ok : CallOk Try.prog C := orC_ok cAlive_ok (orC_ok cNum_ok (orC_ok cOf_ok cCompare_ok))
set_option maxRecDepth 1000000 in
theorem pathA (a0 a1 a2 a3 a4 a5 b0 b1 b2 b3 b4 b5 n : Int) : pcall tab ftab C 100 3 [intsD .u8 [a0, a1, a2, a3, a4, a5], intsD .u8 [b0, b1, b2, b3, b4, b5], .int .u64 n] ⟨0, []⟩ [none, none, none, none, none, none, none, some true, none, none, some true, none, none, none, none, some true, none, none, some true, none, none, none, none, none, none, some true, none] = some ((.bool true, ⟨0, []⟩, none), [(ofE (numL [a0, a1, a2, a3, a4, a5]) == 0, true), (eqL [a0, a1, a2, a3, a4, a5] (ofL (numL [a0, a1, a2, a3, a4, a5])), true), ((ofE n == 0) == decide (n < 281474976710656), true), (ofE n != 0, true), (decide (numL [a0, a1, a2, a3, a4, a5] < numL [b0, b1, b2, b3, b4, b5]) == decide (cmpZ (numL [a0, a1, a2, a3, a4, a5]) (numL [b0, b1, b2, b3, b4, b5]) < 0), true)]) := by
  kernel_rfl
set_option maxRecDepth 1000000 in
theorem pathB (a0 a1 a2 a3 a4 a5 b0 b1 b2 b3 b4 b5 n : Int) : pcall tab ftab C 100 3 [intsD .u8 [a0, a1, a2, a3, a4, a5], intsD .u8 [b0, b1, b2, b3, b4, b5], .int .u64 n] ⟨0, []⟩ [none, none, none, none, none, none, none, some true, none, none, some true, none, none, none, none, some true, none, none, some false, none, some true, none, none, none, none, none, some true, none] = some ((.bool true, ⟨0, []⟩, none), [(ofE (numL [a0, a1, a2, a3, a4, a5]) == 0, true), (eqL [a0, a1, a2, a3, a4, a5] (ofL (numL [a0, a1, a2, a3, a4, a5])), true), ((ofE n == 0) == decide (n < 281474976710656), true), (ofE n != 0, false), (numL (ofL n) == n, true), (decide (numL [a0, a1, a2, a3, a4, a5] < numL [b0, b1, b2, b3, b4, b5]) == decide (cmpZ (numL [a0, a1, a2, a3, a4, a5]) (numL [b0, b1, b2, b3, b4, b5]) < 0), true)]) := by
  kernel_rfl

set_option maxRecDepth 100000 in
set_option maxHeartbeats 8000000 in
theorem walk (w : World) (x0 : List Int) (l0 : x0.length = 6) (w0 : ∀ a ∈ x0, (Lit.int .u8 a).wf = true) (x1 : List Int) (l1 : x1.length = 6) (w1 : ∀ a ∈ x1, (Lit.int .u8 a).wf = true) (a2 : Int) (r2 : (Lit.int .u64 a2).wf = true) :
    Calls Try.prog 3 #[intsV .u8 x0, intsV .u8 x1, .int .u64 a2] w fun e w' => e = .returned (.bool true) ∧ Below w.heap.size w w' := by
  obtain ⟨X0, hX0, e0⟩ := numL_nat l0 w0
  obtain ⟨X1, hX1, e1⟩ := numL_nat l1 w1
  have hn0 : 0 ≤ a2 := wf_nonneg rfl r2
  have q1 : (ofE (numL x0) == 0) = true := by
    rw [e0, ofE, if_neg (by omega)]
    rfl
  have q2 : eqL x0 (ofL (numL x0)) = true := by
    rw [e0, numL_inj l0 w0 (of_len _) (of_wf hX0), num_of hX0, e0]
    simp
  have q3 : ((ofE a2 == 0) == decide (a2 < 281474976710656)) = true := by
    unfold ofE
    by_cases h : (281474976710656 : Int) ≤ a2
    · rw [if_pos h, decide_eq_false (by omega)]
      rfl
    · rw [if_neg h, decide_eq_true (by omega)]
      rfl
  have q4 : (ofE a2 != 0) = false → (numL (ofL a2) == a2) = true := by
    intro h
    have h' : ¬ (281474976710656 : Int) ≤ a2 := fun hle => by
      rw [ofE, if_pos hle] at h
      cases h
    obtain ⟨m, rfl⟩ := Int.eq_ofNat_of_zero_le hn0
    rw [num_of (by omega)]
    simp
  have q5 : (decide (numL x0 < numL x1) == decide (cmpZ (numL x0) (numL x1) < 0)) = true := by
    unfold cmpZ
    by_cases h : numL x0 < numL x1
    · rw [if_pos h, decide_eq_true h]
      rfl
    · rw [if_neg h, decide_eq_false h]
      by_cases h' : numL x0 > numL x1
      · rw [if_pos h']
        rfl
      · rw [if_neg h']
        rfl
  clear e0 e1 w0 w1 hX0 hX1 X0 X1 hn0 r2
  obtain ⟨a0, a1, ap, a3, a4, a5, rfl⟩ := list6 l0
  obtain ⟨b0, b1, b2, b3, b4, b5, rfl⟩ := list6 l1
  have hv : VRs (ro (· < w.heap.size)) w [intsD .u8 [a0, a1, ap, a3, a4, a5], intsD .u8 [b0, b1, b2, b3, b4, b5], .int .u64 a2] [intsV .u8 [a0, a1, ap, a3, a4, a5], intsV .u8 [b0, b1, b2, b3, b4, b5], .int .u64 a2] := .cons (intsD_rep _ _ _ _) (.cons (intsD_rep _ _ _ _) (.cons (.int _ _ _) (.nil _ _)))
  have hrun : callE tab ftab C (exec tab ftab C 100) 3 [intsD .u8 [a0, a1, ap, a3, a4, a5], intsD .u8 [b0, b1, b2, b3, b4, b5], .int .u64 a2] ⟨0, []⟩ = some (.bool true, ⟨0, []⟩, none) := by
    cases h1 : (ofE a2 != 0) with
    | true => exact pcall_ok (pathA a0 a1 ap a3 a4 a5 b0 b1 b2 b3 b4 b5 a2) (.cons q1 (.cons q2 (.cons q3 (.cons h1 (.cons q5 .nil)))))
    | false => exact pcall_ok (pathB a0 a1 ap a3 a4 a5 b0 b1 b2 b3 b4 b5 a2) (.cons q1 (.cons q2 (.cons q3 (.cons h1 (.cons (q4 h1) (.cons q5 .nil))))))
  exact args_ok tab_ok mixed fun_ok C_ok hrun w hv

set_option maxRecDepth 100000 in
theorem lifted (os : Os) (started : os.Started) (H : Type) (enc : TypeId × Value → H) :
    ReturnsInHanded {} Try.checked os 3 .any (Rows.addressNumberSpec.pre6 enc Try.prog Try.f3 Rows.addressNumberRow.domain false) (Rows.addressNumberSpec.post enc Try.prog Try.f3 false true false false) := by
  refine returnsInHanded_of_change (C := Try.checked) own started (by kernel_rfl) Try.func3
    (ChangeSpec.witness6 (enc := enc) (C := Try.checked) false ⟨#[], #[.agg #[.int .u8 0, .int .u8 0, .int .u8 0, .int .u8 0, .int .u8 0, .int .u8 0], .agg #[.int .u8 0, .int .u8 0, .int .u8 0, .int .u8 0, .int .u8 0, .int .u8 0], .int .u64 0], []⟩ 8 (by kernel_rfl) (by kernel_rfl) (by kernel_rfl) (by kernel_rfl)) ?_
  intro W base args ds gs before hval0 hW hcnd _
  have hval : ∀ (j : Nat) t v, Try.f3.params[j]? = some t → args[j]? = some v → Value.okWide Try.prog W .any base t v := hval0
  have hW' := hW
  obtain ⟨p, q, hA0, hV, rfl, hfz, hnd⟩ := hW
  have hA : DataW.TrodAll enc Try.prog W 0 (fun _ => true) true Try.f3.params.toList args.toList ds p := hA0
  rw [Try.params3] at hA hval
  obtain ⟨v0, vs0, d0, ds0, p0, q0, hargs, rfl, rfl, h0, r0'⟩ := trodAll_cons hA
  obtain ⟨v1, vs1, d1, ds1, p1, q1, rfl, rfl, rfl, h1, r1'⟩ := trodAll_cons r0'
  obtain ⟨v2, vs2, d2, ds2, p2, q2, rfl, rfl, rfl, h2, r2'⟩ := trodAll_cons r1'
  obtain ⟨rfl, rfl, rfl⟩ := trodAll_nil r2'
  obtain rfl : args = #[v0, v1, v2] := by cases args; simp_all
  obtain ⟨rfl, rfl⟩ := trodVars_none hV
  have k0 := h0
  have lt0 : ∀ x ∈ p0, x.block < W.heap.size := by obtain ⟨m, hm⟩ := k0; exact DataW.trod_lt m _ _ _ hm
  obtain ⟨s0, rfl, _⟩ := okWide_array Try.underlying23 (hval 0 23 v0 rfl rfl)
  obtain ⟨fu0, hf0⟩ := h0
  obtain ⟨x0, l0, e0, w0⟩ := open_ints Try.underlying23 Try.underlying5 (by kernel_rfl) (by kernel_rfl) hf0
  obtain rfl : s0 = (x0.map fun a => Value.int .u8 a).toArray := by simpa [intsV, Value.cells] using e0
  have k1 := h1
  have lt1 : ∀ x ∈ p1, x.block < W.heap.size := by obtain ⟨m, hm⟩ := k1; exact DataW.trod_lt m _ _ _ hm
  obtain ⟨s1, rfl, _⟩ := okWide_array Try.underlying23 (hval 1 23 v1 rfl rfl)
  obtain ⟨fu1, hf1⟩ := h1
  obtain ⟨x1, l1, e1, w1⟩ := open_ints Try.underlying23 Try.underlying5 (by kernel_rfl) (by kernel_rfl) hf1
  obtain rfl : s1 = (x1.map fun a => Value.int .u8 a).toArray := by simpa [intsV, Value.cells] using e1
  have k2 := h2
  have lt2 : ∀ x ∈ p2, x.block < W.heap.size := by obtain ⟨m, hm⟩ := k2; exact DataW.trod_lt m _ _ _ hm
  obtain ⟨a2, rfl, rfl, hp2, w2⟩ := open_int Try.underlying24 (hval 2 24 v2 rfl rfl) h2
  clear hA0 hval0
  refine (walk W x0 l0 w0 x1 l1 w1 a2 w2).mono fun e W' ⟨he, bel⟩ => ?_
  subst he
  exact ⟨_, rfl, _, _, _, [], _, [], hW', trodAll_mk1 (shut_bool Try.underlying4 _), (trodAll_cons_mk (Below.trod laidOut (by kernel_rfl) (of_decide_eq_true (by kernel_rfl)) k0 bel lt0) (trodAll_cons_mk (Below.trod laidOut (by kernel_rfl) (of_decide_eq_true (by kernel_rfl)) k1 bel lt1) (trodAll_cons_mk (Below.trod laidOut (by kernel_rfl) (of_decide_eq_true (by kernel_rfl)) k2 bel lt2) trodAll_mk0))), rfl, bel.frame _, fun h => by cases h⟩

theorem over : Rows.addressNumberRow.holds Try.pinned (OpenSpec.ofChange Rows.addressNumberSpec) :=
  OpenClaim.holds_of_wide 3 Try.f3 rfl rfl rfl rfl rfl rfl rfl ⟨rfl, rfl, rfl, rfl, rfl⟩ rfl rfl rfl rfl rfl (by kernel_rfl) Try.func3 (by kernel_rfl)
    (of_decide_eq_true (by kernel_rfl)) (by unfold Func.isWrapper; first | (rw [if_pos (by decide +kernel)]; kernel_rfl) | (rw [if_neg (by decide +kernel)]; exact ⟨rfl, rfl⟩))
    (fun os started H enc _ => lifted os started H enc)

theorem proved : Rows.AddressNumberSaid :=
  over
end Go.Proofs.Yteeecgnaakcnnab.addressNumber
