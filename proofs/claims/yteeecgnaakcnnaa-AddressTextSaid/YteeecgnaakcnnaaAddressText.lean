/- AddressText: the text form is canonical. -/
import Derived.Test.YteeecgnaakcnnaaMs
import Derived.WalkKit
import Derived.ProofKit
import Derived.OpenShut
import Derived.ShutString
import Derived.ChangeOld
import Derived.Below
namespace Go.Proofs.Yteeecgnaakcnnaa.addressText
open Go.ChangeShapes Go.WideShapes Go.ChangeAt Go.RowKit

theorem own : ownKnob Try.prog.godebug = none := by kernel_rfl
theorem laidOut : laidOutB Try.prog = true := by kernel_rfl

set_option maxRecDepth 100000 in
set_option maxHeartbeats 8000000 in
theorem walk (w : World) (x0 : List Int) (l0 : x0.length = 6) (w0 : ∀ a ∈ x0, (Lit.int .u8 a).wf = true) (x1 : List Int) (l1 : x1.length = 6) (w1 : ∀ a ∈ x1, (Lit.int .u8 a).wf = true) (a2 : ByteArray) (_r2 : a2.size ≤ maxLen) :
    Calls Try.prog 14 #[intsV .u8 x0, intsV .u8 x1, .string a2] w fun e w' => e = .returned (.bool true) ∧ Below w.heap.size w w' := by
  have hAB0 := numL_inj l0 w0 l1 w1
  obtain ⟨a0, a1, a2q, a3, a4, a5, ⟨ha0, ha1, ha2, ha3, ha4, ha5⟩, rfl⟩ := bytes6 l0 w0
  obtain ⟨b0, b1, b2, b3, b4, b5, ⟨hb0, hb1, hb2, hb3, hb4, hb5⟩, rfl⟩ := bytes6 l1 w1
  have hAB : eqL [(a0 : Int), (a1 : Int), (a2q : Int), (a3 : Int), (a4 : Int), (a5 : Int)] [(b0 : Int), (b1 : Int), (b2 : Int), (b3 : Int), (b4 : Int), (b5 : Int)] = decide (num6 a0 a1 a2q a3 a4 a5 = num6 b0 b1 b2 b3 b4 b5) := by
    rw [hAB0, numL_eq ha0 ha1 ha2 ha3 ha4 ha5, numL_eq hb0 hb1 hb2 hb3 hb4 hb5, Bool.eq_iff_iff, decide_eq_true_eq, decide_eq_true_eq]
    omega
  obtain ⟨C, n, hC, hrun⟩ := run ha0 ha1 ha2 ha3 ha4 ha5 hb0 hb1 hb2 hb3 hb4 hb5 hAB a2
  have hv : VRs (ro (· < w.heap.size)) w [intsD .u8 [(a0 : Int), (a1 : Int), (a2q : Int), (a3 : Int), (a4 : Int), (a5 : Int)], intsD .u8 [(b0 : Int), (b1 : Int), (b2 : Int), (b3 : Int), (b4 : Int), (b5 : Int)], .str a2] [intsV .u8 [(a0 : Int), (a1 : Int), (a2q : Int), (a3 : Int), (a4 : Int), (a5 : Int)], intsV .u8 [(b0 : Int), (b1 : Int), (b2 : Int), (b3 : Int), (b4 : Int), (b5 : Int)], .string a2] := .cons (intsD_rep _ _ _ _) (.cons (intsD_rep _ _ _ _) (.cons (.str _ _) (.nil _ _)))
  exact args_ok tab_ok mixed fun_ok hC hrun w hv

set_option maxRecDepth 100000 in
theorem lifted (os : Os) (started : os.Started) (H : Type) (enc : TypeId × Value → H) :
    ReturnsInHanded {} Try.checked os 14 .any (Rows.addressTextSpec.pre6 enc Try.prog Try.f14 Rows.addressTextRow.domain false) (Rows.addressTextSpec.post enc Try.prog Try.f14 false true false false) := by
  refine returnsInHanded_of_change (C := Try.checked) own started (by kernel_rfl) Try.func14
    (ChangeSpec.witness6 (enc := enc) (C := Try.checked) false ⟨#[], #[.agg #[.int .u8 0, .int .u8 0, .int .u8 0, .int .u8 0, .int .u8 0, .int .u8 0], .agg #[.int .u8 0, .int .u8 0, .int .u8 0, .int .u8 0, .int .u8 0, .int .u8 0], .string .empty], []⟩ 8 (by kernel_rfl) (by kernel_rfl) (by kernel_rfl) (by kernel_rfl)) ?_
  intro W base args ds gs before hval0 hW hcnd _
  have hval : ∀ (j : Nat) t v, Try.f14.params[j]? = some t → args[j]? = some v → Value.okWide Try.prog W .any base t v := hval0
  have hW' := hW
  obtain ⟨p, q, hA0, hV, rfl, hfz, hnd⟩ := hW
  have hA : DataW.TrodAll enc Try.prog W 0 (fun _ => true) true Try.f14.params.toList args.toList ds p := hA0
  rw [Try.params14] at hA hval
  obtain ⟨v0, vs0, d0, ds0, p0, q0, hargs, rfl, rfl, h0, r0'⟩ := trodAll_cons hA
  obtain ⟨v1, vs1, d1, ds1, p1, q1, rfl, rfl, rfl, h1, r1'⟩ := trodAll_cons r0'
  obtain ⟨v2, vs2, d2, ds2, p2, q2, rfl, rfl, rfl, h2, r2'⟩ := trodAll_cons r1'
  obtain ⟨rfl, rfl, rfl⟩ := trodAll_nil r2'
  obtain rfl : args = #[v0, v1, v2] := by cases args; simp_all
  obtain ⟨rfl, rfl⟩ := trodVars_none hV
  have k0 := h0
  have lt0 : ∀ x ∈ p0, x.block < W.heap.size := by obtain ⟨m, hm⟩ := k0; exact DataW.trod_lt m _ _ _ hm
  obtain ⟨s0, rfl, _⟩ := okWide_array Try.underlying87 (hval 0 87 v0 rfl rfl)
  obtain ⟨fu0, hf0⟩ := h0
  obtain ⟨x0, l0, e0, w0⟩ := open_ints Try.underlying87 Try.underlying5 (by kernel_rfl) (by kernel_rfl) hf0
  obtain rfl : s0 = (x0.map fun a => Value.int .u8 a).toArray := by simpa [intsV, Value.cells] using e0
  have k1 := h1
  have lt1 : ∀ x ∈ p1, x.block < W.heap.size := by obtain ⟨m, hm⟩ := k1; exact DataW.trod_lt m _ _ _ hm
  obtain ⟨s1, rfl, _⟩ := okWide_array Try.underlying87 (hval 1 87 v1 rfl rfl)
  obtain ⟨fu1, hf1⟩ := h1
  obtain ⟨x1, l1, e1, w1⟩ := open_ints Try.underlying87 Try.underlying5 (by kernel_rfl) (by kernel_rfl) hf1
  obtain rfl : s1 = (x1.map fun a => Value.int .u8 a).toArray := by simpa [intsV, Value.cells] using e1
  have k2 := h2
  have lt2 : ∀ x ∈ p2, x.block < W.heap.size := by obtain ⟨m, hm⟩ := k2; exact DataW.trod_lt m _ _ _ hm
  obtain ⟨a2, rfl, rfl, hp2, w2⟩ := ChangeMaps.open_string Try.underlying9 (hval 2 9 v2 rfl rfl) h2
  clear hA0 hval0
  refine (walk W x0 l0 w0 x1 l1 w1 a2 w2).mono fun e W' ⟨he, bel⟩ => ?_
  subst he
  exact ⟨_, rfl, _, _, _, [], _, [], hW', trodAll_mk1 (shut_bool Try.underlying4 _), (trodAll_cons_mk (Below.trod laidOut (by kernel_rfl) (of_decide_eq_true (by kernel_rfl)) k0 bel lt0) (trodAll_cons_mk (Below.trod laidOut (by kernel_rfl) (of_decide_eq_true (by kernel_rfl)) k1 bel lt1) (trodAll_cons_mk (Below.trod laidOut (by kernel_rfl) (of_decide_eq_true (by kernel_rfl)) k2 bel lt2) trodAll_mk0))), rfl, bel.frame _, fun h => by cases h⟩

theorem over : Rows.addressTextRow.holds Try.pinned (OpenSpec.ofChange Rows.addressTextSpec) :=
  OpenClaim.holds_of_wide 14 Try.f14 rfl rfl rfl rfl rfl rfl rfl ⟨rfl, rfl, rfl, rfl, rfl⟩ rfl rfl rfl rfl rfl (by kernel_rfl) Try.func14 (by kernel_rfl)
    (of_decide_eq_true (by kernel_rfl)) (by unfold Func.isWrapper; first | (rw [if_pos (by decide +kernel)]; kernel_rfl) | (rw [if_neg (by decide +kernel)]; exact ⟨rfl, rfl⟩))
    (fun os started H enc _ => lifted os started H enc)

theorem proved : Rows.AddressTextSaid :=
  over
end Go.Proofs.Yteeecgnaakcnnaa.addressText
