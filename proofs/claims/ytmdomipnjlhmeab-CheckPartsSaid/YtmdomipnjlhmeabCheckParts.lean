/- The check value of a string is computed part by part: the statement returns true. No conditions. -/
import Derived.Test.YtmdomipnjlhmeabCr
import Derived.Test.YtmdomipnjlhmeabLw
import Derived.WalkKit
import Derived.ProofKit
import Derived.OpenShut
import Derived.ShutString
import Derived.ChangeOld
import Derived.Below
namespace Go.Proofs.Ytmdomipnjlhmeab.checkParts
open Go.ChangeShapes Go.WideShapes Go.ChangeAt Go.RowKit

theorem own : ownKnob Try.prog.godebug = none := by kernel_rfl
theorem laidOut : laidOutB Try.prog = true := by kernel_rfl

noncomputable section
set_option maxRecDepth 1000000 in
theorem greatA (xa xb xc : List (List DV)) : zflat (zans Try.prog tab ftab cCrc 12 [.list 1 xa, .list 1 xb, .list 1 xc] [(12, .b true)]) = some (.bool true, [decide ((xa.length : Int) > 3000) = true]) := by
  kernel_rfl
set_option maxRecDepth 1000000 in
theorem greatB (xa xb xc : List (List DV)) : zflat (zans Try.prog tab ftab cCrc 12 [.list 1 xa, .list 1 xb, .list 1 xc] [(12, .b false), (15, .b true)]) = some (.bool true, [decide ((xa.length : Int) > 3000) = false, decide ((xb.length : Int) > 3000) = true]) := by
  kernel_rfl
set_option maxRecDepth 1000000 in
theorem greatC (xa xb xc : List (List DV)) : zflat (zans Try.prog tab ftab cCrc 12 [.list 1 xa, .list 1 xb, .list 1 xc] [(12, .b false), (15, .b false), (19, .b true)]) = some (.bool true, [decide ((xa.length : Int) > 3000) = false, decide ((xb.length : Int) > 3000) = false, decide ((xc.length : Int) > 3000) = true]) := by
  kernel_rfl
set_option maxRecDepth 1000000 in
theorem main (xa xb xc : List (List DV)) (d1 d2 d3 : DV) (h1 h2 h3 : Hp) (m1 m2 m3 : Mut) (s1 s2 s3 q cr : BitVec 32) : zflat (zans Try.prog tab ftab cCrc 12 [.list 1 xa, .list 1 xb, .list 1 xc] [(12, .b false), (15, .b false), (19, .b false), (28, .h d1 h1 m1), (30, .h d2 h2 m2), (32, .h d3 h3 m3), (34, .q (w32 s1)), (36, .q (w32 s2)), (38, .q (w32 s3)), (42, .w (w32 q)), (44, .q (w32 cr)), (45, .b true), (49, .q (w32 s3)), (51, .b true)]) = some (.bool true, [decide ((xa.length : Int) > 3000) = false, decide ((xb.length : Int) > 3000) = false, decide ((xc.length : Int) > 3000) = false, builtinD tab ⟨1, [⟨0, 0, 5, []⟩]⟩ .append [.sl 0 0 1 0 0, .list 1 xa] [45, 45] = some (d1, h1, m1), builtinD tab h1 .append [d1, .list 1 xb] [45, 45] = some (d2, h2, m2), builtinD tab h2 .append [d2, .list 1 xc] [45, 45] = some (d3, h3, m3), cCrc 36 [.int .u32 4294967295, .list 1 xa] h3 = some (w32 s1, h3, none), cCrc 36 [w32 s1, .list 1 xb] h3 = some (w32 s2, h3, none), cCrc 36 [w32 s2, .list 1 xc] h3 = some (w32 s3, h3, none), DV.int .u32 (bitD .xor .u32 IntKind.u32.max (s3.toNat : Int)) = w32 q, cCrc 31 [d3] h3 = some (w32 cr, h3, none), ((q.toNat : Int) == (cr.toNat : Int)) = true, cCrc 36 [w32 s3, .nil] h3 = some (w32 s3, h3, none), ((s3.toNat : Int) == (s3.toNat : Int)) = true]) := by
  kernel_rfl
theorem all (a b c : List UInt8) : Ans Try.prog 12 [byL a, byL b, byL c] (.bool true) ⟨0, []⟩ := by
  by_cases ha : a.length > 3000
  · exact zflat_ok tab_ok mixed fun_ok cCrc_ok (greatA (by1 a) (by1 b) (by1 c)) (.cons (decide_eq_true (by rw [by1_length]; omega)) .nil)
  by_cases hb : b.length > 3000
  · exact zflat_ok tab_ok mixed fun_ok cCrc_ok (greatB (by1 a) (by1 b) (by1 c)) (.cons (decide_eq_false (by rw [by1_length]; omega)) (.cons (decide_eq_true (by rw [by1_length]; omega)) .nil))
  by_cases hc : c.length > 3000
  · exact zflat_ok tab_ok mixed fun_ok cCrc_ok (greatC (by1 a) (by1 b) (by1 c)) (.cons (decide_eq_false (by rw [by1_length]; omega)) (.cons (decide_eq_false (by rw [by1_length]; omega)) (.cons (decide_eq_true (by rw [by1_length]; omega)) .nil)))
  obtain ⟨d1, h1, m1, e1, g1⟩ := app_bytes (hp := ⟨1, [⟨0, 0, 5, []⟩]⟩) (d := .sl 0 0 1 0 0) (bs := []) (cs := a) (sb_new ⟨0, []⟩ 0 rfl) (contD_list _ a) (by simp only [List.length_nil]; omega)
  obtain ⟨d2, h2, m2, e2, g2⟩ := app_bytes (cs := b) g1 (contD_list _ b) (by simp only [List.nil_append]; omega)
  obtain ⟨d3, h3, m3, e3, g3⟩ := app_bytes (cs := c) g2 (contD_list _ c) (by simp only [List.nil_append, List.length_append]; omega)
  obtain ⟨o, o1, o2⟩ := sb_frz g3 (by simp only [List.nil_append, List.length_append]; omega)
  have l1 : ∀ x : List UInt8, ¬ x.length > 3000 → decide (((by1 x).length : Int) > 3000) = false := fun x hx => decide_eq_false (by rw [by1_length]; omega)
  have key : ext32 (ext32 (ext32 4294967295#32 a) b) c = ext32 4294967295#32 (oBB o) := by
    rw [o1]
    simp only [ext32, List.nil_append, List.foldl_append]
  refine zflat_ok tab_ok mixed fun_ok cCrc_ok (main (by1 a) (by1 b) (by1 c) d1 d2 d3 h1 h2 h3 m1 m2 m3 (ext32 4294967295#32 a) (ext32 (ext32 4294967295#32 a) b) (ext32 (ext32 (ext32 4294967295#32 a) b) c) (~~~ (ext32 (ext32 (ext32 4294967295#32 a) b) c)) (crc32 (oBB o)))
    (.cons (l1 a ha) (.cons (l1 b hb) (.cons (l1 c hc) (.cons e1 (.cons e2 (.cons e3 (.cons ?_ (.cons ?_ (.cons ?_ (.cons (not32 _) (.cons ?_ (.cons ?_ (.cons ?_ (.cons ?_ .nil))))))))))))))
  · exact (cCrc_ext 4294967295#32 (some ⟨a, by omega⟩) ⟨rfl, rfl⟩)
  · exact (cCrc_ext _ (some ⟨b, by omega⟩) ⟨rfl, rfl⟩)
  · exact (cCrc_ext _ (some ⟨c, by omega⟩) ⟨rfl, rfl⟩)
  · exact (cCrc_32 o o2)
  · rw [crc32, key]
    exact beq_self_eq_true _
  · exact (cCrc_ext _ none ⟨rfl, rfl⟩)
  · exact beq_self_eq_true _
end

set_option maxRecDepth 100000 in
set_option maxHeartbeats 8000000 in
theorem walk (w : World) (A0 : Option Addr) (n0 c0 : Nat) (a0 : _) (r0 : (Ty.slice (Ty.nat .u8)).rep w (· < w.heap.size) a0 [.slice A0 n0 c0]) (A1 : Option Addr) (n1 c1 : Nat) (a1 : _) (r1 : (Ty.slice (Ty.nat .u8)).rep w (· < w.heap.size) a1 [.slice A1 n1 c1]) (A2 : Option Addr) (n2 c2 : Nat) (a2 : _) (r2 : (Ty.slice (Ty.nat .u8)).rep w (· < w.heap.size) a2 [.slice A2 n2 c2]) :
    Calls Try.prog 12 #[.slice A0 n0 c0, .slice A1 n1 c1, .slice A2 n2 c2] w fun e w' => e = .returned (.bool true) ∧ Below w.heap.size w w' := by
  obtain ⟨a, va⟩ := vr_bytes r0
  obtain ⟨b, vb⟩ := vr_bytes r1
  obtain ⟨c, vc⟩ := vr_bytes r2
  exact law_ok (all a b c) (.cons va (.cons vb (.cons vc (.nil _ _))))

set_option maxRecDepth 100000 in
theorem lifted (os : Os) (started : os.Started) (H : Type) (enc : TypeId × Value → H) :
    ReturnsInHanded {} Try.checked os 12 .any (Rows.checkPartsSpec.pre6 enc Try.prog Try.f12 Rows.checkPartsRow.domain false) (Rows.checkPartsSpec.post enc Try.prog Try.f12 false true false false) := by
  refine returnsInHanded_of_change (C := Try.checked) own started (by kernel_rfl) Try.func12
    (ChangeSpec.witness6 (enc := enc) (C := Try.checked) false ⟨#[], #[.slice none 0 0, .slice none 0 0, .slice none 0 0], []⟩ 8 (by kernel_rfl) (by kernel_rfl) (by kernel_rfl) (by kernel_rfl)) ?_
  intro W base args ds gs before hval0 hW hcnd _
  have hval : ∀ (j : Nat) t v, Try.f12.params[j]? = some t → args[j]? = some v → Value.okWide Try.prog W .any base t v := hval0
  have hW' := hW
  obtain ⟨p, q, hA0, hV, rfl, hfz, hnd⟩ := hW
  have hA : DataW.TrodAll enc Try.prog W 0 (fun _ => true) true Try.f12.params.toList args.toList ds p := hA0
  rw [Try.params12] at hA hval
  obtain ⟨v0, vs0, d0, ds0, p0, q0, hargs, rfl, rfl, h0, r0'⟩ := trodAll_cons hA
  obtain ⟨v1, vs1, d1, ds1, p1, q1, rfl, rfl, rfl, h1, r1'⟩ := trodAll_cons r0'
  obtain ⟨v2, vs2, d2, ds2, p2, q2, rfl, rfl, rfl, h2, r2'⟩ := trodAll_cons r1'
  obtain ⟨rfl, rfl, rfl⟩ := trodAll_nil r2'
  obtain rfl : args = #[v0, v1, v2] := by cases args; simp_all
  obtain ⟨rfl, rfl⟩ := trodVars_none hV
  have k0 := h0
  have lt0 : ∀ x ∈ p0, x.block < W.heap.size := by obtain ⟨m, hm⟩ := k0; exact DataW.trod_lt m _ _ _ hm
  obtain ⟨A0, n0, c0, rfl⟩ := okWide_slice Try.underlying45 (hval 0 45 v0 rfl rfl)
  obtain ⟨fu0, hf0⟩ := h0
  obtain ⟨a0, ra0⟩ := (opensBytes).2 hf0
  have k1 := h1
  have lt1 : ∀ x ∈ p1, x.block < W.heap.size := by obtain ⟨m, hm⟩ := k1; exact DataW.trod_lt m _ _ _ hm
  obtain ⟨A1, n1, c1, rfl⟩ := okWide_slice Try.underlying45 (hval 1 45 v1 rfl rfl)
  obtain ⟨fu1, hf1⟩ := h1
  obtain ⟨a1, ra1⟩ := (opensBytes).2 hf1
  have k2 := h2
  have lt2 : ∀ x ∈ p2, x.block < W.heap.size := by obtain ⟨m, hm⟩ := k2; exact DataW.trod_lt m _ _ _ hm
  obtain ⟨A2, n2, c2, rfl⟩ := okWide_slice Try.underlying45 (hval 2 45 v2 rfl rfl)
  obtain ⟨fu2, hf2⟩ := h2
  obtain ⟨a2, ra2⟩ := (opensBytes).2 hf2
  clear hA0 hval0
  refine (walk W A0 n0 c0 a0 (by simpa [Value.cells] using ra0) A1 n1 c1 a1 (by simpa [Value.cells] using ra1) A2 n2 c2 a2 (by simpa [Value.cells] using ra2)).mono fun e W' ⟨he, bel⟩ => ?_
  subst he
  exact ⟨_, rfl, _, _, _, [], _, [], hW', trodAll_mk1 (shut_bool Try.underlying4 _), (trodAll_cons_mk (Below.trod laidOut (by kernel_rfl) (of_decide_eq_true (by kernel_rfl)) k0 bel lt0) (trodAll_cons_mk (Below.trod laidOut (by kernel_rfl) (of_decide_eq_true (by kernel_rfl)) k1 bel lt1) (trodAll_cons_mk (Below.trod laidOut (by kernel_rfl) (of_decide_eq_true (by kernel_rfl)) k2 bel lt2) trodAll_mk0))), rfl, bel.frame _, fun h => by cases h⟩

theorem over : Rows.checkPartsRow.holds Try.pinned (OpenSpec.ofChange Rows.checkPartsSpec) :=
  OpenClaim.holds_of_wide 12 Try.f12 rfl rfl rfl rfl rfl rfl rfl ⟨rfl, rfl, rfl, rfl, rfl⟩ rfl rfl rfl rfl rfl (by kernel_rfl) Try.func12 (by kernel_rfl)
    (of_decide_eq_true (by kernel_rfl)) (by unfold Func.isWrapper; first | (rw [if_pos (by decide +kernel)]; kernel_rfl) | (rw [if_neg (by decide +kernel)]; exact ⟨rfl, rfl⟩))
    (fun os started H enc _ => lifted os started H enc)

theorem proved : Rows.CheckPartsSaid :=
  over
end Go.Proofs.Ytmdomipnjlhmeab.checkParts
