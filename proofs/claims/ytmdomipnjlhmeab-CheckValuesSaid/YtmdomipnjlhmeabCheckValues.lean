/- Crc8, Crc32, Extend and Final return the reference's results: the statement returns true. No conditions. -/
import Derived.Test.YtmdomipnjlhmeabRv
import Derived.Test.YtmdomipnjlhmeabLw
import Derived.WalkKit
import Derived.ProofKit
import Derived.OpenShut
import Derived.ShutString
import Derived.ChangeOld
import Derived.Below
namespace Go.Proofs.Ytmdomipnjlhmeab.checkValues
open Go.ChangeShapes Go.WideShapes Go.ChangeAt Go.RowKit

theorem own : ownKnob Try.prog.godebug = none := by kernel_rfl
theorem laidOut : laidOutB Try.prog = true := by kernel_rfl

noncomputable section
def cVl : CallF := orK cCrc (orK cR32 (orK cR8 cRC))
theorem cVl_ok : CallOk Try.prog cVl := orK_ok cCrc_ok (orK_ok cR32_ok (orK_ok cR8_ok cRC_ok))
set_option maxRecDepth 1000000 in
theorem great (xs : List (List DV)) (s : BitVec 32) : zflat (zans Try.prog tab ftab cVl 8 [.list 1 xs, w32 s] [(6, .b true)]) = some (.bool true, [decide ((xs.length : Int) > 3000) = true]) := by
  kernel_rfl
set_option maxRecDepth 1000000 in
theorem main (xs : List (List DV)) (s c e n : BitVec 32) (v : BitVec 8) : zflat (zans Try.prog tab ftab cVl 8 [.list 1 xs, w32 s] [(6, .b false), (8, .q (w8 v)), (10, .q (w8 v)), (11, .b true), (14, .q (w32 c)), (16, .q (w32 c)), (17, .b true), (22, .q (w32 e)), (25, .q (w32 e)), (26, .b true), (30, .w (w32 n)), (32, .w (w32 n)), (33, .b true)]) = some (.bool true, [decide ((xs.length : Int) > 3000) = false,
    cVl 33 [.list 1 xs] ⟨0, []⟩ = some (w8 v, ⟨0, []⟩, none),
    cVl 34 [.list 1 xs] ⟨0, []⟩ = some (w8 v, ⟨0, []⟩, none),
    ((v.toNat : Int) == (v.toNat : Int)) = true,
    cVl 31 [.list 1 xs] ⟨0, []⟩ = some (w32 c, ⟨0, []⟩, none),
    cVl 35 [.list 1 xs] ⟨0, []⟩ = some (w32 c, ⟨0, []⟩, none),
    ((c.toNat : Int) == (c.toNat : Int)) = true,
    cVl 36 [w32 s, .list 1 xs] ⟨0, []⟩ = some (w32 e, ⟨0, []⟩, none),
    cVl 37 [w32 s, .list 1 xs] ⟨0, []⟩ = some (w32 e, ⟨0, []⟩, none),
    ((e.toNat : Int) == (e.toNat : Int)) = true,
    DV.int .u32 (bitD .xor .u32 IntKind.u32.max (s.toNat : Int)) = w32 n,
    DV.int .u32 (IntKind.u32.wrap (4294967295 - (s.toNat : Int))) = w32 n,
    ((n.toNat : Int) == (n.toNat : Int)) = true]) := by
  kernel_rfl
theorem miss {f : FuncId} {args : List DV} {hp : Hp} (h1 : Nat.beq f 30 = false) (h2 : Nat.beq f 36 = false) (h3 : Nat.beq f 31 = false) (h4 : Nat.beq f 33 = false) : cCrc f args hp = none := by
  unfold cCrc orK
  rw [show cAl3 f args hp = none from fixC_other h1, show cExtend f args hp = none from conC_other h2, show cC32 f args hp = none from conC_other h3, show cC8 f args hp = none from conC_other h4]
theorem all (b : List UInt8) (s : BitVec 32) : Ans Try.prog 8 [byL b, w32 s] (.bool true) ⟨0, []⟩ := by
  by_cases hb : b.length > 3000
  · exact zflat_ok tab_ok mixed fun_ok cVl_ok (great (by1 b) s) (.cons (decide_eq_true (by rw [by1_length]; omega)) .nil)
  have hl : b.length < 2 ^ 30 := by omega
  refine zflat_ok tab_ok mixed fun_ok cVl_ok (main (by1 b) s (crc32 b) (ext32 s b) (~~~ s) (crc8 b)) (.cons (decide_eq_false (by rw [by1_length]; omega)) (.cons ?_ (.cons ?_ (.cons (beq_self_eq_true _) (.cons ?_ (.cons ?_ (.cons (beq_self_eq_true _) (.cons ?_ (.cons ?_ (.cons (beq_self_eq_true _) (.cons (not32 s) (.cons (sub32 s) (.cons (beq_self_eq_true _) .nil)))))))))))))
  · exact orK_left (cCrc_8 (hp := ⟨0, []⟩) (d := byL b) (some ⟨b, hl⟩) ⟨rfl, rfl⟩)
  · exact orK_right (miss (by kernel_rfl) (by kernel_rfl) (by kernel_rfl) (by kernel_rfl)) (orK_right (conC_other (by kernel_rfl)) (orK_left (cR8_at (hp := ⟨0, []⟩) (d := byL b) ⟨b, hl⟩ ⟨rfl, rfl⟩)))
  · exact orK_left (cCrc_32 (hp := ⟨0, []⟩) (d := byL b) (some ⟨b, hl⟩) ⟨rfl, rfl⟩)
  · exact orK_right (miss (by kernel_rfl) (by kernel_rfl) (by kernel_rfl) (by kernel_rfl)) (orK_right (conC_other (by kernel_rfl)) (orK_right (conC_other (by kernel_rfl)) (cRC_at (hp := ⟨0, []⟩) (d := byL b) ⟨b, hl⟩ ⟨rfl, rfl⟩)))
  · exact orK_left (cCrc_ext (hp := ⟨0, []⟩) (d := byL b) s (some ⟨b, hl⟩) ⟨rfl, rfl⟩)
  · exact orK_right (miss (by kernel_rfl) (by kernel_rfl) (by kernel_rfl) (by kernel_rfl)) (orK_left (cR32_at (hp := ⟨0, []⟩) (d := byL b) s ⟨b, hl⟩ ⟨rfl, rfl⟩))
end

set_option maxRecDepth 100000 in
set_option maxHeartbeats 8000000 in
theorem walk (w : World) (A0 : Option Addr) (n0 c0 : Nat) (a0 : _) (r0 : (Ty.slice (Ty.nat .u8)).rep w (· < w.heap.size) a0 [.slice A0 n0 c0]) (a1 : Int) (r1 : (Lit.int .u32 a1).wf = true) :
    Calls Try.prog 8 #[.slice A0 n0 c0, .int .u32 a1] w fun e w' => e = .returned (.bool true) ∧ Below w.heap.size w w' := by
  obtain ⟨b, vb⟩ := vr_bytes r0
  obtain ⟨s, hs⟩ := u32_bits r1
  rw [hs]
  exact law_ok (all b s) (.cons vb (.cons (.int _ _ _) (.nil _ _)))

set_option maxRecDepth 100000 in
theorem lifted (os : Os) (started : os.Started) (H : Type) (enc : TypeId × Value → H) :
    ReturnsInHanded {} Try.checked os 8 .any (Rows.checkValuesSpec.pre6 enc Try.prog Try.f8 Rows.checkValuesRow.domain false) (Rows.checkValuesSpec.post enc Try.prog Try.f8 false true false false) := by
  refine returnsInHanded_of_change (C := Try.checked) own started (by kernel_rfl) Try.func8
    (ChangeSpec.witness6 (enc := enc) (C := Try.checked) false ⟨#[], #[.slice none 0 0, .int .u32 0], []⟩ 8 (by kernel_rfl) (by kernel_rfl) (by kernel_rfl) (by kernel_rfl)) ?_
  intro W base args ds gs before hval0 hW hcnd _
  have hval : ∀ (j : Nat) t v, Try.f8.params[j]? = some t → args[j]? = some v → Value.okWide Try.prog W .any base t v := hval0
  have hW' := hW
  obtain ⟨p, q, hA0, hV, rfl, hfz, hnd⟩ := hW
  have hA : DataW.TrodAll enc Try.prog W 0 (fun _ => true) true Try.f8.params.toList args.toList ds p := hA0
  rw [Try.params8] at hA hval
  obtain ⟨v0, vs0, d0, ds0, p0, q0, hargs, rfl, rfl, h0, r0'⟩ := trodAll_cons hA
  obtain ⟨v1, vs1, d1, ds1, p1, q1, rfl, rfl, rfl, h1, r1'⟩ := trodAll_cons r0'
  obtain ⟨rfl, rfl, rfl⟩ := trodAll_nil r1'
  obtain rfl : args = #[v0, v1] := by cases args; simp_all
  obtain ⟨rfl, rfl⟩ := trodVars_none hV
  have k0 := h0
  have lt0 : ∀ x ∈ p0, x.block < W.heap.size := by obtain ⟨m, hm⟩ := k0; exact DataW.trod_lt m _ _ _ hm
  obtain ⟨A0, n0, c0, rfl⟩ := okWide_slice Try.underlying45 (hval 0 45 v0 rfl rfl)
  obtain ⟨fu0, hf0⟩ := h0
  obtain ⟨a0, ra0⟩ := (opensBytes).2 hf0
  have k1 := h1
  have lt1 : ∀ x ∈ p1, x.block < W.heap.size := by obtain ⟨m, hm⟩ := k1; exact DataW.trod_lt m _ _ _ hm
  obtain ⟨a1, rfl, rfl, hp1, w1⟩ := open_int Try.underlying48 (hval 1 48 v1 rfl rfl) h1
  clear hA0 hval0
  refine (walk W A0 n0 c0 a0 (by simpa [Value.cells] using ra0) a1 w1).mono fun e W' ⟨he, bel⟩ => ?_
  subst he
  exact ⟨_, rfl, _, _, _, [], _, [], hW', trodAll_mk1 (shut_bool Try.underlying4 _), (trodAll_cons_mk (Below.trod laidOut (by kernel_rfl) (of_decide_eq_true (by kernel_rfl)) k0 bel lt0) (trodAll_cons_mk (Below.trod laidOut (by kernel_rfl) (of_decide_eq_true (by kernel_rfl)) k1 bel lt1) trodAll_mk0)), rfl, bel.frame _, fun h => by cases h⟩

theorem over : Rows.checkValuesRow.holds Try.pinned (OpenSpec.ofChange Rows.checkValuesSpec) :=
  OpenClaim.holds_of_wide 8 Try.f8 rfl rfl rfl rfl rfl rfl rfl ⟨rfl, rfl, rfl, rfl, rfl⟩ rfl rfl rfl rfl rfl (by kernel_rfl) Try.func8 (by kernel_rfl)
    (of_decide_eq_true (by kernel_rfl)) (by unfold Func.isWrapper; first | (rw [if_pos (by decide +kernel)]; kernel_rfl) | (rw [if_neg (by decide +kernel)]; exact ⟨rfl, rfl⟩))
    (fun os started H enc _ => lifted os started H enc)

theorem proved : Rows.CheckValuesSaid :=
  over
end Go.Proofs.Ytmdomipnjlhmeab.checkValues
