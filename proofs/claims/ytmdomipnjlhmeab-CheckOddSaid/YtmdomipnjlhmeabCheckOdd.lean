/- Every change of an odd number of bits is found: the statement returns true. No conditions. -/
import Derived.Test.YtmdomipnjlhmeabBu
import Derived.Test.YtmdomipnjlhmeabLw
import Derived.WalkKit
import Derived.ProofKit
import Derived.OpenShut
import Derived.ShutString
import Derived.ChangeOld
import Derived.Below
namespace Go.Proofs.Ytmdomipnjlhmeab.checkOdd
open Go.ChangeShapes Go.WideShapes Go.ChangeAt Go.RowKit

theorem own : ownKnob Try.prog.godebug = none := by kernel_rfl
theorem laidOut : laidOutB Try.prog = true := by kernel_rfl

noncomputable section
set_option maxRecDepth 1000000 in
theorem skipA (xs vs : List (List DV)) : zflat (zans Try.prog tab ftab cBt 11 [.list 1 xs, .list 1 vs] [(15, .b true)]) = some (.bool true, [decide ((xs.length : Int) > 3000) = true]) := by
  kernel_rfl
set_option maxRecDepth 1000000 in
theorem skipB (xs vs : List (List DV)) : zflat (zans Try.prog tab ftab cBt 11 [.list 1 xs, .list 1 vs] [(15, .b false), (19, .b true)]) = some (.bool true, [decide ((xs.length : Int) > 3000) = false, decide ((vs.length : Int) > 300) = true]) := by
  kernel_rfl
set_option maxRecDepth 1000000 in
theorem skipC (xs vs : List (List DV)) : zflat (zans Try.prog tab ftab cBt 11 [.list 1 xs, .list 1 vs] [(15, .b false), (19, .b false), (25, .b true)]) = some (.bool true, [decide ((xs.length : Int) > 3000) = false, decide ((vs.length : Int) > 300) = false, (Int.tmod (vs.length : Int) 2 == 0) = true]) := by
  kernel_rfl
set_option maxRecDepth 1000000 in
theorem round (vs : List (List DV)) (k v n6 n7 N6 N7 a6 a7 : Nat) (d6 d7 d6' d7' : DV) (h h' h'' : Hp) : zsee Try.prog tab ftab cBt (ksF ftab 11) [1, 5, 6, 7, 8] (loopAt (bodyOf ftab 11) 0) (mkT 91 [(1, .list 1 vs), (5, .bool true), (6, d6), (7, d7), (8, iN k)]) h [(47, .b true), (53, .n (.fptr [.int .u16 (v : Int)])), (55, .w (iN v)), (57, .h (iN n6) h none), (58, .w (iN N6)), (59, .n (iN a6)), (60, .r d6' h'), (64, .n (.fptr [.int .u16 (v : Int)])), (66, .w (iN v)), (68, .h (iN n7) h' none), (69, .w (iN N7)), (70, .n (iN a7)), (71, .r d7' h''), (8, .w (iN (k + 1)))] =
    some (.normal, mkT 91 [(1, .list 1 vs), (5, .bool true), (6, d6'), (7, d7'), (8, iN (k + 1))], h'', [decide ((k : Int) < (vs.length : Int)) = true,
      idxOk (k : Int) vs.length = true,
      nth vs (k : Int).toNat = some [.int .u16 (v : Int)],
      DV.int .i64 (IntKind.i64.wrap (v : Int)) = iN v,
      builtinD tab h .len [d6] [45] = some (iN n6, h, none),
      DV.int .i64 (IntKind.i64.wrap (8 * (n6 : Int))) = iN N6,
      binD tab .rem 3 (iN v) (iN N6) = some (iN a6),
      cBt 46 [d6, iN a6] h = some (d6', h', none),
      idxOk (k : Int) vs.length = true,
      nth vs (k : Int).toNat = some [.int .u16 (v : Int)],
      DV.int .i64 (IntKind.i64.wrap (v : Int)) = iN v,
      builtinD tab h' .len [d7] [45] = some (iN n7, h', none),
      DV.int .i64 (IntKind.i64.wrap (8 * (n7 : Int))) = iN N7,
      binD tab .rem 3 (iN v) (iN N7) = some (iN a7),
      cBt 46 [d7, iN a7] h' = some (d7', h'', none),
      DV.int .i64 (IntKind.i64.wrap ((k : Int) + 1)) = iN (k + 1)]) := by
  kernel_rfl
set_option maxRecDepth 1000000 in
theorem out (vs : List (List DV)) (k : Nat) (d6 d7 : DV) (h : Hp) : zsee Try.prog tab ftab cBt (ksF ftab 11) [1, 5, 6, 7] (loopAt (bodyOf ftab 11) 0) (mkT 91 [(1, .list 1 vs), (5, .bool true), (6, d6), (7, d7), (8, iN k)]) h [(47, .b false)] = some (.exit 0, mkT 91 [(1, .list 1 vs), (5, .bool true), (6, d6), (7, d7)], h, [decide ((k : Int) < (vs.length : Int)) = false]) := by
  kernel_rfl
set_option maxRecDepth 1000000 in
theorem main (xs vs : List (List DV)) (n1 n2 : Nat) (d1 d2 d6 d7 e1 e2 : DV) (h1 h2 h h3 h4 : Hp) : zflat (zans Try.prog tab ftab cBt 11 [.list 1 xs, .list 1 vs] [(15, .b false), (19, .b false), (25, .b false), (33, .r d1 h1), (35, .r d2 h2), (37, .h (iN n1) h2 none), (38, .b false), (41, .h (iN n2) h2 none), (42, .b false), (0, .l [1, 5, 6, 7, 8] (.exit 0) (mkT 91 [(1, .list 1 vs), (5, .bool true), (6, d6), (7, d7)]) h), (74, .r (.tuple [e1, .int .i64 31]) h3), (79, .r (.tuple [e2, .int .i64 31]) h4)]) = some (.bool true, [decide ((xs.length : Int) > 3000) = false,
    decide ((vs.length : Int) > 300) = false,
    (Int.tmod (vs.length : Int) 2 == 0) = false,
    cBt 39 [.list 1 xs] ⟨0, []⟩ = some (d1, h1, none),
    cBt 40 [.list 1 xs] h1 = some (d2, h2, none),
    builtinD tab h2 .len [d1] [45] = some (iN n1, h2, none),
    ((n1 : Int) == 0) = false,
    builtinD tab h2 .len [d2] [45] = some (iN n2, h2, none),
    ((n2 : Int) == 0) = false,
    Goes Try.prog tab (ksF ftab 11) (.loop (loopAt (bodyOf ftab 11) 0)) (mkT 91 [(1, .list 1 vs), (5, .bool true), (6, d1), (7, d2), (8, iN 0)]) h2 (.exit 0) (mkT 91 [(1, .list 1 vs), (5, .bool true), (6, d6), (7, d7)]) h,
    cBt 28 [d6] h = some (.tuple [e1, .int .i64 31], h3, none),
    cBt 29 [d7] h3 = some (.tuple [e2, .int .i64 31], h4, none)]) := by
  kernel_rfl
theorem all (b : List UInt8) (u : List Nat) (hsm : ∀ v ∈ u, v < 2 ^ 63) : Ans Try.prog 11 [byL b, .list 1 (w16s u)] (.bool true) ⟨0, []⟩ := by
  have lb := by1_length b
  have lu := w16s_length u
  by_cases hb : b.length > 3000
  · exact zflat_ok tab_ok mixed fun_ok cBt_ok (skipA (by1 b) (w16s u)) (.cons (decide_eq_true (by omega)) .nil)
  have g0 : decide (((by1 b).length : Int) > 3000) = false := decide_eq_false (by omega)
  by_cases hu : u.length > 300
  · exact zflat_ok tab_ok mixed fun_ok cBt_ok (skipB (by1 b) (w16s u)) (.cons g0 (.cons (decide_eq_true (by omega)) .nil))
  have m0 : decide (((w16s u).length : Int) > 300) = false := decide_eq_false (by omega)
  have hm : Int.tmod ((w16s u).length : Int) 2 = ((u.length % 2 : Nat) : Int) := by rw [lu]; rfl
  by_cases hev : u.length % 2 = 0
  · exact zflat_ok tab_ok mixed fun_ok cBt_ok (skipC (by1 b) (w16s u)) (.cons g0 (.cons m0 (.cons (by rw [hm, hev]; rfl) .nil)))
  have hodd : u.length % 2 = 1 := by omega
  have e0 : (Int.tmod ((w16s u).length : Int) 2 == 0) = false := by rw [hm, hodd]; rfl
  have lL := withL_len b
  have lS := withS_len b
  have q1 := bt_app (hp := ⟨0, []⟩) (d := byL b) ⟨b, by omega⟩ ⟨rfl, rfl⟩
  have S1 := sh_new ⟨0, []⟩ (withL b) (withL b).length
  generalize layH ⟨0, []⟩ (oneH (celB (withL b))) = h1 at q1 S1
  generalize DV.sl ((⟨0, []⟩ : Hp).n + 0) 0 1 (withL b).length (withL b).length = d1 at q1 S1
  have q2 := bt_app8 (hp := h1) (d := byL b) ⟨b, by omega⟩ ⟨rfl, rfl⟩
  have S2 := sh_new h1 (withS b) (withS b).length
  have S1' := bt_sh (hp' := oneH (celB (withS b))) rfl S1
  generalize layH h1 (oneH (celB (withS b))) = h2 at q2 S2 S1'
  generalize DV.sl (h1.n + 0) 0 1 (withS b).length (withS b).length = d2 at q2 S2
  have loop := Goes.loopI (P := Try.prog) (T := tab) (ks := (ksF ftab 11)) (x := loopAt (bodyOf ftab 11) 0) (e := .exit 0) u.length
    (fun k sl h => ∃ d6 d7 x6 x7, sl = (fun vs => mkT 91 [(1, .list 1 vs), (5, .bool true), (6, d6), (7, d7), (8, iN k)]) (w16s u) ∧ Sh h d6 x6 ∧ Sh h d7 x7 ∧ x6.length = (withL b).length ∧ x7.length = (withS b).length ∧ par (bitsB x6) = (par (bitsB (withL b)) ^^ decide (k % 2 = 1)) ∧ par (bitsB x7) = (par (bitsB (withS b)) ^^ decide (k % 2 = 1)))
    (fun sl h => ∃ d6 d7 x6 x7, sl = (fun vs => mkT 91 [(1, .list 1 vs), (5, .bool true), (6, d6), (7, d7)]) (w16s u) ∧ Sh h d6 x6 ∧ Sh h d7 x7 ∧ x6.length = (withL b).length ∧ x7.length = (withS b).length ∧ par (bitsB x6) = (par (bitsB (withL b)) ^^ true) ∧ par (bitsB x7) = (par (bitsB (withS b)) ^^ true)) (by intro h; cases h) ?_ ?_
    (sl := (fun vs => mkT 91 [(1, .list 1 vs), (5, .bool true), (6, d1), (7, d2), (8, iN 0)]) (w16s u)) (hp := h2) ⟨d1, d2, withL b, withS b, rfl, S1', S2, rfl, rfl, by simp, by simp⟩
  · obtain ⟨s1, h, g, d6, d7, x6, x7, rfl, s6, s7, l6, l7, p6, p7⟩ := loop
    rw [Bool.xor_true] at p6 p7
    have q3 := bt_ver (hp := h) ⟨x6, by omega⟩ s6.frz (found_odd32 l6 p6)
    have q4 := bt_ver8 (hp := h) ⟨x7, by omega⟩ s7.frz (found_odd8 l7 p7)
    exact zflat_ok tab_ok mixed fun_ok cBt_ok (main (by1 b) (w16s u) (withL b).length (withS b).length d1 d2 d6 d7 .nil .nil h1 h2 h h h)
      (.cons g0 (.cons m0 (.cons e0 (.cons q1 (.cons q2 (.cons (sh_len S1') (.cons (eq0 (by omega)) (.cons (sh_len S2) (.cons (eq0 (by omega)) (.cons g (.cons q3 (.cons q4 .nil))))))))))))
  · rintro k sl h hk ⟨d6, d7, x6, x7, rfl, s6, s7, l6, l7, p6, p7⟩
    obtain ⟨v, hv⟩ : ∃ v, u[k]? = some v := ⟨_, List.getElem?_eq_getElem hk⟩
    have i6 : v % (8 * x6.length) < 8 * x6.length := Nat.mod_lt _ (by omega)
    have i7 : v % (8 * x7.length) < 8 * x7.length := Nat.mod_lt _ (by omega)
    have f1 := bt_fl (hp := h) ⟨x6, by omega⟩ _ i6 s6.frz
    have t6 := sh_fl h (flip x6 (v % (8 * x6.length))) (flip x6 (v % (8 * x6.length))).length
    have t7 := bt_sh (hp' := ownH 5 1 (celB (flip x6 (v % (8 * x6.length))))) rfl s7
    generalize layH h (ownH 5 1 (celB (flip x6 (v % (8 * x6.length))))) = h' at f1 t6 t7
    generalize DV.sl (h.n + 0) 0 1 (flip x6 (v % (8 * x6.length))).length (flip x6 (v % (8 * x6.length))).length = d6' at f1 t6
    have f2 := bt_fl (hp := h') ⟨x7, by omega⟩ _ i7 t7.frz
    have r7 := sh_fl h' (flip x7 (v % (8 * x7.length))) (flip x7 (v % (8 * x7.length))).length
    have r6 := bt_sh (hp' := ownH 5 1 (celB (flip x7 (v % (8 * x7.length))))) rfl t6
    have el1 := idxOk_lt (k := k) (n := (w16s u).length) (by omega)
    have el2 := w16s_nth hv
    have el3 : DV.int .i64 (IntKind.i64.wrap (v : Int)) = iN v := congrArg (DV.int .i64) (wrapI (hsm v (List.mem_of_getElem? hv)))
    have tg : ∀ (p : Bool) (k : Nat), (!(p ^^ decide (k % 2 = 1))) = (p ^^ decide ((k + 1) % 2 = 1)) := fun p k => by
      rcases Nat.mod_two_eq_zero_or_one k with e | e
      · rw [e, show (k + 1) % 2 = 1 by omega]
        cases p <;> rfl
      · rw [e, show (k + 1) % 2 = 0 by omega]
        cases p <;> rfl
    refine ⟨_, _, zsee_ok tab_ok mixed fun_ok cBt_ok (round (w16s u) k v x6.length x7.length (8 * x6.length) (8 * x7.length) _ _ d6 d7 d6' _ h h' _)
      (.cons (decide_eq_true (by omega)) (.cons el1 (.cons el2 (.cons el3 (.cons (sh_len s6) (.cons (mul8 (by omega)) (.cons (rem_n (by omega)) (.cons f1 (.cons el1 (.cons el2 (.cons el3 (.cons (sh_len t7) (.cons (mul8 (by omega)) (.cons (rem_n (by omega)) (.cons f2 (.cons (congrArg (DV.int .i64) (wrapI (n := k + 1) (by omega))) .nil)))))))))))))))),
      d6', _, _, _, rfl, r6, r7, by rw [flip_length]; exact l6, by rw [flip_length]; exact l7, ?_, ?_⟩
    · rw [flip_bits x6 _ i6, par_tog _ _ (by rw [bitsB_length]; exact i6), p6, tg]
    · rw [flip_bits x7 _ i7, par_tog _ _ (by rw [bitsB_length]; exact i7), p7, tg]
  · rintro sl h ⟨d6, d7, x6, x7, rfl, s6, s7, l6, l7, p6, p7⟩
    rw [hodd] at p6 p7
    exact ⟨_, h, zsee_ok tab_ok mixed fun_ok cBt_ok (out (w16s u) u.length d6 d7 h) (.cons (decide_eq_false (by omega)) .nil), d6, d7, x6, x7, rfl, s6, s7, l6, l7, p6, p7⟩
end

set_option maxRecDepth 100000 in
set_option maxHeartbeats 8000000 in
theorem walk (w : World) (A0 : Option Addr) (n0 c0 : Nat) (a0 : _) (r0 : (Ty.slice (Ty.nat .u8)).rep w (· < w.heap.size) a0 [.slice A0 n0 c0]) (A1 : Option Addr) (n1 c1 : Nat) (a1 : _) (r1 : (Ty.slice (Ty.nat .u16)).rep w (· < w.heap.size) a1 [.slice A1 n1 c1]) :
    Calls Try.prog 11 #[.slice A0 n0 c0, .slice A1 n1 c1] w fun e w' => e = .returned (.bool true) ∧ Below w.heap.size w w' := by
  obtain ⟨b, vb⟩ := vr_bytes r0
  obtain ⟨vu, hu⟩ := vr_16s r1
  exact law_ok (all b a1 fun v hv => Nat.lt_trans (hu v hv) (by decide)) (.cons vb (.cons vu (.nil _ _)))

set_option maxRecDepth 100000 in
theorem lifted (os : Os) (started : os.Started) (H : Type) (enc : TypeId × Value → H) :
    ReturnsInHanded {} Try.checked os 11 .any (Rows.checkOddSpec.pre6 enc Try.prog Try.f11 Rows.checkOddRow.domain false) (Rows.checkOddSpec.post enc Try.prog Try.f11 false true false false) := by
  refine returnsInHanded_of_change (C := Try.checked) own started (by kernel_rfl) Try.func11
    (ChangeSpec.witness6 (enc := enc) (C := Try.checked) false ⟨#[], #[.slice none 0 0, .slice none 0 0], []⟩ 8 (by kernel_rfl) (by kernel_rfl) (by kernel_rfl) (by kernel_rfl)) ?_
  intro W base args ds gs before hval0 hW hcnd _
  have hval : ∀ (j : Nat) t v, Try.f11.params[j]? = some t → args[j]? = some v → Value.okWide Try.prog W .any base t v := hval0
  have hW' := hW
  obtain ⟨p, q, hA0, hV, rfl, hfz, hnd⟩ := hW
  have hA : DataW.TrodAll enc Try.prog W 0 (fun _ => true) true Try.f11.params.toList args.toList ds p := hA0
  rw [Try.params11] at hA hval
  obtain ⟨v0, vs0, d0, ds0, p0, q0, hargs, rfl, rfl, h0, r0'⟩ := trodAll_cons hA
  obtain ⟨v1, vs1, d1, ds1, p1, q1, rfl, rfl, rfl, h1, r1'⟩ := trodAll_cons r0'
  obtain ⟨rfl, rfl, rfl⟩ := trodAll_nil r1'
  obtain rfl : args = #[v0, v1] := by cases args; simp_all
  obtain ⟨rfl, rfl⟩ := trodVars_none hV
  have k0 := h0
  have lt0 : ∀ x ∈ p0, x.block < W.heap.size := by obtain ⟨m, hm⟩ := k0; exact DataW.trod_lt m _ _ _ hm
  obtain ⟨A0, n0, c0, rfl⟩ := okWide_slice Try.underlying45 (hval 0 45 v0 rfl rfl)
  obtain ⟨fu0, hf0⟩ := h0
  obtain ⟨a0, ra0⟩ := (opensBytes).2 hf0
  have k1 := h1
  have lt1 : ∀ x ∈ p1, x.block < W.heap.size := by obtain ⟨m, hm⟩ := k1; exact DataW.trod_lt m _ _ _ hm
  obtain ⟨A1, n1, c1, rfl⟩ := okWide_slice Try.underlying61 (hval 1 61 v1 rfl rfl)
  obtain ⟨fu1, hf1⟩ := h1
  obtain ⟨a1, ra1⟩ := (opens16).2 hf1
  clear hA0 hval0
  refine (walk W A0 n0 c0 a0 (by simpa [Value.cells] using ra0) A1 n1 c1 a1 (by simpa [Value.cells] using ra1)).mono fun e W' ⟨he, bel⟩ => ?_
  subst he
  exact ⟨_, rfl, _, _, _, [], _, [], hW', trodAll_mk1 (shut_bool Try.underlying4 _), (trodAll_cons_mk (Below.trod laidOut (by kernel_rfl) (of_decide_eq_true (by kernel_rfl)) k0 bel lt0) (trodAll_cons_mk (Below.trod laidOut (by kernel_rfl) (of_decide_eq_true (by kernel_rfl)) k1 bel lt1) trodAll_mk0)), rfl, bel.frame _, fun h => by cases h⟩

theorem over : Rows.checkOddRow.holds Try.pinned (OpenSpec.ofChange Rows.checkOddSpec) :=
  OpenClaim.holds_of_wide 11 Try.f11 rfl rfl rfl rfl rfl rfl rfl ⟨rfl, rfl, rfl, rfl, rfl⟩ rfl rfl rfl rfl rfl (by kernel_rfl) Try.func11 (by kernel_rfl)
    (of_decide_eq_true (by kernel_rfl)) (by unfold Func.isWrapper; first | (rw [if_pos (by decide +kernel)]; kernel_rfl) | (rw [if_neg (by decide +kernel)]; exact ⟨rfl, rfl⟩))
    (fun os started H enc _ => lifted os started H enc)

theorem proved : Rows.CheckOddSaid :=
  over
end Go.Proofs.Ytmdomipnjlhmeab.checkOdd
