/- Union and Meet are commutative and associative, and each absorbs the other: the statement returns true. No conditions. -/
import Derived.Test.YtmdomipnjlhmeabAo
import Derived.WalkKit
import Derived.ProofKit
import Derived.OpenShut
import Derived.ShutString
import Derived.ChangeOld
import Derived.Below
namespace Go.Proofs.Ytmdomipnjlhmeab.addressLaws
open Go.ChangeShapes Go.WideShapes Go.ChangeAt Go.RowKit

theorem own : ownKnob Try.prog.godebug = none := by kernel_rfl
theorem laidOut : laidOutB Try.prog = true := by kernel_rfl

noncomputable section
set_option maxRecDepth 1000000 in
theorem runAl2 : zflat (zans Try.prog tab ftab noC 15 [] []) = some (.bool true, []) := by
  kernel_rfl
def cAl2 : CallF := fixC 15 (.bool true)
theorem cAl2_ok : CallOk Try.prog cAl2 := fixC_ok (zflat_ok tab_ok mixed fun_ok noC_ok runAl2 .nil) rfl
def cAw : CallF := orK cAl2 (orK cCk (orK cUn (orK cMn cSa)))
theorem cAw_ok : CallOk Try.prog cAw := orK_ok cAl2_ok (orK_ok cCk_ok (orK_ok cUn_ok (orK_ok cMn_ok cSa_ok)))
theorem fixC_other {f0 f : FuncId} {d : DV} {args : List DV} {hp : Hp} (h : Nat.beq f f0 = false) : fixC f0 d f args hp = none := by
  unfold fixC
  rw [h]
set_option maxRecDepth 1000000 in
theorem big0 (xs ys zs : List (List DV)) : zflat (zans Try.prog tab ftab cAw 5 [.list 6 xs, .list 6 ys, .list 6 zs] [(29, .b true)]) = some (.bool true, [decide ((xs.length : Int) > 80) = true]) := by
  kernel_rfl
set_option maxRecDepth 1000000 in
theorem big1 (xs ys zs : List (List DV)) : zflat (zans Try.prog tab ftab cAw 5 [.list 6 xs, .list 6 ys, .list 6 zs] [(29, .b false), (33, .b true)]) = some (.bool true, [decide ((xs.length : Int) > 80) = false, decide ((ys.length : Int) > 80) = true]) := by
  kernel_rfl
set_option maxRecDepth 1000000 in
theorem big2 (xs ys zs : List (List DV)) : zflat (zans Try.prog tab ftab cAw 5 [.list 6 xs, .list 6 ys, .list 6 zs] [(29, .b false), (33, .b false), (38, .b true)]) = some (.bool true, [decide ((xs.length : Int) > 80) = false, decide ((ys.length : Int) > 80) = false, decide ((zs.length : Int) > 80) = true]) := by
  kernel_rfl
set_option maxRecDepth 1000000 in
theorem bad0 (xs ys zs : List (List DV)) : zflat (zans Try.prog tab ftab cAw 5 [.list 6 xs, .list 6 ys, .list 6 zs] [(29, .b false), (33, .b false), (38, .b false), (42, .q (.int .i64 8))]) = some (.bool true, [decide ((xs.length : Int) > 80) = false, decide ((ys.length : Int) > 80) = false, decide ((zs.length : Int) > 80) = false, cAw 19 [.list 6 xs] ⟨0, []⟩ = some (.int .i64 8, ⟨0, []⟩, none)]) := by
  kernel_rfl
set_option maxRecDepth 1000000 in
theorem bad1 (xs ys zs : List (List DV)) : zflat (zans Try.prog tab ftab cAw 5 [.list 6 xs, .list 6 ys, .list 6 zs] [(29, .b false), (33, .b false), (38, .b false), (42, .q (.int .i64 0)), (47, .q (.int .i64 8))]) = some (.bool true, [decide ((xs.length : Int) > 80) = false, decide ((ys.length : Int) > 80) = false, decide ((zs.length : Int) > 80) = false, cAw 19 [.list 6 xs] ⟨0, []⟩ = some (.int .i64 0, ⟨0, []⟩, none), cAw 19 [.list 6 ys] ⟨0, []⟩ = some (.int .i64 8, ⟨0, []⟩, none)]) := by
  kernel_rfl
set_option maxRecDepth 1000000 in
theorem bad2 (xs ys zs : List (List DV)) : zflat (zans Try.prog tab ftab cAw 5 [.list 6 xs, .list 6 ys, .list 6 zs] [(29, .b false), (33, .b false), (38, .b false), (42, .q (.int .i64 0)), (47, .q (.int .i64 0)), (52, .q (.int .i64 8))]) = some (.bool true, [decide ((xs.length : Int) > 80) = false, decide ((ys.length : Int) > 80) = false, decide ((zs.length : Int) > 80) = false, cAw 19 [.list 6 xs] ⟨0, []⟩ = some (.int .i64 0, ⟨0, []⟩, none), cAw 19 [.list 6 ys] ⟨0, []⟩ = some (.int .i64 0, ⟨0, []⟩, none), cAw 19 [.list 6 zs] ⟨0, []⟩ = some (.int .i64 8, ⟨0, []⟩, none)]) := by
  kernel_rfl
set_option maxRecDepth 1000000 in
theorem main (xs ys zs : List (List DV)) (n1 n3 : Nat) (d1 d2 d3 d4 d5 d6 d7 d8 d9 : DV) (h1 h2 h3 h4 h5 h6 h7 h8 h9 : Hp) : zflat (zans Try.prog tab ftab cAw 5 [.list 6 xs, .list 6 ys, .list 6 zs] [(29, .b false), (33, .b false), (38, .b false), (42, .q (.int .i64 0)), (47, .q (.int .i64 0)), (52, .q (.int .i64 0)), (63, .r (.tuple [d1, .int .i64 0]) h1), (69, .r (.tuple [d2, .int .i64 0]) h2), (75, .r (.tuple [d3, .int .i64 0]) h3), (81, .r (.tuple [d4, .int .i64 0]) h4), (101, .q (.bool true)), (107, .q (.bool true)), (113, .r (.tuple [d5, .int .i64 0]) h5), (119, .r (.tuple [d6, .int .i64 0]) h6), (125, .r (.tuple [d7, .int .i64 0]) h7), (131, .r (.tuple [d8, .int .i64 0]) h8), (137, .r (.tuple [d9, .int .i64 0]) h9), (156, .q (.bool true)), (165, .q (.bool true)), (174, .q (.bool true)), (178, .h (iN n1) h9 none), (180, .h (iN n3) h9 none), (187, .b true)]) = some (.bool true, [decide ((xs.length : Int) > 80) = false,
    decide ((ys.length : Int) > 80) = false,
    decide ((zs.length : Int) > 80) = false,
    cAw 19 [.list 6 xs] ⟨0, []⟩ = some (.int .i64 0, ⟨0, []⟩, none),
    cAw 19 [.list 6 ys] ⟨0, []⟩ = some (.int .i64 0, ⟨0, []⟩, none),
    cAw 19 [.list 6 zs] ⟨0, []⟩ = some (.int .i64 0, ⟨0, []⟩, none),
    cAw 24 [.list 6 xs, .list 6 ys] ⟨0, []⟩ = some (.tuple [d1, .int .i64 0], h1, none),
    cAw 24 [.list 6 ys, .list 6 xs] h1 = some (.tuple [d2, .int .i64 0], h2, none),
    cAw 25 [.list 6 xs, .list 6 ys] h2 = some (.tuple [d3, .int .i64 0], h3, none),
    cAw 25 [.list 6 ys, .list 6 xs] h3 = some (.tuple [d4, .int .i64 0], h4, none),
    cAw 23 [d1, d2] h4 = some (.bool true, h4, none),
    cAw 23 [d3, d4] h4 = some (.bool true, h4, none),
    cAw 24 [d1, .list 6 zs] h4 = some (.tuple [d5, .int .i64 0], h5, none),
    cAw 24 [.list 6 ys, .list 6 zs] h5 = some (.tuple [d6, .int .i64 0], h6, none),
    cAw 24 [.list 6 xs, d6] h6 = some (.tuple [d7, .int .i64 0], h7, none),
    cAw 25 [.list 6 xs, d1] h7 = some (.tuple [d8, .int .i64 0], h8, none),
    cAw 24 [.list 6 xs, d3] h8 = some (.tuple [d9, .int .i64 0], h9, none),
    cAw 23 [d5, d7] h9 = some (.bool true, h9, none),
    cAw 23 [d8, .list 6 xs] h9 = some (.bool true, h9, none),
    cAw 23 [d9, .list 6 xs] h9 = some (.bool true, h9, none),
    builtinD tab h9 .len [d1] [32] = some (iN n1, h9, none),
    builtinD tab h9 .len [d3] [32] = some (iN n3, h9, none),
    (IntKind.i64.wrap ((n1 : Int) + (n3 : Int)) == IntKind.i64.wrap ((xs.length : Int) + (ys.length : Int))) = true]) := by
  kernel_rfl
theorem at_ck {hp : Hp} {ns : List Nat} (hb : ∀ n ∈ ns, n < 2 ^ 48) (hl : ns.length < 2 ^ 30) : cAw 19 [adL ns] hp = some (.int .i64 (chk ns), hp, none) :=
  orK_right (fixC_other (by kernel_rfl)) (orK_left (cCk_at ⟨ns, hb, hl⟩ ⟨rfl, rfl⟩))
theorem at_un {hp : Hp} {d e : DV} {s t : List Nat} (hs : ∀ n ∈ s, n < 2 ^ 48) (ht : ∀ n ∈ t, n < 2 ^ 48) (ss : Srt s) (st : Srt t) (hl : s.length + t.length ≤ 256) (h : ShA hp d s) (k : ShA hp e t) : ∃ d' h', cAw 24 [d, e] hp = some (.tuple [d', .int .i64 0], h', none) ∧ ShA h' d' (uni s t) ∧ ∀ x ns, ShA hp x ns → ShA h' x ns :=
  ⟨_, _, orK_right (fixC_other (by kernel_rfl)) (orK_right (conC_other (by kernel_rfl)) (orK_left (cUn_at hs ht (chk_of (by omega) ss) (chk_of (by omega) st) hl h k))), shA_new hp _ _, fun _ _ hx => hx.lay rfl⟩
theorem at_me {hp : Hp} {d e : DV} {s t : List Nat} (hs : ∀ n ∈ s, n < 2 ^ 48) (ht : ∀ n ∈ t, n < 2 ^ 48) (ss : Srt s) (st : Srt t) (hl : s.length + t.length ≤ 256) (h : ShA hp d s) (k : ShA hp e t) : ∃ d' h', cAw 25 [d, e] hp = some (.tuple [d', .int .i64 0], h', none) ∧ ShA h' d' (mee s t) ∧ ∀ x ns, ShA hp x ns → ShA h' x ns :=
  ⟨_, _, orK_right (fixC_other (by kernel_rfl)) (orK_right (conC_other (by kernel_rfl)) (orK_right (conC_other (by kernel_rfl)) (orK_left (cMn_at hs ht (chk_of (by omega) ss) (chk_of (by omega) st) hl h k)))), shA_new hp _ _, fun _ _ hx => hx.lay rfl⟩
theorem at_sa {hp : Hp} {d e : DV} {s t : List Nat} (hs : ∀ n ∈ s, n < 2 ^ 48) (ls : s.length < 2 ^ 30) (h : ShA hp d s) (k : ShA hp e t) (he : s = t) : cAw 23 [d, e] hp = some (.bool true, hp, none) := by
  subst he
  have := cSa_at ⟨s, hs, ls⟩ ⟨s, hs, ls⟩ h.frz k.frz
  rw [decide_eq_true rfl] at this
  exact orK_right (fixC_other (by kernel_rfl)) (orK_right (conC_other (by kernel_rfl)) (orK_right (conC_other (by kernel_rfl)) (orK_right (conC_other (by kernel_rfl)) this)))
theorem bnd_uni {s t : List Nat} (hs : ∀ n ∈ s, n < 2 ^ 48) (ht : ∀ n ∈ t, n < 2 ^ 48) : ∀ n ∈ uni s t, n < 2 ^ 48 := fun n hn => by
  rcases (mem_uni n s t).1 hn with h | h
  · exact hs n h
  · exact ht n h
theorem bnd_mee {s t : List Nat} (ss : Srt s) (st : Srt t) (hs : ∀ n ∈ s, n < 2 ^ 48) : ∀ n ∈ mee s t, n < 2 ^ 48 := fun n hn => hs n ((mem_mee n ss st).1 hn).1
theorem all (s t u : List Nat) (hs : ∀ n ∈ s, n < 2 ^ 48) (ht : ∀ n ∈ t, n < 2 ^ 48) (hu : ∀ n ∈ u, n < 2 ^ 48) : Ans Try.prog 5 [adL s, adL t, adL u] (.bool true) ⟨0, []⟩ := by
  have r1 := rows_length s
  have r2 := rows_length t
  have r3 := rows_length u
  by_cases ls : s.length > 80
  · exact zflat_ok tab_ok mixed fun_ok cAw_ok (big0 (rows s) (rows t) (rows u)) (.cons (decide_eq_true (by omega)) .nil)
  have n1 : decide (((rows s).length : Int) > 80) = false := decide_eq_false (by omega)
  by_cases lt : t.length > 80
  · exact zflat_ok tab_ok mixed fun_ok cAw_ok (big1 (rows s) (rows t) (rows u)) (.cons n1 (.cons (decide_eq_true (by omega)) .nil))
  have n2 : decide (((rows t).length : Int) > 80) = false := decide_eq_false (by omega)
  by_cases lu : u.length > 80
  · exact zflat_ok tab_ok mixed fun_ok cAw_ok (big2 (rows s) (rows t) (rows u)) (.cons n1 (.cons n2 (.cons (decide_eq_true (by omega)) .nil)))
  have n3 : decide (((rows u).length : Int) > 80) = false := decide_eq_false (by omega)
  have k1 := at_ck (hp := ⟨0, []⟩) hs (by omega)
  have k2 := at_ck (hp := ⟨0, []⟩) ht (by omega)
  have k3 := at_ck (hp := ⟨0, []⟩) hu (by omega)
  have two : ∀ ns : List Nat, chk ns = 0 ∨ chk ns = 8 := fun ns => by
    by_cases hc : ns.length ≤ 256 ∧ Adj ns
    · exact .inl (if_pos hc)
    · exact .inr (if_neg hc)
  rcases (two s).symm with c1 | c1
  · rw [c1] at k1
    exact zflat_ok tab_ok mixed fun_ok cAw_ok (bad0 (rows s) (rows t) (rows u)) (.cons n1 (.cons n2 (.cons n3 (.cons k1 .nil))))
  rw [c1] at k1
  rcases (two t).symm with c2 | c2
  · rw [c2] at k2
    exact zflat_ok tab_ok mixed fun_ok cAw_ok (bad1 (rows s) (rows t) (rows u)) (.cons n1 (.cons n2 (.cons n3 (.cons k1 (.cons k2 .nil)))))
  rw [c2] at k2
  rcases (two u).symm with c3 | c3
  · rw [c3] at k3
    exact zflat_ok tab_ok mixed fun_ok cAw_ok (bad2 (rows s) (rows t) (rows u)) (.cons n1 (.cons n2 (.cons n3 (.cons k1 (.cons k2 (.cons k3 .nil))))))
  rw [c3] at k3
  have ss := (chk_ok c1).2
  have st := (chk_ok c2).2
  have su := (chk_ok c3).2
  have e1 := len_both s t
  have e2 := len_both t s
  have e3 := len_both t u
  have ua : uni s t = uni t s := srt_ext (srt_uni ss st) (srt_uni st ss) fun n => by rw [mem_uni, mem_uni]; exact or_comm
  have ma : mee s t = mee t s := srt_ext (srt_mee ss st) (srt_mee st ss) fun n => by rw [mem_mee n ss st, mem_mee n st ss]; exact and_comm
  have asc : uni (uni s t) u = uni s (uni t u) := srt_ext (srt_uni (srt_uni ss st) su) (srt_uni ss (srt_uni st su)) fun n => by rw [mem_uni, mem_uni, mem_uni, mem_uni]; exact or_assoc
  have ab : mee s (uni s t) = s := srt_ext (srt_mee ss (srt_uni ss st)) ss fun n => by
    rw [mem_mee n ss (srt_uni ss st), mem_uni]
    exact ⟨fun h => h.1, fun h => ⟨h, .inl h⟩⟩
  have ac : uni s (mee s t) = s := srt_ext (srt_uni ss (srt_mee ss st)) ss fun n => by
    rw [mem_uni, mem_mee n ss st]
    exact ⟨fun h => h.elim id fun h => h.1, fun h => .inl h⟩
  have bu := bnd_uni hs ht
  have bv := bnd_uni ht hu
  have bm := bnd_mee ss st hs
  obtain ⟨d1, h1, q1, S1, K1⟩ := at_un (hp := ⟨0, []⟩) hs ht ss st (by omega) (.inl rfl) (.inl rfl)
  obtain ⟨d2, h2, q2, S2, K2⟩ := at_un (hp := h1) ht hs st ss (by omega) (.inl rfl) (.inl rfl)
  obtain ⟨d3, h3, q3, S3, K3⟩ := at_me (hp := h2) hs ht ss st (by omega) (.inl rfl) (.inl rfl)
  obtain ⟨d4, h4, q4, S4, K4⟩ := at_me (hp := h3) ht hs st ss (by omega) (.inl rfl) (.inl rfl)
  have A1 := K4 _ _ (K3 _ _ (K2 _ _ S1))
  have A2 := K4 _ _ (K3 _ _ S2)
  have A3 := K4 _ _ S3
  have p1 := at_sa bu (by omega) A1 A2 ua
  have p2 := at_sa bm (by omega) A3 S4 ma
  obtain ⟨d5, h5, q5, S5, K5⟩ := at_un (hp := h4) bu hu (srt_uni ss st) su (by omega) A1 (.inl rfl)
  obtain ⟨d6, h6, q6, S6, K6⟩ := at_un (hp := h5) ht hu st su (by omega) (.inl rfl) (.inl rfl)
  obtain ⟨d7, h7, q7, S7, K7⟩ := at_un (hp := h6) hs bv ss (srt_uni st su) (by omega) (.inl rfl) S6
  obtain ⟨d8, h8, q8, S8, K8⟩ := at_me (hp := h7) hs bu ss (srt_uni ss st) (by omega) (.inl rfl) (K7 _ _ (K6 _ _ (K5 _ _ A1)))
  obtain ⟨d9, h9, q9, S9, K9⟩ := at_un (hp := h8) hs bm ss (srt_mee ss st) (by omega) (.inl rfl) (K8 _ _ (K7 _ _ (K6 _ _ (K5 _ _ A3))))
  have B1 := K9 _ _ (K8 _ _ (K7 _ _ (K6 _ _ (K5 _ _ A1))))
  have B3 := K9 _ _ (K8 _ _ (K7 _ _ (K6 _ _ (K5 _ _ A3))))
  have e5 := len_both (uni s t) u
  have p3 := at_sa (bnd_uni bu hu) (by omega) (K9 _ _ (K8 _ _ (K7 _ _ (K6 _ _ S5)))) (K9 _ _ (K8 _ _ S7)) asc
  have p4 := at_sa (s := mee s (uni s t)) (by rw [ab]; exact hs) (by rw [ab]; omega) (K9 _ _ S8) (.inl rfl) ab
  have p5 := at_sa (s := uni s (mee s t)) (by rw [ac]; exact hs) (by rw [ac]; omega) S9 (.inl rfl) ac
  refine zflat_ok tab_ok mixed fun_ok cAw_ok (main (rows s) (rows t) (rows u) (uni s t).length (mee s t).length d1 d2 d3 d4 d5 d6 d7 d8 d9 h1 h2 h3 h4 h5 h6 h7 h8 h9)
    (.cons n1 (.cons n2 (.cons n3 (.cons k1 (.cons k2 (.cons k3 (.cons q1 (.cons q2 (.cons q3 (.cons q4 (.cons p1 (.cons p2 (.cons q5 (.cons q6 (.cons q7 (.cons q8 (.cons q9 (.cons p3 (.cons p4 (.cons p5 (.cons B1.len (.cons B3.len (.cons ?_ .nil)))))))))))))))))))))))
  rw [r1, r2, show (((uni s t).length : Int) + ((mee s t).length : Int)) = (s.length : Int) + (t.length : Int) by omega]
  exact beq_self_eq_true _
end

set_option maxRecDepth 100000 in
set_option maxHeartbeats 8000000 in
theorem walk (w : World) (A0 : Option Addr) (n0 c0 : Nat) (a0 : _) (r0 : (Ty.slice adrTy).rep w (· < w.heap.size) a0 [.slice A0 n0 c0]) (A1 : Option Addr) (n1 c1 : Nat) (a1 : _) (r1 : (Ty.slice adrTy).rep w (· < w.heap.size) a1 [.slice A1 n1 c1]) (A2 : Option Addr) (n2 c2 : Nat) (a2 : _) (r2 : (Ty.slice adrTy).rep w (· < w.heap.size) a2 [.slice A2 n2 c2]) :
    Calls Try.prog 5 #[.slice A0 n0 c0, .slice A1 n1 c1, .slice A2 n2 c2] w fun e w' => e = .returned (.bool true) ∧ Below w.heap.size w w' := by
  obtain ⟨va, ha⟩ := vr_adrs r0
  obtain ⟨vb, hb⟩ := vr_adrs r1
  obtain ⟨vc, hc⟩ := vr_adrs r2
  exact law_ok (all a0 a1 a2 ha hb hc) (.cons va (.cons vb (.cons vc (.nil _ _))))

set_option maxRecDepth 100000 in
theorem lifted (os : Os) (started : os.Started) (H : Type) (enc : TypeId × Value → H) :
    ReturnsInHanded {} Try.checked os 5 .any (Rows.addressLawsSpec.pre6 enc Try.prog Try.f5 Rows.addressLawsRow.domain false) (Rows.addressLawsSpec.post enc Try.prog Try.f5 false true false false) := by
  refine returnsInHanded_of_change (C := Try.checked) own started (by kernel_rfl) Try.func5
    (ChangeSpec.witness6 (enc := enc) (C := Try.checked) false ⟨#[], #[.slice none 0 0, .slice none 0 0, .slice none 0 0], []⟩ 8 (by kernel_rfl) (by kernel_rfl) (by kernel_rfl) (by kernel_rfl)) ?_
  intro W base args ds gs before hval0 hW hcnd _
  have hval : ∀ (j : Nat) t v, Try.f5.params[j]? = some t → args[j]? = some v → Value.okWide Try.prog W .any base t v := hval0
  have hW' := hW
  obtain ⟨p, q, hA0, hV, rfl, hfz, hnd⟩ := hW
  have hA : DataW.TrodAll enc Try.prog W 0 (fun _ => true) true Try.f5.params.toList args.toList ds p := hA0
  rw [Try.params5] at hA hval
  obtain ⟨v0, vs0, d0, ds0, p0, q0, hargs, rfl, rfl, h0, r0'⟩ := trodAll_cons hA
  obtain ⟨v1, vs1, d1, ds1, p1, q1, rfl, rfl, rfl, h1, r1'⟩ := trodAll_cons r0'
  obtain ⟨v2, vs2, d2, ds2, p2, q2, rfl, rfl, rfl, h2, r2'⟩ := trodAll_cons r1'
  obtain ⟨rfl, rfl, rfl⟩ := trodAll_nil r2'
  obtain rfl : args = #[v0, v1, v2] := by cases args; simp_all
  obtain ⟨rfl, rfl⟩ := trodVars_none hV
  have k0 := h0
  have lt0 : ∀ x ∈ p0, x.block < W.heap.size := by obtain ⟨m, hm⟩ := k0; exact DataW.trod_lt m _ _ _ hm
  obtain ⟨A0, n0, c0, rfl⟩ := okWide_slice Try.underlying32 (hval 0 32 v0 rfl rfl)
  obtain ⟨fu0, hf0⟩ := h0
  obtain ⟨a0, ra0⟩ := (opensAds).2 hf0
  have k1 := h1
  have lt1 : ∀ x ∈ p1, x.block < W.heap.size := by obtain ⟨m, hm⟩ := k1; exact DataW.trod_lt m _ _ _ hm
  obtain ⟨A1, n1, c1, rfl⟩ := okWide_slice Try.underlying32 (hval 1 32 v1 rfl rfl)
  obtain ⟨fu1, hf1⟩ := h1
  obtain ⟨a1, ra1⟩ := (opensAds).2 hf1
  have k2 := h2
  have lt2 : ∀ x ∈ p2, x.block < W.heap.size := by obtain ⟨m, hm⟩ := k2; exact DataW.trod_lt m _ _ _ hm
  obtain ⟨A2, n2, c2, rfl⟩ := okWide_slice Try.underlying32 (hval 2 32 v2 rfl rfl)
  obtain ⟨fu2, hf2⟩ := h2
  obtain ⟨a2, ra2⟩ := (opensAds).2 hf2
  clear hA0 hval0
  refine (walk W A0 n0 c0 a0 (by simpa [Value.cells] using ra0) A1 n1 c1 a1 (by simpa [Value.cells] using ra1) A2 n2 c2 a2 (by simpa [Value.cells] using ra2)).mono fun e W' ⟨he, bel⟩ => ?_
  subst he
  exact ⟨_, rfl, _, _, _, [], _, [], hW', trodAll_mk1 (shut_bool Try.underlying4 _), (trodAll_cons_mk (Below.trod laidOut (by kernel_rfl) (of_decide_eq_true (by kernel_rfl)) k0 bel lt0) (trodAll_cons_mk (Below.trod laidOut (by kernel_rfl) (of_decide_eq_true (by kernel_rfl)) k1 bel lt1) (trodAll_cons_mk (Below.trod laidOut (by kernel_rfl) (of_decide_eq_true (by kernel_rfl)) k2 bel lt2) trodAll_mk0))), rfl, bel.frame _, fun h => by cases h⟩

theorem over : Rows.addressLawsRow.holds Try.pinned (OpenSpec.ofChange Rows.addressLawsSpec) :=
  OpenClaim.holds_of_wide 5 Try.f5 rfl rfl rfl rfl rfl rfl rfl ⟨rfl, rfl, rfl, rfl, rfl⟩ rfl rfl rfl rfl rfl (by kernel_rfl) Try.func5 (by kernel_rfl)
    (of_decide_eq_true (by kernel_rfl)) (by unfold Func.isWrapper; first | (rw [if_pos (by decide +kernel)]; kernel_rfl) | (rw [if_neg (by decide +kernel)]; exact ⟨rfl, rfl⟩))
    (fun os started H enc _ => lifted os started H enc)

theorem proved : Rows.AddressLawsSaid :=
  over
end Go.Proofs.Ytmdomipnjlhmeab.addressLaws
