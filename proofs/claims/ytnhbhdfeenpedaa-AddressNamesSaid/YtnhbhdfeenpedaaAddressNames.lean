/- AddressNames: the examples of the chapter address and its error cases hold: the statement returns true. No conditions. -/
import Derived.Test.YtnhbhdfeenpedaaTe
import Derived.WalkKit
import Derived.ProofKit
import Derived.OpenShut
import Derived.ShutString
import Derived.ChangeOld
import Derived.Below
namespace Go.Proofs.Ytnhbhdfeenpedaa.addressNames
open Go.ChangeShapes Go.WideShapes Go.ChangeAt Go.RowKit

theorem own : ownKnob Try.prog.godebug = none := by kernel_rfl
theorem laidOut : laidOutB Try.prog = true := by kernel_rfl

noncomputable section
theorem lift_other {C : CallF} {f : FuncId} {args : List DV} {hp : Hp} (h : C f args ⟨0, []⟩ = none) : liftC C f args hp = none := by
  unfold liftC
  rw [h]
  split <;> rfl
def cSl : CallF := liftC (eqC 53 (fun x : Ads × Ads => [adL x.1.1, adL x.2.1]) fun x => (.bool (decide (x.1.1 = x.2.1)), ⟨0, []⟩))
theorem cSl_ok : CallOk Try.prog cSl := liftC_ok (eqC_ok ansSame)
theorem cSl_at (hp : Hp) (x : Ads × Ads) : cSl 53 [adL x.1.1, adL x.2.1] hp = some (.bool (decide (x.1.1 = x.2.1)), hp, none) :=
  lift_at (A := fun x : Ads × Ads => [adL x.1.1, adL x.2.1]) (D := fun x => .bool (decide (x.1.1 = x.2.1))) (fun x y hxy => by
    obtain ⟨x1, x2⟩ := x
    obtain ⟨y1, y2⟩ := y
    simp only [List.cons.injEq, and_true] at hxy
    rw [adL_inj hxy.1, adL_inj hxy.2]) hp x rfl rfl
def cNm : CallF := orK cPa cSl
theorem cNm_ok : CallOk Try.prog cNm := orK_ok cPa_ok cSl_ok
def oneN : Nat := 1099511627776
def twoN : Nat := 2199023255552
def fl (k : Nat) : Nat := 7696581394432 + k * 4294967296
def full (n : Nat) : List Nat := (List.range n).map fl
/-- a text, cut before a region -/
def cutC (n : Nat) : Code → Code
  | .seq a b => .seq (cutC n a) (cutC n b)
  | .cond x a b => .cond x (cutC n a) (cutC n b)
  | .block i a => .block i (cutC n a)
  | .loop a => .loop (cutC n a)
  | .scope a => .scope (cutC n a)
  | .region id ops b => match Nat.beq id n with
    | true => .ret
    | false => .region id ops b
  | c => c
def hB : Hp := match exec tab ftab cNm 1000 (ksF ftab 7) (cutC 13 (bodyOf ftab 7)) (initS 153 []) ⟨0, []⟩ with
  | some (_, _, hp, _) => hp
  | none => ⟨0, []⟩
set_option maxRecDepth 1000000 in
theorem hB_0 : hB.get 0 = some ⟨0, 0, 77, aC oneN⟩ := by kernel_rfl
set_option maxRecDepth 1000000 in
theorem hB_1 : hB.get 1 = some ⟨0, 0, 77, aC twoN⟩ := by kernel_rfl
set_option maxRecDepth 1000000 in
theorem hB_16 : hB.get 16 = some ⟨0, 0, 77, room [oneN, twoN] 2⟩ := by kernel_rfl
set_option maxRecDepth 1000000 in
theorem nGo (k b : Nat) (d d2 : DV) (h h2 : Hp) (m2 : Mut) : zsee Try.prog tab ftab cNm (ksF ftab 7) [1, 2, 8, 10, 12, 13, 14, 15, 16] (loopAt (bodyOf ftab 7) 1) (mkT 153 [(1, .fptr (aC oneN)), (2, .fptr (aC twoN)), (8, .int .i64 2), (10, .int .i64 8), (12, .int .i64 6), (13, adL [oneN, twoN]), (14, .int .i64 0), (15, d), (16, iN k)]) h [(68, .b true), (73, .w (.int .u8 (b : Int))), (76, .h d2 h2 m2), (70, .w (iN (k + 1)))] =
    some (.normal, (mkT 153 [(1, .fptr (aC oneN)), (2, .fptr (aC twoN)), (8, .int .i64 2), (10, .int .i64 8), (12, .int .i64 6), (13, adL [oneN, twoN]), (14, .int .i64 0), (15, d2), (16, iN (k + 1))]), h2, [decide ((k : Int) < 256) = true, DV.int .u8 (IntKind.u8.wrap (k : Int)) = .int .u8 (b : Int), builtinD tab (pushH h 0 77 [.int .u8 7, .int .u8 (b : Int), .int .u8 0, .int .u8 0, .int .u8 0, .int .u8 0]) .append [d, .sl h.n 0 6 1 1] [82, 82] = some (d2, h2, m2), DV.int .i64 (IntKind.i64.wrap ((k : Int) + 1)) = iN (k + 1)]) := by
  kernel_rfl
set_option maxRecDepth 1000000 in
theorem nOut (k : Nat) (d : DV) (h : Hp) : zsee Try.prog tab ftab cNm (ksF ftab 7) [1, 2, 8, 10, 12, 13, 14, 15] (loopAt (bodyOf ftab 7) 1) (mkT 153 [(1, .fptr (aC oneN)), (2, .fptr (aC twoN)), (8, .int .i64 2), (10, .int .i64 8), (12, .int .i64 6), (13, adL [oneN, twoN]), (14, .int .i64 0), (15, d), (16, iN k)]) h [(68, .b false)] =
    some (.exit 2, (mkT 153 [(1, .fptr (aC oneN)), (2, .fptr (aC twoN)), (8, .int .i64 2), (10, .int .i64 8), (12, .int .i64 6), (13, adL [oneN, twoN]), (14, .int .i64 0), (15, d)]), h, [decide ((k : Int) < 256) = false]) := by
  kernel_rfl
set_option maxRecDepth 1000000 in
theorem main (fs : List (List DV)) : zflat (zans Try.prog tab ftab cNm 7 [] [(44, .w (.int .i64 2)), (0, .l [1, 2, 8, 10, 12, 13, 14, 15, 16] (.exit 2) (mkT 153 [(1, .fptr (aC oneN)), (2, .fptr (aC twoN)), (8, .int .i64 2), (10, .int .i64 8), (12, .int .i64 6), (13, adL [oneN, twoN]), (14, .int .i64 0), (15, .list 6 fs)]) ⟨0, []⟩), (80, .q (.tuple [.list 6 [], .int .i64 22])), (86, .n (.fptr (aC (fl 9)))), (88, .q (.tuple [.list 6 fs, .int .i64 0])), (129, .q (.bool true))]) =
    some (.bool true, [DV.int .i64 2 = .int .i64 2, Goes Try.prog tab (ksF ftab 7) (.loop (loopAt (bodyOf ftab 7) 1)) (mkT 153 [(1, .ptr 0 0), (2, .ptr 1 0), (8, .int .i64 2), (10, .int .i64 8), (12, .int .i64 6), (13, .sl 16 0 6 2 2), (14, .int .i64 0), (15, .nil), (16, iN 0)]) hB (.exit 2) (mkT 153 [(1, .fptr (aC oneN)), (2, .fptr (aC twoN)), (8, .int .i64 2), (10, .int .i64 8), (12, .int .i64 6), (13, adL [oneN, twoN]), (14, .int .i64 0), (15, .list 6 fs)]) ⟨0, []⟩, cNm 49 [.list 6 fs, aD oneN] ⟨0, []⟩ = some (.tuple [.list 6 [], .int .i64 22], ⟨0, []⟩, none), idxOk (9 : Int) fs.length = true, nth fs (9 : Int).toNat = some (aC (fl 9)), cNm 49 [.list 6 fs, aD (fl 9)] ⟨0, []⟩ = some (.tuple [.list 6 fs, .int .i64 0], ⟨0, []⟩, none), cNm 53 [.list 6 fs, .list 6 fs] ⟨2, [⟨0, 0, 77, aC oneN ++ aC twoN⟩, ⟨0, 0, 77, [.int .u8 255, .int .u8 255, .int .u8 255, .int .u8 255, .int .u8 255, .int .u8 255]⟩]⟩ = some (.bool true, ⟨2, [⟨0, 0, 77, aC oneN ++ aC twoN⟩, ⟨0, 0, 77, [.int .u8 255, .int .u8 255, .int .u8 255, .int .u8 255, .int .u8 255, .int .u8 255]⟩]⟩, none)]) := by
  kernel_rfl
theorem vr_fbox {W0 : World} {S0 : Nat → Prop} {E : Env} {hp : Hp} {w : World} (hs : HS W0 0 S0 E hp w) {id a : Nat} (hg : hp.get id = some ⟨0, 0, 77, aC a⟩) {v : Value} (hv : VR w E (.ptr id 0) v) : VR w (ro (roS E)) (.fptr (aC a)) v := by
  obtain ⟨rfl, hd⟩ := hv.of_ptr
  obtain ⟨ob, hg', hok⟩ := hs.ob id hd
  obtain rfl : ob = ⟨0, 0, 77, aC a⟩ := by
    rw [hg] at hg'
    exact (Option.some.inj hg').symm
  obtain ⟨k0, k1, vs, k2, k3, k4, k5⟩ := hok
  have hcell : ∀ (j : Nat) (d : DV), (aC a)[j]? = some d → ∃ v, vs[E.base id + (0 + j)]? = some v ∧ VR w E d v := fun j d hj => by
    obtain ⟨v, hv1, hv2⟩ := k5.get hj
    refine ⟨v, ?_, hv2⟩
    rw [List.getElem?_take] at hv1
    split at hv1
    · simpa using hv1
    · cases hv1
  refine .fptr _ _ (E.b id) (E.base id + 0) (fun j => (vs[E.base id + (0 + j)]?).getD undef) (.inr ⟨id, hd, rfl⟩) (fun j d hj => ?_) (fun j d hj => ?_)
  · obtain ⟨v, hv1, _⟩ := hcell j d hj
    rw [k2.cell, Nat.add_assoc, hv1]
    rfl
  · obtain ⟨v, hv1, hv2⟩ := hcell j d hj
    simp only [hv1, Option.getD_some]
    exact plain_ok hv2 (aC_plain a d (List.mem_of_getElem? hj))
theorem vr_fptr {E : Env} {w : World} {cs : List DV} {v : Value} (hv : VR w E (.fptr cs) v) : VR w (ro (roS E)) (.fptr cs) v := by
  cases hv with
  | fptr _ _ b off g h1 h2 h3 => exact .fptr _ _ b off g (.inl h1) h2 fun j d hj => (h3 j d hj).later (later_up (E' := ro (roS E)) (fun _ h => .inl h) w)
theorem see_first : Seen (mkT 153 [(1, .ptr 0 0), (2, .ptr 1 0), (8, .int .i64 2), (10, .int .i64 8), (12, .int .i64 6), (13, .sl 16 0 6 2 2), (14, .int .i64 0), (15, .nil), (16, iN 0)]) hB (mkT 153 [(1, .fptr (aC oneN)), (2, .fptr (aC twoN)), (8, .int .i64 2), (10, .int .i64 8), (12, .int .i64 6), (13, adL [oneN, twoN]), (14, .int .i64 0), (15, .nil), (16, iN 0)]) ⟨0, []⟩ :=
  seen_slots fun W0 S0 E w hs => ⟨ro (roS E), fun b hb => .inl hb, hs_freeze hs, fun t d hm => by
    simp only [List.mem_cons, Prod.mk.injEq, List.not_mem_nil, or_false] at hm
    rcases hm with ⟨rfl, rfl⟩ | ⟨rfl, rfl⟩ | ⟨rfl, rfl⟩ | ⟨rfl, rfl⟩ | ⟨rfl, rfl⟩ | ⟨rfl, rfl⟩ | ⟨rfl, rfl⟩ | ⟨rfl, rfl⟩ | ⟨rfl, rfl⟩
    · exact ⟨.ptr 0 0, by kernel_rfl, fun v hv => vr_fbox hs hB_0 hv⟩
    · exact ⟨.ptr 1 0, by kernel_rfl, fun v hv => vr_fbox hs hB_1 hv⟩
    · exact ⟨.int .i64 2, by kernel_rfl, fun v hv => frz1_ok hs hv ⟨rfl, rfl⟩⟩
    · exact ⟨.int .i64 8, by kernel_rfl, fun v hv => frz1_ok hs hv ⟨rfl, rfl⟩⟩
    · exact ⟨.int .i64 6, by kernel_rfl, fun v hv => frz1_ok hs hv ⟨rfl, rfl⟩⟩
    · exact ⟨.sl 16 0 6 2 2, by kernel_rfl, fun v hv => frz1_ok hs hv (ShA.frz (ns := [oneN, twoN]) (.inr ⟨16, _, 2, 2, rfl, hB_16, rfl⟩))⟩
    · exact ⟨.int .i64 0, by kernel_rfl, fun v hv => frz1_ok hs hv ⟨rfl, rfl⟩⟩
    · exact ⟨.nil, by kernel_rfl, fun v hv => frz1_ok hs hv ⟨rfl, rfl⟩⟩
    · exact ⟨iN 0, by kernel_rfl, fun v hv => frz1_ok hs hv ⟨rfl, rfl⟩⟩⟩
theorem see_last {d : DV} {h : Hp} {ns : List Nat} (sh : ShZ h d ns) : Seen (mkT 153 [(1, .fptr (aC oneN)), (2, .fptr (aC twoN)), (8, .int .i64 2), (10, .int .i64 8), (12, .int .i64 6), (13, adL [oneN, twoN]), (14, .int .i64 0), (15, d)]) h (mkT 153 [(1, .fptr (aC oneN)), (2, .fptr (aC twoN)), (8, .int .i64 2), (10, .int .i64 8), (12, .int .i64 6), (13, adL [oneN, twoN]), (14, .int .i64 0), (15, adL ns)]) ⟨0, []⟩ :=
  seen_slots fun W0 S0 E w hs => ⟨ro (roS E), fun b hb => .inl hb, hs_freeze hs, fun t d' hm => by
    simp only [List.mem_cons, Prod.mk.injEq, List.not_mem_nil, or_false] at hm
    rcases hm with ⟨rfl, rfl⟩ | ⟨rfl, rfl⟩ | ⟨rfl, rfl⟩ | ⟨rfl, rfl⟩ | ⟨rfl, rfl⟩ | ⟨rfl, rfl⟩ | ⟨rfl, rfl⟩ | ⟨rfl, rfl⟩
    · exact ⟨.fptr (aC oneN), by kernel_rfl, fun v hv => vr_fptr hv⟩
    · exact ⟨.fptr (aC twoN), by kernel_rfl, fun v hv => vr_fptr hv⟩
    · exact ⟨.int .i64 2, by kernel_rfl, fun v hv => frz1_ok hs hv ⟨rfl, rfl⟩⟩
    · exact ⟨.int .i64 8, by kernel_rfl, fun v hv => frz1_ok hs hv ⟨rfl, rfl⟩⟩
    · exact ⟨.int .i64 6, by kernel_rfl, fun v hv => frz1_ok hs hv ⟨rfl, rfl⟩⟩
    · exact ⟨adL [oneN, twoN], by kernel_rfl, fun v hv => frz1_ok hs hv ⟨rfl, rfl⟩⟩
    · exact ⟨.int .i64 0, by kernel_rfl, fun v hv => frz1_ok hs hv ⟨rfl, rfl⟩⟩
    · exact ⟨d, by kernel_rfl, fun v hv => sh.vr hs hv⟩⟩
theorem full_len (n : Nat) : (full n).length = n := by simp [full]
theorem full_succ (n : Nat) : full (n + 1) = full n ++ [fl n] := by simp [full, List.range_succ]
theorem fl_cells {k : Nat} (h : k < 256) : aC (fl k) = [.int .u8 7, .int .u8 (k : Int), .int .u8 0, .int .u8 0, .int .u8 0, .int .u8 0] := by
  unfold aC fl
  rw [show (7696581394432 + k * 4294967296) / 1099511627776 % 256 = 7 by omega, show (7696581394432 + k * 4294967296) / 4294967296 % 256 = k by omega, show (7696581394432 + k * 4294967296) / 16777216 % 256 = 0 by omega, show (7696581394432 + k * 4294967296) / 65536 % 256 = 0 by omega, show (7696581394432 + k * 4294967296) / 256 % 256 = 0 by omega, show (7696581394432 + k * 4294967296) % 256 = 0 by omega]
  rfl
theorem loop2 : (fun fs => Goes Try.prog tab (ksF ftab 7) (.loop (loopAt (bodyOf ftab 7) 1)) (mkT 153 [(1, .ptr 0 0), (2, .ptr 1 0), (8, .int .i64 2), (10, .int .i64 8), (12, .int .i64 6), (13, .sl 16 0 6 2 2), (14, .int .i64 0), (15, .nil), (16, iN 0)]) hB (.exit 2) (mkT 153 [(1, .fptr (aC oneN)), (2, .fptr (aC twoN)), (8, .int .i64 2), (10, .int .i64 8), (12, .int .i64 6), (13, adL [oneN, twoN]), (14, .int .i64 0), (15, .list 6 fs)]) ⟨0, []⟩) (rows (full 256)) := by
  have loop := Goes.loopI (P := Try.prog) (T := tab) (ks := (ksF ftab 7)) (x := (loopAt (bodyOf ftab 7) 1)) (e := .exit 2) 256
    (fun k sl h => ∃ d, sl = (mkT 153 [(1, .fptr (aC oneN)), (2, .fptr (aC twoN)), (8, .int .i64 2), (10, .int .i64 8), (12, .int .i64 6), (13, adL [oneN, twoN]), (14, .int .i64 0), (15, d), (16, iN k)]) ∧ ShZ h d (full k))
    (fun sl h => ∃ d, sl = (mkT 153 [(1, .fptr (aC oneN)), (2, .fptr (aC twoN)), (8, .int .i64 2), (10, .int .i64 8), (12, .int .i64 6), (13, adL [oneN, twoN]), (14, .int .i64 0), (15, d)]) ∧ ShZ h d (full 256)) (by intro h; cases h) ?_ ?_ (sl := (mkT 153 [(1, .fptr (aC oneN)), (2, .fptr (aC twoN)), (8, .int .i64 2), (10, .int .i64 8), (12, .int .i64 6), (13, adL [oneN, twoN]), (14, .int .i64 0), (15, .nil), (16, iN 0)])) (hp := ⟨0, []⟩) ⟨.nil, rfl, .inl ⟨rfl, rfl⟩⟩
  · obtain ⟨s1, h1, g, d, rfl, sh⟩ := loop
    exact (g.pre see_first).post (see_last sh)
  · rintro k sl h hk ⟨d, rfl, sh⟩
    obtain ⟨d2, h2, m2, e2, sh2⟩ := app6 sh (by rw [full_len]; omega) (fl k)
    rw [fl_cells hk] at e2
    rw [← full_succ] at sh2
    exact ⟨_, _, zsee_ok tab_ok mixed fun_ok cNm_ok (nGo k k d d2 h h2 m2) (.cons (decide_eq_true (by omega)) (.cons (by rw [wrapU rfl, Nat.mod_eq_of_lt (by show k < 256; omega)]) (.cons e2 (.cons (inc (by omega)) .nil)))), d2, rfl, sh2⟩
  · rintro sl h ⟨d, rfl, sh⟩
    exact ⟨_, _, zsee_ok tab_ok mixed fun_ok cNm_ok (nOut 256 d h) (.cons rfl .nil), d, rfl, sh⟩
theorem full_srt (n : Nat) : Srt (full n) := by
  rw [Srt, full, List.pairwise_map]
  refine List.Pairwise.imp ?_ List.pairwise_lt_range
  intro a b h
  unfold fl
  omega
theorem mem_full {n x : Nat} : x ∈ full n ↔ ∃ k, k < n ∧ fl k = x := by
  simp [full]
theorem full_lt {n : Nat} (h : n ≤ 256) : ∀ x ∈ full n, x < 2 ^ 48 := fun x hx => by
  obtain ⟨k, hk, rfl⟩ := mem_full.1 hx
  unfold fl
  omega
theorem fchk : chk (full 256) = 0 := chk_of (by rw [full_len]; omega) (full_srt 256)
theorem names : Ans Try.prog 7 [] (.bool true) ⟨0, []⟩ := by
  have hr := rows_length (full 256)
  rw [full_len] at hr
  have b := full_lt (n := 256) (Nat.le_refl _)
  have hl : (full 256).length < 2 ^ 30 := by rw [full_len]; decide
  have add : ∀ x (hx : x < 2 ^ 48), cNm 49 [adL (full 256), aD x] ⟨0, []⟩ = some (lsD (addR (full 256) x), ⟨0, []⟩, none) := fun x hx =>
    orK_left (cPa_at ⟨0, []⟩ ⟨⟨(⟨full 256, b, hl⟩, ⟨x, hx⟩), by show (full 256).length < 2 ^ 29; rw [full_len]; decide⟩, by show (full 256).length < 2 ^ 20; rw [full_len]; decide⟩)
  have one : addR (full 256) oneN = ([], 22) := by
    unfold addR
    rw [if_pos fchk, if_neg]
    have h1 := len_both (full 256) [oneN]
    have h2 : mee (full 256) [oneN] = [] := by
      refine List.eq_nil_iff_forall_not_mem.2 fun x hx => ?_
      have := (mem_mee x (full_srt 256) (List.pairwise_singleton _ _)).1 hx
      obtain ⟨k, hk, hf⟩ := mem_full.1 this.1
      have h3 := List.mem_singleton.1 this.2
      unfold fl at hf
      unfold oneN at h3
      omega
    rw [h2, full_len] at h1
    simp only [List.length_nil, List.length_singleton] at h1
    omega
  have nine : addR (full 256) (fl 9) = (full 256, 0) := by
    have hm : fl 9 ∈ full 256 := mem_full.2 ⟨9, by decide, rfl⟩
    have he : uni (full 256) [fl 9] = full 256 := srt_ext (srt_uni (full_srt 256) (List.pairwise_singleton _ _)) (full_srt 256) fun x => by
      rw [mem_uni]
      constructor
      · rintro (h | h)
        · exact h
        · rw [List.mem_singleton.1 h]
          exact hm
      · exact .inl
    unfold addR
    rw [if_pos fchk, he, if_pos (by rw [full_len]; decide)]
  have a1 := add oneN (by unfold oneN; decide)
  have a2 := add (fl 9) (by unfold fl; decide)
  rw [one] at a1
  rw [nine] at a2
  have sm := orK_right (C1 := cPa) (lift_other (by kernel_rfl)) (cSl_at ⟨2, [⟨0, 0, 77, aC oneN ++ aC twoN⟩, ⟨0, 0, 77, [.int .u8 255, .int .u8 255, .int .u8 255, .int .u8 255, .int .u8 255, .int .u8 255]⟩]⟩ (⟨full 256, b, hl⟩, ⟨full 256, b, hl⟩))
  rw [decide_eq_true rfl] at sm
  exact zflat_ok tab_ok mixed fun_ok cNm_ok (main (rows (full 256))) (.cons rfl (.cons loop2 (.cons a1 (.cons (idxOk_lt (k := 9) (by omega)) (.cons (rows_nth (k := 9) (by rw [full, List.getElem?_map]; rfl)) (.cons a2 (.cons sm .nil)))))))
end

set_option maxRecDepth 100000 in
set_option maxHeartbeats 8000000 in
theorem walk (w : World) :
    Calls Try.prog 7 #[] w fun e w' => e = .returned (.bool true) ∧ Below w.heap.size w w' := by
  exact law_ok names (.nil _ _)

set_option maxRecDepth 100000 in
theorem lifted (os : Os) (started : os.Started) (H : Type) (enc : TypeId × Value → H) :
    ReturnsInHanded {} Try.checked os 7 .any (Rows.addressNamesSpec.pre6 enc Try.prog Try.f7 Rows.addressNamesRow.domain false) (Rows.addressNamesSpec.post enc Try.prog Try.f7 false true false false) := by
  refine returnsInHanded_of_change (C := Try.checked) own started (by kernel_rfl) Try.func7
    (ChangeSpec.witness6 (enc := enc) (C := Try.checked) false ⟨#[], #[], []⟩ 8 (by kernel_rfl) (by kernel_rfl) (by kernel_rfl) (by kernel_rfl)) ?_
  intro W base args ds gs before hval0 hW hcnd _
  have hval : ∀ (j : Nat) t v, Try.f7.params[j]? = some t → args[j]? = some v → Value.okWide Try.prog W .any base t v := hval0
  have hW' := hW
  obtain ⟨p, q, hA0, hV, rfl, hfz, hnd⟩ := hW
  have hA : DataW.TrodAll enc Try.prog W 0 (fun _ => true) true Try.f7.params.toList args.toList ds p := hA0
  rw [Try.params7] at hA hval
  obtain ⟨hargs, rfl, rfl⟩ := trodAll_none hA
  obtain rfl : args = #[] := by cases args; simp_all
  obtain ⟨rfl, rfl⟩ := trodVars_none hV
  clear hA0 hval0
  refine (walk W ).mono fun e W' ⟨he, bel⟩ => ?_
  subst he
  exact ⟨_, rfl, _, _, _, [], _, [], hW', trodAll_mk1 (shut_bool Try.underlying4 _), trodAll_mk0, rfl, bel.frame _, fun h => by cases h⟩

theorem over : Rows.addressNamesRow.holds Try.pinned (OpenSpec.ofChange Rows.addressNamesSpec) :=
  OpenClaim.holds_of_wide 7 Try.f7 rfl rfl rfl rfl rfl rfl rfl ⟨rfl, rfl, rfl, rfl, rfl⟩ rfl rfl rfl rfl rfl (by kernel_rfl) Try.func7 (by kernel_rfl)
    (of_decide_eq_true (by kernel_rfl)) (by unfold Func.isWrapper; first | (rw [if_pos (by decide +kernel)]; kernel_rfl) | (rw [if_neg (by decide +kernel)]; exact ⟨rfl, rfl⟩))
    (fun os started H enc _ => lifted os started H enc)

theorem proved : Rows.AddressNamesSaid :=
  over
end Go.Proofs.Ytnhbhdfeenpedaa.addressNames
