/- OctetPrefix: for any bytes, position and number: reading does not depend on later bytes, and is short exactly if the bytes are not all there. No condition. -/
import Derived.Test.YtgekkmhkklbgcaaSmall
import Derived.WalkKit
import Derived.ProofKit
import Derived.OpenShut
import Derived.ShutString
import Derived.ChangeOld
import Derived.Below
namespace Go.Proofs.Ytgekkmhkklbgcaa.octetPrefix
open Go.ChangeShapes Go.WideShapes Go.ChangeAt Go.RowKit

theorem own : ownKnob Try.prog.godebug = none := by kernel_rfl
theorem laidOut : laidOutB Try.prog = true := by kernel_rfl

set_option maxHeartbeats 2000000 in
theorem walk (w : World) (A0 : Option Addr) (n0 c0 : Nat) (a0 : _) (r0 : (Ty.slice (Ty.nat .u8)).rep w (· < w.heap.size) a0 [.slice A0 n0 c0]) (A1 : Option Addr) (n1 c1 : Nat) (a1 : _) (r1 : (Ty.slice (Ty.nat .u8)).rep w (· < w.heap.size) a1 [.slice A1 n1 c1]) (a2 : Int) (r2 : (Lit.int .i64 a2).wf = true) (a3 : Int) (r3 : (Lit.int .i64 a3).wf = true) :
    Calls Try.prog 9 #[.slice A0 n0 c0, .slice A1 n1 c1, .int .i64 a2, .int .i64 a3] w fun e w' => e = .returned (.bool true) ∧ Below w.heap.size w w' := by
  have B0 := bs_arg r0
  have B1 := bs_arg r1
  have b2 := wf_i64 r2
  have b3 := wf_i64 r3
  have hl0 := B0.room
  have hl1 := B0.most
  have hl2 := B1.room
  have hl3 := B1.most
  clear r0 r1 r2 r3
  by_cases g0 : (70000 : Int) < (n0 : Int)
  · clear B0 B1
    go_enter Try.func9, Try.ntmps9
    go_wp2_with (first
      | (go_at_call 20; refine (alive_any _).mono ?_; rintro e w1 ⟨rfl, hb1⟩)
      | (go_at_call 22; refine (great_any _ _ _ _).mono ?_; rintro e w' ⟨rfl, rfl⟩))
    go_ret
    exact ⟨rfl, by (refine Bel.below ?_; repeat' (first | assumption | exact Bel.refl (Nat.le_refl _) | (with_reducible apply Bel.drew) | (with_reducible apply Bel.drewN) | (with_reducible apply Bel.alloc) | (with_reducible refine Bel.set ?_ ?_ _) | (with_reducible refine Bel.call ?_ (by assumption)) | exact Nat.le_refl _ | (simp; done) | (simp; omega)))⟩
  by_cases g1 : (70000 : Int) < (n1 : Int)
  · clear B0 B1
    go_enter Try.func9, Try.ntmps9
    go_wp2_with (first
      | (go_at_call 20; refine (alive_any _).mono ?_; rintro e w1 ⟨rfl, hb1⟩)
      | (go_at_call 22; refine (great_any _ _ _ _).mono ?_; rintro e w' ⟨rfl, rfl⟩))
    go_ret
    exact ⟨rfl, by (refine Bel.below ?_; repeat' (first | assumption | exact Bel.refl (Nat.le_refl _) | (with_reducible apply Bel.drew) | (with_reducible apply Bel.drewN) | (with_reducible apply Bel.alloc) | (with_reducible refine Bel.set ?_ ?_ _) | (with_reducible refine Bel.call ?_ (by assumption)) | exact Nat.le_refl _ | (simp; done) | (simp; omega)))⟩
  by_cases g2 : a2 < 0
  · clear B0 B1
    go_enter Try.func9, Try.ntmps9
    go_wp2_with (first
      | (go_at_call 20; refine (alive_any _).mono ?_; rintro e w1 ⟨rfl, hb1⟩)
      | (go_at_call 22; refine (great_any _ _ _ _).mono ?_; rintro e w' ⟨rfl, rfl⟩))
    go_ret
    exact ⟨rfl, by (refine Bel.below ?_; repeat' (first | assumption | exact Bel.refl (Nat.le_refl _) | (with_reducible apply Bel.drew) | (with_reducible apply Bel.drewN) | (with_reducible apply Bel.alloc) | (with_reducible refine Bel.set ?_ ?_ _) | (with_reducible refine Bel.call ?_ (by assumption)) | exact Nat.le_refl _ | (simp; done) | (simp; omega)))⟩
  by_cases g3 : (n0 : Int) < a2
  · clear B0 B1
    go_enter Try.func9, Try.ntmps9
    go_wp2_with (first
      | (go_at_call 20; refine (alive_any _).mono ?_; rintro e w1 ⟨rfl, hb1⟩)
      | (go_at_call 22; refine (great_any _ _ _ _).mono ?_; rintro e w' ⟨rfl, rfl⟩))
    go_ret
    exact ⟨rfl, by (refine Bel.below ?_; repeat' (first | assumption | exact Bel.refl (Nat.le_refl _) | (with_reducible apply Bel.drew) | (with_reducible apply Bel.drewN) | (with_reducible apply Bel.alloc) | (with_reducible refine Bel.set ?_ ?_ _) | (with_reducible refine Bel.call ?_ (by assumption)) | exact Nat.le_refl _ | (simp; done) | (simp; omega)))⟩
  by_cases g4 : a3 < 0
  · clear B0 B1
    go_enter Try.func9, Try.ntmps9
    go_wp2_with (first
      | (go_at_call 20; refine (alive_any _).mono ?_; rintro e w1 ⟨rfl, hb1⟩)
      | (go_at_call 22; refine (great_any _ _ _ _).mono ?_; rintro e w' ⟨rfl, rfl⟩))
    go_ret
    exact ⟨rfl, by (refine Bel.below ?_; repeat' (first | assumption | exact Bel.refl (Nat.le_refl _) | (with_reducible apply Bel.drew) | (with_reducible apply Bel.drewN) | (with_reducible apply Bel.alloc) | (with_reducible refine Bel.set ?_ ?_ _) | (with_reducible refine Bel.call ?_ (by assumption)) | exact Nat.le_refl _ | (simp; done) | (simp; omega)))⟩
  have h0 : n0 ≤ 70000 := by omega
  have h1 : n1 ≤ 70000 := by omega
  obtain ⟨i0, hi, hz0, hz1, hz2⟩ := info_parts info_u8
  have hx0 := B0.row.1
  have hx1 := B1.row.1
  obtain ⟨A2, l2, c2, x2, hout, htake⟩ := take_any B0 a2 a3 b2.1 b2.2 (by omega)
  have HT := Lib.hid htake
  have HO := Lib.hid hout
  have H0 := Lib.hid B0
  have H1 := Lib.hid B1
  clear htake hout B0 B1
  go_enter Try.func9, Try.ntmps9
  go_wp2_with (first
    | (go_at_call 20; refine (alive_any _).mono ?_; rintro e w1 ⟨rfl, hb1⟩)
    | (go_at_call 22; refine (great_no _ _ _ _ (by assumption)).mono ?_; rintro e w' ⟨rfl, rfl⟩)
    | (go_at_call 23; refine (copy_own _ _ _ _ _ _ (H0.out.later hb1) (by omega)).mono ?_; rintro e w2 ⟨v1, rfl, hown1, hb2⟩; have HW1 := Lib.hid hown1; clear hown1)
    | (at_builtin; refine wpList_append_src _ rfl _ _ _ rfl w1.heap.size 5 i0 _ 1 1 Try.underlying23 hi hz0 hz1 hz2 rfl (by decide) v1 n0 (ints a0) rfl HW1.out A1 n1 c1 (ints a1) rfl H1.out.row.src_len (Row.src ((H1.out.later hb1).later hb2).row) (oneCell_ints a1) (by simp only [maxLen]; omega) (by omega) hb2.size ?_; intro v3 w3 hown3 hg3 hat3; rw [← ints_append] at hown3; have hb3 : Below w1.heap.size w1 w3 := ((Bel.call (Bel.refl (Nat.le_refl _)) hb2).grown hg3 (own_block HW1.out)).below; obtain ⟨A5, c5, rfl, hB5⟩ := bs_own hown3 (lt_append H0.out.wf H1.out.wf); have HB5 := Lib.hid hB5; clear hB5 hown3 hg3 hat3)
    | (go_at_call 13; fail))
  refine (HT.out _ (hb1.trans (hb3.mono hb1.size))).mono ?_
  rintro e w4 ⟨A6, m6, c6, rfl, hB6, hb4⟩
  have HB6 := Lib.hid hB6
  have hm6 : (m6 : Int) = ((cutB a0 a2 a3).length : Int) := by rw [hB6.row.1]
  clear hB6
  obtain ⟨A7, l7, c7, x7, hout7, htake7⟩ := take_any (HB5.out.later hb4) a2 a3 b2.1 b2.2 (by omega)
  have HT7 := Lib.hid htake7
  have HO7 := Lib.hid hout7
  clear htake7 hout7
  go_wp2_with fail
  refine (HT7.out _ ?_).mono ?_
  · (refine Bel.below ?_; repeat' (first | assumption | exact Bel.refl (Nat.le_refl _) | (with_reducible apply Bel.drew) | (with_reducible apply Bel.drewN) | (with_reducible apply Bel.alloc) | (with_reducible refine Bel.set ?_ ?_ _) | (with_reducible refine Bel.call ?_ (by assumption)) | exact Nat.le_refl _ | (simp; done) | (simp; omega)))
  rintro e w5 ⟨A8, m8, c8, rfl, hB8, hb5⟩
  have HB8 := Lib.hid hB8
  clear hB8
  have hz4 : w4.heap.size < w5.heap.size := by have := hb5.size; simp at this; omega
  have hP : Box w5 w4.heap.size 25 #[.slice A2 l2 c2, .int .i64 x2] := by (repeat' (first | assumption | exact Box.new _ _ _ | (with_reducible refine Box.newAt _ _ _ ?_; simp; done) | (with_reducible refine Box.put2 (z0 := ?_) (z1 := ?_) ?_) | (with_reducible apply Box.drew) | (with_reducible apply Box.drewN) | (with_reducible apply Box.alloc) | (with_reducible refine Box.call ?_ (by assumption)) | (with_reducible refine Box.far ?_ _ ?_) | (simp; done) | (simp; omega)))
  have hP1 : w5.cell? ⟨w4.heap.size, 1, none⟩ = some (.int .i64 x2) := hP.cell 1
  by_cases hs : (n0 : Int) - a2 < a3
  · have he : Hid (cutE n0 a2 a3 = 10) := by
      show _ = _
      unfold cutE
      rw [if_neg (by omega), if_neg (by omega), if_pos hs]
    rw [he.out]
    go_wp2_with fail
    go_ret
    exact ⟨rfl, by (refine Bel.below ?_; repeat' (first | assumption | exact Bel.refl (Nat.le_refl _) | (with_reducible apply Bel.drew) | (with_reducible apply Bel.drewN) | (with_reducible apply Bel.alloc) | (with_reducible refine Bel.set ?_ ?_ _) | (with_reducible refine Bel.call ?_ (by assumption)) | exact Nat.le_refl _ | (simp; done) | (simp; omega)))⟩
  · have he : cutE n0 a2 a3 = 0 := by
      unfold cutE
      rw [if_neg (by omega), if_neg (by omega), if_neg hs]
    have he7 : cutE (n0 + n1) a2 a3 = 0 := by
      unfold cutE
      rw [if_neg (by omega), if_neg (by omega), if_neg (by omega)]
    have e0 : cutB a0 a2 a3 = (a0.drop a2.toNat).take a3.toNat := by unfold cutB; rw [hx0, if_pos he]
    have e7 : cutB (a0 ++ a1) a2 a3 = (a0.drop a2.toNat).take a3.toNat := by
      unfold cutB
      rw [List.length_append, hx0, hx1, if_pos he7, List.drop_append_of_le_length (by omega), List.take_append_of_le_length (by rw [List.length_drop]; omega)]
    have hlen : (m6 : Int) = a3 := by
      rw [hm6, e0, List.length_take, List.length_drop, hx0]
      omega
    rcases HO.out with ⟨_, rfl, rfl, rfl, rfl⟩ | ⟨hne, _⟩
    case inr => exact absurd he hne
    rcases HO7.out with ⟨_, rfl, rfl, rfl, rfl⟩ | ⟨hne, _⟩
    case inr => exact absurd he7 hne
    rw [he, he7]
    have H6 := Lib.hid ((e0 ▸ HB6.out : Bs w4 _ A6 m6 c6 ((a0.drop a2.toNat).take a3.toNat)))
    have H8 := Lib.hid ((e7 ▸ HB8.out : Bs w5 _ A8 m8 c8 ((a0.drop a2.toNat).take a3.toNat)))
    have hm := Lib.hid hlen
    have hmeq : ((m6 : Int) == a3) = true := by rw [hm.out]; simp
    clear HB6 HB8 e0 e7 hm6 he he7 hlen
    go_wp2_with fail
    refine (same_any _ _ _ _ _ _ _ _ _ _ _ (H6.out.later ?_) (H8.out.later ?_)).mono ?_
    · (refine Bel.below ?_; repeat' (first | assumption | exact Bel.refl (Nat.le_refl _) | (with_reducible apply Bel.drew) | (with_reducible apply Bel.drewN) | (with_reducible apply Bel.alloc) | (with_reducible refine Bel.set ?_ ?_ _) | (with_reducible refine Bel.call ?_ (by assumption)) | exact Nat.le_refl _ | (simp; done) | (simp; omega)))
    · (refine Bel.below ?_; repeat' (first | assumption | exact Bel.refl (Nat.le_refl _) | (with_reducible apply Bel.drew) | (with_reducible apply Bel.drewN) | (with_reducible apply Bel.alloc) | (with_reducible refine Bel.set ?_ ?_ _) | (with_reducible refine Bel.call ?_ (by assumption)) | exact Nat.le_refl _ | (simp; done) | (simp; omega)))
    rintro e w6 ⟨rfl, rfl⟩
    rw [eqL_refl]
    go_wp2_with fail
    go_ret
    exact ⟨rfl, by (refine Bel.below ?_; repeat' (first | assumption | exact Bel.refl (Nat.le_refl _) | (with_reducible apply Bel.drew) | (with_reducible apply Bel.drewN) | (with_reducible apply Bel.alloc) | (with_reducible refine Bel.set ?_ ?_ _) | (with_reducible refine Bel.call ?_ (by assumption)) | exact Nat.le_refl _ | (simp; done) | (simp; omega)))⟩

set_option maxRecDepth 100000 in
theorem lifted (os : Os) (started : os.Started) (H : Type) (enc : TypeId × Value → H) :
    ReturnsInHanded {} Try.checked os 9 .any (Rows.octetPrefixSpec.pre6 enc Try.prog Try.f9 Rows.octetPrefixRow.domain false) (Rows.octetPrefixSpec.post enc Try.prog Try.f9 false true false false) := by
  refine returnsInHanded_of_change (C := Try.checked) own started (by kernel_rfl) Try.func9
    (ChangeSpec.witness6 (enc := enc) (C := Try.checked) false ⟨#[], #[.slice none 0 0, .slice none 0 0, .int .i64 0, .int .i64 0], []⟩ 8 (by kernel_rfl) (by kernel_rfl) (by kernel_rfl) (by kernel_rfl)) ?_
  intro W base args ds gs before hval0 hW hcnd _
  have hval : ∀ (j : Nat) t v, Try.f9.params[j]? = some t → args[j]? = some v → Value.okWide Try.prog W .any base t v := hval0
  have hW' := hW
  obtain ⟨p, q, hA0, hV, rfl, hfz, hnd⟩ := hW
  have hA : DataW.TrodAll enc Try.prog W 0 (fun _ => true) true Try.f9.params.toList args.toList ds p := hA0
  rw [Try.params9] at hA hval
  obtain ⟨v0, vs0, d0, ds0, p0, q0, hargs, rfl, rfl, h0, r0'⟩ := trodAll_cons hA
  obtain ⟨v1, vs1, d1, ds1, p1, q1, rfl, rfl, rfl, h1, r1'⟩ := trodAll_cons r0'
  obtain ⟨v2, vs2, d2, ds2, p2, q2, rfl, rfl, rfl, h2, r2'⟩ := trodAll_cons r1'
  obtain ⟨v3, vs3, d3, ds3, p3, q3, rfl, rfl, rfl, h3, r3'⟩ := trodAll_cons r2'
  obtain ⟨rfl, rfl, rfl⟩ := trodAll_nil r3'
  obtain rfl : args = #[v0, v1, v2, v3] := by cases args; simp_all
  obtain ⟨rfl, rfl⟩ := trodVars_none hV
  have k0 := h0
  have lt0 : ∀ x ∈ p0, x.block < W.heap.size := by obtain ⟨m, hm⟩ := k0; exact DataW.trod_lt m _ _ _ hm
  obtain ⟨A0, n0, c0, rfl⟩ := okWide_slice Try.underlying23 (hval 0 23 v0 rfl rfl)
  obtain ⟨fu0, hf0⟩ := h0
  obtain ⟨a0, ra0⟩ := (opensBytes).2 hf0
  have k1 := h1
  have lt1 : ∀ x ∈ p1, x.block < W.heap.size := by obtain ⟨m, hm⟩ := k1; exact DataW.trod_lt m _ _ _ hm
  obtain ⟨A1, n1, c1, rfl⟩ := okWide_slice Try.underlying23 (hval 1 23 v1 rfl rfl)
  obtain ⟨fu1, hf1⟩ := h1
  obtain ⟨a1, ra1⟩ := (opensBytes).2 hf1
  have k2 := h2
  have lt2 : ∀ x ∈ p2, x.block < W.heap.size := by obtain ⟨m, hm⟩ := k2; exact DataW.trod_lt m _ _ _ hm
  obtain ⟨a2, rfl, rfl, hp2, w2⟩ := open_int Try.underlying3 (hval 2 3 v2 rfl rfl) h2
  have k3 := h3
  have lt3 : ∀ x ∈ p3, x.block < W.heap.size := by obtain ⟨m, hm⟩ := k3; exact DataW.trod_lt m _ _ _ hm
  obtain ⟨a3, rfl, rfl, hp3, w3⟩ := open_int Try.underlying3 (hval 3 3 v3 rfl rfl) h3
  clear hA0 hval0
  refine (walk W A0 n0 c0 a0 (by simpa [Value.cells] using ra0) A1 n1 c1 a1 (by simpa [Value.cells] using ra1) a2 w2 a3 w3).mono fun e W' ⟨he, bel⟩ => ?_
  subst he
  exact ⟨_, rfl, _, _, _, [], _, [], hW', trodAll_mk1 (shut_bool Try.underlying4 _), (trodAll_cons_mk (Below.trod laidOut (by kernel_rfl) (of_decide_eq_true (by kernel_rfl)) k0 bel lt0) (trodAll_cons_mk (Below.trod laidOut (by kernel_rfl) (of_decide_eq_true (by kernel_rfl)) k1 bel lt1) (trodAll_cons_mk (Below.trod laidOut (by kernel_rfl) (of_decide_eq_true (by kernel_rfl)) k2 bel lt2) (trodAll_cons_mk (Below.trod laidOut (by kernel_rfl) (of_decide_eq_true (by kernel_rfl)) k3 bel lt3) trodAll_mk0)))), rfl, bel.frame _, fun h => by cases h⟩

theorem over : Rows.octetPrefixRow.holds Try.pinned (OpenSpec.ofChange Rows.octetPrefixSpec) :=
  OpenClaim.holds_of_wide 9 Try.f9 rfl rfl rfl rfl rfl rfl rfl ⟨rfl, rfl, rfl, rfl, rfl⟩ rfl rfl rfl rfl rfl (by kernel_rfl) Try.func9 (by kernel_rfl)
    (of_decide_eq_true (by kernel_rfl)) (by unfold Func.isWrapper; first | (rw [if_pos (by decide +kernel)]; kernel_rfl) | (rw [if_neg (by decide +kernel)]; exact ⟨rfl, rfl⟩))
    (fun os started H enc _ => lifted os started H enc)

theorem proved : Rows.OctetPrefixSaid :=
  over
end Go.Proofs.Ytgekkmhkklbgcaa.octetPrefix
