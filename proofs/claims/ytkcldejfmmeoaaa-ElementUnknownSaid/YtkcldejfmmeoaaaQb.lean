/- slices.Clone of bytes, as a contract. -/
import Derived.Test.YtkcldejfmmeoaaaOps
import Derived.Test.YtkcldejfmmeoaaaNA
import Derived.WalkKit
import Derived.WalkSpells
import Derived.WalkLawsBesides
import Derived.Deep.QuietTactic
import Derived.Deep.RegionWith
import Derived.BigQuiet
import Derived.BigRegion
import Derived.RegionTactic
import Derived.Lib.Hide
namespace Go.Proofs.Ytkcldejfmmeoaaa
open Go.RowKit

theorem info_u8 : (Try.prog.info? 5).map (fun i => (i.zero, i.size, i.bytes)) = some (some (.int .u8 0), 1, 1) := by kernel_rfl

theorem clone_any (S : Nat → Prop) (A : Option Addr) (n c : Nat) (xs : List Nat) (w : World) (h : Row (Ty.nat .u8) w S A n xs) (hS : ∀ b, S b → b < w.heap.size) (hn : n ≤ 70368744177664) :
    Calls Try.prog 52 #[.slice A n c] w fun e w' => ∃ v, e = .returned v ∧ (Ty.slice (Ty.nat .u8)).rep w' (fun b => w.heap.size ≤ b ∧ b < w'.heap.size) xs [v] ∧ Below w.heap.size w w' := by
  have H := Lib.hid h
  have HS := Lib.hid hS
  clear h hS
  have he := fun W : World => Lib.run_eql_slice_nil (P := Try.prog) W 25 5 A n c 0 0 Try.underlying25
  rcases A with _ | ad
  · go_enter Try.func52, Try.ntmps52
    go_wp2_with fail
    go_ret
    have hx : xs = [] := by
      rcases Nat.eq_zero_or_pos n with h0 | h0
      · exact List.eq_nil_of_length_eq_zero (H.out.1.trans h0)
      · obtain ⟨_, _, h, _⟩ := H.out.2 h0
        cases h
    subst hx
    exact ⟨_, rfl, ⟨none, 0, 0, rfl, Nat.le_refl _, Nat.zero_le _, fun _ => rfl, Row.nil _ _ _ _⟩, Below.refl _ _⟩
  · obtain ⟨i0, hi, hz0, hz1, hz2⟩ := info_parts info_u8
    go_enter Try.func52, Try.ntmps52
    go_wp2_with (at_builtin; refine wpList_append_src _ rfl _ _ _ rfl w.heap.size 5 i0 _ 1 1 Try.underlying25 hi hz0 hz1 hz2 rfl (by decide) (.slice (some ⟨w.heap.size, 0, none⟩) 0 0) 0 [] rfl (World.ownsRow_lit w #[] 0 (Nat.le_refl _) (Nat.zero_le _) rfl) (some ad) n c (xs.map fun x : Nat => Value.int .u8 (x : Int)) rfl H.out.src_len (Row.src (H.out.alloc _ HS.out)) (oneCell_ints xs) (by simp only [maxLen]; omega) (by omega) (by simp) ?_; intro v1 w1 hown1 hg1 hat1)
    go_ret
    simp only [Nat.zero_add, List.nil_append] at hown1
    have hb : Bel w.heap.size w w1 := Bel.grown ((Bel.refl (Nat.le_refl _)).alloc _) hg1 (fun g hg => by simp [Value.ownBlock] at hg; omega)
    exact ⟨_, rfl, rep_of_own hown1 H.out.ints_wf (fun b h1 h2 => ⟨h1, h2⟩), hb.below⟩
noncomputable section
abbrev Bs : Type := {bs : List UInt8 // bs.length < 2 ^ 30}
theorem byL_inj {a b : Bs} (h : byL a.1 = byL b.1) : a = b := by
  simp only [byL, DV.list.injEq, true_and] at h
  exact Subtype.ext (by1_inj h)
/-- bytes of a slice, as a row -/
theorem vr_row {w : World} {E : Env} {bs : List UInt8} {v : Value} (h : VR w E (byL bs) v) : ∃ A c, v = .slice A bs.length c ∧ Row (Ty.nat .u8) w E.S A bs.length (bs.map UInt8.toNat) := by
  obtain ⟨A, c, b, off, g, rfl, _, _, _, h4, _, h6, h7, _⟩ := h.of_list
  rw [by1_length] at h4 ⊢
  refine ⟨A, c, rfl, by simp, fun hn => ?_⟩
  obtain ⟨rfl, hb⟩ := h4 hn
  refine ⟨b, off, rfl, hb, fun i x hx => ?_⟩
  simp only [List.getElem?_map, Option.map_eq_some_iff] at hx
  obtain ⟨u, hu, rfl⟩ := hx
  have hr : (by1 bs)[i]? = some [i8 u] := by simp [by1, hu]
  have e1 := h6 i _ 0 _ hr rfl
  have e2 := h7 i _ 0 _ hr rfl
  refine ⟨[.int .u8 (u.toNat : Int)], ⟨rfl, ?_⟩, fun j y hj => ?_⟩
  · have := UInt8.toNat_lt u
    simp [Lit.wf, IntKind.min, IntKind.max, IntKind.signed, IntKind.bits]
    omega
  · match j with
    | 0 =>
      simp only [List.getElem?_cons_zero, Option.some.injEq] at hj
      subst hj
      have e3 : g i 0 = .int .u8 (u.toNat : Int) := by
        generalize g i 0 = q at e2
        cases e2
        rfl
      rw [e3] at e1
      exact e1
    | j + 1 => simp at hj
/-- and back -/
theorem vr_rep {w : World} {S : Nat → Prop} {A : Option Addr} {n c : Nat} {a : List Nat} (r : (Ty.slice (Ty.nat .u8)).rep w S a [.slice A n c]) : VR w (ro S) (byL (a.map UInt8.ofNat)) (.slice A n c) ∧ ∀ x ∈ a, x < 256 := by
  obtain ⟨A', n', c', h0, h1, h2, h3, h4⟩ := rep_slice r
  cases h0
  have hwf := h4.ints_wf
  have hlt : ∀ x ∈ a, x < 256 := fun x hx => by
    have := hwf x hx
    simp [Lit.wf, IntKind.min, IntKind.max, IntKind.signed, IntKind.bits] at this
    omega
  have hlen := h4.len
  have hn : (by1 (a.map UInt8.ofNat)).length = n := by rw [by1_length, List.length_map, hlen]
  refine ⟨?_, hlt⟩
  rcases Nat.eq_zero_or_pos n with h0 | hpos
  · have ha : a = [] := List.eq_nil_of_length_eq_zero (by omega)
    subst ha
    rw [← hn]
    exact .list _ 1 _ A c 0 0 (fun _ _ => undef) (Nat.zero_le _) h2 h3 (fun h => absurd h (by simp [by1])) (fun i cs h => by simp [by1] at h) (fun i cs j d h => by simp [by1] at h) (fun i cs j d h => by simp [by1] at h) (fun cs h => by simp [by1] at h)
  · obtain ⟨b, off, rfl, hb, hc⟩ := h4.ints hpos
    have row : ∀ (i : Nat) (cs : List DV), (by1 (a.map UInt8.ofNat))[i]? = some cs → ∃ x, a[i]? = some x ∧ x < 256 ∧ cs = [.int .u8 (x : Int)] := fun i cs hi => by
      simp only [by1, List.map_map, List.getElem?_map, Option.map_eq_some_iff] at hi
      obtain ⟨x, hx, rfl⟩ := hi
      have := hlt x (List.mem_of_getElem? hx)
      refine ⟨x, hx, this, ?_⟩
      show [i8 (UInt8.ofNat x)] = _
      rw [i8, UInt8.toNat_ofNat_of_lt' this]
    rw [← hn]
    refine .list _ 1 _ (some ⟨b, off, none⟩) c b off (fun i _ => .int .u8 ((a.getD i 0 : Nat) : Int)) (by omega) h2 (fun h => by cases h) (fun _ => ⟨rfl, hb⟩) (fun i cs hi => ?_) (fun i cs j d hi hj => ?_) (fun i cs j d hi hj => ?_) (fun cs hcs => ?_)
    · obtain ⟨x, _, _, rfl⟩ := row i cs hi
      rfl
    · obtain ⟨x, hx, _, rfl⟩ := row i cs hi
      cases j with
      | zero =>
        have := hc i x hx
        simpa [List.getD, hx] using this
      | succ j => simp at hj
    · obtain ⟨x, hx, _, rfl⟩ := row i cs hi
      cases j with
      | zero =>
        simp at hj
        subst hj
        simp only [List.getD, hx, Option.getD_some]
        exact .int _ _ _
      | succ j => simp at hj
    · obtain ⟨i, hi⟩ := List.mem_iff_getElem?.1 hcs
      obtain ⟨x, _, _, rfl⟩ := row i cs hi
      rfl
set_option maxRecDepth 1000000 in
theorem clone_nil : zflat (zans Try.prog tab ftab noC 52 [.nil] []) = some (.nil, []) := by
  kernel_rfl
theorem ansClone (b : Bs) : Ans Try.prog 52 [byL b.1] (byL b.1) ⟨0, [], []⟩ := by
  refine ⟨(zflat_ok tab_ok mixed fun_ok noC_ok clone_nil .nil).1, fun W0 S0 E w vs hs hv => ?_⟩
  obtain ⟨v, vs', rfl, h1, h2⟩ := hv.uncons
  rw [h2.unnil]
  obtain ⟨A, c, rfl, hrow⟩ := vr_row h1
  refine (clone_any E.S A b.1.length c (b.1.map UInt8.toNat) w hrow hs.ro (by have := b.2; omega)).mono ?_
  rintro e w' ⟨v, rfl, hr, hb⟩
  obtain ⟨A', n', c', rfl, _⟩ := rep_slice hr
  obtain ⟨hvr, _⟩ := vr_rep hr
  have hm : (b.1.map UInt8.toNat).map UInt8.ofNat = b.1 := by
    rw [List.map_map]
    conv => rhs; rw [← List.map_id b.1]
    refine List.map_congr_left fun x _ => ?_
    simp
  rw [hm] at hvr
  refine ⟨ro fun x => E.S x ∨ (w.heap.size ≤ x ∧ x < w'.heap.size), _, rfl, ⟨⟨fun x hx => .inl hx, fun _ h => h.elim, fun p hp => hb.cell (hs.ro _ hp), fun _ _ h => (by cases h)⟩, .of_below hb, funext fun id => (yb_none hs.ys rfl id).symm, fun _ => rfl⟩, ⟨hs.bel.trans (hb.mono hs.bel.size), fun _ h => h.elim, fun _ h => h.elim, fun _ h => h.elim, fun _ _ _ _ h => h.elim, fun x hx => ?_, fun x hx => ?_, Nat.le_refl _, .none rfl fun _ => rfl⟩, hvr.later ⟨fun x hx => .inr hx, fun _ h => h.elim, fun _ _ => rfl, fun _ _ h => (by cases h)⟩⟩
  · rcases hx with hx | hx
    · exact Nat.lt_of_lt_of_le (hs.ro x hx) hb.size
    · exact hx.2
  · rcases hx with hx | hx
    · exact hs.olds x hx
    · exact .inr (Nat.le_trans hs.bel.size hx.1)
end
end Go.Proofs.Ytkcldejfmmeoaaa
