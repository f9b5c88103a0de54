/- bytes.Clone, as a contract. -/
import Derived.Test.YtmpmhkjfpeagkaaQc
import Derived.Test.YtmpmhkjfpeagkaaNA
import Derived.WalkKit
import Derived.WalkSpells
import Derived.WalkLawsBesides
import Derived.Deep.QuietTactic
import Derived.Deep.RegionWith
import Derived.BigQuiet
import Derived.BigRegion
import Derived.RegionTactic
import Derived.Lib.Hide
namespace Go.Proofs.Ytmpmhkjfpeagkaa
open Go.RowKit

theorem clone_any (S : Nat → Prop) (A : Option Addr) (n c : Nat) (xs : List Nat) (w : World) (h : Row (Ty.nat .u8) w S A n xs) (hS : ∀ b, S b → b < w.heap.size) (hn : n ≤ 70368744177664) :
    Calls Try.prog 36 #[.slice A n c] w fun e w' => ∃ v, e = .returned v ∧ (Ty.slice (Ty.nat .u8)).rep w' (fun b => w.heap.size ≤ b ∧ b < w'.heap.size) xs [v] ∧ Below w.heap.size w w' := by
  have H := Lib.hid h
  have HS := Lib.hid hS
  clear h hS
  have he := fun W : World => Lib.run_eql_slice_nil (P := Try.prog) W 22 5 A n c 0 0 Try.underlying22
  rcases A with _ | ad
  · go_enter Try.func36, Try.ntmps36
    go_wp2_with fail
    go_ret
    have hx : xs = [] := by
      rcases Nat.eq_zero_or_pos n with h0 | h0
      · exact List.eq_nil_of_length_eq_zero (H.out.1.trans h0)
      · obtain ⟨_, _, h, _⟩ := H.out.2 h0
        cases h
    subst hx
    exact ⟨_, rfl, ⟨none, 0, 0, rfl, Nat.le_refl _, Nat.zero_le _, fun _ => rfl, Row.nil _ _ _ _⟩, Below.refl _ _⟩
  · obtain ⟨i0, hi, hz0, hz1, hz2⟩ := info_parts info_u8
    go_enter Try.func36, Try.ntmps36
    go_wp2_with (at_builtin; refine wpList_append_src _ rfl _ _ _ rfl w.heap.size 5 i0 _ 1 1 Try.underlying22 hi hz0 hz1 hz2 rfl (by decide) (.slice (some ⟨w.heap.size, 0, none⟩) 0 0) 0 [] rfl (World.ownsRow_lit w #[] 0 (Nat.le_refl _) (Nat.zero_le _) rfl) (some ad) n c (xs.map fun x : Nat => Value.int .u8 (x : Int)) rfl H.out.src_len (Row.src (H.out.alloc _ HS.out)) (oneCell_ints xs) (by simp only [maxLen]; omega) (by omega) (by simp) ?_; intro v1 w1 hown1 hg1 hat1)
    go_ret
    simp only [Nat.zero_add, List.nil_append] at hown1
    have hb : Bel w.heap.size w w1 := Bel.grown ((Bel.refl (Nat.le_refl _)).alloc _) hg1 (fun g hg => by simp [Value.ownBlock] at hg; omega)
    exact ⟨_, rfl, rep_of_own hown1 H.out.ints_wf (fun b h1 h2 => ⟨h1, h2⟩), hb.below⟩
noncomputable section
set_option maxRecDepth 1000000 in
theorem clone_nil : zflat (zans Try.prog tab ftab noC 36 [.nil] []) = some (.nil, []) := by
  kernel_rfl
theorem ansClone (b : Bs) : Ans Try.prog 36 [byL b.1] (byL b.1) ⟨0, [], []⟩ := by
  refine ⟨(zflat_ok tab_ok mixed fun_ok noC_ok clone_nil .nil).1, fun W0 S0 E w vs hs hv => ?_⟩
  obtain ⟨v, vs', rfl, h1, h2⟩ := hv.uncons
  rw [h2.unnil]
  obtain ⟨A, c, rfl, hrow⟩ := vr_row h1
  refine (clone_any E.S A b.1.length c (b.1.map UInt8.toNat) w hrow hs.ro (by have := b.2; omega)).mono ?_
  rintro e w' ⟨v, rfl, hr, hb⟩
  obtain ⟨A', n', c', rfl, _⟩ := rep_slice hr
  obtain ⟨hvr, _⟩ := vr_rep hr
  have hm : (b.1.map UInt8.toNat).map UInt8.ofNat = b.1 := by
    rw [List.map_map]
    conv => rhs; rw [← List.map_id b.1]
    refine List.map_congr_left fun x _ => ?_
    simp
  rw [hm] at hvr
  refine ⟨ro fun x => E.S x ∨ (w.heap.size ≤ x ∧ x < w'.heap.size), _, rfl, ⟨⟨fun x hx => .inl hx, fun _ h => h.elim, fun p hp => hb.cell (hs.ro _ hp), fun _ _ h => (by cases h)⟩, .of_below hb, funext fun id => (yb_none hs.ys rfl id).symm, fun _ => rfl⟩, ⟨hs.bel.trans (hb.mono hs.bel.size), fun _ h => h.elim, fun _ h => h.elim, fun _ h => h.elim, fun _ _ _ _ h => h.elim, fun x hx => ?_, fun x hx => ?_, Nat.le_refl _, .none rfl fun _ => rfl⟩, hvr.later ⟨fun x hx => .inr hx, fun _ h => h.elim, fun _ _ => rfl, fun _ _ h => (by cases h)⟩⟩
  · rcases hx with hx | hx
    · exact Nat.lt_of_lt_of_le (hs.ro x hx) hb.size
    · exact hx.2
  · rcases hx with hx | hx
    · exact hs.olds x hx
    · exact .inr (Nat.le_trans hs.bel.size hx.1)
def cBc : ConF := liftC (eqC 36 (fun x : Bs => [byL x.1]) fun x => (byL x.1, ⟨0, [], []⟩))
theorem cBc_ok : ConOk Try.prog cBc := liftC_ok (eqC_ok ansClone fun _ => rfl)
theorem cBc_at (hp : Hp) (bs : List UInt8) (h : bs.length < 2 ^ 30) : cBc 36 [byL bs] hp = some (byL bs, hp, none) :=
  lift_at (A := fun x : Bs => [byL x.1]) (D := fun x => byL x.1) (fun x y hxy => by
    simp only [List.cons.injEq, and_true] at hxy
    exact hxy) hp ⟨bs, h⟩ rfl rfl
end
end Go.Proofs.Ytmpmhkjfpeagkaa
