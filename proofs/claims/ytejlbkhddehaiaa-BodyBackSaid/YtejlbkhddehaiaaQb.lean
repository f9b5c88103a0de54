/- Rows of bytes. -/
import Derived.Test.YtejlbkhddehaiaaOps
import Derived.Test.YtejlbkhddehaiaaNA
import Derived.WalkKit
import Derived.WalkSpells
import Derived.WalkLawsBesides
import Derived.Deep.QuietTactic
import Derived.Deep.RegionWith
import Derived.BigQuiet
import Derived.BigRegion
import Derived.RegionTactic
import Derived.Lib.Hide
namespace Go.Proofs.Ytejlbkhddehaiaa
open Go.RowKit

theorem info_u8 : (Try.prog.info? 5).map (fun i => (i.zero, i.size, i.bytes)) = some (some (.int .u8 0), 1, 1) := by kernel_rfl

noncomputable section
abbrev Bs : Type := {bs : List UInt8 // bs.length < 2 ^ 30}
theorem byL_inj {a b : Bs} (h : byL a.1 = byL b.1) : a = b := by
  simp only [byL, DV.list.injEq, true_and] at h
  exact Subtype.ext (by1_inj h)
/-- bytes of a slice, as a row -/
theorem vr_row {w : World} {E : Env} {bs : List UInt8} {v : Value} (h : VR w E (byL bs) v) : ∃ A c, v = .slice A bs.length c ∧ Row (Ty.nat .u8) w E.S A bs.length (bs.map UInt8.toNat) := by
  obtain ⟨A, c, b, off, g, rfl, _, _, _, h4, _, h6, h7, _⟩ := h.of_list
  rw [by1_length] at h4 ⊢
  refine ⟨A, c, rfl, by simp, fun hn => ?_⟩
  obtain ⟨rfl, hb⟩ := h4 hn
  refine ⟨b, off, rfl, hb, fun i x hx => ?_⟩
  simp only [List.getElem?_map, Option.map_eq_some_iff] at hx
  obtain ⟨u, hu, rfl⟩ := hx
  have hr : (by1 bs)[i]? = some [i8 u] := by simp [by1, hu]
  have e1 := h6 i _ 0 _ hr rfl
  have e2 := h7 i _ 0 _ hr rfl
  refine ⟨[.int .u8 (u.toNat : Int)], ⟨rfl, ?_⟩, fun j y hj => ?_⟩
  · have := UInt8.toNat_lt u
    simp [Lit.wf, IntKind.min, IntKind.max, IntKind.signed, IntKind.bits]
    omega
  · match j with
    | 0 =>
      simp only [List.getElem?_cons_zero, Option.some.injEq] at hj
      subst hj
      have e3 : g i 0 = .int .u8 (u.toNat : Int) := by
        generalize g i 0 = q at e2
        cases e2
        rfl
      rw [e3] at e1
      exact e1
    | j + 1 => simp at hj
/-- and back -/
theorem vr_rep {w : World} {S : Nat → Prop} {A : Option Addr} {n c : Nat} {a : List Nat} (r : (Ty.slice (Ty.nat .u8)).rep w S a [.slice A n c]) : VR w (ro S) (byL (a.map UInt8.ofNat)) (.slice A n c) ∧ ∀ x ∈ a, x < 256 := by
  obtain ⟨A', n', c', h0, h1, h2, h3, h4⟩ := rep_slice r
  cases h0
  have hwf := h4.ints_wf
  have hlt : ∀ x ∈ a, x < 256 := fun x hx => by
    have := hwf x hx
    simp [Lit.wf, IntKind.min, IntKind.max, IntKind.signed, IntKind.bits] at this
    omega
  have hlen := h4.len
  have hn : (by1 (a.map UInt8.ofNat)).length = n := by rw [by1_length, List.length_map, hlen]
  refine ⟨?_, hlt⟩
  rcases Nat.eq_zero_or_pos n with h0 | hpos
  · have ha : a = [] := List.eq_nil_of_length_eq_zero (by omega)
    subst ha
    rw [← hn]
    exact .list _ 1 _ A c 0 0 (fun _ _ => undef) (Nat.zero_le _) h2 h3 (fun h => absurd h (by simp [by1])) (fun i cs h => by simp [by1] at h) (fun i cs j d h => by simp [by1] at h) (fun i cs j d h => by simp [by1] at h) (fun cs h => by simp [by1] at h)
  · obtain ⟨b, off, rfl, hb, hc⟩ := h4.ints hpos
    have row : ∀ (i : Nat) (cs : List DV), (by1 (a.map UInt8.ofNat))[i]? = some cs → ∃ x, a[i]? = some x ∧ x < 256 ∧ cs = [.int .u8 (x : Int)] := fun i cs hi => by
      simp only [by1, List.map_map, List.getElem?_map, Option.map_eq_some_iff] at hi
      obtain ⟨x, hx, rfl⟩ := hi
      have := hlt x (List.mem_of_getElem? hx)
      refine ⟨x, hx, this, ?_⟩
      show [i8 (UInt8.ofNat x)] = _
      rw [i8, UInt8.toNat_ofNat_of_lt' this]
    rw [← hn]
    refine .list _ 1 _ (some ⟨b, off, none⟩) c b off (fun i _ => .int .u8 ((a.getD i 0 : Nat) : Int)) (by omega) h2 (fun h => by cases h) (fun _ => ⟨rfl, hb⟩) (fun i cs hi => ?_) (fun i cs j d hi hj => ?_) (fun i cs j d hi hj => ?_) (fun cs hcs => ?_)
    · obtain ⟨x, _, _, rfl⟩ := row i cs hi
      rfl
    · obtain ⟨x, hx, _, rfl⟩ := row i cs hi
      cases j with
      | zero =>
        have := hc i x hx
        simpa [List.getD, hx] using this
      | succ j => simp at hj
    · obtain ⟨x, hx, _, rfl⟩ := row i cs hi
      cases j with
      | zero =>
        simp at hj
        subst hj
        simp only [List.getD, hx, Option.getD_some]
        exact .int _ _ _
      | succ j => simp at hj
    · obtain ⟨i, hi⟩ := List.mem_iff_getElem?.1 hcs
      obtain ⟨x, _, _, rfl⟩ := row i cs hi
      rfl
end
end Go.Proofs.Ytejlbkhddehaiaa
