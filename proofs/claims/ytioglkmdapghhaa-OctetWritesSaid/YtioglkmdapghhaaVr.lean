/- A law's arguments as data: bytes, rows of bytes. No function of the program is named here. -/
import Derived.Test.YtioglkmdapghhaaNA
import Derived.Test.YtioglkmdapghhaaJo
namespace Go.Proofs.Ytioglkmdapghhaa
open Go.RowKit

theorem opensBytes : Opens Try.prog 22 (Ty.slice (Ty.nat .u8)) := Opens.slice Try.underlying22 (by kernel_rfl) (Opens.nat rfl Try.underlying5 (by kernel_rfl)) (by decide)
theorem vr_bytesA {w : World} {S : Nat → Prop} {A : Option Addr} {n c : Nat} {a : List Nat} (r : (Ty.slice (Ty.nat .u8)).rep w S a [.slice A n c]) :
    VR w (ro S) (byL (a.map UInt8.ofNat)) (.slice A n c) := by
  obtain ⟨A', n', c', h0, h1, h2, h3, h4⟩ := rep_slice r
  cases h0
  have hwf := h4.ints_wf
  have hlt : ∀ x ∈ a, x < 256 := fun x hx => by
    have := hwf x hx
    simp [Lit.wf, IntKind.min, IntKind.max, IntKind.signed, IntKind.bits] at this
    omega
  have hlen := h4.len
  have hn : (by1 (a.map UInt8.ofNat)).length = n := by rw [by1_length, List.length_map, hlen]
  show VR w (ro S) (.list 1 (by1 (a.map UInt8.ofNat))) (.slice A n c)
  rcases Nat.eq_zero_or_pos n with h0 | hpos
  · have ha : a = [] := List.eq_nil_of_length_eq_zero (by omega)
    subst ha
    rw [← hn]
    exact .list _ 1 _ A c 0 0 (fun _ _ => undef) (Nat.zero_le _) h2 h3 (fun h => absurd h (by simp [by1])) (fun i cs h => by simp [by1] at h) (fun i cs j d h => by simp [by1] at h) (fun i cs j d h => by simp [by1] at h) (fun cs h => by simp [by1] at h)
  · obtain ⟨b, off, rfl, hb, hc⟩ := h4.ints hpos
    have row : ∀ (i : Nat) (cs : List DV), (by1 (a.map UInt8.ofNat))[i]? = some cs → ∃ x, a[i]? = some x ∧ x < 256 ∧ cs = [.int .u8 (x : Int)] := fun i cs hi => by
      simp only [by1, List.map_map, List.getElem?_map, Option.map_eq_some_iff] at hi
      obtain ⟨x, hx, rfl⟩ := hi
      have := hlt x (List.mem_of_getElem? hx)
      refine ⟨x, hx, this, ?_⟩
      show [i8 (UInt8.ofNat x)] = _
      rw [i8, UInt8.toNat_ofNat_of_lt' this]
    rw [← hn]
    refine .list _ 1 _ (some ⟨b, off, none⟩) c b off (fun i _ => .int .u8 ((a.getD i 0 : Nat) : Int)) (by omega) h2 (fun h => by cases h) (fun _ => ⟨rfl, hb⟩) (fun i cs hi => ?_) (fun i cs j d hi hj => ?_) (fun i cs j d hi hj => ?_) (fun cs hcs => ?_)
    · obtain ⟨x, _, _, rfl⟩ := row i cs hi
      rfl
    · obtain ⟨x, hx, _, rfl⟩ := row i cs hi
      cases j with
      | zero =>
        have := hc i x hx
        simpa [List.getD, hx] using this
      | succ j => simp at hj
    · obtain ⟨x, hx, _, rfl⟩ := row i cs hi
      cases j with
      | zero =>
        simp at hj
        subst hj
        simp only [List.getD, hx, Option.getD_some]
        exact .int _ _ _
      | succ j => simp at hj
    · obtain ⟨i, hi⟩ := List.mem_iff_getElem?.1 hcs
      obtain ⟨x, _, _, rfl⟩ := row i cs hi
      rfl
theorem vr_bytes {w : World} {S : Nat → Prop} {A : Option Addr} {n c : Nat} {a : List Nat} (r : (Ty.slice (Ty.nat .u8)).rep w S a [.slice A n c]) :
    ∃ bs : List UInt8, VR w (ro S) (byL bs) (.slice A n c) := ⟨_, vr_bytesA r⟩
theorem opensRows : Opens Try.prog 23 (Ty.slice (Ty.slice (Ty.nat .u8))) := Opens.slice Try.underlying23 (by kernel_rfl) opensBytes (by decide)
theorem vr_rows {w : World} {S : Nat → Prop} {A : Option Addr} {n c : Nat} {a : List (List Nat)} (r : (Ty.slice (Ty.slice (Ty.nat .u8))).rep w S a [.slice A n c]) :
    ∃ fs : List (List UInt8), VR w (ro S) (fsD fs) (.slice A n c) := by
  obtain ⟨A', n', c', h0, h1, h2, h3, h4⟩ := rep_slice r
  cases h0
  obtain ⟨fs, hfs⟩ : ∃ fs : List (List UInt8), fs = a.map fun x => x.map UInt8.ofNat := ⟨_, rfl⟩
  have hlen := h4.1
  have hn : (fs1 fs).length = n := by rw [fs1_length, hfs, List.length_map, hlen]
  refine ⟨fs, ?_⟩
  unfold fsD
  rcases Nat.eq_zero_or_pos n with h0 | hpos
  · have he : fs1 fs = [] := List.eq_nil_of_length_eq_zero (by omega)
    rw [he, h0]
    exact .list _ 1 _ A c 0 0 (fun _ _ => undef) (Nat.zero_le _) h2 h3 (fun h => absurd h (by simp)) (fun i cs h => by simp at h) (fun i cs j d h => by simp at h) (fun i cs j d h => by simp at h) (fun cs h => by simp at h)
  · obtain ⟨b, off, rfl, hb, hc⟩ := h4.2 hpos
    have row : ∀ (i : Nat) (cs : List DV), (fs1 fs)[i]? = some cs → ∃ d v, cs = [d] ∧ scal d = true ∧ w.cell? ⟨b, off + (i * 1 + 0), none⟩ = some v ∧ VR w (ro S) d v := fun i cs hi => by
      rw [hfs] at hi
      simp only [fs1, List.map_map, List.getElem?_map, Option.map_eq_some_iff] at hi
      obtain ⟨x, hx, rfl⟩ := hi
      obtain ⟨vs, hr, hv⟩ := hc i x hx
      obtain ⟨A1, n1, c1, rfl, h5⟩ := hr
      exact ⟨_, _, rfl, rfl, hv 0 _ rfl, vr_bytesA ⟨A1, n1, c1, rfl, h5⟩⟩
    rw [← hn]
    refine .list _ 1 _ (some ⟨b, off, none⟩) c b off (fun i j => (w.cell? ⟨b, off + (i * 1 + j), none⟩).getD undef) (by omega) h2 (fun h => by cases h) (fun _ => ⟨rfl, hb⟩) (fun i cs hi => ?_) (fun i cs j d hi hj => ?_) (fun i cs j d hi hj => ?_) (fun cs hcs => ?_)
    · obtain ⟨d, v, rfl, _⟩ := row i cs hi
      rfl
    · obtain ⟨d, v, rfl, _, h7, _⟩ := row i cs hi
      cases j with
      | zero =>
        rw [h7]
        rfl
      | succ j => simp at hj
    · obtain ⟨d, v, rfl, _, h7, h8⟩ := row i cs hi
      cases j with
      | zero =>
        cases hj
        rw [h7]
        exact h8
      | succ j => simp at hj
    · obtain ⟨i, hi⟩ := List.mem_iff_getElem?.1 hcs
      obtain ⟨d, v, rfl, h6, _⟩ := row i cs hi
      show scals [d] = true
      simpa [scals] using h6
end Go.Proofs.Ytioglkmdapghhaa
