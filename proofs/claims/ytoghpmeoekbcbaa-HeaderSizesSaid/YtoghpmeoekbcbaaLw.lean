/- A law's arguments as data: bytes. No function of the program is named here. -/
import Derived.Test.YtoghpmeoekbcbaaBy
namespace Go.Proofs.Ytoghpmeoekbcbaa
open Go.RowKit

theorem opensBytes : Opens Try.prog 26 (Ty.slice (Ty.nat .u8)) := Opens.slice Try.underlying26 (by kernel_rfl) (Opens.nat rfl Try.underlying5 (by kernel_rfl)) (by decide)
theorem vr_bytes {w : World} {S : Nat → Prop} {A : Option Addr} {n c : Nat} {a : List Nat} (r : (Ty.slice (Ty.nat .u8)).rep w S a [.slice A n c]) :
    ∃ bs : List UInt8, VR w (ro S) (byL bs) (.slice A n c) := by
  obtain ⟨A', n', c', h0, h1, h2, h3, h4⟩ := rep_slice r
  cases h0
  have hwf := h4.ints_wf
  have hlt : ∀ x ∈ a, x < 256 := fun x hx => by
    have := hwf x hx
    simp [Lit.wf, IntKind.min, IntKind.max, IntKind.signed, IntKind.bits] at this
    omega
  have hlen := h4.len
  have hn : (by1 (a.map UInt8.ofNat)).length = n := by rw [by1_length, List.length_map, hlen]
  refine ⟨a.map UInt8.ofNat, ?_⟩
  rcases Nat.eq_zero_or_pos n with h0 | hpos
  · have ha : a = [] := List.eq_nil_of_length_eq_zero (by omega)
    subst ha
    rw [← hn]
    exact .list _ 1 _ A c 0 0 (fun _ _ => undef) (Nat.zero_le _) h2 h3 (fun h => absurd h (by simp [by1])) (fun i cs h => by simp [by1] at h) (fun i cs j d h => by simp [by1] at h) (fun i cs j d h => by simp [by1] at h) (fun cs h => by simp [by1] at h)
  · obtain ⟨b, off, rfl, hb, hc⟩ := h4.ints hpos
    have row : ∀ (i : Nat) (cs : List DV), (by1 (a.map UInt8.ofNat))[i]? = some cs → ∃ x, a[i]? = some x ∧ x < 256 ∧ cs = [.int .u8 (x : Int)] := fun i cs hi => by
      simp only [by1, List.map_map, List.getElem?_map, Option.map_eq_some_iff] at hi
      obtain ⟨x, hx, rfl⟩ := hi
      have := hlt x (List.mem_of_getElem? hx)
      refine ⟨x, hx, this, ?_⟩
      show [i8 (UInt8.ofNat x)] = _
      rw [i8, UInt8.toNat_ofNat_of_lt' this]
    rw [← hn]
    refine .list _ 1 _ (some ⟨b, off, none⟩) c b off (fun i _ => .int .u8 ((a.getD i 0 : Nat) : Int)) (by omega) h2 (fun h => by cases h) (fun _ => ⟨rfl, hb⟩) (fun i cs hi => ?_) (fun i cs j d hi hj => ?_) (fun i cs j d hi hj => ?_) (fun cs hcs => ?_)
    · obtain ⟨x, _, _, rfl⟩ := row i cs hi
      rfl
    · obtain ⟨x, hx, _, rfl⟩ := row i cs hi
      cases j with
      | zero =>
        have := hc i x hx
        simpa [List.getD, hx] using this
      | succ j => simp at hj
    · obtain ⟨x, hx, _, rfl⟩ := row i cs hi
      cases j with
      | zero =>
        simp at hj
        subst hj
        simp only [List.getD, hx, Option.getD_some]
        exact .int _ _ _
      | succ j => simp at hj
    · obtain ⟨i, hi⟩ := List.mem_iff_getElem?.1 hcs
      obtain ⟨x, _, _, rfl⟩ := row i cs hi
      rfl
theorem vr_len {w : World} {E : Env} {bs : List UInt8} {v : Value} (h : VR w E (byL bs) v) : bs.length < 2 ^ 63 := by
  obtain ⟨A, c, b, off, g, _, h1, h2, _⟩ := h.of_list
  rw [by1_length] at h1
  have : maxLen < 2 ^ 63 := by decide
  omega
theorem u32_bits {a : Int} (h : (Lit.int .u32 a).wf = true) : ∃ s : BitVec 32, a = (s.toNat : Int) := by
  simp [Lit.wf, IntKind.min, IntKind.max, IntKind.signed, IntKind.bits] at h
  obtain ⟨n, rfl⟩ := Int.eq_ofNat_of_zero_le h.1
  exact ⟨BitVec.ofNat 32 n, by rw [BitVec.toNat_ofNat, Nat.mod_eq_of_lt (by omega)]⟩
end Go.Proofs.Ytoghpmeoekbcbaa
