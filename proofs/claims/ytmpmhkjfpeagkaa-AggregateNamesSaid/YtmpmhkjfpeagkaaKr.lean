/- Lists of byte strings as data: a law's arguments. No function of the program is named here. -/
import Derived.Test.YtmpmhkjfpeagkaaQc
namespace Go.Proofs.Ytmpmhkjfpeagkaa
open Go.RowKit

noncomputable section
/-- lists of byte strings -/
def fs1 (fs : List (List UInt8)) : List (List DV) := fs.map fun f => [byL f]
def fsD (fs : List (List UInt8)) : DV := .list 1 (fs1 fs)
theorem fs1_length (fs : List (List UInt8)) : (fs1 fs).length = fs.length := by simp [fs1]
theorem fs1_nth {fs : List (List UInt8)} {k : Nat} {f : List UInt8} (h : fs[k]? = some f) : nth (fs1 fs) ((k : Int).toNat) = some [byL f] := by
  rw [nth_eq, Int.toNat_natCast]
  simp [fs1, h]
theorem fs1_inj : ∀ {a b : List (List UInt8)}, fs1 a = fs1 b → a = b
  | [], [], _ => rfl
  | [], _ :: _, h => by cases h
  | _ :: _, [], h => by cases h
  | a :: l, b :: m, h => by
    simp only [fs1, List.map_cons, List.cons.injEq, and_true, byL, DV.list.injEq, true_and] at h
    rw [by1_inj h.1, fs1_inj h.2]
theorem fsD_inj {a b : List (List UInt8)} (h : fsD a = fsD b) : a = b := by
  unfold fsD at h
  injection h with _ h
  exact fs1_inj h
end
theorem opensRows : Opens Try.prog 33 (Ty.slice (Ty.slice (Ty.nat .u8))) := Opens.slice Try.underlying33 (by kernel_rfl) opensBytes (by decide)
theorem vr_rows {w : World} {S : Nat → Prop} {A : Option Addr} {n c : Nat} {a : List (List Nat)} (r : (Ty.slice (Ty.slice (Ty.nat .u8))).rep w S a [.slice A n c]) :
    ∃ fs : List (List UInt8), VR w (ro S) (fsD fs) (.slice A n c) := by
  obtain ⟨A', n', c', h0, h1, h2, h3, h4⟩ := rep_slice r
  cases h0
  obtain ⟨fs, hfs⟩ : ∃ fs : List (List UInt8), fs = a.map fun x => x.map UInt8.ofNat := ⟨_, rfl⟩
  have hlen := h4.1
  have hn : (fs1 fs).length = n := by rw [fs1_length, hfs, List.length_map, hlen]
  refine ⟨fs, ?_⟩
  unfold fsD
  rcases Nat.eq_zero_or_pos n with h0 | hpos
  · have he : fs1 fs = [] := List.eq_nil_of_length_eq_zero (by omega)
    rw [he, h0]
    exact .list _ 1 _ A c 0 0 (fun _ _ => undef) (Nat.zero_le _) h2 h3 (fun h => absurd h (by simp)) (fun i cs h => by simp at h) (fun i cs j d h => by simp at h) (fun i cs j d h => by simp at h) (fun cs h => by simp at h)
  · obtain ⟨b, off, rfl, hb, hc⟩ := h4.2 hpos
    have row : ∀ (i : Nat) (cs : List DV), (fs1 fs)[i]? = some cs → ∃ d v, cs = [d] ∧ scal d = true ∧ w.cell? ⟨b, off + (i * 1 + 0), none⟩ = some v ∧ VR w (ro S) d v := fun i cs hi => by
      rw [hfs] at hi
      simp only [fs1, List.map_map, List.getElem?_map, Option.map_eq_some_iff] at hi
      obtain ⟨x, hx, rfl⟩ := hi
      obtain ⟨vs, hr, hv⟩ := hc i x hx
      obtain ⟨A1, n1, c1, rfl, h5⟩ := hr
      exact ⟨_, _, rfl, rfl, hv 0 _ rfl, vr_bytesA ⟨A1, n1, c1, rfl, h5⟩⟩
    rw [← hn]
    refine .list _ 1 _ (some ⟨b, off, none⟩) c b off (fun i j => (w.cell? ⟨b, off + (i * 1 + j), none⟩).getD undef) (by omega) h2 (fun h => by cases h) (fun _ => ⟨rfl, hb⟩) (fun i cs hi => ?_) (fun i cs j d hi hj => ?_) (fun i cs j d hi hj => ?_) (fun cs hcs => ?_)
    · obtain ⟨d, v, rfl, _⟩ := row i cs hi
      rfl
    · obtain ⟨d, v, rfl, _, h7, _⟩ := row i cs hi
      cases j with
      | zero =>
        rw [h7]
        rfl
      | succ j => simp at hj
    · obtain ⟨d, v, rfl, _, h7, h8⟩ := row i cs hi
      cases j with
      | zero =>
        cases hj
        rw [h7]
        exact h8
      | succ j => simp at hj
    · obtain ⟨i, hi⟩ := List.mem_iff_getElem?.1 hcs
      obtain ⟨d, v, rfl, h6, _⟩ := row i cs hi
      show scals [d] = true
      simpa [scals] using h6
theorem vr_list_len {w : World} {E : Env} {s : Nat} {xs : List (List DV)} {v : Value} (h : VR w E (.list s xs) v) : xs.length ≤ maxLen ∧ (∀ (i : Nat) (cs : List DV) (j : Nat) (d : DV), xs[i]? = some cs → cs[j]? = some d → ∃ u, VR w (ro E.S) d u) := by
  cases h with
  | list E s xs A c b off g h1 h2 h3 h4 h5 h6 h7 h8 => exact ⟨Nat.le_trans h1 h2, fun i cs j d hi hj => ⟨_, h7 i cs j d hi hj⟩⟩
theorem rows_len {w : World} {E : Env} {fs : List (List UInt8)} {v : Value} (h : VR w E (fsD fs) v) : fs.length ≤ maxLen ∧ ∀ p ∈ fs, p.length ≤ maxLen := by
  obtain ⟨h1, h2⟩ := vr_list_len h
  rw [fs1_length] at h1
  refine ⟨h1, fun p hp => ?_⟩
  obtain ⟨i, hi⟩ := List.mem_iff_getElem?.1 hp
  obtain ⟨u, hu⟩ := h2 i [byL p] 0 (byL p) (by simp [fs1, hi]) rfl
  have := (vr_list_len hu).1
  rwa [by1_length] at this
end Go.Proofs.Ytmpmhkjfpeagkaa
