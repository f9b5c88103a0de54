/- Arguments of 16 bits each. -/
import Derived.Test.YtcllanmickbkpaaHM1
import Derived.Test.YtcllanmickbkpaaNB
namespace Go.Proofs.Ytcllanmickbkpaa
open Go.RowKit

noncomputable section
theorem mul8 {n : Nat} (h : n < 2 ^ 40) : DV.int .i64 (IntKind.i64.wrap (8 * (n : Int))) = iN (8 * n) := by
  rw [show (8 * (n : Int)) = ((8 * n : Nat) : Int) by omega, wrapI (by omega)]
  rfl
theorem rem_n {a n : Nat} (h : n ≠ 0) : binD tab .rem 3 (iN a) (iN n) = some (iN (a % n)) := by
  have hn : ((n : Int) != 0) = true := by
    rw [bne_iff_ne]
    omega
  simp only [binD, iN, isShift, binI, hn, guardO]
  rfl
theorem eq0 {n : Nat} (h : n ≠ 0) : ((n : Int) == 0) = false := by
  rw [beq_eq_false_iff_ne]
  omega
def w16s (vs : List Nat) : List (List DV) := vs.map fun (v : Nat) => [.int .u16 (v : Int)]
theorem w16s_length (vs : List Nat) : (w16s vs).length = vs.length := by simp [w16s]
theorem w16s_nth {vs : List Nat} {k v : Nat} (h : vs[k]? = some v) : nth (w16s vs) ((k : Int).toNat) = some [.int .u16 (v : Int)] := by
  rw [nth_eq, Int.toNat_natCast]
  simp [w16s, h]
theorem opens16 : Opens Try.prog 61 (Ty.slice (Ty.nat .u16)) := Opens.slice Try.underlying61 (by kernel_rfl) (Opens.nat rfl Try.underlying59 (by kernel_rfl)) (by decide)
theorem vr_16s {w : World} {S : Nat → Prop} {A : Option Addr} {n c : Nat} {a : List Nat} (r : (Ty.slice (Ty.nat .u16)).rep w S a [.slice A n c]) :
    VR w (ro S) (.list 1 (w16s a)) (.slice A n c) ∧ ∀ v ∈ a, v < 65536 := by
  obtain ⟨A', n', c', h0, h1, h2, h3, h4⟩ := rep_slice r
  cases h0
  have hwf := h4.ints_wf
  have hlt : ∀ x ∈ a, x < 65536 := fun x hx => by
    have := hwf x hx
    simp [Lit.wf, IntKind.min, IntKind.max, IntKind.signed, IntKind.bits] at this
    omega
  refine ⟨?_, hlt⟩
  have hlen := h4.len
  have hn : (w16s a).length = n := by rw [w16s_length, hlen]
  rcases Nat.eq_zero_or_pos n with h0 | hpos
  · have ha : a = [] := List.eq_nil_of_length_eq_zero (by omega)
    subst ha
    rw [← hn]
    exact .list _ 1 _ A c 0 0 (fun _ _ => undef) (Nat.zero_le _) h2 h3 (fun h => absurd h (by simp [w16s])) (fun i cs h => by simp [w16s] at h) (fun i cs j d h => by simp [w16s] at h) (fun i cs j d h => by simp [w16s] at h) (fun cs h => by simp [w16s] at h)
  · obtain ⟨b, off, rfl, hb, hc⟩ := h4.ints hpos
    have row : ∀ (i : Nat) (cs : List DV), (w16s a)[i]? = some cs → ∃ x, a[i]? = some x ∧ cs = [.int .u16 (x : Int)] := fun i cs hi => by
      simp only [w16s, List.getElem?_map, Option.map_eq_some_iff] at hi
      obtain ⟨x, hx, rfl⟩ := hi
      exact ⟨x, hx, rfl⟩
    rw [← hn]
    refine .list _ 1 _ (some ⟨b, off, none⟩) c b off (fun i _ => .int .u16 ((a.getD i 0 : Nat) : Int)) (by omega) h2 (fun h => by cases h) (fun _ => ⟨rfl, hb⟩) (fun i cs hi => ?_) (fun i cs j d hi hj => ?_) (fun i cs j d hi hj => ?_) (fun cs hcs => ?_)
    · obtain ⟨x, _, rfl⟩ := row i cs hi
      rfl
    · obtain ⟨x, hx, rfl⟩ := row i cs hi
      cases j with
      | zero =>
        have := hc i x hx
        simpa [List.getD, hx] using this
      | succ j => simp at hj
    · obtain ⟨x, hx, rfl⟩ := row i cs hi
      cases j with
      | zero =>
        simp at hj
        subst hj
        simp only [List.getD, hx, Option.getD_some]
        exact .int _ _ _
      | succ j => simp at hj
    · obtain ⟨i, hi⟩ := List.mem_iff_getElem?.1 hcs
      obtain ⟨x, _, rfl⟩ := row i cs hi
      rfl
end
end Go.Proofs.Ytcllanmickbkpaa
