/- A law's arguments as data: elements, nested to whatever depth. No function of the program is named here. -/
import Derived.Test.YtejlbkhddehaiaaQa
import Derived.Deep.Slices
namespace Go.Proofs.Ytejlbkhddehaiaa
open Go.RowKit Go.Deep

inductive El where
  | mk (id ext : UInt8) (data : List UInt8) (subs : List El)
noncomputable section
mutual
def elD : El → List DV
  | .mk i e d s => [i8 i, i8 e, byL d, .list 4 (elR s)]
def elR : List El → List (List DV)
  | [] => []
  | x :: l => elD x :: elR l
end
def elsD (l : List El) : DV := .list 4 (elR l)
theorem elR_length : ∀ (l : List El), (elR l).length = l.length
  | [] => rfl
  | x :: l => by simp [elR, elR_length l]
theorem elR_get : ∀ {l : List El} {i : Nat} {cs : List DV}, (elR l)[i]? = some cs → ∃ x, l[i]? = some x ∧ cs = elD x
  | [], i, cs, h => by simp [elR] at h
  | x :: l, 0, cs, h => by
    simp [elR] at h
    exact ⟨x, rfl, h.symm⟩
  | x :: l, i + 1, cs, h => by
    simp only [elR, List.getElem?_cons_succ] at h
    obtain ⟨y, h1, h2⟩ := elR_get h
    exact ⟨y, by simpa using h1, h2⟩
theorem elD_length (x : El) : (elD x).length = 4 := by
  obtain ⟨i, e, d, s⟩ := x
  rfl
theorem elD_scals (x : El) : scals (elD x) = true := by
  obtain ⟨i, e, d, s⟩ := x
  rfl
theorem vr_u8 {w : World} {S : Nat → Prop} {n : Int} (h : (Lit.int .u8 n).wf = true) : VR w (ro S) (i8 (UInt8.ofNat n.toNat)) (.int .u8 n) := by
  have : (0 : Int) ≤ n ∧ n ≤ 255 := by simpa [Lit.wf, IntKind.min, IntKind.max, IntKind.signed, IntKind.bits] using h
  have e : i8 (UInt8.ofNat n.toNat) = .int .u8 n := by
    rw [i8, UInt8.toNat_ofNat_of_lt' (show n.toNat < 256 by omega), Int.toNat_of_nonneg this.1]
  rw [e]
  exact .int _ _ _
mutual
/-- lengths are lengths -/
def okE : El → Prop
  | .mk _ _ d s => d.length < 2 ^ 63 ∧ s.length < 2 ^ 63 ∧ okL s
def okL : List El → Prop
  | [] => True
  | x :: l => okE x ∧ okL l
end
theorem okL_at : ∀ {l : List El} {j : Nat} {x : El}, okL l → l[j]? = some x → okE x
  | [], _, _, _, h => by simp at h
  | y :: l, 0, x, ho, h => by
    simp at h
    subst h
    exact ho.1
  | y :: l, j + 1, x, ho, h => okL_at (l := l) (j := j) ho.2 (by simpa using h)
theorem okL_of : ∀ {l : List El}, (∀ (i : Nat) (x : El), l[i]? = some x → okE x) → okL l
  | [], _ => trivial
  | x :: l, h => ⟨h 0 x rfl, okL_of fun i y hy => h (i + 1) y (by simpa using hy)⟩
theorem len4 {α : Type} {l : List α} (h : l.length = 4) : ∃ a b c d, l = [a, b, c, d] := by
  match l, h with
  | [a, b, c, d], _ => exact ⟨a, b, c, d, rfl⟩
section
variable {H : Type} {enc : TypeId × Value → H} {w : World} {base : Nat} {spare : Nat → Bool} {held : Bool}
/-- an element, its parts being read as data -/
theorem vr_el {n : Nat} {cs : List Value} {x : DataW H × List MemPlace} (h : DataW.trod enc Try.prog w base spare held n 174 cs = some x)
    (ih : ∀ (fuel : Nat) (cs : List Value) (y : DataW H × List MemPlace), SizeOf.sizeOf y.1 < SizeOf.sizeOf x.1 → DataW.trod enc Try.prog w base spare held fuel 24 cs = some y → ∃ l v, cs = [v] ∧ (l.length < 2 ^ 63 ∧ okL l) ∧ VR w (ro (· < w.heap.size)) (elsD l) v) :
    ∃ e v0 v1 v2 v3, cs = [v0, v1, v2, v3] ∧ okE e ∧ VRs (ro (· < w.heap.size)) w (elD e) [v0, v1, v2, v3] := by
  obtain ⟨xs, m, rfl, rfl, hl, hxl, hf⟩ := DataW.trod_struct Try.underlying174 h
  have hc : Try.prog.cellsOf 174 = 4 := by kernel_rfl
  have c1 : Try.prog.cellsOf 5 = 1 := by kernel_rfl
  have c2 : Try.prog.cellsOf 37 = 1 := by kernel_rfl
  have c3 : Try.prog.cellsOf 24 = 1 := by kernel_rfl
  rw [hc] at hl
  obtain ⟨v0, v1, v2, v3, rfl⟩ := len4 hl
  obtain ⟨y0, y1, y2, y3, rfl⟩ := len4 (show xs.length = 4 from hxl)
  have q0 : DataW.trod enc Try.prog w base spare held m 5 (([v0, v1, v2, v3].drop 0).take (Try.prog.cellsOf 5)) = some y0 := hf 0 _ rfl
  have q1 : DataW.trod enc Try.prog w base spare held m 5 (([v0, v1, v2, v3].drop 1).take (Try.prog.cellsOf 5)) = some y1 := hf 1 _ rfl
  have q2 : DataW.trod enc Try.prog w base spare held m 37 (([v0, v1, v2, v3].drop 2).take (Try.prog.cellsOf 37)) = some y2 := hf 2 _ rfl
  have q3 : DataW.trod enc Try.prog w base spare held m 24 (([v0, v1, v2, v3].drop 3).take (Try.prog.cellsOf 24)) = some y3 := hf 3 _ rfl
  clear hf
  rw [c1] at q0 q1
  rw [c2] at q2
  rw [c3] at q3
  obtain ⟨n0, e0, _, w0⟩ := DataW.trod_int Try.underlying5 q0
  obtain ⟨n1, e1, _, w1⟩ := DataW.trod_int Try.underlying5 q1
  obtain ⟨a, A, k, c, e2, r2⟩ := opensBytes.2 q2
  obtain ⟨l, v, e3, o3, r3⟩ := ih m _ y3 (by simp only [List.map_cons, List.map_nil, DataW.agg.sizeOf_spec, List.cons.sizeOf_spec]; omega) q3
  simp at e0 e1 e2 e3
  subst e0 e1 e2 e3
  exact ⟨.mk (UInt8.ofNat n0.toNat) (UInt8.ofNat n1.toNat) (a.map UInt8.ofNat) l, _, _, _, _, rfl, ⟨by rw [List.length_map, r2.2.2.2.1]; have := r2.1; have := r2.2.1; unfold maxLen at *; omega, o3⟩, .cons (vr_u8 w0) (.cons (vr_u8 w1) (.cons (vr_bytesA ⟨A, k, c, rfl, r2⟩) (.cons r3 (.nil _ _))))⟩
/-- elements, nested to whatever depth -/
theorem vr_els : ∀ (m fuel : Nat) (cs : List Value) (x : DataW H × List MemPlace), SizeOf.sizeOf x.1 < m → DataW.trod enc Try.prog w base spare held fuel 24 cs = some x → ∃ l v, cs = [v] ∧ (l.length < 2 ^ 63 ∧ okL l) ∧ VR w (ro (· < w.heap.size)) (elsD l) v
  | 0, _, _, _, h, _ => absurd h (Nat.not_lt_zero _)
  | m + 1, fuel, cs, x, hm, h => by
    have hc : Try.prog.cellsOf 174 = 4 := by kernel_rfl
    rcases open_slice Try.underlying24 h with ⟨rfl, _⟩ | ⟨a, len, cap, mm, n, D, Pl, rfl, hb, hlc, hcm, hmm, rfl, hi⟩
    · exact ⟨[], _, rfl, ⟨by simp, trivial⟩, .list _ 4 [] none 0 0 0 (fun _ _ => undef) (Nat.zero_le _) (Nat.zero_le _) (fun _ => rfl) (fun h => absurd h (by simp)) (fun i cs h => by simp at h) (fun i cs j d h => by simp at h) (fun i cs j d h => by simp at h) (fun cs h => by simp at h)⟩
    have hlm : len ≤ mm := by rw [hmm]; split <;> omega
    rw [hc] at hi
    have hel : ∀ i, i < len → ∃ e v0 v1 v2 v3, okE e ∧ VRs (ro (· < w.heap.size)) w (elD e) [v0, v1, v2, v3] ∧ ∀ (j : Nat) (u : Value), [v0, v1, v2, v3][j]? = some u → w.cell? ((a.add (i * 4)).add j) = some u := fun i hil => by
      obtain ⟨cs', hc', ht'⟩ := hi i (by omega)
      obtain ⟨_, hcl, hat⟩ := World.cells?_some hc'
      have hsz : SizeOf.sizeOf (D i) < m := by
        have h1 : D i ∈ (List.range len).map D := List.mem_map.2 ⟨i, List.mem_range.2 hil, rfl⟩
        have h2 := List.sizeOf_lt_of_mem h1
        have h3 := hm
        simp only [DataW.slice.sizeOf_spec] at h3
        omega
      obtain ⟨e, v0, v1, v2, v3, rfl, ho, hv⟩ := vr_el ht' fun fuel cs y hy hty => vr_els m fuel cs y (Nat.lt_trans hy hsz) hty
      refine ⟨e, v0, v1, v2, v3, ho, hv, fun j u hu => ?_⟩
      have hj : j < 4 := (List.getElem?_eq_some_iff.1 hu).1
      rw [hat j hj]
      exact hu
    have hbuild : ∀ k, k ≤ len → ∃ ys : List El, ys.length = k ∧ ∀ (i : Nat) (y : El), ys[i]? = some y → ∃ v0 v1 v2 v3, okE y ∧ VRs (ro (· < w.heap.size)) w (elD y) [v0, v1, v2, v3] ∧ ∀ (j : Nat) (u : Value), [v0, v1, v2, v3][j]? = some u → w.cell? ((a.add (i * 4)).add j) = some u := by
      intro k
      induction k with
      | zero => exact fun _ => ⟨[], rfl, fun i y h => by simp at h⟩
      | succ k ih =>
        intro hk
        obtain ⟨ys, hy, hys⟩ := ih (by omega)
        obtain ⟨y, v⟩ := hel k (by omega)
        refine ⟨ys ++ [y], by simp [hy], fun i z hz => ?_⟩
        rcases Nat.lt_or_ge i k with hlt | hge
        · exact hys i z (by rwa [List.getElem?_append_left (by omega)] at hz)
        · rw [List.getElem?_append_right (by omega)] at hz
          have hik : i = k := by
            have := (List.getElem?_eq_some_iff.1 hz).1
            simp at this
            omega
          subst hik
          simp [hy] at hz
          subst hz
          exact v
    obtain ⟨ys, hyl, hys⟩ := hbuild len (Nat.le_refl _)
    have hrl : (elR ys).length = len := by rw [elR_length, hyl]
    refine ⟨ys, _, rfl, ⟨by rw [hyl]; unfold maxLen at hcm; omega, okL_of fun i y hy => by
      obtain ⟨_, _, _, _, ho, _⟩ := hys i y hy
      exact ho⟩, ?_⟩
    show VR w _ (.list 4 (elR ys)) _
    rw [← hrl]
    rcases Nat.eq_zero_or_pos len with h0 | hpos
    · have he : elR ys = [] := List.eq_nil_of_length_eq_zero (by omega)
      rw [he]
      exact .list _ 4 [] (some a) cap 0 0 (fun _ _ => undef) (Nat.zero_le _) hcm (fun h => by cases h) (fun h => absurd h (by simp)) (fun i cs h => by simp at h) (fun i cs j d h => by simp at h) (fun i cs j d h => by simp at h) (fun cs h => by simp at h)
    obtain ⟨u0, u1, u2, u3, _, _, hu⟩ := hys 0 _ (List.getElem?_eq_getElem (by omega))
    have hc0 := hu 0 _ rfl
    have hspot : a.spot = none := by
      have := World.cell?_spot hc0
      simpa [Addr.add] using this
    obtain ⟨b, off, sp⟩ := a
    subst hspot
    have hbw : b < w.heap.size := by
      have := cell_lt hc0
      simpa [Addr.add] using this
    have row : ∀ (i : Nat) (cs : List DV), (elR ys)[i]? = some cs → ∃ (y : El) (vs : List Value), cs = elD y ∧ VRs (ro (· < w.heap.size)) w (elD y) vs ∧ ∀ (j : Nat) (u : Value), vs[j]? = some u → w.cell? ⟨b, off + (i * 4 + j), none⟩ = some u := fun i cs hi => by
      obtain ⟨y, h1, rfl⟩ := elR_get hi
      obtain ⟨v0, v1, v2, v3, _, h2, h3⟩ := hys i y h1
      exact ⟨y, _, rfl, h2, fun j u hu => by
        have := h3 j u hu
        rwa [add_add'] at this⟩
    refine .list _ 4 _ (some ⟨b, off, none⟩) cap b off (fun i j => (w.cell? ⟨b, off + (i * 4 + j), none⟩).getD undef) (by omega) hcm (fun h => by cases h) (fun _ => ⟨rfl, hbw⟩) (fun i cs hi => ?_) (fun i cs j d hi hj => ?_) (fun i cs j d hi hj => ?_) (fun cs hcs => ?_)
    · obtain ⟨y, vs, rfl, _⟩ := row i cs hi
      exact elD_length y
    · obtain ⟨y, vs, rfl, h7, h8⟩ := row i cs hi
      obtain ⟨v, hv1, hv2⟩ := h7.get hj
      rw [h8 j v hv1]
      rfl
    · obtain ⟨y, vs, rfl, h7, h8⟩ := row i cs hi
      obtain ⟨v, hv1, hv2⟩ := h7.get hj
      show VR _ _ _ ((w.cell? ⟨b, off + (i * 4 + j), none⟩).getD undef)
      rw [h8 j v hv1]
      exact hv2
    · obtain ⟨i, hi⟩ := List.mem_iff_getElem?.1 hcs
      obtain ⟨y, vs, rfl, _⟩ := row i cs hi
      exact elD_scals y
end
end
end Go.Proofs.Ytejlbkhddehaiaa
