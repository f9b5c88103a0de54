/- A law's arguments as data: packets. No function of the program is named here. -/
import Derived.Test.YtmpmhkjfpeagkaaKr
import Derived.Deep.Slices
import Derived.OpenShut
namespace Go.Proofs.Ytmpmhkjfpeagkaa
open Go.RowKit Go.Deep

/-- a packet's parts -/
structure Pk where
  t0 : UInt8
  t1 : UInt8
  t2 : UInt8
  t3 : UInt8
  t4 : UInt8
  t5 : UInt8
  f0 : UInt8
  f1 : UInt8
  f2 : UInt8
  f3 : UInt8
  f4 : UInt8
  f5 : UInt8
  d : List UInt8
noncomputable section
def adr (p : Pk) : List UInt8 := [p.t0, p.t1, p.t2, p.t3, p.t4, p.t5, p.f0, p.f1, p.f2, p.f3, p.f4, p.f5]
def pkD (p : Pk) : List DV := [i8 p.t0, i8 p.t1, i8 p.t2, i8 p.t3, i8 p.t4, i8 p.t5, i8 p.f0, i8 p.f1, i8 p.f2, i8 p.f3, i8 p.f4, i8 p.f5, byL p.d]
def pkR (l : List Pk) : List (List DV) := l.map pkD
def pksD (l : List Pk) : DV := .list 13 (pkR l)
theorem pkR_length (l : List Pk) : (pkR l).length = l.length := by simp [pkR]
theorem pkR_nth {l : List Pk} {k : Nat} {p : Pk} (h : l[k]? = some p) : nth (pkR l) ((k : Int).toNat) = some (pkD p) := by
  rw [nth_eq, Int.toNat_natCast]
  simp [pkR, h]
theorem pkD_inj {p q : Pk} (h : pkD p = pkD q) : p = q := by
  obtain ⟨t0, t1, t2, t3, t4, t5, f0, f1, f2, f3, f4, f5, d⟩ := p
  obtain ⟨g0, g1, g2, g3, g4, g5, g6, g7, g8, g9, g10, g11, e⟩ := q
  simp only [pkD, List.cons.injEq, and_true, byL, DV.list.injEq, true_and] at h
  obtain ⟨h0, h1, h2, h3, h4, h5, h6, h7, h8, h9, h10, h11, h⟩ := h
  rw [i8_inj h0, i8_inj h1, i8_inj h2, i8_inj h3, i8_inj h4, i8_inj h5, i8_inj h6, i8_inj h7, i8_inj h8, i8_inj h9, i8_inj h10, i8_inj h11, by1_inj h]
theorem pkR_inj : ∀ {a b : List Pk}, pkR a = pkR b → a = b
  | [], [], _ => rfl
  | [], _ :: _, h => by cases h
  | _ :: _, [], h => by cases h
  | a :: l, b :: m, h => by
    simp only [pkR, List.map_cons, List.cons.injEq] at h
    rw [pkD_inj h.1, pkR_inj h.2]
theorem pksD_inj {a b : List Pk} (h : pksD a = pksD b) : a = b := by
  unfold pksD at h
  injection h with _ h
  exact pkR_inj h
theorem vr_u8 {w : World} {S : Nat → Prop} {n : Int} (h : (Lit.int .u8 n).wf = true) : VR w (ro S) (i8 (UInt8.ofNat n.toNat)) (.int .u8 n) := by
  have : (0 : Int) ≤ n ∧ n ≤ 255 := by simpa [Lit.wf, IntKind.min, IntKind.max, IntKind.signed, IntKind.bits] using h
  have e : i8 (UInt8.ofNat n.toNat) = .int .u8 n := by
    rw [i8, UInt8.toNat_ofNat_of_lt' (show n.toNat < 256 by omega), Int.toNat_of_nonneg this.1]
  rw [e]
  exact .int _ _ _
theorem len13 {α : Type} {l : List α} (h : l.length = 13) : ∃ v0 v1 v2 v3 v4 v5 v6 v7 v8 v9 v10 v11 v12, l = [v0, v1, v2, v3, v4, v5, v6, v7, v8, v9, v10, v11, v12] := by
  match l, h with
  | [v0, v1, v2, v3, v4, v5, v6, v7, v8, v9, v10, v11, v12], _ => exact ⟨v0, v1, v2, v3, v4, v5, v6, v7, v8, v9, v10, v11, v12, rfl⟩
theorem len6 {α : Type} {l : List α} (h : l.length = 6) : ∃ a b c d e f, l = [a, b, c, d, e, f] := by
  match l, h with
  | [a, b, c, d, e, f], _ => exact ⟨a, b, c, d, e, f, rfl⟩
theorem len3 {α : Type} {l : List α} (h : l.length = 3) : ∃ a b c, l = [a, b, c] := by
  match l, h with
  | [a, b, c], _ => exact ⟨a, b, c, rfl⟩
theorem vrs_app {E : Env} {w : World} {a b : List DV} : ∀ {us vs : List Value}, VRs E w a us → VRs E w b vs → VRs E w (a ++ b) (us ++ vs) := by
  induction a with
  | nil =>
    intro us vs h k
    rw [h.unnil]
    exact k
  | cons d a ih =>
    intro us vs h k
    obtain ⟨v, us', rfl, h1, h2⟩ := h.uncons
    exact .cons h1 (ih h2 k)
def okPk (p : Pk) : Prop := p.d.length < 2 ^ 63
section
variable {H : Type} {enc : TypeId × Value → H} {w : World} {base : Nat} {spare : Nat → Bool} {held : Bool}
theorem vr_o8 {m : Nat} {v : Value} {y : DataW H × List MemPlace} {S : Nat → Prop} (q : DataW.trod enc Try.prog w base spare held m 5 [v] = some y) : ∃ c : UInt8, VR w (ro S) (i8 c) v := by
  obtain ⟨n0, e0, _, w0⟩ := DataW.trod_int Try.underlying5 q
  simp at e0
  subst e0
  exact ⟨_, vr_u8 w0⟩
theorem vr_a6 {m : Nat} {cs : List Value} {y : DataW H × List MemPlace} {S : Nat → Prop} (hl : ∃ a b c d e f, cs = [a, b, c, d, e, f]) (q : DataW.trod enc Try.prog w base spare held m 28 cs = some y) : ∃ o0 o1 o2 o3 o4 o5 : UInt8, VRs (ro S) w [i8 o0, i8 o1, i8 o2, i8 o3, i8 o4, i8 o5] cs := by
  obtain ⟨a, b, c, d, e, f, rfl⟩ := hl
  have c1 : Try.prog.cellsOf 5 = 1 := by kernel_rfl
  obtain ⟨us, k, _, _, _, hu, hg⟩ := DataW.trod_array Try.underlying28 q
  rw [c1] at hg
  obtain ⟨z0, z1, z2, z3, z4, z5, rfl⟩ := len6 hu
  obtain ⟨o0, p0⟩ := vr_o8 (S := S) (hg 0 (by decide))
  obtain ⟨o1, p1⟩ := vr_o8 (S := S) (hg 1 (by decide))
  obtain ⟨o2, p2⟩ := vr_o8 (S := S) (hg 2 (by decide))
  obtain ⟨o3, p3⟩ := vr_o8 (S := S) (hg 3 (by decide))
  obtain ⟨o4, p4⟩ := vr_o8 (S := S) (hg 4 (by decide))
  obtain ⟨o5, p5⟩ := vr_o8 (S := S) (hg 5 (by decide))
  exact ⟨o0, o1, o2, o3, o4, o5, .cons p0 (.cons p1 (.cons p2 (.cons p3 (.cons p4 (.cons p5 (.nil _ _))))))⟩
theorem vr_pk {n : Nat} {cs : List Value} {x : DataW H × List MemPlace} (h : DataW.trod enc Try.prog w base spare held n 30 cs = some x) :
    ∃ p, cs.length = 13 ∧ okPk p ∧ VRs (ro (· < w.heap.size)) w (pkD p) cs := by
  obtain ⟨xs, m, rfl, rfl, hl, hxl, hf⟩ := DataW.trod_struct Try.underlying30 h
  have hc : Try.prog.cellsOf 30 = 13 := by kernel_rfl
  have c2 : Try.prog.cellsOf 28 = 6 := by kernel_rfl
  have c3 : Try.prog.cellsOf 22 = 1 := by kernel_rfl
  rw [hc] at hl
  obtain ⟨v0, v1, v2, v3, v4, v5, v6, v7, v8, v9, v10, v11, v12, rfl⟩ := len13 hl
  obtain ⟨y0, y1, y2, rfl⟩ := len3 (show xs.length = 3 from hxl)
  have q0 : DataW.trod enc Try.prog w base spare held m 28 (([v0, v1, v2, v3, v4, v5, v6, v7, v8, v9, v10, v11, v12].drop 0).take (Try.prog.cellsOf 28)) = some y0 := hf 0 _ rfl
  have q1 : DataW.trod enc Try.prog w base spare held m 28 (([v0, v1, v2, v3, v4, v5, v6, v7, v8, v9, v10, v11, v12].drop 6).take (Try.prog.cellsOf 28)) = some y1 := hf 1 _ rfl
  have q2 : DataW.trod enc Try.prog w base spare held m 22 (([v0, v1, v2, v3, v4, v5, v6, v7, v8, v9, v10, v11, v12].drop 12).take (Try.prog.cellsOf 22)) = some y2 := hf 2 _ rfl
  clear hf
  rw [c2] at q0 q1
  rw [c3] at q2
  obtain ⟨a0, a1, a2, a3, a4, a5, r0⟩ := vr_a6 (S := (· < w.heap.size)) ⟨_, _, _, _, _, _, rfl⟩ q0
  obtain ⟨b0, b1, b2, b3, b4, b5, r1⟩ := vr_a6 (S := (· < w.heap.size)) ⟨_, _, _, _, _, _, rfl⟩ q1
  obtain ⟨a, A, k, c, e2, r2⟩ := opensBytes.2 q2
  have hd : (a.map UInt8.ofNat).length < 2 ^ 63 := by rw [List.length_map, r2.2.2.2.1]; have := r2.1; have := r2.2.1; unfold maxLen at *; omega
  simp at e2
  subst e2
  obtain ⟨w0, s0, e0, p0, r0⟩ := r0.uncons
  cases e0
  obtain ⟨w1, s1, e1, p1, r0⟩ := r0.uncons
  cases e1
  obtain ⟨w2, s2, e2, p2, r0⟩ := r0.uncons
  cases e2
  obtain ⟨w3, s3, e3, p3, r0⟩ := r0.uncons
  cases e3
  obtain ⟨w4, s4, e4, p4, r0⟩ := r0.uncons
  cases e4
  obtain ⟨w5, s5, e5, p5, _⟩ := r0.uncons
  cases e5
  exact ⟨⟨a0, a1, a2, a3, a4, a5, b0, b1, b2, b3, b4, b5, a.map UInt8.ofNat⟩, rfl, hd, .cons p0 (.cons p1 (.cons p2 (.cons p3 (.cons p4 (.cons p5 (vrs_app r1 (.cons (vr_bytesA ⟨A, k, c, rfl, r2⟩) (.nil _ _))))))))⟩
theorem vr_pks {fuel : Nat} {cs : List Value} {x : DataW H × List MemPlace} (h : DataW.trod enc Try.prog w base spare held fuel 26 cs = some x) : ∃ l v, cs = [v] ∧ (l.length < 2 ^ 63 ∧ ∀ p ∈ l, okPk p) ∧ VR w (ro (· < w.heap.size)) (pksD l) v := by
  have hc : Try.prog.cellsOf 30 = 13 := by kernel_rfl
  rcases open_slice Try.underlying26 h with ⟨rfl, _⟩ | ⟨a, len, cap, mm, n, D, Pl, rfl, hb, hlc, hcm, hmm, rfl, hi⟩
  · exact ⟨[], _, rfl, ⟨by simp, (fun y h => (by cases h))⟩, .list _ 13 [] none 0 0 0 (fun _ _ => undef) (Nat.zero_le _) (Nat.zero_le _) (fun _ => rfl) (fun h => absurd h (by simp)) (fun i cs h => by simp at h) (fun i cs j d h => by simp at h) (fun i cs j d h => by simp at h) (fun cs h => by simp at h)⟩
  have hlm : len ≤ mm := by rw [hmm]; split <;> omega
  rw [hc] at hi
  have hel : ∀ i, i < len → ∃ (e : Pk) (vs : List Value), okPk e ∧ VRs (ro (· < w.heap.size)) w (pkD e) vs ∧ ∀ (j : Nat) (u : Value), vs[j]? = some u → w.cell? ((a.add (i * 13)).add j) = some u := fun i hil => by
    obtain ⟨cs', hc', ht'⟩ := hi i (by omega)
    obtain ⟨_, hcl, hat⟩ := World.cells?_some hc'
    obtain ⟨e, hl13, ho, hv⟩ := vr_pk ht'
    refine ⟨e, _, ho, hv, fun j u hu => ?_⟩
    have hj : j < 13 := by
      have := (List.getElem?_eq_some_iff.1 hu).1
      omega
    rw [hat j hj]
    exact hu
  have hbuild : ∀ k, k ≤ len → ∃ ys : List Pk, ys.length = k ∧ ∀ (i : Nat) (y : Pk), ys[i]? = some y → ∃ vs : List Value, okPk y ∧ VRs (ro (· < w.heap.size)) w (pkD y) vs ∧ ∀ (j : Nat) (u : Value), vs[j]? = some u → w.cell? ((a.add (i * 13)).add j) = some u := by
    intro k
    induction k with
    | zero => exact fun _ => ⟨[], rfl, fun i y h => by simp at h⟩
    | succ k ih =>
      intro hk
      obtain ⟨ys, hy, hys⟩ := ih (by omega)
      obtain ⟨y, v⟩ := hel k (by omega)
      refine ⟨ys ++ [y], by simp [hy], fun i z hz => ?_⟩
      rcases Nat.lt_or_ge i k with hlt | hge
      · exact hys i z (by rwa [List.getElem?_append_left (by omega)] at hz)
      · rw [List.getElem?_append_right (by omega)] at hz
        have hik : i = k := by
          have := (List.getElem?_eq_some_iff.1 hz).1
          simp at this
          omega
        subst hik
        simp [hy] at hz
        subst hz
        exact v
  obtain ⟨ys, hyl, hys⟩ := hbuild len (Nat.le_refl _)
  have hrl : (pkR ys).length = len := by rw [pkR_length, hyl]
  refine ⟨ys, _, rfl, ⟨by rw [hyl]; unfold maxLen at hcm; omega, fun y hy => by
      obtain ⟨i, hi⟩ := List.mem_iff_getElem?.1 hy
      obtain ⟨_, ho, _⟩ := hys i y hi
      exact ho⟩, ?_⟩
  show VR w _ (.list 13 (pkR ys)) _
  rw [← hrl]
  rcases Nat.eq_zero_or_pos len with h0 | hpos
  · have he : pkR ys = [] := List.eq_nil_of_length_eq_zero (by omega)
    rw [he]
    exact .list _ 13 [] (some a) cap 0 0 (fun _ _ => undef) (Nat.zero_le _) hcm (fun h => by cases h) (fun h => absurd h (by simp)) (fun i cs h => by simp at h) (fun i cs j d h => by simp at h) (fun i cs j d h => by simp at h) (fun cs h => by simp at h)
  obtain ⟨us, _, hvu, hu⟩ := hys 0 _ (List.getElem?_eq_getElem (by omega))
  obtain ⟨u0, us', rfl, _, _⟩ := hvu.uncons
  have hc0 := hu 0 _ rfl
  have hspot : a.spot = none := by
    have := World.cell?_spot hc0
    simpa [Addr.add] using this
  obtain ⟨b, off, sp⟩ := a
  subst hspot
  have hbw : b < w.heap.size := by
    have := cell_lt hc0
    simpa [Addr.add] using this
  have row : ∀ (i : Nat) (cs : List DV), (pkR ys)[i]? = some cs → ∃ (y : Pk) (vs : List Value), cs = pkD y ∧ VRs (ro (· < w.heap.size)) w (pkD y) vs ∧ ∀ (j : Nat) (u : Value), vs[j]? = some u → w.cell? ⟨b, off + (i * 13 + j), none⟩ = some u := fun i cs hi => by
    simp only [pkR, List.getElem?_map, Option.map_eq_some_iff] at hi
    obtain ⟨y, h1, rfl⟩ := hi
    obtain ⟨vs, _, h2, h3⟩ := hys i y h1
    exact ⟨y, _, rfl, h2, fun j u hu => by
      have := h3 j u hu
      rwa [add_add'] at this⟩
  refine .list _ 13 _ (some ⟨b, off, none⟩) cap b off (fun i j => (w.cell? ⟨b, off + (i * 13 + j), none⟩).getD undef) (by omega) hcm (fun h => by cases h) (fun _ => ⟨rfl, hbw⟩) (fun i cs hi => ?_) (fun i cs j d hi hj => ?_) (fun i cs j d hi hj => ?_) (fun cs hcs => ?_)
  · obtain ⟨y, vs, rfl, _⟩ := row i cs hi
    exact rfl
  · obtain ⟨y, vs, rfl, h7, h8⟩ := row i cs hi
    obtain ⟨v, hv1, hv2⟩ := h7.get hj
    rw [h8 j v hv1]
    rfl
  · obtain ⟨y, vs, rfl, h7, h8⟩ := row i cs hi
    obtain ⟨v, hv1, hv2⟩ := h7.get hj
    show VR _ _ _ ((w.cell? ⟨b, off + (i * 13 + j), none⟩).getD undef)
    rw [h8 j v hv1]
    exact hv2
  · obtain ⟨i, hi⟩ := List.mem_iff_getElem?.1 hcs
    obtain ⟨y, vs, rfl, _⟩ := row i cs hi
    exact rfl
end
end
end Go.Proofs.Ytmpmhkjfpeagkaa
