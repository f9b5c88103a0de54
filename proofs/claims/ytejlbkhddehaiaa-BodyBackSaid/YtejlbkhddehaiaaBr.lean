/- A law's arguments as data: requests for association. No function of the program is named here. -/
import Derived.Test.YtejlbkhddehaiaaVe
import Derived.OpenShut
namespace Go.Proofs.Ytejlbkhddehaiaa
open Go.RowKit Go.Deep

/-- a request's parts -/
structure Rq where
  c : Nat
  l : Nat
  o0 : UInt8
  o1 : UInt8
  o2 : UInt8
  o3 : UInt8
  o4 : UInt8
  o5 : UInt8
  es : List El
noncomputable section
abbrev w16 (n : Nat) : DV := .int .u16 (n : Int)
abbrev rqC (c l : Nat) (o0 o1 o2 o3 o4 o5 : UInt8) (e : DV) : List DV := [w16 c, w16 l, i8 o0, i8 o1, i8 o2, i8 o3, i8 o4, i8 o5, e]
def rqD (x : Rq) : DV := .agg (rqC x.c x.l x.o0 x.o1 x.o2 x.o3 x.o4 x.o5 (elsD x.es))
def okRq (x : Rq) : Prop := x.c < 65536 ∧ x.l < 65536 ∧ x.es.length < 2 ^ 63 ∧ okL x.es
theorem len9 {α : Type} {l : List α} (h : l.length = 9) : ∃ a b c d e f g h i, l = [a, b, c, d, e, f, g, h, i] := by
  match l, h with
  | [a, b, c, d, e, f, g, h, i], _ => exact ⟨a, b, c, d, e, f, g, h, i, rfl⟩
theorem len6 {α : Type} {l : List α} (h : l.length = 6) : ∃ a b c d e f, l = [a, b, c, d, e, f] := by
  match l, h with
  | [a, b, c, d, e, f], _ => exact ⟨a, b, c, d, e, f, rfl⟩
theorem vr_u16 {w : World} {S : Nat → Prop} {n : Int} (h : (Lit.int .u16 n).wf = true) : n.toNat < 65536 ∧ VR w (ro S) (w16 n.toNat) (.int .u16 n) := by
  have : (0 : Int) ≤ n ∧ n ≤ 65535 := by simpa [Lit.wf, IntKind.min, IntKind.max, IntKind.signed, IntKind.bits] using h
  have e : w16 n.toNat = .int .u16 n := by rw [w16, Int.toNat_of_nonneg this.1]
  rw [e]
  exact ⟨by omega, .int _ _ _⟩
section
variable {H : Type} {enc : TypeId × Value → H} {w : World} {base : Nat} {spare : Nat → Bool} {held : Bool}
theorem vr_o8 {m : Nat} {v : Value} {y : DataW H × List MemPlace} {S : Nat → Prop} (q : DataW.trod enc Try.prog w base spare held m 5 [v] = some y) : ∃ c : UInt8, VR w (ro S) (i8 c) v := by
  obtain ⟨n0, e0, _, w0⟩ := DataW.trod_int Try.underlying5 q
  simp at e0
  subst e0
  exact ⟨_, vr_u8 w0⟩
theorem vr_rq {n : Nat} {cs : List Value} {x : DataW H × List MemPlace} (h : DataW.trod enc Try.prog w base spare held n 32 cs = some x) : ∃ r, okRq r ∧ VR w (ro (· < w.heap.size)) (rqD r) (.agg cs.toArray) := by
  obtain ⟨xs, m, rfl, rfl, hl, hxl, hf⟩ := DataW.trod_struct Try.underlying32 h
  have hc : Try.prog.cellsOf 32 = 9 := by kernel_rfl
  have c0 : Try.prog.cellsOf 23 = 1 := by kernel_rfl
  have c1 : Try.prog.cellsOf 5 = 1 := by kernel_rfl
  have c2 : Try.prog.cellsOf 30 = 6 := by kernel_rfl
  have c3 : Try.prog.cellsOf 24 = 1 := by kernel_rfl
  rw [hc] at hl
  obtain ⟨v0, v1, v2, v3, v4, v5, v6, v7, v8, rfl⟩ := len9 hl
  obtain ⟨y0, y1, y2, y3, rfl⟩ := len4 (show xs.length = 4 from hxl)
  have q0 : DataW.trod enc Try.prog w base spare held m 23 (([v0, v1, v2, v3, v4, v5, v6, v7, v8].drop 0).take (Try.prog.cellsOf 23)) = some y0 := hf 0 _ rfl
  have q1 : DataW.trod enc Try.prog w base spare held m 23 (([v0, v1, v2, v3, v4, v5, v6, v7, v8].drop 1).take (Try.prog.cellsOf 23)) = some y1 := hf 1 _ rfl
  have q2 : DataW.trod enc Try.prog w base spare held m 30 (([v0, v1, v2, v3, v4, v5, v6, v7, v8].drop 2).take (Try.prog.cellsOf 30)) = some y2 := hf 2 _ rfl
  have q3 : DataW.trod enc Try.prog w base spare held m 24 (([v0, v1, v2, v3, v4, v5, v6, v7, v8].drop 8).take (Try.prog.cellsOf 24)) = some y3 := hf 3 _ rfl
  clear hf
  rw [c0] at q0 q1
  rw [c2] at q2
  rw [c3] at q3
  obtain ⟨n0, e0, _, w0⟩ := DataW.trod_int Try.underlying23 q0
  obtain ⟨n1, e1, _, w1⟩ := DataW.trod_int Try.underlying23 q1
  obtain ⟨us, k, _, _, _, hu, hg⟩ := DataW.trod_array Try.underlying30 q2
  rw [c1] at hg
  obtain ⟨z0, z1, z2, z3, z4, z5, rfl⟩ := len6 hu
  obtain ⟨o0, p0⟩ := vr_o8 (S := (· < w.heap.size)) (hg 0 (by decide))
  obtain ⟨o1, p1⟩ := vr_o8 (S := (· < w.heap.size)) (hg 1 (by decide))
  obtain ⟨o2, p2⟩ := vr_o8 (S := (· < w.heap.size)) (hg 2 (by decide))
  obtain ⟨o3, p3⟩ := vr_o8 (S := (· < w.heap.size)) (hg 3 (by decide))
  obtain ⟨o4, p4⟩ := vr_o8 (S := (· < w.heap.size)) (hg 4 (by decide))
  obtain ⟨o5, p5⟩ := vr_o8 (S := (· < w.heap.size)) (hg 5 (by decide))
  obtain ⟨l, v, e3, o3', r3⟩ := vr_els _ m _ _ (Nat.lt_succ_self _) q3
  simp at e0 e1 e3
  subst e0 e1 e3
  exact ⟨⟨n0.toNat, n1.toNat, o0, o1, o2, o3, o4, o5, l⟩, ⟨(vr_u16 (S := fun _ => False) (w := w) w0).1, (vr_u16 (S := fun _ => False) (w := w) w1).1, o3'⟩, VRs.agg (.cons (vr_u16 w0).2 (.cons (vr_u16 w1).2 (.cons p0 (.cons p1 (.cons p2 (.cons p3 (.cons p4 (.cons p5 (.cons r3 (.nil _ _))))))))))⟩
end
end
end Go.Proofs.Ytejlbkhddehaiaa
