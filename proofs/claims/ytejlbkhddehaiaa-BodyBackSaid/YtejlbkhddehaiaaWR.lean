/- BodyBack's argument as data. -/
import Derived.Test.YtejlbkhddehaiaaWS
import Derived.Test.YtejlbkhddehaiaaRd
import Derived.Test.YtejlbkhddehaiaaVe
namespace Go.Proofs.Ytejlbkhddehaiaa
open Go.RowKit Go.Deep

noncomputable section
/-- the leaves: lists of elements -/
def glE (t : Nat) (ds : List DV) : Prop := t = 24 ∧ ∃ l : List El, ds = [elsD l] ∧ (l.length < 2 ^ 63 ∧ okL l)
abbrev aggS (l : List Sp) : Sp := .agg (l.foldr .cons .nil)
abbrev shEl : Sp := .leaf 24
abbrev shAl : Sp := .agg (.cons (.agg (.cons (.int .u64) (.cons (.int .u16) (.cons (.int .u16) (.cons shEl .nil)))))
  (.cons (.agg (.cons (.int .u16) (.cons (.int .u16) (.cons (.int .u16) (.cons shEl .nil)))))
  (.cons (.agg (.cons (.int .u16) (.cons (.int .u16) (.cons (.arr 6 (.int .u8)) (.cons shEl .nil)))))
  (.cons .bool
  (.cons (.agg (.cons (.int .u16) (.cons (.int .u16) (.cons (.int .i64) (.cons shEl .nil)))))
  (.cons (.agg (.cons (.int .u16) (.cons shEl .nil)))
  (.cons (.agg (.cons (.int .u8) (.cons (.int .u8) (.cons (.int .u8) (.cons (.sl (.int .u8)) .nil)))))
  (.cons (.agg (.cons (.int .i64) (.cons (.int .i64) .nil)))
  (.cons (.agg (.cons (.int .i64) (.cons (.int .i64) (.cons (.int .u64) .nil)))) .nil)))))))))
theorem shAl_ok : spOk Try.prog shAl 45 = true := by kernel_rfl
theorem u16_of {n : Int} (h : (Lit.int .u16 n).wf = true) : ∃ m : Nat, m < 65536 ∧ n = (m : Int) := by
  have : (0 : Int) ≤ n ∧ n ≤ 65535 := by simpa [Lit.wf, IntKind.min, IntKind.max, IntKind.signed, IntKind.bits] using h
  exact ⟨n.toNat, by omega, by omega⟩
theorem u64_of {n : Int} (h : (Lit.int .u64 n).wf = true) : ∃ m : Nat, m < 18446744073709551616 ∧ n = (m : Int) := by
  have : (0 : Int) ≤ n ∧ n ≤ 18446744073709551615 := by simpa [Lit.wf, IntKind.min, IntKind.max, IntKind.signed, IntKind.bits] using h
  exact ⟨n.toNat, by omega, by omega⟩
theorem u8_of {n : Int} (h : (Lit.int .u8 n).wf = true) : ∃ c : UInt8, n = (c.toNat : Int) := by
  have : (0 : Int) ≤ n ∧ n ≤ 255 := by simpa [Lit.wf, IntKind.min, IntKind.max, IntKind.signed, IntKind.bits] using h
  exact ⟨UInt8.ofNat n.toNat, by rw [UInt8.toNat_ofNat_of_lt' (show n.toNat < 256 by omega)]; omega⟩
theorem rows_bytes : ∀ {rows : List (List DV)}, (∀ r ∈ rows, Gd glE (.int .u8) r) → ∃ bs : List UInt8, rows = by1 bs
  | [], _ => ⟨[], rfl⟩
  | r :: rows, h => by
    obtain ⟨n, hr, w⟩ := h r (List.mem_cons_self ..)
    obtain ⟨c, rfl⟩ := u8_of w
    obtain ⟨bs, hb⟩ := rows_bytes fun q hq => h q (List.mem_cons_of_mem _ hq)
    exact ⟨c :: bs, by rw [hr, hb]; rfl⟩
def alD (x : Al) : DV := .agg (xC x)
theorem good_al {ds : List DV} (h : Gd glE shAl ds) : ∃ x, OkAl x ∧ ds = xC x := by
  obtain ⟨_, _, rfl, ⟨_, _, rfl, ⟨t, rfl, wt⟩, _, _, rfl, ⟨i, rfl, wi⟩, _, _, rfl, ⟨c, rfl, wc⟩, _, _, rfl, ⟨_, e0, rfl, oe0⟩, rfl⟩, _, _, rfl, ⟨_, _, rfl, ⟨a0, rfl, wa0⟩, _, _, rfl, ⟨a1, rfl, wa1⟩, _, _, rfl, ⟨a2, rfl, wa2⟩, _, _, rfl, ⟨_, e1, rfl, oe1⟩, rfl⟩,
    _, _, rfl, ⟨_, _, rfl, ⟨qc, rfl, wqc⟩, _, _, rfl, ⟨ql, rfl, wql⟩, _, _, rfl, ⟨rows, hrl, rfl, hr⟩, _, _, rfl, ⟨_, e2, rfl, oe2⟩, rfl⟩, _, _, rfl, ⟨ag, rfl⟩, _, _, rfl, ⟨_, _, rfl, ⟨r0, rfl, wr0⟩, _, _, rfl, ⟨r1, rfl, wr1⟩, _, _, rfl, ⟨r2, rfl, _⟩, _, _, rfl, ⟨_, e3, rfl, oe3⟩, rfl⟩,
    _, _, rfl, ⟨_, _, rfl, ⟨q, rfl, wq⟩, _, _, rfl, ⟨_, e4, rfl, oe4⟩, rfl⟩, _, _, rfl, ⟨_, _, rfl, ⟨k0, rfl, wk0⟩, _, _, rfl, ⟨k1, rfl, wk1⟩, _, _, rfl, ⟨k2, rfl, wk2⟩, _, _, rfl, ⟨da, rfl, _, hda⟩, rfl⟩, _, _, rfl, ⟨_, _, rfl, ⟨b0, rfl, _⟩, _, _, rfl, ⟨b1, rfl, _⟩, rfl⟩,
    _, _, rfl, ⟨_, _, rfl, ⟨c0, rfl, _⟩, _, _, rfl, ⟨c1, rfl, _⟩, _, _, rfl, ⟨m, rfl, wm⟩, rfl⟩, rfl⟩ := h
  obtain ⟨t, ht, rfl⟩ := u64_of wt
  obtain ⟨i, hi, rfl⟩ := u16_of wi
  obtain ⟨c, hc, rfl⟩ := u16_of wc
  obtain ⟨a0, ha0, rfl⟩ := u16_of wa0
  obtain ⟨a1, ha1, rfl⟩ := u16_of wa1
  obtain ⟨a2, ha2, rfl⟩ := u16_of wa2
  obtain ⟨qc, hqc, rfl⟩ := u16_of wqc
  obtain ⟨ql, hql, rfl⟩ := u16_of wql
  obtain ⟨bs, rfl⟩ := rows_bytes hr
  rw [by1_length] at hrl
  obtain ⟨o0, o1, o2, o3, o4, o5, rfl⟩ := len6 hrl
  obtain ⟨r0, hr0, rfl⟩ := u16_of wr0
  obtain ⟨r1, hr1, rfl⟩ := u16_of wr1
  obtain ⟨q, hq, rfl⟩ := u16_of wq
  obtain ⟨k0, rfl⟩ := u8_of wk0
  obtain ⟨k1, rfl⟩ := u8_of wk1
  obtain ⟨k2, rfl⟩ := u8_of wk2
  obtain ⟨da, rfl⟩ := rows_bytes hda
  obtain ⟨m, hm, rfl⟩ := u64_of wm
  exact ⟨⟨t, i, c, e0, a0, a1, a2, e1, ⟨qc, ql, o0, o1, o2, o3, o4, o5, e2⟩, ag, r0, r1, r2, e3, q, e4, k0, k1, k2, da, b0, b1, c0, c1, m⟩, ⟨ht, hi, hc, oe0, ha0, ha1, ha2, oe1, ⟨hqc, hql, oe2.1, oe2.2⟩, hr0, hr1, oe3, hq, oe4, hm⟩, rfl⟩
section
variable {H : Type} {enc : TypeId × Value → H} {w : World} {base : Nat} {spare : Nat → Bool} {held : Bool}
theorem vr_al {n : Nat} {cs : List Value} {x : DataW H × List MemPlace} (h : DataW.trod enc Try.prog w base spare held n 45 cs = some x) : ∃ r, OkAl r ∧ VR w (ro (· < w.heap.size)) (alD r) (.agg cs.toArray) := by
  obtain ⟨ds, g, v, _, _⟩ := rd_ok (Gl := glE) shAl shAl_ok (fun u hu => by
    have e : u = 24 := by
      simp only [isLf, isLfs, or_false, false_or] at hu
      omega
    subst e
    intro fuel cs x hx
    obtain ⟨l, v, rfl, ho, hv⟩ := vr_els _ fuel _ _ (Nat.lt_succ_self _) hx
    exact ⟨[elsD l], ⟨rfl, l, rfl, ho⟩, .cons hv (.nil _ _), rfl, rfl⟩) _ _ _ h
  obtain ⟨r, ok, rfl⟩ := good_al g
  exact ⟨r, ok, v.agg⟩
end
end
end Go.Proofs.Ytejlbkhddehaiaa
