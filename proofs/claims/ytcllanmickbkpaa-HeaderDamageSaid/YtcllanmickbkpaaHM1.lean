/- A law's arguments as data: bytes. No function of the program is named here. -/
import Derived.Test.YtcllanmickbkpaaNA
import Derived.Test.YtcllanmickbkpaaHE1
import Derived.Test.YtcllanmickbkpaaHL1
namespace Go.Proofs.Ytcllanmickbkpaa
open Go.RowKit

theorem opensBytes : Opens Try.prog 26 (Ty.slice (Ty.nat .u8)) := Opens.slice Try.underlying26 (by kernel_rfl) (Opens.nat rfl Try.underlying5 (by kernel_rfl)) (by decide)
theorem vr_bytes {w : World} {S : Nat → Prop} {A : Option Addr} {n c : Nat} {a : List Nat} (r : (Ty.slice (Ty.nat .u8)).rep w S a [.slice A n c]) :
    ∃ bs : List UInt8, VR w (ro S) (byL bs) (.slice A n c) := by
  obtain ⟨A', n', c', h0, h1, h2, h3, h4⟩ := rep_slice r
  cases h0
  have hwf := h4.ints_wf
  have hlt : ∀ x ∈ a, x < 256 := fun x hx => by
    have := hwf x hx
    simp [Lit.wf, IntKind.min, IntKind.max, IntKind.signed, IntKind.bits] at this
    omega
  have hlen := h4.len
  have hn : (by1 (a.map UInt8.ofNat)).length = n := by rw [by1_length, List.length_map, hlen]
  refine ⟨a.map UInt8.ofNat, ?_⟩
  rcases Nat.eq_zero_or_pos n with h0 | hpos
  · have ha : a = [] := List.eq_nil_of_length_eq_zero (by omega)
    subst ha
    rw [← hn]
    exact .list _ 1 _ A c 0 0 (fun _ _ => undef) (Nat.zero_le _) h2 h3 (fun h => absurd h (by simp [by1])) (fun i cs h => by simp [by1] at h) (fun i cs j d h => by simp [by1] at h) (fun i cs j d h => by simp [by1] at h) (fun cs h => by simp [by1] at h)
  · obtain ⟨b, off, rfl, hb, hc⟩ := h4.ints hpos
    have row : ∀ (i : Nat) (cs : List DV), (by1 (a.map UInt8.ofNat))[i]? = some cs → ∃ x, a[i]? = some x ∧ x < 256 ∧ cs = [.int .u8 (x : Int)] := fun i cs hi => by
      simp only [by1, List.map_map, List.getElem?_map, Option.map_eq_some_iff] at hi
      obtain ⟨x, hx, rfl⟩ := hi
      have := hlt x (List.mem_of_getElem? hx)
      refine ⟨x, hx, this, ?_⟩
      show [i8 (UInt8.ofNat x)] = _
      rw [i8, UInt8.toNat_ofNat_of_lt' this]
    rw [← hn]
    refine .list _ 1 _ (some ⟨b, off, none⟩) c b off (fun i _ => .int .u8 ((a.getD i 0 : Nat) : Int)) (by omega) h2 (fun h => by cases h) (fun _ => ⟨rfl, hb⟩) (fun i cs hi => ?_) (fun i cs j d hi hj => ?_) (fun i cs j d hi hj => ?_) (fun cs hcs => ?_)
    · obtain ⟨x, _, _, rfl⟩ := row i cs hi
      rfl
    · obtain ⟨x, hx, _, rfl⟩ := row i cs hi
      cases j with
      | zero =>
        have := hc i x hx
        simpa [List.getD, hx] using this
      | succ j => simp at hj
    · obtain ⟨x, hx, _, rfl⟩ := row i cs hi
      cases j with
      | zero =>
        simp at hj
        subst hj
        simp only [List.getD, hx, Option.getD_some]
        exact .int _ _ _
      | succ j => simp at hj
    · obtain ⟨i, hi⟩ := List.mem_iff_getElem?.1 hcs
      obtain ⟨x, _, _, rfl⟩ := row i cs hi
      rfl
theorem vr_len {w : World} {E : Env} {bs : List UInt8} {v : Value} (h : VR w E (byL bs) v) : bs.length < 2 ^ 63 := by
  obtain ⟨A, c, b, off, g, _, h1, h2, _⟩ := h.of_list
  rw [by1_length] at h1
  have : maxLen < 2 ^ 63 := by decide
  omega
theorem u32_bits {a : Int} (h : (Lit.int .u32 a).wf = true) : ∃ s : BitVec 32, a = (s.toNat : Int) := by
  simp [Lit.wf, IntKind.min, IntKind.max, IntKind.signed, IntKind.bits] at h
  obtain ⟨n, rfl⟩ := Int.eq_ofNat_of_zero_le h.1
  exact ⟨BitVec.ofNat 32 n, by rw [BitVec.toNat_ofNat, Nat.mod_eq_of_lt (by omega)]⟩
end Go.Proofs.Ytcllanmickbkpaa
/- Frames as a law's arguments. -/
namespace Go.Proofs.Ytcllanmickbkpaa
open Go.RowKit

theorem rg_of {x : Int} (h : (Lit.int .u8 x).wf = true) : Rg x := by
  simp [Lit.wf, IntKind.min, IntKind.max, IntKind.signed, IntKind.bits] at h
  exact ⟨by omega, by omega⟩
theorem vr_hd2 {w : World} {S : Nat → Prop} {cs : List Value} {x : Int × Int × Bool × Bool × Bool × Bool × Bool × Bool × Bool × Int × Ad6 × Ad6 × Ad6 × Ad6 × Int × Int × Int × Int × Bool × Bool × Unit} (h : hdTy.rep w S x cs) : ∃ h : Hd, HdOk h ∧ VRs (ro S) w (hcs h) cs := by
  refine ⟨⟨x.1, x.2.1, x.2.2.1, x.2.2.2.1, x.2.2.2.2.1, x.2.2.2.2.2.1, x.2.2.2.2.2.2.1, x.2.2.2.2.2.2.2.1, x.2.2.2.2.2.2.2.2.1, x.2.2.2.2.2.2.2.2.2.1, x.2.2.2.2.2.2.2.2.2.2.1, x.2.2.2.2.2.2.2.2.2.2.2.1, x.2.2.2.2.2.2.2.2.2.2.2.2.1, x.2.2.2.2.2.2.2.2.2.2.2.2.2.1, x.2.2.2.2.2.2.2.2.2.2.2.2.2.2.1, x.2.2.2.2.2.2.2.2.2.2.2.2.2.2.2.1, x.2.2.2.2.2.2.2.2.2.2.2.2.2.2.2.2.1, x.2.2.2.2.2.2.2.2.2.2.2.2.2.2.2.2.2.1, x.2.2.2.2.2.2.2.2.2.2.2.2.2.2.2.2.2.2.1, x.2.2.2.2.2.2.2.2.2.2.2.2.2.2.2.2.2.2.2.1⟩, ?_⟩
  have h : hdTy.rep w S x cs := h
  obtain ⟨c0, r0, e0, q0, h0⟩ := h
  obtain ⟨c1, r1, e1, q1, h1⟩ := h0
  obtain ⟨c2, r2, e2, q2, h2⟩ := h1
  obtain ⟨c3, r3, e3, q3, h3⟩ := h2
  obtain ⟨c4, r4, e4, q4, h4⟩ := h3
  obtain ⟨c5, r5, e5, q5, h5⟩ := h4
  obtain ⟨c6, r6, e6, q6, h6⟩ := h5
  obtain ⟨c7, r7, e7, q7, h7⟩ := h6
  obtain ⟨c8, r8, e8, q8, h8⟩ := h7
  obtain ⟨c9, r9, e9, q9, h9⟩ := h8
  obtain ⟨c10, r10, e10, q10, h10⟩ := h9
  obtain ⟨c11, r11, e11, q11, h11⟩ := h10
  obtain ⟨c12, r12, e12, q12, h12⟩ := h11
  obtain ⟨c13, r13, e13, q13, h13⟩ := h12
  obtain ⟨c14, r14, e14, q14, h14⟩ := h13
  obtain ⟨c15, r15, e15, q15, h15⟩ := h14
  obtain ⟨c16, r16, e16, q16, h16⟩ := h15
  obtain ⟨c17, r17, e17, q17, h17⟩ := h16
  obtain ⟨c18, r18, e18, q18, h18⟩ := h17
  obtain ⟨c19, r19, e19, q19, h19⟩ := h18
  have hn : r19 = [] := h19
  have a1_ok := q10.2
  have a2_ok := q11.2
  have a3_ok := q12.2
  have a4_ok := q13.2
  have ack_ok := q17.2
  have q0 : c0 = [.int .u8 x.1] := q0.1
  have q1 : c1 = [.int .u8 x.2.1] := q1.1
  have q2 : c2 = [.bool x.2.2.1] := q2
  have q3 : c3 = [.bool x.2.2.2.1] := q3
  have q4 : c4 = [.bool x.2.2.2.2.1] := q4
  have q5 : c5 = [.bool x.2.2.2.2.2.1] := q5
  have q6 : c6 = [.bool x.2.2.2.2.2.2.1] := q6
  have q7 : c7 = [.bool x.2.2.2.2.2.2.2.1] := q7
  have q8 : c8 = [.bool x.2.2.2.2.2.2.2.2.1] := q8
  have q9 : c9 = [.int .i64 x.2.2.2.2.2.2.2.2.2.1] := q9.1
  have q10 : c10 = acsV x.2.2.2.2.2.2.2.2.2.2.1 := q10.1
  have q11 : c11 = acsV x.2.2.2.2.2.2.2.2.2.2.2.1 := q11.1
  have q12 : c12 = acsV x.2.2.2.2.2.2.2.2.2.2.2.2.1 := q12.1
  have q13 : c13 = acsV x.2.2.2.2.2.2.2.2.2.2.2.2.2.1 := q13.1
  have q14 : c14 = [.int .i64 x.2.2.2.2.2.2.2.2.2.2.2.2.2.2.1] := q14.1
  have q15 : c15 = [.int .i64 x.2.2.2.2.2.2.2.2.2.2.2.2.2.2.2.1] := q15.1
  have q16 : c16 = [.int .i64 x.2.2.2.2.2.2.2.2.2.2.2.2.2.2.2.2.1] := q16.1
  have q17 : c17 = [.int .u8 x.2.2.2.2.2.2.2.2.2.2.2.2.2.2.2.2.2.1] := q17.1
  have q18 : c18 = [.bool x.2.2.2.2.2.2.2.2.2.2.2.2.2.2.2.2.2.2.1] := q18
  have q19 : c19 = [.bool x.2.2.2.2.2.2.2.2.2.2.2.2.2.2.2.2.2.2.2.1] := q19
  subst hn q0 q1 q2 q3 q4 q5 q6 q7 q8 q9 q10 q11 q12 q13 q14 q15 q16 q17 q18 q19
  subst e19
  subst e18
  subst e17
  subst e16
  subst e15
  subst e14
  subst e13
  subst e12
  subst e11
  subst e10
  subst e9
  subst e8
  subst e7
  subst e6
  subst e5
  subst e4
  subst e3
  subst e2
  subst e1
  subst e0
  refine ⟨⟨fun x hx => rg_of (a1_ok x hx), fun x hx => rg_of (a2_ok x hx), fun x hx => rg_of (a3_ok x hx), fun x hx => rg_of (a4_ok x hx), rg_of ack_ok⟩, ?_⟩
  show VRs _ _ (hcs _) _
  exact (.cons (.int _ _ _) (.cons (.int _ _ _) (.cons (.bool _ _) (.cons (.bool _ _) (.cons (.bool _ _) (.cons (.bool _ _) (.cons (.bool _ _) (.cons (.bool _ _) (.cons (.bool _ _) (.cons (.int _ _ _) (.cons (.int _ _ _) (.cons (.int _ _ _) (.cons (.int _ _ _) (.cons (.int _ _ _) (.cons (.int _ _ _) (.cons (.int _ _ _) (.cons (.int _ _ _) (.cons (.int _ _ _) (.cons (.int _ _ _) (.cons (.int _ _ _) (.cons (.int _ _ _) (.cons (.int _ _ _) (.cons (.int _ _ _) (.cons (.int _ _ _) (.cons (.int _ _ _) (.cons (.int _ _ _) (.cons (.int _ _ _) (.cons (.int _ _ _) (.cons (.int _ _ _) (.cons (.int _ _ _) (.cons (.int _ _ _) (.cons (.int _ _ _) (.cons (.int _ _ _) (.cons (.int _ _ _) (.cons (.int _ _ _) (.cons (.int _ _ _) (.cons (.int _ _ _) (.cons (.int _ _ _) (.cons (.bool _ _) (.cons (.bool _ _) (.nil _ _)))))))))))))))))))))))))))))))))))))))))
def frmTy := Ty.pair hdTy (Ty.pair (Ty.slice (Ty.nat .u8)) Ty.unit)
theorem opensFrm : Opens Try.prog 28 frmTy :=
  Opens.struct Try.underlying28 (by kernel_rfl)
    (by show OpensF Try.prog 0 (_ :: _ :: []) (Ty.pair _ (Ty.pair _ Ty.unit)); exact OpensF.cons opensHd rfl (OpensF.cons opensBytes rfl (OpensF.nil _)))
theorem vr_frm {w : World} {S : Nat → Prop} {cs : Array Value} {x : _} (h : frmTy.rep w S x cs.toList) : ∃ (h : Hd) (b : List UInt8), HdOk h ∧ VR w (ro S) (frm h (byL b)) (.agg cs) := by
  obtain ⟨cs⟩ := cs
  obtain ⟨c1, c2, e1, q1, c3, c4, e2, q2, q3⟩ := h
  obtain ⟨h, ho, v1⟩ := vr_hd2 q1
  obtain ⟨A, n, c, e3, h4⟩ := q2
  obtain ⟨b, v2⟩ := vr_bytes (A := A) (n := n) (c := c) ⟨A, n, c, rfl, h4⟩
  have q3 : c4 = [] := q3
  subst q3
  subst e3
  subst e2
  have e1 : cs = c1 ++ ([Value.slice A n c] ++ []) := e1
  subst e1
  exact ⟨h, b, ho, VRs.agg (v1.append (.cons v2 (.nil _ _)))⟩
end Go.Proofs.Ytcllanmickbkpaa
