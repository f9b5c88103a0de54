/- AddressText: all its paths lead to true. -/
import Derived.Test.YteeecgnaakcnnaaMr
namespace Go.Proofs.Yteeecgnaakcnnaa.addressText
open Go.RowKit
noncomputable section
theorem bytes6 {xs : List Int} (h : xs.length = 6) (hb : ∀ a ∈ xs, (Lit.int .u8 a).wf = true) : ∃ a b c d e g : Nat, (a < 256 ∧ b < 256 ∧ c < 256 ∧ d < 256 ∧ e < 256 ∧ g < 256) ∧ xs = [(a : Int), (b : Int), (c : Int), (d : Int), (e : Int), (g : Int)] := by
  obtain ⟨a, b, c, d, e, g, rfl⟩ := list6 h
  have p1 := isB_of (hb a (by simp))
  have p2 := isB_of (hb b (by simp))
  have p3 := isB_of (hb c (by simp))
  have p4 := isB_of (hb d (by simp))
  have p5 := isB_of (hb e (by simp))
  have p6 := isB_of (hb g (by simp))
  obtain ⟨a, rfl⟩ := Int.eq_ofNat_of_zero_le p1.1
  obtain ⟨b, rfl⟩ := Int.eq_ofNat_of_zero_le p2.1
  obtain ⟨c, rfl⟩ := Int.eq_ofNat_of_zero_le p3.1
  obtain ⟨d, rfl⟩ := Int.eq_ofNat_of_zero_le p4.1
  obtain ⟨e, rfl⟩ := Int.eq_ofNat_of_zero_le p5.1
  obtain ⟨g, rfl⟩ := Int.eq_ofNat_of_zero_le p6.1
  have p1 := p1.2
  have p2 := p2.2
  have p3 := p3.2
  have p4 := p4.2
  have p5 := p5.2
  have p6 := p6.2
  exact ⟨a, b, c, d, e, g, ⟨by omega, by omega, by omega, by omega, by omega, by omega⟩, rfl⟩
theorem asked_app {a b : List (Bool × Bool)} (h : Asked a) (k : Asked b) : Asked (a ++ b) := fun x hx => by
  rcases List.mem_append.1 hx with hx | hx
  · exact h x hx
  · exact k x hx
theorem gs_cons {n : Nat} (hn : n < 256) {r : List Int} (h : Asked (gs r)) : Asked (gs ((n : Int) :: r)) := .cons (byteF hn).h6 (.cons (byteF hn).h7 h)
theorem gs6 {a b c d e g : Nat} (ha : a < 256) (hb : b < 256) (hc : c < 256) (hd : d < 256) (he : e < 256) (hg : g < 256) : Asked (gs [(a : Int), (b : Int), (c : Int), (d : Int), (e : Int), (g : Int)]) :=
  gs_cons ha (gs_cons hb (gs_cons hc (gs_cons hd (gs_cons he (gs_cons hg .nil)))))
theorem eqL_refl : ∀ l : List Int, eqL l l = true
  | [] => rfl
  | a :: l => by
    unfold eqL
    rw [eqL_refl l]
    simp
theorem list17 {l : List UInt8} (h : l.length = 17) : ∃ c0 c1 c2 c3 c4 c5 c6 c7 c8 c9 c10 c11 c12 c13 c14 c15 c16, l = [c0, c1, c2, c3, c4, c5, c6, c7, c8, c9, c10, c11, c12, c13, c14, c15, c16] := by
  match l, h with
  | [c0, c1, c2, c3, c4, c5, c6, c7, c8, c9, c10, c11, c12, c13, c14, c15, c16], _ => exact ⟨_, _, _, _, _, _, _, _, _, _, _, _, _, _, _, _, _, rfl⟩
theorem okA {a0 a1 a2 a3 a4 a5 : Nat} (ha0 : a0 < 256) (ha1 : a1 < 256) (ha2 : a2 < 256) (ha3 : a3 < 256) (ha4 : a4 < 256) (ha5 : a5 < 256) : parOk (hi (a0 : Int)) (lo (a0 : Int)) 58 (hi (a1 : Int)) (lo (a1 : Int)) 58 (hi (a2 : Int)) (lo (a2 : Int)) 58 (hi (a3 : Int)) (lo (a3 : Int)) 58 (hi (a4 : Int)) (lo (a4 : Int)) 58 (hi (a5 : Int)) (lo (a5 : Int)) = true := by
  unfold parOk
  rw [(byteF ha0).h1, (byteF ha0).h2, (byteF ha1).h1, (byteF ha1).h2, (byteF ha2).h1, (byteF ha2).h2, (byteF ha3).h1, (byteF ha3).h2, (byteF ha4).h1, (byteF ha4).h2, (byteF ha5).h1, (byteF ha5).h2]
  rfl
theorem vA {a0 a1 a2 a3 a4 a5 : Nat} (ha0 : a0 < 256) (ha1 : a1 < 256) (ha2 : a2 < 256) (ha3 : a3 < 256) (ha4 : a4 < 256) (ha5 : a5 < 256) : parL (hi (a0 : Int)) (lo (a0 : Int)) 58 (hi (a1 : Int)) (lo (a1 : Int)) 58 (hi (a2 : Int)) (lo (a2 : Int)) 58 (hi (a3 : Int)) (lo (a3 : Int)) 58 (hi (a4 : Int)) (lo (a4 : Int)) 58 (hi (a5 : Int)) (lo (a5 : Int)) = [(a0 : Int), (a1 : Int), (a2 : Int), (a3 : Int), (a4 : Int), (a5 : Int)] := by
  unfold parL
  rw [(byteF ha0).h3, (byteF ha1).h3, (byteF ha2).h3, (byteF ha3).h3, (byteF ha4).h3, (byteF ha5).h3]
theorem vV {c0 c1 c2 c3 c4 c5 c6 c7 c8 c9 c10 c11 c12 c13 c14 c15 c16 : UInt8} (h : parOk c0 c1 c2 c3 c4 c5 c6 c7 c8 c9 c10 c11 c12 c13 c14 c15 c16 = true) : parV c0 c1 c2 c3 c4 c5 c6 c7 c8 c9 c10 c11 c12 c13 c14 c15 c16 = parL c0 c1 c2 c3 c4 c5 c6 c7 c8 c9 c10 c11 c12 c13 c14 c15 c16 := by
  unfold parV parL
  simp only [h, if_true]
theorem passA {a0 a1 a2 a3 a4 a5 : Nat} (ha0 : a0 < 256) (ha1 : a1 < 256) (ha2 : a2 < 256) (ha3 : a3 < 256) (ha4 : a4 < 256) (ha5 : a5 < 256) : Asked (passC (a0 : Int) (a1 : Int) (a2 : Int) (a3 : Int) (a4 : Int) (a5 : Int)) := by
  unfold passC
  exact .cons (byteF ha0).h1 (.cons (byteF ha0).h2 (.cons (byteF ha1).h1 (.cons (byteF ha1).h2 (.cons rfl (.cons (byteF ha2).h1 (.cons (byteF ha2).h2 (.cons rfl (.cons (byteF ha3).h1 (.cons (byteF ha3).h2 (.cons rfl (.cons (byteF ha4).h1 (.cons (byteF ha4).h2 (.cons rfl (.cons (byteF ha5).h1 (.cons (byteF ha5).h2 (.cons rfl (.nil)))))))))))))))))
theorem okC {c0 c1 c2 c3 c4 c5 c6 c7 c8 c9 c10 c11 c12 c13 c14 c15 c16 : UInt8} (h : parOk c0 c1 c2 c3 c4 c5 c6 c7 c8 c9 c10 c11 c12 c13 c14 c15 c16 = true) : Asked (gs (parV c0 c1 c2 c3 c4 c5 c6 c7 c8 c9 c10 c11 c12 c13 c14 c15 c16)) ∧ fmtB (parV c0 c1 c2 c3 c4 c5 c6 c7 c8 c9 c10 c11 c12 c13 c14 c15 c16) = [c0, c1, c2, c3, c4, c5, c6, c7, c8, c9, c10, c11, c12, c13, c14, c15, c16] := by
  rw [vV h]
  unfold parOk at h
  simp only [Bool.and_eq_true, Bool.not_eq_true', bne_eq_false_iff_eq] at h
  obtain ⟨⟨⟨⟨⟨⟨⟨⟨⟨⟨⟨⟨⟨⟨⟨⟨h0, h1⟩, h2⟩, h3⟩, h4⟩, h5⟩, h6⟩, h7⟩, h8⟩, h9⟩, h10⟩, h11⟩, h12⟩, h13⟩, h14⟩, h15⟩, h16⟩ := h
  obtain ⟨n0, p0, v0, u0, z0⟩ := pair_byte h0 h1
  obtain ⟨n1, p1, v1, u1, z1⟩ := pair_byte h2 h3
  obtain ⟨n2, p2, v2, u2, z2⟩ := pair_byte h5 h6
  obtain ⟨n3, p3, v3, u3, z3⟩ := pair_byte h8 h9
  obtain ⟨n4, p4, v4, u4, z4⟩ := pair_byte h11 h12
  obtain ⟨n5, p5, v5, u5, z5⟩ := pair_byte h14 h15
  have k1 : c2 = 58 := UInt8.toNat_inj.1 (Int.ofNat_inj.1 h4)
  have k2 : c5 = 58 := UInt8.toNat_inj.1 (Int.ofNat_inj.1 h7)
  have k3 : c8 = 58 := UInt8.toNat_inj.1 (Int.ofNat_inj.1 h10)
  have k4 : c11 = 58 := UInt8.toNat_inj.1 (Int.ofNat_inj.1 h13)
  have k5 : c14 = 58 := UInt8.toNat_inj.1 (Int.ofNat_inj.1 h16)
  unfold parL
  rw [v0, v1, v2, v3, v4, v5, fmtB_eq, u0, z0, u1, z1, u2, z2, u3, z3, u4, z4, u5, z5, k1, k2, k3, k4, k5]
  exact ⟨gs6 p0 p1 p2 p3 p4 p5, rfl⟩
theorem hi_lo {n m : Nat} (hn : n < 256) (hm : m < 256) (h1 : hi (n : Int) = hi (m : Int)) (h2 : lo (n : Int) = lo (m : Int)) : n = m := by
  have a1 := (byteF hn).h4
  have a2 := (byteF hm).h4
  have b1 := (byteF hn).h5
  have b2 := (byteF hm).h5
  rw [h1, a2] at a1
  rw [h2, b2] at b1
  have a2 : ∀ x y : Nat, x < 16 → y < 16 → hexN x = hexN y → x = y := by
    intro x y hx hy
    unfold hexN
    split <;> split <;> omega
  have e1 := a2 _ _ (by omega) (by omega) a1
  have e2 := a2 _ _ (by omega) (by omega) b1
  omega
set_option maxRecDepth 100000 in
theorem run {a0 a1 a2 a3 a4 a5 b0 b1 b2 b3 b4 b5 : Nat} (ha0 : a0 < 256) (ha1 : a1 < 256) (ha2 : a2 < 256) (ha3 : a3 < 256) (ha4 : a4 < 256) (ha5 : a5 < 256) (hb0 : b0 < 256) (hb1 : b1 < 256) (hb2 : b2 < 256) (hb3 : b3 < 256) (hb4 : b4 < 256) (hb5 : b5 < 256) (hAB : eqL [(a0 : Int), (a1 : Int), (a2 : Int), (a3 : Int), (a4 : Int), (a5 : Int)] [(b0 : Int), (b1 : Int), (b2 : Int), (b3 : Int), (b4 : Int), (b5 : Int)] = decide (num6 a0 a1 a2 a3 a4 a5 = num6 b0 b1 b2 b3 b4 b5)) (s : ByteArray) :
    ∃ C n, CallOk Try.prog C ∧ callE tab ftab C (exec tab ftab C n) 14 [intsD .u8 [(a0 : Int), (a1 : Int), (a2 : Int), (a3 : Int), (a4 : Int), (a5 : Int)], intsD .u8 [(b0 : Int), (b1 : Int), (b2 : Int), (b3 : Int), (b4 : Int), (b5 : Int)], .str s] ⟨0, []⟩ = some (.bool true, ⟨0, []⟩, none) := by
  have gA := gs6 ha0 ha1 ha2 ha3 ha4 ha5
  have gB := gs6 hb0 hb1 hb2 hb3 hb4 hb5
  have gPass := passA ha0 ha1 ha2 ha3 ha4 ha5
  have ok := okA ha0 ha1 ha2 ha3 ha4 ha5
  have fE1 : (parE (hi (a0 : Int)) (lo (a0 : Int)) 58 (hi (a1 : Int)) (lo (a1 : Int)) 58 (hi (a2 : Int)) (lo (a2 : Int)) 58 (hi (a3 : Int)) (lo (a3 : Int)) 58 (hi (a4 : Int)) (lo (a4 : Int)) 58 (hi (a5 : Int)) (lo (a5 : Int)) == 0) = true := by
    unfold parE
    rw [ok]
    rfl
  have f5 : eqL [(a0 : Int), (a1 : Int), (a2 : Int), (a3 : Int), (a4 : Int), (a5 : Int)] (parL (hi (a0 : Int)) (lo (a0 : Int)) 58 (hi (a1 : Int)) (lo (a1 : Int)) 58 (hi (a2 : Int)) (lo (a2 : Int)) 58 (hi (a3 : Int)) (lo (a3 : Int)) 58 (hi (a4 : Int)) (lo (a4 : Int)) 58 (hi (a5 : Int)) (lo (a5 : Int))) = true := by
    rw [vA ha0 ha1 ha2 ha3 ha4 ha5]
    exact eqL_refl _
  have fE2 : eqL [(a0 : Int), (a1 : Int), (a2 : Int), (a3 : Int), (a4 : Int), (a5 : Int)] (parV (hi (a0 : Int)) (lo (a0 : Int)) 58 (hi (a1 : Int)) (lo (a1 : Int)) 58 (hi (a2 : Int)) (lo (a2 : Int)) 58 (hi (a3 : Int)) (lo (a3 : Int)) 58 (hi (a4 : Int)) (lo (a4 : Int)) 58 (hi (a5 : Int)) (lo (a5 : Int))) = true := by
    rw [vV ok]
    exact f5
  have f0 : ((0 : Int) == 0) = true := rfl
  have hlt := fmt_lt ha0 ha1 ha2 ha3 ha4 ha5 hb0 hb1 hb2 hb3 hb4 hb5
  have nA := numL_eq ha0 ha1 ha2 ha3 ha4 ha5
  have nB := numL_eq hb0 hb1 hb2 hb3 hb4 hb5
  by_cases hl : lenB s = 17
  · obtain ⟨⟨l⟩⟩ := s
    obtain ⟨c0, c1, c2, c3, c4, c5, c6, c7, c8, c9, c10, c11, c12, c13, c14, c15, c16, rfl⟩ := list17 (l := l) hl
    clear gPass f5 f0
    rcases Nat.lt_trichotomy (num6 a0 a1 a2 a3 a4 a5) (num6 b0 b1 b2 b3 b4 b5) with q | q | q
    · skip
      have f1 : ltBytes (fmtB [(a0 : Int), (a1 : Int), (a2 : Int), (a3 : Int), (a4 : Int), (a5 : Int)]) (fmtB [(b0 : Int), (b1 : Int), (b2 : Int), (b3 : Int), (b4 : Int), (b5 : Int)]) = true := by
        rw [hlt]
        exact decide_eq_true q
      have f2 : (!(ltBytes (fmtB [(a0 : Int), (a1 : Int), (a2 : Int), (a3 : Int), (a4 : Int), (a5 : Int)]) (fmtB [(b0 : Int), (b1 : Int), (b2 : Int), (b3 : Int), (b4 : Int), (b5 : Int)]) || eqBytes (fmtB [(a0 : Int), (a1 : Int), (a2 : Int), (a3 : Int), (a4 : Int), (a5 : Int)]) (fmtB [(b0 : Int), (b1 : Int), (b2 : Int), (b3 : Int), (b4 : Int), (b5 : Int)]))) = false := by
        rw [f1]
        rfl
      have f3 : (cmpZ (numL [(a0 : Int), (a1 : Int), (a2 : Int), (a3 : Int), (a4 : Int), (a5 : Int)]) (numL [(b0 : Int), (b1 : Int), (b2 : Int), (b3 : Int), (b4 : Int), (b5 : Int)]) == (-1)) = true := by
        rw [nA, nB]
        unfold cmpZ
        rw [if_pos (by omega)]
        rfl
      have f4 : ((((-1) : Int) == 0) == eqL [(a0 : Int), (a1 : Int), (a2 : Int), (a3 : Int), (a4 : Int), (a5 : Int)] [(b0 : Int), (b1 : Int), (b2 : Int), (b3 : Int), (b4 : Int), (b5 : Int)]) = true := by
        rw [hAB, decide_eq_false (by omega)]
        rfl
      cases fX : (parE c0 c1 c2 c3 c4 c5 c6 c7 c8 c9 c10 c11 c12 c13 c14 c15 c16 != 0) with
      | true =>
        refine ⟨C2, 300, C2_ok, qcall_ok (pathBLT (a0 : Int) (a1 : Int) (a2 : Int) (a3 : Int) (a4 : Int) (a5 : Int) (b0 : Int) (b1 : Int) (b2 : Int) (b3 : Int) (b4 : Int) (b5 : Int) c0 c1 c2 c3 c4 c5 c6 c7 c8 c9 c10 c11 c12 c13 c14 c15 c16) ?_⟩
        clear hlt nA nB hAB
        repeat' (first | assumption | exact Asked.nil | refine asked_app ?_ ?_ | refine Asked.cons ?_ ?_)
      | false =>
        have okc : parOk c0 c1 c2 c3 c4 c5 c6 c7 c8 c9 c10 c11 c12 c13 c14 c15 c16 = true := by
          unfold parE at fX
          cases h : parOk c0 c1 c2 c3 c4 c5 c6 c7 c8 c9 c10 c11 c12 c13 c14 c15 c16 with
          | true => rfl
          | false => rw [h] at fX; cases fX
        obtain ⟨gP, hf⟩ := okC okc
        have fEq : eqBytes (fmtB (parV c0 c1 c2 c3 c4 c5 c6 c7 c8 c9 c10 c11 c12 c13 c14 c15 c16)) [c0, c1, c2, c3, c4, c5, c6, c7, c8, c9, c10, c11, c12, c13, c14, c15, c16] = true := by
          rw [hf]
          exact eqBytes_refl _
        refine ⟨C2, 300, C2_ok, qcall_ok (pathBLF (a0 : Int) (a1 : Int) (a2 : Int) (a3 : Int) (a4 : Int) (a5 : Int) (b0 : Int) (b1 : Int) (b2 : Int) (b3 : Int) (b4 : Int) (b5 : Int) c0 c1 c2 c3 c4 c5 c6 c7 c8 c9 c10 c11 c12 c13 c14 c15 c16) ?_⟩
        clear hlt nA nB hAB hf
        repeat' (first | assumption | exact Asked.nil | refine asked_app ?_ ?_ | refine Asked.cons ?_ ?_)
    · skip
      have f1 : ltBytes (fmtB [(a0 : Int), (a1 : Int), (a2 : Int), (a3 : Int), (a4 : Int), (a5 : Int)]) (fmtB [(b0 : Int), (b1 : Int), (b2 : Int), (b3 : Int), (b4 : Int), (b5 : Int)]) = false := by
        rw [hlt]
        exact decide_eq_false (by omega)
      have f2 : (!(ltBytes (fmtB [(a0 : Int), (a1 : Int), (a2 : Int), (a3 : Int), (a4 : Int), (a5 : Int)]) (fmtB [(b0 : Int), (b1 : Int), (b2 : Int), (b3 : Int), (b4 : Int), (b5 : Int)]) || eqBytes (fmtB [(a0 : Int), (a1 : Int), (a2 : Int), (a3 : Int), (a4 : Int), (a5 : Int)]) (fmtB [(b0 : Int), (b1 : Int), (b2 : Int), (b3 : Int), (b4 : Int), (b5 : Int)]))) = false := by
        rw [f1]
        have e : [(a0 : Int), (a1 : Int), (a2 : Int), (a3 : Int), (a4 : Int), (a5 : Int)] = [(b0 : Int), (b1 : Int), (b2 : Int), (b3 : Int), (b4 : Int), (b5 : Int)] := by
          unfold num6 at q
          have e0 : a0 = b0 := by omega
          have e1 : a1 = b1 := by omega
          have e2 : a2 = b2 := by omega
          have e3 : a3 = b3 := by omega
          have e4 : a4 = b4 := by omega
          have e5 : a5 = b5 := by omega
          rw [e0, e1, e2, e3, e4, e5]
        rw [e, eqBytes_refl]
        rfl
      have f3 : (cmpZ (numL [(a0 : Int), (a1 : Int), (a2 : Int), (a3 : Int), (a4 : Int), (a5 : Int)]) (numL [(b0 : Int), (b1 : Int), (b2 : Int), (b3 : Int), (b4 : Int), (b5 : Int)]) == 0) = true := by
        rw [nA, nB]
        unfold cmpZ
        rw [if_neg (by omega), if_neg (by omega)]
        rfl
      have f4 : (((0 : Int) == 0) == eqL [(a0 : Int), (a1 : Int), (a2 : Int), (a3 : Int), (a4 : Int), (a5 : Int)] [(b0 : Int), (b1 : Int), (b2 : Int), (b3 : Int), (b4 : Int), (b5 : Int)]) = true := by
        rw [hAB, decide_eq_true q]
        rfl
      cases fX : (parE c0 c1 c2 c3 c4 c5 c6 c7 c8 c9 c10 c11 c12 c13 c14 c15 c16 != 0) with
      | true =>
        refine ⟨C2, 300, C2_ok, qcall_ok (pathBET (a0 : Int) (a1 : Int) (a2 : Int) (a3 : Int) (a4 : Int) (a5 : Int) (b0 : Int) (b1 : Int) (b2 : Int) (b3 : Int) (b4 : Int) (b5 : Int) c0 c1 c2 c3 c4 c5 c6 c7 c8 c9 c10 c11 c12 c13 c14 c15 c16) ?_⟩
        clear hlt nA nB hAB
        repeat' (first | assumption | exact Asked.nil | refine asked_app ?_ ?_ | refine Asked.cons ?_ ?_)
      | false =>
        have okc : parOk c0 c1 c2 c3 c4 c5 c6 c7 c8 c9 c10 c11 c12 c13 c14 c15 c16 = true := by
          unfold parE at fX
          cases h : parOk c0 c1 c2 c3 c4 c5 c6 c7 c8 c9 c10 c11 c12 c13 c14 c15 c16 with
          | true => rfl
          | false => rw [h] at fX; cases fX
        obtain ⟨gP, hf⟩ := okC okc
        have fEq : eqBytes (fmtB (parV c0 c1 c2 c3 c4 c5 c6 c7 c8 c9 c10 c11 c12 c13 c14 c15 c16)) [c0, c1, c2, c3, c4, c5, c6, c7, c8, c9, c10, c11, c12, c13, c14, c15, c16] = true := by
          rw [hf]
          exact eqBytes_refl _
        refine ⟨C2, 300, C2_ok, qcall_ok (pathBEF (a0 : Int) (a1 : Int) (a2 : Int) (a3 : Int) (a4 : Int) (a5 : Int) (b0 : Int) (b1 : Int) (b2 : Int) (b3 : Int) (b4 : Int) (b5 : Int) c0 c1 c2 c3 c4 c5 c6 c7 c8 c9 c10 c11 c12 c13 c14 c15 c16) ?_⟩
        clear hlt nA nB hAB hf
        repeat' (first | assumption | exact Asked.nil | refine asked_app ?_ ?_ | refine Asked.cons ?_ ?_)
    · skip
      have f1 : ltBytes (fmtB [(a0 : Int), (a1 : Int), (a2 : Int), (a3 : Int), (a4 : Int), (a5 : Int)]) (fmtB [(b0 : Int), (b1 : Int), (b2 : Int), (b3 : Int), (b4 : Int), (b5 : Int)]) = false := by
        rw [hlt]
        exact decide_eq_false (by omega)
      have f2 : (!(ltBytes (fmtB [(a0 : Int), (a1 : Int), (a2 : Int), (a3 : Int), (a4 : Int), (a5 : Int)]) (fmtB [(b0 : Int), (b1 : Int), (b2 : Int), (b3 : Int), (b4 : Int), (b5 : Int)]) || eqBytes (fmtB [(a0 : Int), (a1 : Int), (a2 : Int), (a3 : Int), (a4 : Int), (a5 : Int)]) (fmtB [(b0 : Int), (b1 : Int), (b2 : Int), (b3 : Int), (b4 : Int), (b5 : Int)]))) = true := by
        rw [f1]
        have e : eqBytes (fmtB [(a0 : Int), (a1 : Int), (a2 : Int), (a3 : Int), (a4 : Int), (a5 : Int)]) (fmtB [(b0 : Int), (b1 : Int), (b2 : Int), (b3 : Int), (b4 : Int), (b5 : Int)]) = false := by
          rw [eqBytes_eq]
          refine beq_eq_false_iff_ne.2 fun e => ?_
          rw [fmtB_eq, fmtB_eq] at e
          simp only [List.cons.injEq, and_true, true_and] at e
          obtain ⟨e0, d0, e1, d1, e2, d2, e3, d3, e4, d4, e5, d5⟩ := e
          have := hi_lo ha0 hb0 e0 d0
          subst this
          have := hi_lo ha1 hb1 e1 d1
          subst this
          have := hi_lo ha2 hb2 e2 d2
          subst this
          have := hi_lo ha3 hb3 e3 d3
          subst this
          have := hi_lo ha4 hb4 e4 d4
          subst this
          have := hi_lo ha5 hb5 e5 d5
          subst this
          omega
        rw [e]
        rfl
      have f3 : (cmpZ (numL [(a0 : Int), (a1 : Int), (a2 : Int), (a3 : Int), (a4 : Int), (a5 : Int)]) (numL [(b0 : Int), (b1 : Int), (b2 : Int), (b3 : Int), (b4 : Int), (b5 : Int)]) == 1) = true := by
        rw [nA, nB]
        unfold cmpZ
        rw [if_neg (by omega), if_pos (by omega)]
        rfl
      have f4 : (((1 : Int) == 0) == eqL [(a0 : Int), (a1 : Int), (a2 : Int), (a3 : Int), (a4 : Int), (a5 : Int)] [(b0 : Int), (b1 : Int), (b2 : Int), (b3 : Int), (b4 : Int), (b5 : Int)]) = true := by
        rw [hAB, decide_eq_false (by omega)]
        rfl
      cases fX : (parE c0 c1 c2 c3 c4 c5 c6 c7 c8 c9 c10 c11 c12 c13 c14 c15 c16 != 0) with
      | true =>
        refine ⟨C2, 300, C2_ok, qcall_ok (pathBGT (a0 : Int) (a1 : Int) (a2 : Int) (a3 : Int) (a4 : Int) (a5 : Int) (b0 : Int) (b1 : Int) (b2 : Int) (b3 : Int) (b4 : Int) (b5 : Int) c0 c1 c2 c3 c4 c5 c6 c7 c8 c9 c10 c11 c12 c13 c14 c15 c16) ?_⟩
        clear hlt nA nB hAB
        repeat' (first | assumption | exact Asked.nil | refine asked_app ?_ ?_ | refine Asked.cons ?_ ?_)
      | false =>
        have okc : parOk c0 c1 c2 c3 c4 c5 c6 c7 c8 c9 c10 c11 c12 c13 c14 c15 c16 = true := by
          unfold parE at fX
          cases h : parOk c0 c1 c2 c3 c4 c5 c6 c7 c8 c9 c10 c11 c12 c13 c14 c15 c16 with
          | true => rfl
          | false => rw [h] at fX; cases fX
        obtain ⟨gP, hf⟩ := okC okc
        have fEq : eqBytes (fmtB (parV c0 c1 c2 c3 c4 c5 c6 c7 c8 c9 c10 c11 c12 c13 c14 c15 c16)) [c0, c1, c2, c3, c4, c5, c6, c7, c8, c9, c10, c11, c12, c13, c14, c15, c16] = true := by
          rw [hf]
          exact eqBytes_refl _
        refine ⟨C2, 300, C2_ok, qcall_ok (pathBGF (a0 : Int) (a1 : Int) (a2 : Int) (a3 : Int) (a4 : Int) (a5 : Int) (b0 : Int) (b1 : Int) (b2 : Int) (b3 : Int) (b4 : Int) (b5 : Int) c0 c1 c2 c3 c4 c5 c6 c7 c8 c9 c10 c11 c12 c13 c14 c15 c16) ?_⟩
        clear hlt nA nB hAB hf
        repeat' (first | assumption | exact Asked.nil | refine asked_app ?_ ?_ | refine Asked.cons ?_ ?_)
  · have f17 : ((lenB s : Int) != 17) = true := by
      rw [bne_iff_ne]
      omega
    by_cases hk : (lenB s : Int) > 1000
    · exact ⟨C1, 300, C1_ok, qcall_ok (path0 (a0 : Int) (a1 : Int) (a2 : Int) (a3 : Int) (a4 : Int) (a5 : Int) (b0 : Int) (b1 : Int) (b2 : Int) (b3 : Int) (b4 : Int) (b5 : Int) s) (.cons (decide_eq_true hk) .nil)⟩
    · have fk : decide ((lenB s : Int) > 1000) = false := decide_eq_false hk
      clear fE1 fE2 ok
      rcases Nat.lt_trichotomy (num6 a0 a1 a2 a3 a4 a5) (num6 b0 b1 b2 b3 b4 b5) with q | q | q
      · skip
        have f1 : ltBytes (fmtB [(a0 : Int), (a1 : Int), (a2 : Int), (a3 : Int), (a4 : Int), (a5 : Int)]) (fmtB [(b0 : Int), (b1 : Int), (b2 : Int), (b3 : Int), (b4 : Int), (b5 : Int)]) = true := by
          rw [hlt]
          exact decide_eq_true q
        have f2 : (!(ltBytes (fmtB [(a0 : Int), (a1 : Int), (a2 : Int), (a3 : Int), (a4 : Int), (a5 : Int)]) (fmtB [(b0 : Int), (b1 : Int), (b2 : Int), (b3 : Int), (b4 : Int), (b5 : Int)]) || eqBytes (fmtB [(a0 : Int), (a1 : Int), (a2 : Int), (a3 : Int), (a4 : Int), (a5 : Int)]) (fmtB [(b0 : Int), (b1 : Int), (b2 : Int), (b3 : Int), (b4 : Int), (b5 : Int)]))) = false := by
          rw [f1]
          rfl
        have f3 : (cmpZ (numL [(a0 : Int), (a1 : Int), (a2 : Int), (a3 : Int), (a4 : Int), (a5 : Int)]) (numL [(b0 : Int), (b1 : Int), (b2 : Int), (b3 : Int), (b4 : Int), (b5 : Int)]) == (-1)) = true := by
          rw [nA, nB]
          unfold cmpZ
          rw [if_pos (by omega)]
          rfl
        have f4 : ((((-1) : Int) == 0) == eqL [(a0 : Int), (a1 : Int), (a2 : Int), (a3 : Int), (a4 : Int), (a5 : Int)] [(b0 : Int), (b1 : Int), (b2 : Int), (b3 : Int), (b4 : Int), (b5 : Int)]) = true := by
          rw [hAB, decide_eq_false (by omega)]
          rfl
        refine ⟨C1, 300, C1_ok, qcall_ok (pathAL (a0 : Int) (a1 : Int) (a2 : Int) (a3 : Int) (a4 : Int) (a5 : Int) (b0 : Int) (b1 : Int) (b2 : Int) (b3 : Int) (b4 : Int) (b5 : Int) s) ?_⟩
        clear hlt nA nB hAB
        repeat' (first | assumption | exact Asked.nil | refine asked_app ?_ ?_ | refine Asked.cons ?_ ?_)
      · skip
        have f1 : ltBytes (fmtB [(a0 : Int), (a1 : Int), (a2 : Int), (a3 : Int), (a4 : Int), (a5 : Int)]) (fmtB [(b0 : Int), (b1 : Int), (b2 : Int), (b3 : Int), (b4 : Int), (b5 : Int)]) = false := by
          rw [hlt]
          exact decide_eq_false (by omega)
        have f2 : (!(ltBytes (fmtB [(a0 : Int), (a1 : Int), (a2 : Int), (a3 : Int), (a4 : Int), (a5 : Int)]) (fmtB [(b0 : Int), (b1 : Int), (b2 : Int), (b3 : Int), (b4 : Int), (b5 : Int)]) || eqBytes (fmtB [(a0 : Int), (a1 : Int), (a2 : Int), (a3 : Int), (a4 : Int), (a5 : Int)]) (fmtB [(b0 : Int), (b1 : Int), (b2 : Int), (b3 : Int), (b4 : Int), (b5 : Int)]))) = false := by
          rw [f1]
          have e : [(a0 : Int), (a1 : Int), (a2 : Int), (a3 : Int), (a4 : Int), (a5 : Int)] = [(b0 : Int), (b1 : Int), (b2 : Int), (b3 : Int), (b4 : Int), (b5 : Int)] := by
            unfold num6 at q
            have e0 : a0 = b0 := by omega
            have e1 : a1 = b1 := by omega
            have e2 : a2 = b2 := by omega
            have e3 : a3 = b3 := by omega
            have e4 : a4 = b4 := by omega
            have e5 : a5 = b5 := by omega
            rw [e0, e1, e2, e3, e4, e5]
          rw [e, eqBytes_refl]
          rfl
        have f3 : (cmpZ (numL [(a0 : Int), (a1 : Int), (a2 : Int), (a3 : Int), (a4 : Int), (a5 : Int)]) (numL [(b0 : Int), (b1 : Int), (b2 : Int), (b3 : Int), (b4 : Int), (b5 : Int)]) == 0) = true := by
          rw [nA, nB]
          unfold cmpZ
          rw [if_neg (by omega), if_neg (by omega)]
          rfl
        have f4 : (((0 : Int) == 0) == eqL [(a0 : Int), (a1 : Int), (a2 : Int), (a3 : Int), (a4 : Int), (a5 : Int)] [(b0 : Int), (b1 : Int), (b2 : Int), (b3 : Int), (b4 : Int), (b5 : Int)]) = true := by
          rw [hAB, decide_eq_true q]
          rfl
        refine ⟨C1, 300, C1_ok, qcall_ok (pathAE (a0 : Int) (a1 : Int) (a2 : Int) (a3 : Int) (a4 : Int) (a5 : Int) (b0 : Int) (b1 : Int) (b2 : Int) (b3 : Int) (b4 : Int) (b5 : Int) s) ?_⟩
        clear hlt nA nB hAB
        repeat' (first | assumption | exact Asked.nil | refine asked_app ?_ ?_ | refine Asked.cons ?_ ?_)
      · skip
        have f1 : ltBytes (fmtB [(a0 : Int), (a1 : Int), (a2 : Int), (a3 : Int), (a4 : Int), (a5 : Int)]) (fmtB [(b0 : Int), (b1 : Int), (b2 : Int), (b3 : Int), (b4 : Int), (b5 : Int)]) = false := by
          rw [hlt]
          exact decide_eq_false (by omega)
        have f2 : (!(ltBytes (fmtB [(a0 : Int), (a1 : Int), (a2 : Int), (a3 : Int), (a4 : Int), (a5 : Int)]) (fmtB [(b0 : Int), (b1 : Int), (b2 : Int), (b3 : Int), (b4 : Int), (b5 : Int)]) || eqBytes (fmtB [(a0 : Int), (a1 : Int), (a2 : Int), (a3 : Int), (a4 : Int), (a5 : Int)]) (fmtB [(b0 : Int), (b1 : Int), (b2 : Int), (b3 : Int), (b4 : Int), (b5 : Int)]))) = true := by
          rw [f1]
          have e : eqBytes (fmtB [(a0 : Int), (a1 : Int), (a2 : Int), (a3 : Int), (a4 : Int), (a5 : Int)]) (fmtB [(b0 : Int), (b1 : Int), (b2 : Int), (b3 : Int), (b4 : Int), (b5 : Int)]) = false := by
            rw [eqBytes_eq]
            refine beq_eq_false_iff_ne.2 fun e => ?_
            rw [fmtB_eq, fmtB_eq] at e
            simp only [List.cons.injEq, and_true, true_and] at e
            obtain ⟨e0, d0, e1, d1, e2, d2, e3, d3, e4, d4, e5, d5⟩ := e
            have := hi_lo ha0 hb0 e0 d0
            subst this
            have := hi_lo ha1 hb1 e1 d1
            subst this
            have := hi_lo ha2 hb2 e2 d2
            subst this
            have := hi_lo ha3 hb3 e3 d3
            subst this
            have := hi_lo ha4 hb4 e4 d4
            subst this
            have := hi_lo ha5 hb5 e5 d5
            subst this
            omega
          rw [e]
          rfl
        have f3 : (cmpZ (numL [(a0 : Int), (a1 : Int), (a2 : Int), (a3 : Int), (a4 : Int), (a5 : Int)]) (numL [(b0 : Int), (b1 : Int), (b2 : Int), (b3 : Int), (b4 : Int), (b5 : Int)]) == 1) = true := by
          rw [nA, nB]
          unfold cmpZ
          rw [if_neg (by omega), if_pos (by omega)]
          rfl
        have f4 : (((1 : Int) == 0) == eqL [(a0 : Int), (a1 : Int), (a2 : Int), (a3 : Int), (a4 : Int), (a5 : Int)] [(b0 : Int), (b1 : Int), (b2 : Int), (b3 : Int), (b4 : Int), (b5 : Int)]) = true := by
          rw [hAB, decide_eq_false (by omega)]
          rfl
        refine ⟨C1, 300, C1_ok, qcall_ok (pathAG (a0 : Int) (a1 : Int) (a2 : Int) (a3 : Int) (a4 : Int) (a5 : Int) (b0 : Int) (b1 : Int) (b2 : Int) (b3 : Int) (b4 : Int) (b5 : Int) s) ?_⟩
        clear hlt nA nB hAB
        repeat' (first | assumption | exact Asked.nil | refine asked_app ?_ ?_ | refine Asked.cons ?_ ?_)
end
end Go.Proofs.Yteeecgnaakcnnaa.addressText
