/- Texts and numbers. -/
import Derived.Test.YtnhbhdfeenpedaaMp
namespace Go.Proofs.Ytnhbhdfeenpedaa
open Go.RowKit

noncomputable section
/-! ### Parse as a contract -/
def parE (c0 c1 c2 c3 c4 c5 c6 c7 c8 c9 c10 c11 c12 c13 c14 c15 c16 : UInt8) : Int := if parOk c0 c1 c2 c3 c4 c5 c6 c7 c8 c9 c10 c11 c12 c13 c14 c15 c16 then 0 else 12
def parV (c0 c1 c2 c3 c4 c5 c6 c7 c8 c9 c10 c11 c12 c13 c14 c15 c16 : UInt8) : List Int := [if parOk c0 c1 c2 c3 c4 c5 c6 c7 c8 c9 c10 c11 c12 c13 c14 c15 c16 then bitD .or .u8 (shlD .u8 (digV (c0.toNat : Int)) 4) (digV (c1.toNat : Int)) else 0, if parOk c0 c1 c2 c3 c4 c5 c6 c7 c8 c9 c10 c11 c12 c13 c14 c15 c16 then bitD .or .u8 (shlD .u8 (digV (c3.toNat : Int)) 4) (digV (c4.toNat : Int)) else 0, if parOk c0 c1 c2 c3 c4 c5 c6 c7 c8 c9 c10 c11 c12 c13 c14 c15 c16 then bitD .or .u8 (shlD .u8 (digV (c6.toNat : Int)) 4) (digV (c7.toNat : Int)) else 0, if parOk c0 c1 c2 c3 c4 c5 c6 c7 c8 c9 c10 c11 c12 c13 c14 c15 c16 then bitD .or .u8 (shlD .u8 (digV (c9.toNat : Int)) 4) (digV (c10.toNat : Int)) else 0, if parOk c0 c1 c2 c3 c4 c5 c6 c7 c8 c9 c10 c11 c12 c13 c14 c15 c16 then bitD .or .u8 (shlD .u8 (digV (c12.toNat : Int)) 4) (digV (c13.toNat : Int)) else 0, if parOk c0 c1 c2 c3 c4 c5 c6 c7 c8 c9 c10 c11 c12 c13 c14 c15 c16 then bitD .or .u8 (shlD .u8 (digV (c15.toNat : Int)) 4) (digV (c16.toNat : Int)) else 0]
def parD (c0 c1 c2 c3 c4 c5 c6 c7 c8 c9 c10 c11 c12 c13 c14 c15 c16 : UInt8) : DV := .tuple [intsD .u8 (parV c0 c1 c2 c3 c4 c5 c6 c7 c8 c9 c10 c11 c12 c13 c14 c15 c16), .int .i64 (parE c0 c1 c2 c3 c4 c5 c6 c7 c8 c9 c10 c11 c12 c13 c14 c15 c16)]
def cPar0 : CallF := fun f args hp => match Nat.beq f 47 with
  | true => match args, hp with
    | [.str s], ⟨0, []⟩ => match s.data.toList with
      | [c0, c1, c2, c3, c4, c5, c6, c7, c8, c9, c10, c11, c12, c13, c14, c15, c16] => some (parD c0 c1 c2 c3 c4 c5 c6 c7 c8 c9 c10 c11 c12 c13 c14 c15 c16, ⟨0, []⟩, none)
      | _ => none
    | _, _ => none
  | false => none
theorem cPar0_ok : CallOk Try.prog cPar0 := grow_ok tab_ok mixed fun_ok cDig_ok fun f args hp r h => by
  unfold cPar0 at h
  split at h
  · rename_i hf
    have hf := Nat.eq_of_beq_eq_true hf
    subst hf
    split at h
    · rename_i s
      split at h
      · rename_i hs
        obtain ⟨⟨l⟩⟩ := s
        simp only at hs
        subst hs
        cases h
        refine .inr ⟨200, (par_run _ _ _ _ _ _ _ _ _ _ _ _ _ _ _ _ _).trans ?_⟩
        unfold parD parE parV parL
        split <;> rfl
      · cases h
    · cases h
  · cases h
def cPar : CallF := liftC cPar0
theorem cPar_ok : CallOk Try.prog cPar := liftC_ok cPar0_ok

/-! ### Digits -/
def hexN (v : Nat) : Nat := if v < 10 then 48 + v else 87 + v
def hi (a : Int) : UInt8 := hx (shrD .u8 a 4)
def lo (a : Int) : UInt8 := hx (bitD .and .u8 a 15)
def byteC (n : Nat) : Bool := digOk ((hi (n : Int)).toNat : Int) && digOk ((lo (n : Int)).toNat : Int) && (bitD .or .u8 (shlD .u8 (digV ((hi (n : Int)).toNat : Int)) 4) (digV ((lo (n : Int)).toNat : Int)) == (n : Int)) &&
  Nat.beq (hi (n : Int)).toNat (hexN (n / 16)) && Nat.beq (lo (n : Int)).toNat (hexN (n % 16)) && idxS hexS (shrD .u8 (n : Int) 4) && idxS hexS (bitD .and .u8 (n : Int) 15)
set_option maxRecDepth 100000 in
theorem byteC_all : (List.range 256).all byteC = true := by kernel_rfl
def digC (n : Nat) : Bool := !digOk (n : Int) || (match digV (n : Int) with
  | .ofNat v => Nat.blt v 16 && Nat.beq (hexN v) n
  | _ => false)
set_option maxRecDepth 100000 in
theorem digC_all : (List.range 256).all digC = true := by kernel_rfl
def orC2 (n : Nat) : Bool := bitD .or .u8 (shlD .u8 ((n / 16 : Nat) : Int) 4) ((n % 16 : Nat) : Int) == (n : Int)
set_option maxRecDepth 100000 in
theorem orC2_all : (List.range 256).all orC2 = true := by kernel_rfl
theorem all_at {p : Nat → Bool} {m n : Nat} (h : (List.range m).all p = true) (hn : n < m) : p n = true := List.all_eq_true.1 h n (List.mem_range.2 hn)
structure ByteF (n : Nat) : Prop where
  h1 : digOk ((hi (n : Int)).toNat : Int) = true
  h2 : digOk ((lo (n : Int)).toNat : Int) = true
  h3 : bitD .or .u8 (shlD .u8 (digV ((hi (n : Int)).toNat : Int)) 4) (digV ((lo (n : Int)).toNat : Int)) = (n : Int)
  h4 : (hi (n : Int)).toNat = hexN (n / 16)
  h5 : (lo (n : Int)).toNat = hexN (n % 16)
  h6 : idxS hexS (shrD .u8 (n : Int) 4) = true
  h7 : idxS hexS (bitD .and .u8 (n : Int) 15) = true
theorem byteF {n : Nat} (hn : n < 256) : ByteF n := by
  have h := all_at byteC_all hn
  simp only [byteC, Bool.and_eq_true, beq_iff_eq] at h
  obtain ⟨⟨⟨⟨⟨⟨h1, h2⟩, h3⟩, h4⟩, h5⟩, h6⟩, h7⟩ := h
  exact ⟨h1, h2, h3, Nat.eq_of_beq_eq_true h4, Nat.eq_of_beq_eq_true h5, h6, h7⟩
/-- two digits that are digits make a byte, whose digits they are -/
theorem pair_byte {c d : UInt8} (hc : digOk (c.toNat : Int) = true) (hd : digOk (d.toNat : Int) = true) : ∃ n : Nat, n < 256 ∧ bitD .or .u8 (shlD .u8 (digV (c.toNat : Int)) 4) (digV (d.toNat : Int)) = (n : Int) ∧ hi (n : Int) = c ∧ lo (n : Int) = d := by
  have key : ∀ c : UInt8, digOk (c.toNat : Int) = true → ∃ v : Nat, v < 16 ∧ digV (c.toNat : Int) = (v : Int) ∧ hexN v = c.toNat := by
    intro c hc
    have h := all_at digC_all (n := c.toNat) (UInt8.toNat_lt c)
    simp only [digC, hc, Bool.not_true, Bool.false_or] at h
    split at h
    · rename_i v hv
      rw [Bool.and_eq_true] at h
      exact ⟨v, Nat.le_of_ble_eq_true h.1, hv, Nat.eq_of_beq_eq_true h.2⟩
    · cases h
  obtain ⟨v, v1, v2, v3⟩ := key c hc
  obtain ⟨u, u1, u2, u3⟩ := key d hd
  have hn : v * 16 + u < 256 := by omega
  have h := all_at orC2_all hn
  have e1 : (v * 16 + u) / 16 = v := by omega
  have e2 : (v * 16 + u) % 16 = u := by omega
  simp only [orC2, e1, e2, beq_iff_eq] at h
  have hb := byteF hn
  refine ⟨v * 16 + u, hn, by rw [v2, u2]; exact h, ?_, ?_⟩
  · apply UInt8.toNat_inj.1
    rw [hb.h4, e1, v3]
  · apply UInt8.toNat_inj.1
    rw [hb.h5, e2, u3]

/-! ### The order of texts -/
theorem lt_cons (a b : UInt8) (l m : List UInt8) : ltBytes (a :: l) (b :: m) = (decide (a.toNat < b.toNat) || (decide (a.toNat = b.toNat) && ltBytes l m)) := by
  have e0 : ltBytes (a :: l) (b :: m) = (match Nat.blt a.toNat b.toNat with
    | true => true
    | false => match Nat.beq a.toNat b.toNat with
      | true => ltBytes l m
      | false => false) := rfl
  rw [e0]
  by_cases h : a.toNat < b.toNat
  · have : Nat.blt a.toNat b.toNat = true := Nat.ble_eq_true_of_le h
    simp [this, h]
  · have h' : Nat.blt a.toNat b.toNat = false := bleF h
    simp only [h', decide_eq_false h, Bool.false_or]
    by_cases e : a.toNat = b.toNat
    · rw [beqT e]
      simp [e]
    · have : Nat.beq a.toNat b.toNat = false := by
        cases hq : Nat.beq a.toNat b.toNat
        · rfl
        · exact absurd (Nat.eq_of_beq_eq_true hq) e
      rw [this]
      simp [e]
theorem lt_pair {n m : Nat} (hn : n < 256) (hm : m < 256) (l r : List UInt8) : ltBytes (hi (n : Int) :: lo (n : Int) :: l) (hi (m : Int) :: lo (m : Int) :: r) = (decide (n < m) || (decide (n = m) && ltBytes l r)) := by
  have h1 := byteF hn
  have h2 := byteF hm
  rw [lt_cons, lt_cons, h1.h4, h1.h5, h2.h4, h2.h5]
  have a1 : ∀ x y : Nat, x < 16 → y < 16 → (hexN x < hexN y ↔ x < y) := by
    intro x y hx hy
    unfold hexN
    split <;> split <;> omega
  have a2 : ∀ x y : Nat, x < 16 → y < 16 → (hexN x = hexN y ↔ x = y) := by
    intro x y hx hy
    unfold hexN
    split <;> split <;> omega
  rw [Bool.eq_iff_iff]
  simp only [Bool.or_eq_true, Bool.and_eq_true, decide_eq_true_eq, a1 _ _ (by omega : n / 16 < 16) (by omega : m / 16 < 16), a2 _ _ (by omega : n / 16 < 16) (by omega : m / 16 < 16), a1 _ _ (by omega : n % 16 < 16) (by omega : m % 16 < 16), a2 _ _ (by omega : n % 16 < 16) (by omega : m % 16 < 16)]
  generalize (ltBytes l r = true) = p
  constructor
  · rintro (h | ⟨h, h' | ⟨h', h''⟩⟩)
    · exact .inl (by omega)
    · exact .inl (by omega)
    · exact .inr ⟨by omega, h''⟩
  · rintro (h | ⟨rfl, h⟩)
    · by_cases e : n / 16 < m / 16
      · exact .inl e
      · exact .inr ⟨by omega, .inl (by omega)⟩
    · exact .inr ⟨rfl, .inr ⟨rfl, h⟩⟩
theorem lt_colon (l m : List UInt8) : ltBytes (58 :: l) (58 :: m) = ltBytes l m := by
  rw [lt_cons]
  simp
theorem fmtB_eq (a b c d e g : Int) : fmtB [a, b, c, d, e, g] = [hi a, lo a, 58, hi b, lo b, 58, hi c, lo c, 58, hi d, lo d, 58, hi e, lo e, 58, hi g, lo g] := rfl
theorem eqBytes_refl : ∀ l : List UInt8, eqBytes l l = true
  | [] => rfl
  | a :: l => by
    unfold eqBytes
    rw [beqT rfl]
    exact eqBytes_refl l
theorem fmt_lt {xa xb xc xd xe xg ya yb yc yd ye yg : Nat} (hxa : xa < 256) (hxb : xb < 256) (hxc : xc < 256) (hxd : xd < 256) (hxe : xe < 256) (hxg : xg < 256) (hya : ya < 256) (hyb : yb < 256) (hyc : yc < 256) (hyd : yd < 256) (hye : ye < 256) (hyg : yg < 256) : ltBytes (fmtB [(xa : Int), (xb : Int), (xc : Int), (xd : Int), (xe : Int), (xg : Int)]) (fmtB [(ya : Int), (yb : Int), (yc : Int), (yd : Int), (ye : Int), (yg : Int)]) = decide (num6 xa xb xc xd xe xg < num6 ya yb yc yd ye yg) := by
  rw [fmtB_eq, fmtB_eq]
  rw [lt_pair hxa hya, lt_colon, lt_pair hxb hyb, lt_colon, lt_pair hxc hyc, lt_colon, lt_pair hxd hyd, lt_colon, lt_pair hxe hye, lt_colon, lt_pair hxg hyg]
  rw [Bool.eq_iff_iff]
  simp only [Bool.or_eq_true, Bool.and_eq_true, decide_eq_true_eq, ltBytes, Bool.false_eq_true, and_false, or_false]
  unfold num6
  constructor
  · rintro (h | ⟨rfl, h | ⟨rfl, h | ⟨rfl, h | ⟨rfl, h | ⟨rfl, h⟩⟩⟩⟩⟩) <;> omega
  · intro h
    rcases Nat.lt_trichotomy xa ya with q | rfl | q
    · exact .inl q
    · refine .inr ⟨rfl, ?_⟩
      rcases Nat.lt_trichotomy xb yb with q | rfl | q
      · exact .inl q
      · refine .inr ⟨rfl, ?_⟩
        rcases Nat.lt_trichotomy xc yc with q | rfl | q
        · exact .inl q
        · refine .inr ⟨rfl, ?_⟩
          rcases Nat.lt_trichotomy xd yd with q | rfl | q
          · exact .inl q
          · refine .inr ⟨rfl, ?_⟩
            rcases Nat.lt_trichotomy xe ye with q | rfl | q
            · exact .inl q
            · refine .inr ⟨rfl, ?_⟩
              omega
            · omega
          · omega
        · omega
      · omega
    · omega
end
end Go.Proofs.Ytnhbhdfeenpedaa
