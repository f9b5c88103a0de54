/- Decode: a contract. -/
import Derived.Test.YtejlbkhddehaiaaFg
namespace Go.Proofs.Ytejlbkhddehaiaa
open Go.RowKit

noncomputable section
abbrev fDe : FuncId := 90
set_option maxRecDepth 1000000 in
theorem de_run (C : ConF) (xs ls : List (List DV)) (e n : Nat) : zflat (zans Try.prog tab ftab C fDe [.list 1 xs] [(7, .h (.tuple [.list 4 ls, iN e]) (RH1 n) (some 0))]) = some (.tuple [.list 4 ls, iN e], (C fRd [.list 1 xs, iN 1, fnE] (RH1 0) = some (.tuple [.list 4 ls, iN e], RH1 n, some 0)) :: []) := by kernel_rfl
/-- what Decode answers -/
def deL (b : List UInt8) : List El := (decL 4 0 b).1
def deE (b : List UInt8) : Nat := (decL 4 0 b).2.1
def deD (b : List UInt8) : DV := .tuple [elsD (deL b), iN (deE b)]
abbrev Bm : Type := {b : List UInt8 // b.length ≤ 2 ^ 29}
theorem de_ans (x : Bm) : Ans Try.prog fDe [byL x.1] (deD x.1) ⟨0, [], []⟩ := by
  have hA := rd_ans1 0 (by decide) x.1 x.2
  exact zflat_ok tab_ok mixed fun_ok (oneC_ok hA (Nat.le_refl _) rfl rfl) (de_run (oneC fRd [byL x.1, iN 1, fnE] (RH1 0) (.tuple [elsD (decL 4 0 x.1).1, iN (decL 4 0 x.1).2.1]) (RH1 (decL 4 0 x.1).2.2)) (by1 x.1) (elR (decL 4 0 x.1).1) (decL 4 0 x.1).2.1 (decL 4 0 x.1).2.2) (.cons (oneC_at _ _ _ _ _) .nil)
def cDe : ConF := liftC (eqC fDe (fun x : Bm => [byL x.1]) fun x => (deD x.1, ⟨0, [], []⟩))
theorem cDe_ok : ConOk Try.prog cDe := liftC_ok (eqC_ok de_ans fun _ => rfl)
theorem cDe_at (hp : Hp) (b : List UInt8) (h : b.length ≤ 2 ^ 29) : cDe fDe [byL b] hp = some (deD b, hp, none) :=
  lift_at (A := fun x : Bm => [byL x.1]) (D := fun x => deD x.1) (fun x y hxy => by
    simp only [List.cons.injEq, and_true, byL, DV.list.injEq, true_and] at hxy
    rw [by1_inj hxy]) hp ⟨b, h⟩ rfl rfl
/-! ### Encode and Decode -/
theorem szR_of {l : List El} {d : Nat} (h : Good l 1 0 d) : (szR l).2 = 0 := by
  obtain ⟨z, hz⟩ := h.s
  unfold szR
  rw [h.f, h.v]
  dsimp only
  rw [hz]
theorem enD_ok {l : List El} (h : (szR l).2 = 0) : enD l = .tuple [byL (encA l), iN 0] := by
  unfold enD
  rw [h]
  rfl
theorem enD_no {l : List El} {e : Nat} (h : (szR l).2 = e + 1) : enD l = .tuple [.list 1 [], iN (e + 1)] := by
  unfold enD
  rw [h]
  rfl
theorem good_of {l : List El} (h : (szR l).2 = 0) : ∃ n, Good l 1 0 n := by
  obtain ⟨q1, q2, q3, q4⟩ := szR_zero h
  exact ⟨(vfA l 1 0).1, by rw [← q1], q2, _, q3⟩
theorem enc_len {l : List El} (h : (szR l).2 = 0) : (encA l).length ≤ 2 ^ 20 := by
  obtain ⟨q1, q2, q3, q4⟩ := szR_zero h
  have h1 := szA_le l q3
  have h2 := vf_len l (by decide) q1
  omega
/-- what Encode takes is decoded again -/
theorem de_en {l : List El} (h : (szR l).2 = 0) : deD (encA l) = .tuple [elsD l, iN 0] := by
  obtain ⟨q1, q2, q3, q4⟩ := szR_zero h
  unfold deD deL deE
  rw [dec_enc 4 (by decide) l 0 q1 q2 ⟨_, q3⟩]
/-- what Decode gives is encoded again -/
theorem en_de {b : List UInt8} (h : deE b = 0) : b = encA (deL b) ∧ (szR (deL b)).2 = 0 := by
  have hd : decL 4 0 b = (deL b, 0, (decL 4 0 b).2.2) := by
    unfold deE at h
    exact Prod.ext rfl (Prod.ext h rfl)
  obtain ⟨h1, h2⟩ := enc_dec 4 (by decide) 0 b _ _ (by decide) (fun h => by cases h) hd
  exact ⟨h1, szR_of h2⟩
theorem good_sm {l : List El} (h : (szR l).2 = 0) : SmL l ∧ depA l ≤ 2 ^ 39 := by
  obtain ⟨q1, q2, q3, q4⟩ := szR_zero h
  have := sm_goods l q2 ⟨_, q3⟩ 1 0 q1 (by decide) (by decide)
  exact ⟨this.1, by omega⟩
theorem de_none {b : List UInt8} {e : Nat} (h : deE b = e + 1) : deL b = [] := by
  have := rdF_err (elF (decL 3) (3 == 0)) (b.length + 1) 0 b []
  rcases this with h1 | h1
  · have h2 : deE b = 0 := h1
    omega
  · exact h1
end
end Go.Proofs.Ytejlbkhddehaiaa
