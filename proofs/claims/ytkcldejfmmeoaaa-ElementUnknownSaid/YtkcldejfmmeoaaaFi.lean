/- Too many elements; lists one behind the other. -/
import Derived.Test.YtkcldejfmmeoaaaFh
namespace Go.Proofs.Ytkcldejfmmeoaaa
open Go.RowKit

noncomputable section
/-! ### How many -/
mutual
def nmE : El → Nat
  | .mk _ _ _ s => nmL s + 1
def nmL : List El → Nat
  | [] => 0
  | x :: l => nmE x + nmL l
end
theorem nmL_append : ∀ (l m : List El), nmL (l ++ m) = nmL l + nmL m
  | [], m => by simp [nmL]
  | x :: l, m => by
    have := nmL_append l m
    show nmE x + nmL (l ++ m) = nmE x + nmL l + nmL m
    omega
/-- counted to the end: that many, and any number may stand before -/
theorem vf_count : ∀ (l : List El) (d n : Nat), (vfA l d n).2 = true → (vfA l d n).1 = n + nmL l ∧ (∀ k, (vfA l d k).2 = decide (k + nmL l ≤ 64) ∨ (nmL l = 0 ∧ (vfA l d k).2 = true)) ∧ ∀ k, k + nmL l ≤ 64 → vfA l d k = (k + nmL l, true)
  | [], d, n, _ => ⟨rfl, fun k => .inr ⟨rfl, rfl⟩, fun k _ => rfl⟩
  | .mk i e x s :: l, d, n, h => by
    cases hq : (decide (n + 1 > 64) || decide (d > 4)) with
    | true => rw [vf_off hq] at h; cases h
    | false =>
      obtain ⟨q1, q2⟩ := Bool.or_eq_false_iff.1 hq
      rw [vf_on hq] at h ⊢
      cases hs : (vfA s (d + 1) (n + 1)).2 with
      | false =>
        rw [hs] at h
        dsimp only at h
        rw [hs] at h
        cases h
      | true =>
        rw [hs] at h
        dsimp only at h ⊢
        obtain ⟨a1, a2, a3⟩ := vf_count s (d + 1) (n + 1) hs
        obtain ⟨b1, b2, b3⟩ := vf_count l d _ h
        have hc : nmL (.mk i e x s :: l) = (nmL s + 1) + nmL l := rfl
        have key : ∀ k, k + nmL (.mk i e x s :: l) ≤ 64 → vfA (.mk i e x s :: l) d k = (k + nmL (.mk i e x s :: l), true) := fun k hk => by
          rw [hc] at hk ⊢
          rw [vf_on (by rw [decide_eq_false (by omega), q2]; rfl), a3 (k + 1) (by omega)]
          dsimp only
          rw [b3 _ (by omega)]
          congr 1
          omega
        refine ⟨by rw [b1, a1, hc]; omega, fun k => .inl ?_, key⟩
        by_cases hk : k + nmL (.mk i e x s :: l) ≤ 64
        · rw [key k hk, decide_eq_true hk]
        · rw [decide_eq_false hk]
          cases hv : (vfA (.mk i e x s :: l) d k).2 with
          | false => rfl
          | true =>
            exfalso
            cases hq2 : (decide (k + 1 > 64) || decide (d > 4)) with
            | true => rw [vf_off hq2] at hv; cases hv
            | false =>
              have hk1 := of_decide_eq_false (Bool.or_eq_false_iff.1 hq2).1
              rw [vf_on hq2] at hv
              cases hs2 : (vfA s (d + 1) (k + 1)).2 with
              | false =>
                rw [hs2] at hv
                dsimp only at hv
                rw [hs2] at hv
                cases hv
              | true =>
                rw [hs2] at hv
                dsimp only at hv
                have hle := vf_le (by omega) hs2
                have hle2 := vf_le hle hv
                have c1 := (vf_count s (d + 1) (k + 1) hs2).1
                have c2 := (vf_count l d _ hv).1
                omega
theorem vf_append : ∀ (l m : List El) (d n : Nat), vfA (l ++ m) d n = match (vfA l d n).2 with
    | true => vfA m d (vfA l d n).1
    | false => vfA l d n
  | [], m, d, n => rfl
  | .mk i e x s :: l, m, d, n => by
    rw [List.cons_append]
    cases hq : (decide (n + 1 > 64) || decide (d > 4)) with
    | true => rw [vf_off hq, vf_off hq]
    | false =>
      rw [vf_on hq, vf_on hq]
      cases hs : (vfA s (d + 1) (n + 1)).2 with
      | false => dsimp only; rw [hs]
      | true =>
        dsimp only
        exact vf_append l m d _
theorem vd_append : ∀ (l m : List El), vdA (l ++ m) = (vdA l && vdA m)
  | [], m => rfl
  | x :: l, m => by rw [List.cons_append, vd_cons, vd_cons, vd_append l m, Bool.and_assoc]
theorem sz_append : ∀ (l m : List El) (a : Nat), szA a (l ++ m) = match szA a l with
    | none => none
    | some n => szA n m
  | [], m, a => rfl
  | x :: l, m, a => by
    rw [List.cons_append, sz_cons, sz_cons]
    cases szE x with
    | none => rfl
    | some n => exact sz_append l m (a + n)
/-! ### Too many elements are not decoded -/
abbrev MnI (k : Nat) : Prop := ∀ (l : List El) (n : Nat), n ≤ 64 → depA l ≤ k → vdA l = true → (∃ z, szA 0 l = some z) → 64 < n + nmL l → (decL k n (encA l)).2.1 = 4
theorem dep_vf : ∀ (l : List El) (d n : Nat), (vfA l d n).2 = true → d ≤ 5 → n ≤ 64 → depA l + d ≤ 5
  | [], d, n, _, hd, _ => by simp [depA]; omega
  | .mk i e x s :: l, d, n, h, hd, hn => by
    cases hq : (decide (n + 1 > 64) || decide (d > 4)) with
    | true => rw [vf_off hq] at h; cases h
    | false =>
      obtain ⟨q1, q2⟩ := Bool.or_eq_false_iff.1 hq
      have q1 := of_decide_eq_false q1
      have q2 := of_decide_eq_false q2
      rw [vf_on hq] at h
      cases hs : (vfA s (d + 1) (n + 1)).2 with
      | false =>
        rw [hs] at h
        dsimp only at h
        rw [hs] at h
        cases h
      | true =>
        rw [hs] at h
        dsimp only at h
        have h1 := dep_vf s (d + 1) (n + 1) hs (by omega) (by omega)
        have h2 := dep_vf l d _ h hd (vf_le (by omega) hs)
        show max (depA s + 1) (depA l) + d ≤ 5
        omega
/-- few enough and not too deep: all is counted -/
theorem vf_few : ∀ (l : List El) (d n : Nat), depA l + d ≤ 5 → n + nmL l ≤ 64 → vfA l d n = (n + nmL l, true)
  | [], d, n, _, _ => rfl
  | .mk i e x s :: l, d, n, hd, hn => by
    have hd : max (depA s + 1) (depA l) + d ≤ 5 := hd
    have hn : n + ((nmL s + 1) + nmL l) ≤ 64 := hn
    rw [vf_on (by rw [decide_eq_false (by omega), decide_eq_false (by omega)]; rfl), vf_few s (d + 1) (n + 1) (by omega) (by omega)]
    dsimp only
    rw [vf_few l d _ (by omega) (by omega)]
    show (_, true) = (n + ((nmL s + 1) + nmL l), true)
    congr 1
    omega
theorem rd_many (k : Nat) (hk : k ≤ 3) (hM : MnI k) : ∀ (l : List El) (m n : Nat) (acc : List El), l.length < m → n ≤ 64 → depA l ≤ k + 1 → vdA l = true → (∃ z, szA 0 l = some z) → 64 < n + nmL l → (rdF (elF (decL k) (k == 0)) m n (encA l) acc).2.1 = 4
  | [], m, n, acc, _, hn, _, _, _, h => by
    simp [nmL] at h
    omega
  | .mk i e d s :: l, 0, n, acc, hm, _, _, _, _, _ => by simp at hm
  | .mk i e d s :: l, m + 1, n, acc, hm, hn, hd, hv, hz, h => by
    obtain ⟨z, hz⟩ := hz
    have hd : max (depA s + 1) (depA l) ≤ k + 1 := hd
    have h : 64 < n + ((nmL s + 1) + nmL l) := h
    rw [vd_cons, Bool.and_eq_true] at hv
    rw [sz_cons] at hz
    cases hx : szE (.mk i e d s) with
    | none => rw [hx] at hz; cases hz
    | some w =>
      rw [hx] at hz
      have hcons : encA (.mk i e d s :: l) = i :: (pT (contB (.mk i e d s)) ++ encA l) := by
        show encE (.mk i e d s) ++ encA l = _
        rw [encE_eq, pB_eq, List.cons_append]
      have he' : encE (.mk i e d s) ++ encA l = i :: (pT (contB (.mk i e d s)) ++ encA l) := hcons
      rw [hcons]
      unfold rdF
      dsimp only
      by_cases h64 : n = 64
      · have : elF (decL k) (k == 0) n (i :: (pT (contB (.mk i e d s)) ++ encA l)) = (zEl, [], 4, n) := by
          unfold elF
          dsimp only
          rw [decide_eq_true h64]
        rw [this]
      · by_cases hs : n + 1 + nmL s ≤ 64
        · have hvf := vf_few s (4 - k + 1) (n + 1) (by omega) (by omega)
          have he := el_back k hk (dec_enc k (by omega)) n (by omega) i e d s (encA l) (by rw [hvf]) hv.1 ⟨w, hx⟩
          rw [he'] at he
          rw [he]
          dsimp only
          rw [hvf]
          exact rd_many k hk hM l m _ _ (by simp only [List.length_cons] at hm; omega) (by dsimp only; omega) (by omega) hv.2 (sz_any l hz 0) (by dsimp only; omega)
        · have h1 : decide (i = 254) = false := (nx_dec i 254).symm.trans (vd_parts hv.1).1
          have hj := jn_pT _ (contB (.mk i e d s)) [] (encA l) (Nat.le_refl _)
          obtain ⟨v1, v2, v3, v4, v5⟩ := vd_parts hv.1
          obtain ⟨z1, z2, z3⟩ := szE_parts hx
          have hc : cont i = true := by
            cases hc : cont i with
            | true => rfl
            | false =>
              rw [v4 hc] at hs
              simp [nmL] at hs
              omega
          have hcb : contB (.mk i e d s) = encA s := by
            show (match cont i with
              | true => encA s
              | false => match (nx i == 255) with
                | true => e :: d
                | false => d) = _
            rw [hc]
          have h5 : (nx i == 255) = false := by
            cases hq : (nx i == 255) with
            | false => rfl
            | true => rw [cont_255 hq] at hc; cases hc
          have hne : s ≠ [] := fun hs0 => by rw [hs0] at hs; simp [nmL] at hs; omega
          have hk0 : k ≠ 0 := fun h0 => by
            cases s with
            | nil => exact hne rfl
            | cons x s =>
              obtain ⟨i', e', d', s'⟩ := x
              have : depA (.mk i' e' d' s' :: s) ≥ 1 := by
                show max (depA s' + 1) (depA s) ≥ 1
                omega
              omega
          have hmn := hM s (n + 1) (by omega) (by omega) v5 (z2 hc) (by omega)
          have hfil : (filF (decL k) (k == 0) (n + 1) i (encA s)).2.1 = 4 := by
            unfold filF
            rw [decide_eq_false (by rw [hcb] at z1; omega)]
            dsimp only
            rw [h5]
            dsimp only
            rw [hc]
            dsimp only
            rw [show (k == 0) = false from beq_false_of_ne hk0]
            dsimp only
            rw [hmn]
          have he : (elF (decL k) (k == 0) n (i :: (pT (contB (.mk i e d s)) ++ encA l))).2.2.1 = 4 := by
            unfold elF
            dsimp only
            rw [decide_eq_false h64, h1, hj]
            dsimp only
            rw [List.nil_append, hcb]
            exact hfil
          rw [he]
theorem dec_many : ∀ k, k ≤ 4 → MnI k
  | 0, _, l, n, hn, hd, _, _, h => by
    obtain rfl := dep_zero hd
    simp [nmL] at h
    omega
  | k + 1, hk, l, n, hn, hd, hv, hz, h => rd_many k (by omega) (dec_many k (by omega)) l ((encA l).length + 1) n [] (Nat.lt_succ_of_le (encA_lenge l)) hn hd hv hz h
/-! ### Count -/
mutual
theorem cntE_eq : ∀ (x : El), nmE x < 2 ^ 60 → cntE x = ((nmE x - 1 : Nat) : Int)
  | .mk i e d s, h => by
    have h : nmL s + 1 < 2 ^ 60 := h
    have := cntA_eq s 0 (by omega)
    show cntA 0 s = ((nmL s + 1 - 1 : Nat) : Int)
    rw [show (0 : Int) = ((0 : Nat) : Int) from rfl, this]
    congr 1
    omega
theorem cntA_eq : ∀ (l : List El) (a : Nat), a + nmL l < 2 ^ 60 → cntA (a : Int) l = ((a + nmL l : Nat) : Int)
  | [], a, _ => rfl
  | x :: l, a, h => by
    have h : a + (nmE x + nmL l) < 2 ^ 60 := h
    have h1 := cntE_eq x (by omega)
    have hpos : 1 ≤ nmE x := by
      obtain ⟨i, e, d, s⟩ := x
      exact Nat.le_add_left _ _
    show cntA (IntKind.i64.wrap (IntKind.i64.wrap ((a : Int) + 1) + cntE x)) l = _
    rw [h1, show ((a : Int) + 1) = ((a + 1 : Nat) : Int) by omega, wrapI (by omega), show (((a + 1 : Nat) : Int) + ((nmE x - 1 : Nat) : Int)) = ((a + nmE x : Nat) : Int) by omega, wrapI (by omega), cntA_eq l (a + nmE x) (by omega)]
    show ((a + nmE x + nmL l : Nat) : Int) = ((a + (nmE x + nmL l) : Nat) : Int)
    congr 1
    omega
end
end
end Go.Proofs.Ytkcldejfmmeoaaa
