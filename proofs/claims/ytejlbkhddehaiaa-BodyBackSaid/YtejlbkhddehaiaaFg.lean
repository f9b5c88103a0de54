/- What is decoded was encoded; how small decoded elements are; Decode: a contract. -/
import Derived.Test.YtejlbkhddehaiaaFf
namespace Go.Proofs.Ytejlbkhddehaiaa
open Go.RowKit

noncomputable section
/-! ### What is decoded is encoded -/
/-- elements that Encode takes, at a depth, n having been counted -/
structure Good (l : List El) (d n n' : Nat) : Prop where
  f : vfA l d n = (n', true)
  v : vdA l = true
  s : ∃ z, szA 0 l = some z
abbrev FwI (k : Nat) : Prop := ∀ (n : Nat) (b : List UInt8) (l : List El) (n' : Nat), n ≤ 64 → (k = 0 → b = []) → decL k n b = (l, 0, n') → b = encA l ∧ Good l (5 - k) n n'
theorem fil_fwd (k : Nat) (hk : k ≤ 3) (hI : FwI k) {n : Nat} (hn : n ≤ 64) {i : UInt8} {c : List UInt8} (h254 : decide (i = 254) = false) {x : El} {n' : Nat} (h : filF (decL k) (k == 0) n i c = (x, 0, n')) :
    ∃ e d s, x = .mk i e d s ∧ contB x = c ∧ vdE x = true ∧ vfA s (4 - k + 1) n = (n', true) ∧ ∃ z, szE x = some z := by
  have h254 : (nx i == 254) = false := (nx_dec i 254).trans h254
  have hb : ∀ e d s, contB (.mk i e d s) = match cont i with
    | true => encA s
    | false => match (nx i == 255) with
      | true => e :: d
      | false => d := fun _ _ _ => rfl
  unfold filF at h
  cases h1 : decide (c.length > 1024 + exts i) with
  | true => rw [h1] at h; cases h
  | false =>
    have hlen := of_decide_eq_false h1
    rw [h1] at h
    dsimp only at h
    cases h5 : (nx i == 255) with
    | true =>
      have hc := cont_255 h5
      have hi5 := of_decide_eq_true ((nx_dec i 255).symm.trans h5)
      rw [h5] at h
      cases c with
      | nil => cases h
      | cons e t =>
        cases h
        have hcb : contB (.mk i e t []) = e :: t := by rw [hb, hc, h5]
        exact ⟨e, t, [], rfl, hcb, vd_of h254 (fun _ => by rw [hi5]; rfl) (fun h => by rw [hc] at h; cases h) (fun _ => rfl) rfl, rfl, szE_of (by rw [hcb]; omega) fun h => by rw [hc] at h; cases h⟩
    | false =>
      rw [h5] at h
      dsimp only at h
      have e0 : (nx (0 : UInt8) != 0) = true → (nx i != 255) = false := fun h => by cases h
      cases hc : cont i with
      | false =>
        rw [hc] at h
        cases h
        have hcb : contB (.mk i 0 c []) = c := by rw [hb, hc, h5]
        exact ⟨0, c, [], rfl, hcb, vd_of h254 e0 (fun h => by rw [hc] at h; cases h) (fun _ => rfl) rfl, rfl, szE_of (by rw [hcb]; omega) fun h => by rw [hc] at h; cases h⟩
      | true =>
        rw [hc] at h
        dsimp only at h
        cases k with
        | zero =>
          cases c with
          | cons _ _ => cases h
          | nil =>
            cases h
            have hcb : contB (.mk i 0 [] []) = [] := by rw [hb, hc]; rfl
            exact ⟨0, [], [], rfl, hcb, vd_of h254 e0 (fun _ => rfl) (fun _ => rfl) rfl, rfl, szE_of (by rw [hcb]; exact Nat.zero_le _) fun _ => ⟨0, rfl⟩⟩
        | succ k =>
          rw [show ((k + 1 : Nat) == 0) = false from rfl] at h
          dsimp only at h
          have hfw := hI n c
          have hd : 5 - (k + 1) = 4 - (k + 1) + 1 := by omega
          rw [hd] at hfw
          generalize decL (k + 1) n c = res at h hfw
          obtain ⟨l, er, n2⟩ := res
          cases er with
          | succ er => cases h
          | zero =>
            cases h
            obtain ⟨q1, q2⟩ := hfw l n2 hn (fun h => by cases h) rfl
            have hcb : contB (.mk i 0 [] l) = c := by rw [hb, hc, q1]
            exact ⟨0, [], l, rfl, hcb, vd_of h254 e0 (fun _ => rfl) (fun h => by rw [hc] at h; cases h) q2.v, q2.f, szE_of (by rw [hcb]; omega) fun _ => q2.s⟩
theorem rd_fwd (k : Nat) (hk : k ≤ 3) (hI : FwI k) : ∀ (m n : Nat) (b : List UInt8) (acc l : List El) (n' : Nat), b.length < m → n ≤ 64 → rdF (elF (decL k) (k == 0)) m n b acc = (l, 0, n') → ∃ l2, l = acc ++ l2 ∧ b = encA l2 ∧ Good l2 (4 - k) n n'
  | 0, n, b, acc, l, n', hm, _, _ => by omega
  | m + 1, n, [], acc, l, n', hm, hn, h => by
    rw [rdF_nil] at h
    cases h
    exact ⟨[], (List.append_nil _).symm, rfl, rfl, rfl, 0, rfl⟩
  | m + 1, n, c :: t, acc, l, n', hm, hn, h => by
    unfold rdF at h
    dsimp only at h
    simp only [List.length_cons] at hm
    have hel : ∀ x rest n2, elF (decL k) (k == 0) n (c :: t) = (x, rest, 0, n2) → n ≠ 64 ∧ ∃ e d s, x = .mk c e d s ∧ c :: t = encE x ++ rest ∧ rest.length ≤ t.length ∧ vdE x = true ∧ vfA s (4 - k + 1) (n + 1) = (n2, true) ∧ ∃ z, szE x = some z := fun x rest n2 h => by
      unfold elF at h
      dsimp only at h
      cases h1 : decide (n = 64) with
      | true => rw [h1] at h; cases h
      | false =>
        have h64 := of_decide_eq_false h1
        rw [h1] at h
        dsimp only at h
        cases h2 : decide (c = 254) with
        | true => rw [h2] at h; cases h
        | false =>
          rw [h2] at h
          dsimp only at h
          cases h3 : jnB [] t with
          | inl e =>
            have := jn_bad _ (Nat.le_refl _) h3
            rw [h3] at h
            cases h
            exact absurd rfl this
          | inr y =>
            obtain ⟨a, r⟩ := y
            rw [h3] at h
            dsimp only at h
            obtain ⟨cs, j1, j2⟩ := jn_inv _ (Nat.le_refl _) h3
            have hln := jn_len _ (Nat.le_refl _) h3
            rw [List.nil_append] at j1
            subst j1
            cases hfl : filF (decL k) (k == 0) (n + 1) c a with
            | mk x' p =>
              obtain ⟨e', n3⟩ := p
              rw [hfl] at h
              cases h
              obtain ⟨e, d, s, rfl, q1, q2, q3, q4⟩ := fil_fwd k hk hI (by omega) h2 hfl
              refine ⟨h64, e, d, s, rfl, ?_, by simp only [List.length_nil] at hln; omega, q2, q3, q4⟩
              rw [encE_eq, q1, pB_eq, List.cons_append, j2]
    have hle : (elF (decL k) (k == 0) n (c :: t)).2.2.2 ≤ 64 := el_le (fun n c hn => decL_le k n c hn) hn
    cases he : elF (decL k) (k == 0) n (c :: t) with
    | mk x p =>
      obtain ⟨rest, er, n2⟩ := p
      rw [he] at h hle
      dsimp only at h hle
      cases er with
      | succ er => cases h
      | zero =>
        dsimp only at h
        obtain ⟨h64, e, d, s, rfl, q1, q2, q3, q4, w, q5⟩ := hel x rest n2 he
        obtain ⟨l2, p1, p2, p3⟩ := rd_fwd k hk hI m n2 rest _ l n' (by omega) hle h
        have hq : (decide (n + 1 > 64) || decide (4 - k > 4)) = false := by
          rw [decide_eq_false (by omega), decide_eq_false (by omega)]
          rfl
        refine ⟨.mk c e d s :: l2, by rw [p1, List.append_assoc]; rfl, by rw [q1, p2]; rfl, ?_, ?_, ?_⟩
        · rw [vf_on hq, q4]
          exact p3.f
        · rw [vd_cons, q3, p3.v]
          rfl
        · obtain ⟨z, hz⟩ := p3.s
          obtain ⟨z', hz'⟩ := sz_any l2 hz (0 + w)
          exact ⟨z', by rw [sz_cons, q5]; exact hz'⟩
theorem enc_dec : ∀ k, k ≤ 4 → FwI k
  | 0, _, n, b, l, n', hn, hb, h => by
    cases h
    rw [hb rfl]
    exact ⟨rfl, rfl, rfl, 0, rfl⟩
  | k + 1, hk, n, b, l, n', hn, _, h => by
    have hd : 5 - (k + 1) = 4 - k := by omega
    rw [hd]
    obtain ⟨l2, h1, h2, h3⟩ := rd_fwd k (by omega) (enc_dec k (by omega)) (b.length + 1) n b [] l n' (Nat.lt_succ_self _) hn h
    rw [List.nil_append] at h1
    subst h1
    exact ⟨h2, h3⟩
/-! ### Elements that Encode takes are small -/
mutual
theorem sm_good : ∀ (x : El), vdE x = true → (∃ z, szE x = some z) → (∀ d n, (vfE x d n).2 = true → n ≤ 64 → d ≤ 5 → smE x ∧ depE x + d ≤ 6)
  | .mk i e d s, hv, ⟨z, hz⟩, dd, n, hf, hn, hd => by
    obtain ⟨v1, v2, v3, v4, v5⟩ := vd_parts hv
    obtain ⟨z1, z2, z3⟩ := szE_parts hz
    have hf' : (match decide (n + 1 > 64) || decide (dd > 4) with
      | true => (n + 1, false)
      | false => vfA s (dd + 1) (n + 1)).2 = true := hf
    cases hq : (decide (n + 1 > 64) || decide (dd > 4)) with
    | true => rw [hq] at hf'; cases hf'
    | false =>
      rw [hq] at hf'
      dsimp only at hf'
      obtain ⟨hq1, hq2⟩ := Bool.or_eq_false_iff.1 hq
      have hq1 := of_decide_eq_false hq1
      have hq2 := of_decide_eq_false hq2
      have hsz : ∃ z, szA 0 s = some z := by
        cases hc : cont i with
        | true => exact z2 hc
        | false => rw [v4 hc]; exact ⟨0, rfl⟩
      have hs := sm_goods s v5 hsz (dd + 1) (n + 1) hf' (by omega) (by omega)
      have hdl : d.length < 2 ^ 30 := by
        cases hc : cont i with
        | true => rw [v3 hc]; simp
        | false => have := z3 hc; omega
      refine ⟨⟨hdl, hs.1.1, hs.1.2⟩, ?_⟩
      show depA s + 1 + dd ≤ 6
      omega
theorem sm_goods : ∀ (l : List El), vdA l = true → (∃ z, szA 0 l = some z) → (∀ d n, (vfA l d n).2 = true → n ≤ 64 → d ≤ 5 → SmL l ∧ depA l + d ≤ 5)
  | [], _, _, d, n, _, _, hd => ⟨⟨by simp, trivial⟩, by simp [depA]; omega⟩
  | .mk i e x s :: l, hv, ⟨z, hz⟩, d, n, hf, hn, hd => by
    have hlen := vf_len (.mk i e x s :: l) hn hf
    rw [vd_cons, Bool.and_eq_true] at hv
    rw [sz_cons] at hz
    cases hx : szE (.mk i e x s) with
    | none => rw [hx] at hz; cases hz
    | some w =>
      rw [hx] at hz
      cases hq : (decide (n + 1 > 64) || decide (d > 4)) with
      | true => rw [vf_off hq] at hf; cases hf
      | false =>
        obtain ⟨hq1, hq2⟩ := Bool.or_eq_false_iff.1 hq
        have hq1 := of_decide_eq_false hq1
        have hq2 := of_decide_eq_false hq2
        rw [vf_on hq] at hf
        cases hs : (vfA s (d + 1) (n + 1)).2 with
        | false =>
          rw [hs] at hf
          dsimp only at hf
          rw [hs] at hf
          cases hf
        | true =>
          rw [hs] at hf
          dsimp only at hf
          have hE : (vfE (.mk i e x s) d n).2 = true := by
            show (match decide (n + 1 > 64) || decide (d > 4) with
              | true => (n + 1, false)
              | false => vfA s (d + 1) (n + 1)).2 = true
            rw [hq]
            exact hs
          have h1 := sm_good (.mk i e x s) hv.1 ⟨w, hx⟩ d n hE hn hd
          have h2 := sm_goods l hv.2 (sz_any l hz 0) d _ hf (vf_le (by omega) hs) hd
          refine ⟨⟨by simp only [List.length_cons] at hlen ⊢; omega, h1.1, h2.1.2⟩, ?_⟩
          show max (depE (.mk i e x s)) (depA l) + d ≤ 5
          have h3 : depE (.mk i e x s) = depA s + 1 := rfl
          have h4 := h1.2
          have hsz : ∃ z, szA 0 s = some z := by
            obtain ⟨v1, v2, v3, v4, v5⟩ := vd_parts hv.1
            obtain ⟨z1, z2, z3⟩ := szE_parts hx
            cases hc : cont i with
            | true => exact z2 hc
            | false => rw [v4 hc]; exact ⟨0, rfl⟩
          have h5 := sm_goods s (vd_parts hv.1).2.2.2.2 hsz (d + 1) (n + 1) hs (by omega) (by omega)
          omega
end
end
end Go.Proofs.Ytejlbkhddehaiaa
