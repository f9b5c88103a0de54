/- Encoding and decoding of elements undo each other. -/
import Derived.Test.YtejlbkhddehaiaaFe
namespace Go.Proofs.Ytejlbkhddehaiaa
open Go.RowKit

noncomputable section
/-! ### The parts of a content -/
/-- the parts, but for the first Id -/
def pT (cs : List UInt8) : List UInt8 := (pB 0 cs).tail
theorem pB_eq (c : UInt8) (cs : List UInt8) : pB c cs = c :: pT cs := by
  unfold pT
  by_cases h : 255 ≤ cs.length
  · rw [pB_full h, pB_full h]; rfl
  · rw [pB_last (by omega), pB_last (by omega)]; rfl
theorem pT_full {cs : List UInt8} (h : 255 ≤ cs.length) : pT cs = 255 :: (cs.take 255 ++ 254 :: pT (cs.drop 255)) := by
  show (pB 0 cs).tail = _
  rw [pB_full h, pB_eq 254]
  rfl
theorem pT_last {cs : List UInt8} (h : cs.length < 255) : pT cs = UInt8.ofNat cs.length :: cs := by
  show (pB 0 cs).tail = _
  rw [pB_last h]
  rfl
theorem ofN {n : Nat} (h : n < 256) : (UInt8.ofNat n).toNat = n := UInt8.toNat_ofNat_of_lt' h
/-- what is put is read -/
theorem jn_pT : ∀ (m : Nat) (cs acc rest : List UInt8), cs.length ≤ m → jnB acc (pT cs ++ rest) = .inr (acc ++ cs, rest)
  | m, cs, acc, rest, hm => by
    by_cases h : 255 ≤ cs.length
    · cases m with
      | zero => omega
      | succ m =>
        rw [pT_full h, List.cons_append, jnB]
        have h5 : (255 : UInt8).toNat = 255 := rfl
        have htk : (cs.take 255).length = 255 := by rw [List.length_take]; omega
        have hr : (cs.take 255 ++ 254 :: pT (cs.drop 255)) ++ rest = cs.take 255 ++ (254 :: (pT (cs.drop 255) ++ rest)) := by simp
        rw [hr, h5, if_neg (by simp only [List.length_append, List.length_cons, htk]; omega), if_neg (by omega)]
        have ht : (cs.take 255 ++ (254 :: (pT (cs.drop 255) ++ rest))).take 255 = cs.take 255 := by
          rw [List.take_append_of_le_length (by omega), List.take_of_length_le (by omega)]
        have hd : (cs.take 255 ++ (254 :: (pT (cs.drop 255) ++ rest))).drop 255 = 254 :: (pT (cs.drop 255) ++ rest) := by
          rw [List.drop_append_of_le_length (by omega), List.drop_eq_nil_of_le (by omega), List.nil_append]
        split
        · rename_i hq
          rw [hd] at hq
          cases hq
        · rename_i y r' hq
          rw [hd] at hq
          cases hq
          rw [if_pos rfl, ht, jn_pT m (cs.drop 255) (acc ++ cs.take 255) rest (by rw [List.length_drop]; omega), List.append_assoc, List.take_append_drop]
    · have hl : cs.length < 255 := by omega
      rw [pT_last hl, List.cons_append, jnB, ofN (by omega), if_neg (by rw [List.length_append]; omega), if_pos hl, List.take_append_of_le_length (Nat.le_refl _), List.take_of_length_le (Nat.le_refl _), List.drop_append_of_le_length (Nat.le_refl _), List.drop_eq_nil_of_le (Nat.le_refl _), List.nil_append]
/-- what is read was put -/
theorem jn_inv : ∀ (m : Nat) {acc b a r : List UInt8}, b.length ≤ m → jnB acc b = .inr (a, r) → ∃ cs, a = acc ++ cs ∧ b = pT cs ++ r
  | m, acc, [], a, r, _, h => by
    rw [jnB] at h
    cases h
  | 0, acc, c :: b, _, _, hm, _ => by simp at hm
  | m + 1, acc, c :: b, a, r, hm, h => by
    rw [jnB] at h
    simp only [List.length_cons] at hm
    have hc := UInt8.toNat_lt c
    split at h
    · cases h
    · rename_i hcl
      have htl : (b.take c.toNat).length = c.toNat := by rw [List.length_take]; omega
      split at h
      · rename_i h255
        cases h
        refine ⟨b.take c.toNat, rfl, ?_⟩
        rw [pT_last (by omega), htl, List.cons_append, List.take_append_drop]
        congr 1
        exact UInt8.toNat_inj.1 (by rw [ofN (by omega)])
      · rename_i h255
        have h5 : c.toNat = 255 := by omega
        split at h
        · cases h
        · rename_i y r' hd
          have hl := congrArg List.length hd
          rw [List.length_drop] at hl
          simp only [List.length_cons] at hl
          split at h
          · rename_i hy
            subst hy
            obtain ⟨cs, h1, h2⟩ := jn_inv m (by omega) h
            refine ⟨b.take c.toNat ++ cs, by rw [h1, List.append_assoc], ?_⟩
            rw [pT_full (by rw [List.length_append]; omega), List.take_append_of_le_length (by omega), List.take_of_length_le (by omega), List.drop_append_of_le_length (by omega), List.drop_eq_nil_of_le (by omega), List.nil_append]
            rw [List.cons_append, List.append_assoc, List.cons_append, ← h2, ← hd, List.take_append_drop]
            congr 1
            exact UInt8.toNat_inj.1 h5
          · cases h
/-! ### Valid elements -/
theorem vd_parts {i e : UInt8} {d : List UInt8} {s : List El} (h : vdE (.mk i e d s) = true) : (nx i == 254) = false ∧ ((nx e != 0) = true → (nx i != 255) = false) ∧ (cont i = true → d = []) ∧ (cont i = false → s = []) ∧ vdA s = true := by
  have h : (!(wrong (nx e != 0) (nx i != 255) (decide ((d.length : Int) > 0)) (cont i) (decide ((s.length : Int) > 0)) (nx i == 254)) && vdA s) = true := h
  rw [Bool.and_eq_true, Bool.not_eq_true'] at h
  obtain ⟨h1, h2⟩ := h
  unfold wrong at h1
  rw [Bool.or_eq_false_iff, Bool.or_eq_false_iff, Bool.or_eq_false_iff] at h1
  obtain ⟨⟨⟨a1, a2⟩, a3⟩, a4⟩ := h1
  refine ⟨a1, fun he => ?_, fun hc => ?_, fun hc => ?_, h2⟩
  · rw [he, Bool.true_and] at a2
    exact a2
  · rw [hc, Bool.and_true] at a3
    have := of_decide_eq_false a3
    exact List.eq_nil_of_length_eq_zero (by omega)
  · rw [hc, Bool.not_false, Bool.and_true] at a4
    have := of_decide_eq_false a4
    exact List.eq_nil_of_length_eq_zero (by omega)
theorem vd_of {i e : UInt8} {d : List UInt8} {s : List El} (h1 : (nx i == 254) = false) (h2 : (nx e != 0) = true → (nx i != 255) = false) (h3 : cont i = true → d = []) (h4 : cont i = false → s = []) (h5 : vdA s = true) : vdE (.mk i e d s) = true := by
  show (!(wrong (nx e != 0) (nx i != 255) (decide ((d.length : Int) > 0)) (cont i) (decide ((s.length : Int) > 0)) (nx i == 254)) && vdA s) = true
  rw [h5, Bool.and_true, Bool.not_eq_true']
  unfold wrong
  rw [h1, Bool.or_eq_false_iff, Bool.or_eq_false_iff, Bool.or_eq_false_iff]
  refine ⟨⟨⟨rfl, ?_⟩, ?_⟩, ?_⟩
  · cases he : (nx e != 0) with
    | false => rfl
    | true => rw [h2 he]; rfl
  · cases hc : cont i with
    | false => simp
    | true => rw [h3 hc]; rfl
  · cases hc : cont i with
    | true => simp
    | false => rw [h4 hc]; rfl
theorem cont_255 {i : UInt8} (h : (nx i == 255) = true) : cont i = false := by
  have := of_decide_eq_true ((nx_dec i 255).symm.trans h)
  subst this
  rfl
theorem vd_cons {x : El} {l : List El} : vdA (x :: l) = (vdE x && vdA l) := rfl
theorem sz_cons {x : El} {l : List El} {a : Nat} : szA a (x :: l) = match szE x with
    | none => none
    | some n => szA (a + n) l := rfl
theorem sz_any : ∀ (l : List El) {a n : Nat}, szA a l = some n → ∀ a', ∃ n', szA a' l = some n'
  | [], _, _, _, a' => ⟨a', rfl⟩
  | x :: l, a, n, h, a' => by
    rw [sz_cons] at h ⊢
    cases hx : szE x with
    | none => rw [hx] at h; cases h
    | some k =>
      rw [hx] at h
      exact sz_any l h (a' + k)
/-- its content is not too long, and its parts have lengths -/
theorem szE_parts {i e : UInt8} {d : List UInt8} {s : List El} {n : Nat} (h : szE (.mk i e d s) = some n) : (contB (.mk i e d s)).length ≤ 1024 + exts i ∧ (cont i = true → ∃ m, szA 0 s = some m) ∧ (cont i = false → d.length ≤ 1024) := by
  unfold szE at h
  have hb : contB (.mk i e d s) = match cont i with
    | true => encA s
    | false => match (nx i == 255) with
      | true => e :: d
      | false => d := rfl
  cases hc : cont i with
  | true =>
    rw [hc] at h hb
    cases hz : szA 0 s with
    | none => rw [hz] at h; cases h
    | some k =>
      have hk := szA_len s hz
      rw [hz] at h
      dsimp only at h
      split at h
      · cases h
      · rename_i hq
        have := of_decide_eq_false hq
        rw [hb]
        exact ⟨by dsimp only; omega, fun _ => ⟨k, rfl⟩, fun h => by cases h⟩
  | false =>
    rw [hc] at h hb
    dsimp only at h
    split at h
    · cases h
    · rename_i hq
      have := of_decide_eq_false hq
      rw [hb]
      refine ⟨?_, (fun h => by cases h), fun _ => by omega⟩
      unfold exts
      cases (nx i == 255) <;> simp <;> omega
theorem szE_of {i e : UInt8} {d : List UInt8} {s : List El} (h1 : (contB (.mk i e d s)).length ≤ 1024 + exts i) (h2 : cont i = true → ∃ m, szA 0 s = some m) : ∃ n, szE (.mk i e d s) = some n := by
  have hb : contB (.mk i e d s) = match cont i with
    | true => encA s
    | false => match (nx i == 255) with
      | true => e :: d
      | false => d := rfl
  unfold szE
  cases hc : cont i with
  | true =>
    obtain ⟨m, hm⟩ := h2 hc
    have hk := szA_len s hm
    rw [hc] at hb
    rw [hb] at h1
    dsimp only at h1 ⊢
    have hx : exts i = 0 := by
      unfold exts
      cases h5 : (nx i == 255) with
      | false => rfl
      | true => rw [cont_255 h5] at hc; cases hc
    rw [hm]
    dsimp only
    rw [decide_eq_false (by omega)]
    exact ⟨_, rfl⟩
  | false =>
    rw [hc] at hb
    rw [hb] at h1
    unfold exts at h1
    dsimp only
    have : d.length ≤ 1024 := by
      cases h5 : (nx i == 255) with
      | false => rw [h5] at h1; simpa using h1
      | true => rw [h5] at h1; simp at h1; omega
    rw [decide_eq_false (by omega)]
    exact ⟨_, rfl⟩
/-! ### What is encoded is decoded -/
abbrev BkI (k : Nat) : Prop := ∀ (l : List El) (n : Nat), (vfA l (5 - k) n).2 = true → vdA l = true → (∃ z, szA 0 l = some z) → decL k n (encA l) = (l, 0, (vfA l (5 - k) n).1)
theorem fil_back (k : Nat) (hk : k ≤ 3) (hI : BkI k) (n : Nat) (i e : UInt8) (d : List UInt8) (s : List El) (hf : (vfA s (4 - k + 1) n).2 = true) (hv : vdE (.mk i e d s) = true) (hz : ∃ z, szE (.mk i e d s) = some z) :
    filF (decL k) (k == 0) n i (contB (.mk i e d s)) = (.mk i e d s, 0, (vfA s (4 - k + 1) n).1) := by
  obtain ⟨z, hz⟩ := hz
  obtain ⟨v1, v2, v3, v4, v5⟩ := vd_parts hv
  obtain ⟨z1, z2, z3⟩ := szE_parts hz
  have hb : contB (.mk i e d s) = match cont i with
    | true => encA s
    | false => match (nx i == 255) with
      | true => e :: d
      | false => d := rfl
  unfold filF
  rw [decide_eq_false (by omega)]
  dsimp only
  cases h5 : (nx i == 255) with
  | true =>
    have hc := cont_255 h5
    rw [hb, hc, h5]
    obtain rfl := v4 hc
    rfl
  | false =>
    have he : e = 0 := by
      cases hq : (nx e != 0) with
      | true =>
        have := v2 hq
        rw [bne_eq_false_iff_eq] at this
        rw [this] at h5
        cases h5
      | false =>
        rw [bne_eq_false_iff_eq] at hq
        exact UInt8.toNat_inj.1 (by unfold nx at hq; have : (0 : UInt8).toNat = 0 := rfl; omega)
    subst he
    dsimp only
    cases hc : cont i with
    | false =>
      rw [hb, hc, h5]
      obtain rfl := v4 hc
      rfl
    | true =>
      obtain rfl := v3 hc
      rw [hb, hc]
      dsimp only
      cases k with
      | zero =>
        cases s with
        | nil => rfl
        | cons x s =>
          obtain ⟨i', e', d', s'⟩ := x
          have : vfA (.mk i' e' d' s' :: s) (4 - 0 + 1) n = (n + 1, false) := vf_off (by rw [show decide (4 - 0 + 1 > 4) = true from rfl, Bool.or_true])
          rw [this] at hf
          cases hf
      | succ k =>
        have hd : 5 - (k + 1) = 4 - (k + 1) + 1 := by omega
        have h1 := hI s n (by rw [hd]; exact hf) v5 (z2 hc)
        rw [hd] at h1
        rw [show ((k + 1 : Nat) == 0) = false from rfl]
        dsimp only
        rw [h1]
theorem el_back (k : Nat) (hk : k ≤ 3) (hI : BkI k) (n : Nat) (hn : n < 64) (i e : UInt8) (d : List UInt8) (s : List El) (rest : List UInt8) (hf : (vfA s (4 - k + 1) (n + 1)).2 = true) (hv : vdE (.mk i e d s) = true) (hz : ∃ z, szE (.mk i e d s) = some z) :
    elF (decL k) (k == 0) n (encE (.mk i e d s) ++ rest) = (.mk i e d s, rest, 0, (vfA s (4 - k + 1) (n + 1)).1) := by
  have h1 : decide (i = 254) = false := by rw [← nx_dec i 254]; exact (vd_parts hv).1
  have hj := jn_pT _ (contB (.mk i e d s)) [] rest (Nat.le_refl _)
  have hfb := fil_back k hk hI (n + 1) i e d s hf hv hz
  rw [encE_eq, pB_eq, List.cons_append]
  unfold elF
  dsimp only
  rw [decide_eq_false (by omega), h1, hj]
  dsimp only
  rw [List.nil_append, hfb]
theorem rd_back (k : Nat) (hk : k ≤ 3) (hI : BkI k) : ∀ (l : List El) (m n : Nat) (acc : List El), l.length < m → (vfA l (4 - k) n).2 = true → vdA l = true → (∃ z, szA 0 l = some z) → rdF (elF (decL k) (k == 0)) m n (encA l) acc = (acc ++ l, 0, (vfA l (4 - k) n).1)
  | [], m, n, acc, _, _, _, _ => by
    rw [show encA [] = [] from rfl, rdF_nil, List.append_nil]
    rfl
  | .mk i e d s :: l, 0, n, acc, hm, _, _, _ => by simp at hm
  | .mk i e d s :: l, m + 1, n, acc, hm, hf, hv, hz => by
    obtain ⟨z, hz⟩ := hz
    rw [vd_cons, Bool.and_eq_true] at hv
    rw [sz_cons] at hz
    cases hx : szE (.mk i e d s) with
    | none => rw [hx] at hz; cases hz
    | some w =>
      rw [hx] at hz
      cases hq : (decide (n + 1 > 64) || decide (4 - k > 4)) with
      | true => rw [vf_off hq] at hf; cases hf
      | false =>
        have h64 := of_decide_eq_false (Bool.or_eq_false_iff.1 hq).1
        rw [vf_on hq] at hf ⊢
        cases hs : (vfA s (4 - k + 1) (n + 1)).2 with
        | false =>
          rw [hs] at hf
          dsimp only at hf
          rw [hs] at hf
          cases hf
        | true =>
          rw [hs] at hf
          dsimp only at hf ⊢
          have he := el_back k hk hI n (by omega) i e d s (encA l) hs hv.1 ⟨w, hx⟩
          have hcons : encA (.mk i e d s :: l) = i :: (pT (contB (.mk i e d s)) ++ encA l) := by
            show encE (.mk i e d s) ++ encA l = _
            rw [encE_eq, pB_eq, List.cons_append]
          have he' : encE (.mk i e d s) ++ encA l = i :: (pT (contB (.mk i e d s)) ++ encA l) := hcons
          rw [he'] at he
          rw [hcons]
          unfold rdF
          dsimp only
          rw [he]
          dsimp only
          rw [rd_back k hk hI l m _ _ (by simp only [List.length_cons] at hm; omega) hf hv.2 (sz_any l hz 0), List.append_assoc]
          rfl
theorem encA_lenge : ∀ l : List El, l.length ≤ (encA l).length
  | [] => Nat.zero_le _
  | .mk i e d s :: l => by
    have := encA_lenge l
    show _ ≤ (encE (.mk i e d s) ++ encA l).length
    rw [encE_eq, pB_eq]
    simp only [List.length_cons, List.length_append]
    omega
theorem dec_enc : ∀ k, k ≤ 4 → BkI k
  | 0, _, l, n, hf, _, _ => by
    cases l with
    | nil => rfl
    | cons x l =>
      obtain ⟨i, e, d, s⟩ := x
      rw [vf_off (by rw [show decide (5 - 0 > 4) = true from rfl, Bool.or_true])] at hf
      cases hf
  | k + 1, hk, l, n, hf, hv, hz => by
    have hd : 5 - (k + 1) = 4 - k := by omega
    rw [hd] at hf ⊢
    show rdF (elF (decL k) (k == 0)) ((encA l).length + 1) n (encA l) [] = _
    rw [rd_back k (by omega) (dec_enc k (by omega)) l _ n [] (Nat.lt_succ_of_le (encA_lenge l)) hf hv hz, List.nil_append]
end
end Go.Proofs.Ytejlbkhddehaiaa
