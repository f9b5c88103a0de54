/- Pack and Unpack: the mathematics. -/
import Derived.Test.YtmpmhkjfpeagkaaYc
namespace Go.Proofs.Ytmpmhkjfpeagkaa
open Go.RowKit

noncomputable section
theorem rp_ne {b : List UInt8} {e : Nat} (h : rp b = .inl e) : e ≠ 0 := by
  unfold rp at h
  split at h
  · split at h
    · cases h; decide
    · split at h
      · cases h; decide
      · split at h
        · cases h; decide
        · cases h
  · cases h; decide
theorem rz_ne {b : List UInt8} {n e : Nat} (h : rz b n = .inl e) : e ≠ 0 := by
  unfold rz at h
  split at h
  · cases h; decide
  · split at h
    · cases h; decide
    · split at h
      · cases h; decide
      · cases h
theorem lo_of (a b : UInt8) : loB (a.toNat + 256 * b.toNat) = a := by
  have ha := UInt8.toNat_lt a
  refine UInt8.toNat_inj.1 ?_
  unfold loB
  rw [UInt8.toNat_ofNat_of_lt' (Nat.mod_lt _ (by decide))]
  show (a.toNat + 256 * b.toNat) % 256 = _
  omega
theorem hi_of (a b : UInt8) : hiB (a.toNat + 256 * b.toNat) = b := by
  have ha := UInt8.toNat_lt a
  have hb := UInt8.toNat_lt b
  refine UInt8.toNat_inj.1 ?_
  unfold hiB
  rw [UInt8.toNat_ofNat_of_lt' (Nat.mod_lt _ (by decide))]
  show (a.toNat + 256 * b.toNat) / 256 % 256 = _
  omega
theorem rp_some {b : List UInt8} {p : Pk} {r : List UInt8} (h : rp b = .inr (p, r)) : b = pent p ++ r ∧ okK p := by
  by_cases hb : 14 ≤ b.length
  · obtain ⟨t0, t1, t2, t3, t4, t5, f0, f1, f2, f3, f4, f5, l0, l1, rs, rfl⟩ := split14 b hb
    unfold rp at h
    dsimp only at h
    cases h1 : Nat.beq (f0.toNat % 2) 1 with
    | true => rw [h1] at h; cases h
    | false =>
      rw [h1] at h
      dsimp only at h
      cases h2 : Nat.ble (l0.toNat + 256 * l1.toNat) 1500 with
      | false => rw [h2] at h; cases h
      | true =>
        rw [h2] at h
        dsimp only at h
        cases h3 : Nat.ble (l0.toNat + 256 * l1.toNat) rs.length with
        | false => rw [h3] at h; cases h
        | true =>
          rw [h3] at h
          cases h
          have h1' := Nat.ne_of_beq_eq_false h1
          have h2' := Nat.le_of_ble_eq_true h2
          have h3' := Nat.le_of_ble_eq_true h3
          have hl : (rs.take (l0.toNat + 256 * l1.toNat)).length = l0.toNat + 256 * l1.toNat := by rw [List.length_take]; omega
          refine ⟨?_, ⟨by show f0.toNat % 2 = 0; omega, by show (rs.take _).length ≤ 1500; omega⟩⟩
          simp only [pent, ltP, lfP, hl, lo_of, hi_of, List.append_assoc, List.take_append_drop]
          rfl
  · rw [rp_short (by omega)] at h
    cases h
theorem rp_pent {p : Pk} (h : okK p) (t : List UInt8) : rp (pent p ++ t) = .inr (p, t) := by
  obtain ⟨h1, h2⟩ := h
  have hl : (loB p.d.length).toNat + 256 * (hiB p.d.length).toNat = p.d.length := lohi (by omega)
  rw [show pent p ++ t = p.t0 :: p.t1 :: p.t2 :: p.t3 :: p.t4 :: p.t5 :: p.f0 :: p.f1 :: p.f2 :: p.f3 :: p.f4 :: p.f5 :: loB p.d.length :: hiB p.d.length :: (p.d ++ t) by simp [pent, ltP, lfP]]
  unfold rp
  dsimp only
  rw [hl, show Nat.beq (p.f0.toNat % 2) 1 = false by rw [h1]; rfl, bleT h2, bleT (show p.d.length ≤ (p.d ++ t).length by simp)]
  simp
theorem ixV_zrs : ∀ (n k : Nat), ixV (zrs n) k = -1
  | 0, _ => rfl
  | n + 1, k => ixV_zrs n (k + 1)
theorem ixV_neg : ∀ {l : List UInt8} {k : Nat}, decide (ixV l k ≥ 0) = false → l = zrs l.length
  | [], _, _ => rfl
  | c :: r, k, h => by
    unfold ixV at h
    cases hc : Nat.beq c.toNat 0 with
    | false =>
      rw [hc] at h
      dsimp only at h
      have := of_decide_eq_false h
      omega
    | true =>
      rw [hc] at h
      have h0 : c = 0 := UInt8.toNat_inj.1 (Nat.eq_of_beq_eq_true hc)
      subst h0
      show _ = (0 : UInt8) :: zrs r.length
      rw [← ixV_neg h]
theorem rz_some {b b' : List UInt8} {n : Nat} (h : rz b n = .inr b') : b = zrs n ++ b' ∧ b' ≠ [] := by
  unfold rz at h
  cases h1 : Nat.ble n b.length with
  | false => rw [h1] at h; cases h
  | true =>
    rw [h1] at h
    dsimp only at h
    cases h2 : decide (ixV (b.take n) 0 ≥ 0) with
    | true => rw [h2] at h; cases h
    | false =>
      rw [h2] at h
      dsimp only at h
      cases h3 : Nat.beq b.length n with
      | true => rw [h3] at h; cases h
      | false =>
        rw [h3] at h
        cases h
        have h1' := Nat.le_of_ble_eq_true h1
        have h3' := Nat.ne_of_beq_eq_false h3
        have e := ixV_neg h2
        rw [List.length_take, Nat.min_eq_left h1'] at e
        refine ⟨by rw [← e, List.take_append_drop], fun h => ?_⟩
        have := congrArg List.length h
        rw [List.length_drop] at this
        simp at this
        omega
theorem rz_zrs {t : List UInt8} (n : Nat) (h : t ≠ []) : rz (zrs n ++ t) n = .inr t := by
  have hl : (zrs n ++ t).length = n + t.length := by rw [List.length_append, zrs_length]
  have ht : 1 ≤ t.length := by
    cases t with
    | nil => exact absurd rfl h
    | cons c r => exact Nat.succ_le_succ (Nat.zero_le _)
  unfold rz
  rw [hl, bleT (show n ≤ n + t.length by omega), beqF (show n + t.length ≠ n by omega), List.take_left' (zrs_length n), List.drop_left' (zrs_length n), ixV_zrs]
  rfl
/-- Unpack's answer, of so many packets at most -/
def up : Nat → List UInt8 → Nat ⊕ List Pk
  | 0, _ => .inl 4
  | r + 1, b => match rp b with
    | .inl e => .inl e
    | .inr (p, rest) => match rest with
      | [] => .inr [p]
      | _ :: _ => match rz rest (mis (b.length - rest.length)) with
        | .inl e => .inl e
        | .inr b' => match up r b' with
          | .inl e => .inl e
          | .inr l => .inr (p :: l)
/-- the packed form, from the front -/
def jq : List Pk → List UInt8
  | [] => []
  | p :: l => match l with
    | [] => pent p
    | _ :: _ => pent p ++ (zrs (mis (pent p).length) ++ jq l)
theorem pent_ne (p : Pk) (t : List UInt8) : pent p ++ t ≠ [] := fun h => by
  have := congrArg List.length h
  rw [List.length_append, pent_length] at this
  simp at this
theorem jq_ne : ∀ (p : Pk) (l : List Pk), jq (p :: l) ≠ []
  | p, [] => by have := pent_ne p []; rw [List.append_nil] at this; exact this
  | p, q :: r => pent_ne p _
theorem jnP_jq : ∀ (r : List Pk) (p : Pk) (acc : List UInt8), (p :: r).foldl jpstep acc = (acc ++ zrs (mis acc.length)) ++ jq (p :: r)
  | [], p, acc => rfl
  | q :: r, p, acc => by
    show (q :: r).foldl jpstep (jpstep acc p) = _
    rw [jnP_jq r q (jpstep acc p)]
    have e : mis (jpstep acc p).length = mis (pent p).length := by
      simp only [jpstep, List.length_append, zrs_length]
      unfold mis
      omega
    rw [e]
    show ((((acc ++ zrs (mis acc.length)) ++ pent p) ++ zrs (mis (pent p).length)) ++ jq (q :: r)) = (acc ++ zrs (mis acc.length)) ++ (pent p ++ (zrs (mis (pent p).length) ++ jq (q :: r)))
    simp only [List.append_assoc]
theorem jnP_eq : ∀ (l : List Pk), jnP l = jq l
  | [] => rfl
  | p :: r => jnP_jq r p []
theorem up_some : ∀ {r : Nat} {b : List UInt8} {l : List Pk}, up r b = .inr l → l ≠ [] ∧ l.length ≤ r ∧ (∀ q ∈ l, okK q) ∧ b = jq l
  | 0, b, l, h => by cases h
  | r + 1, b, l, h => by
    unfold up at h
    cases hp : rp b with
    | inl e => rw [hp] at h; cases h
    | inr x =>
      obtain ⟨p, rest⟩ := x
      rw [hp] at h
      obtain ⟨hb, hk⟩ := rp_some hp
      cases rest with
      | nil =>
        cases h
        rw [List.append_nil] at hb
        exact ⟨(by intro h; cases h), by simp, fun q hq => by rw [List.mem_singleton.1 hq]; exact hk, hb⟩
      | cons c t =>
        dsimp only at h
        have hlen : b.length - (c :: t).length = (pent p).length := by rw [hb, List.length_append]; omega
        rw [hlen] at h
        cases hz : rz (c :: t) (mis (pent p).length) with
        | inl e => rw [hz] at h; cases h
        | inr b' =>
          rw [hz] at h
          dsimp only at h
          obtain ⟨hz1, hz2⟩ := rz_some hz
          cases hu : up r b' with
          | inl e => rw [hu] at h; cases h
          | inr l' =>
            rw [hu] at h
            cases h
            obtain ⟨i1, i2, i3, i4⟩ := up_some hu
            refine ⟨(by intro h; cases h), (by simp; omega), fun q hq => (List.mem_cons.1 hq).elim (fun h => by rw [h]; exact hk) (i3 q), ?_⟩
            rw [hb, hz1]
            cases l' with
            | nil => exact absurd rfl i1
            | cons q r' => rw [i4]; rfl
theorem up_jq : ∀ {l : List Pk} {r : Nat}, l ≠ [] → l.length ≤ r → (∀ q ∈ l, okK q) → up r (jq l) = .inr l
  | [], _, h, _, _ => absurd rfl h
  | p :: l, 0, _, h, _ => by simp at h
  | p :: l, r + 1, _, h, hk => by
    have hp := hk p List.mem_cons_self
    cases l with
    | nil =>
      have e := rp_pent hp []
      rw [List.append_nil] at e
      show up (r + 1) (pent p) = _
      unfold up
      rw [e]
    | cons q t =>
      have hl : (q :: t).length ≤ r := by simp only [List.length_cons] at h ⊢; omega
      have ih := up_jq (l := q :: t) (r := r) (by intro h; cases h) hl fun x hx => hk x (List.mem_cons_of_mem _ hx)
      show up (r + 1) (pent p ++ (zrs (mis (pent p).length) ++ jq (q :: t))) = _
      unfold up
      rw [rp_pent hp]
      have hlen : (pent p ++ (zrs (mis (pent p).length) ++ jq (q :: t))).length - (zrs (mis (pent p).length) ++ jq (q :: t)).length = (pent p).length := by simp only [List.length_append]; omega
      have hz := rz_zrs (mis (pent p).length) (jq_ne q t)
      dsimp only
      rw [hlen]
      generalize hX : zrs (mis (pent p).length) ++ jq (q :: t) = X at hz ⊢
      cases X with
      | nil =>
        have := congrArg List.length hX
        rw [List.length_append] at this
        have h2 := jq_ne q t
        cases hj : jq (q :: t) with
        | nil => exact absurd hj h2
        | cons c u => rw [hj] at this; simp at this
      | cons c u =>
        dsimp only
        rw [hz]
        dsimp only
        rw [ih]
/-- Unpack's answer -/
def un (b : List UInt8) : Nat ⊕ List Pk := match Nat.ble b.length 2304 with
  | false => .inl 11
  | true => up 32 b
theorem un_back {b : List UInt8} {l : List Pk} (h : un b = .inr l) : paE l = 0 ∧ jnP l = b ∧ l.length ≤ 32 ∧ ∀ q ∈ l, okK q := by
  unfold un at h
  cases hb : Nat.ble b.length 2304 with
  | false => rw [hb] at h; cases h
  | true =>
    rw [hb] at h
    obtain ⟨h1, h2, h3, h4⟩ := up_some h
    have e : jnP l = b := by rw [jnP_eq, h4]
    exact ⟨paE_ok ⟨h2, h3⟩ h1 (by rw [e]; exact Nat.le_of_ble_eq_true hb), e, h2, h3⟩
theorem un_pack {l : List Pk} (h : paE l = 0) : un (jnP l) = .inr l := by
  obtain ⟨⟨h1, h2⟩, h3, h4⟩ := paE_zero h
  unfold un
  rw [bleT h4, jnP_eq]
  exact up_jq h3 h1 h2
end
end Go.Proofs.Ytmpmhkjfpeagkaa
