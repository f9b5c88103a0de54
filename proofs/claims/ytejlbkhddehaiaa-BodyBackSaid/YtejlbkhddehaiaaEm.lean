/- What is not too great is small. -/
import Derived.Test.YtejlbkhddehaiaaEg
namespace Go.Proofs.Ytejlbkhddehaiaa
open Go.RowKit

noncomputable section
/-! ### What is not too great is small -/
theorem wrap_id {x : Int} (h1 : -(2 ^ 63) ≤ x) (h2 : x < 2 ^ 63) : IntKind.i64.wrap x = x := by
  simp only [IntKind.wrap, IntKind.bits, IntKind.signed, Bool.true_and, decide_eq_true_eq, ge_iff_le]
  split <;> omega
theorem weB2_eq {b : Int} {d : List UInt8} (h0 : 0 ≤ b) (h1 : b < 2 ^ 62) (hd : d.length < 2 ^ 63) : weB2 b d = b - (d.length : Int) - 1 := by
  unfold weB2
  rw [wrap_id (x := b - (d.length : Int)) (by omega) (by omega), wrap_id (by omega) (by omega)]
theorem wgtL_some {r : Int → List El → Option Int} : ∀ {l : List El} {b c : Int}, okL l → 0 ≤ b → b ≤ 20000 → (∀ {b c s}, 0 ≤ b → b ≤ 20000 → okL s → r b s = some c → 0 ≤ c ∧ c ≤ b ∧ SmL s) → wgtL r b l = some c → 0 ≤ c ∧ c ≤ b ∧ smL l
  | [], b, c, _, h0, h1, _, h => by
    cases h
    exact ⟨h0, Int.le_refl _, trivial⟩
  | .mk i e d s :: l, b, c, ho, h0, h1, hr, h => by
    obtain ⟨⟨o1, o2, o3⟩, o4⟩ := ho
    have hw := weB2_eq (b := b) (d := d) h0 (by omega) o1
    unfold wgtL at h
    split at h
    · cases h
    · rename_i hb
      have hb := of_decide_eq_false hb
      split at h
      · cases h
      · rename_i b3 h3
        obtain ⟨k1, k2, k3⟩ := hr (by omega) (by omega) o3 h3
        obtain ⟨k4, k5, k6⟩ := wgtL_some (l := l) o4 k1 (by omega) hr h
        exact ⟨k4, by omega, ⟨by omega, k3⟩, k6⟩
theorem wgt_some : ∀ {k : Nat} {b c : Int} {l : List El}, 0 ≤ b → b ≤ 20000 → okL l → wgt k b l = some c → 0 ≤ c ∧ c ≤ b ∧ SmL l
  | 0, b, c, [], h0, h1, _, h => by
    cases h
    exact ⟨h0, Int.le_refl _, by simp, trivial⟩
  | 0, b, c, _ :: _, _, _, _, h => by cases h
  | k + 1, b, c, l, h0, h1, ho, h => by
    unfold wgt at h
    split at h
    · cases h
    · rename_i hl
      have hl := of_decide_eq_false hl
      obtain ⟨k1, k2, k3⟩ := wgtL_some ho h0 h1 (fun h0 h1 ho h => wgt_some h0 h1 ho h) h
      exact ⟨k1, k2, by omega, k3⟩
theorem wgt_len {k : Nat} {b c : Int} {l : List El} (h : wgt (k + 1) b l = some c) : l.length ≤ 200 := by
  unfold wgt at h
  split at h
  · cases h
  · rename_i hl
    have := of_decide_eq_false hl
    omega
theorem small_of {l : List El} (ho : okL l) (hg : grB l = false) : SmL l ∧ l.length ≤ 200 := by
  unfold grB at hg
  cases hw : wgt 10 20000 l with
  | none => rw [hw] at hg; cases hg
  | some c => exact ⟨(wgt_some (by decide) (by decide) ho hw).2.2, wgt_len hw⟩
/-! ### What is not too great -/
theorem wgtL_dep {k : Nat} {r : Int → List El → Option Int} : ∀ {l : List El} {b c : Int}, (∀ {b c s}, r b s = some c → depA s ≤ k) → wgtL r b l = some c → depA l ≤ k + 1
  | [], b, c, _, _ => Nat.zero_le _
  | .mk i e d s :: l, b, c, hr, h => by
    unfold wgtL at h
    split at h
    · cases h
    · split at h
      · cases h
      · rename_i b3 h3
        have h1 := hr h3
        have h2 := wgtL_dep (l := l) hr h
        show max (depA s + 1) (depA l) ≤ k + 1
        omega
theorem wgt_dep : ∀ {k : Nat} {b c : Int} {l : List El}, wgt k b l = some c → depA l ≤ k
  | 0, b, c, [], _ => Nat.le_refl _
  | 0, b, c, _ :: _, h => by cases h
  | k + 1, b, c, l, h => by
    unfold wgt at h
    split at h
    · cases h
    · exact wgtL_dep (fun h => wgt_dep h) h
theorem dep_of {l : List El} (hg : grB l = false) : depA l ≤ 10 := by
  unfold grB at hg
  cases hw : wgt 10 20000 l with
  | none => rw [hw] at hg; cases hg
  | some c => exact wgt_dep hw
end
end Go.Proofs.Ytejlbkhddehaiaa
