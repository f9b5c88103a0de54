/- Reasons: tables of the contracts; what is encoded is decoded. -/
import Derived.Test.YtagliahkojmncaaBd
import Derived.Test.YtagliahkojmncaaBv
import Derived.Test.YtagliahkojmncaaEs
import Derived.Test.YtagliahkojmncaaBe
namespace Go.Proofs.Ytagliahkojmncaa
open Go.RowKit

noncomputable section
theorem drD_flat (b : List UInt8) : flatD (drD b) = true := by
  unfold drD
  split
  · rfl
  · rfl
  · split <;> rfl
def cDr : ConF := liftC (eqC fDr (fun x : Bs => [byL x.1]) fun x => (drD x.1, ⟨0, [], []⟩))
theorem cDr_ok : ConOk Try.prog cDr := liftC_ok (eqC_ok dr_ans fun _ => rfl)
theorem cDr_at (hp : Hp) (b : Bs) : cDr fDr [byL b.1] hp = some (drD b.1, hp, none) :=
  lift_at (A := fun x : Bs => [byL x.1]) (D := fun x => drD x.1) (fun x y hxy => by
    simp only [List.cons.injEq, and_true] at hxy
    rw [byL_inj hxy]) hp b rfl (drD_flat _)
theorem cEr_at (hp : Hp) (c : Nat) (l : List El) (h : c < 65536 ∧ SmL l ∧ depA l ≤ 2 ^ 39) : cEr fEr [.agg [w16 c, elsD l]] hp = some (wiD (frE c) l, hp, none) :=
  lift_at (A := fun x : ErX => [.agg [w16 x.1.1, elsD x.1.2]]) (D := fun x => wiD (frE x.1.1) x.1.2) (fun x y hxy => by
    simp only [List.cons.injEq, and_true, DV.agg.injEq, DV.int.injEq, true_and] at hxy
    rw [show x.1.1 = y.1.1 by omega, els_inj hxy.2]) hp ⟨(c, l), h⟩ rfl (wiD_flat _ _)
theorem leN_frE {c : Nat} (h : c < 65536) : leN (frE c) = c := by
  have e0 : (UInt8.ofNat (c / 256 ^ 0 % 256)).toNat = c % 256 := by
    rw [UInt8.toNat_ofNat_of_lt' (Nat.mod_lt _ (by decide)), Nat.pow_zero, Nat.div_one]
  have e1 : (UInt8.ofNat (c / 256 ^ 1 % 256)).toNat = c / 256 % 256 := by
    rw [UInt8.toNat_ofNat_of_lt' (Nat.mod_lt _ (by decide)), Nat.pow_one]
  simp only [frE, leN, e0, e1]
  omega
end
end Go.Proofs.Ytagliahkojmncaa
