/- readZeros: the contract; Unpack's round. -/
import Derived.Test.YtmpmhkjfpeagkaaYa
namespace Go.Proofs.Ytmpmhkjfpeagkaa
open Go.RowKit

noncomputable section
/-- readZeros' answer -/
def rz (b : List UInt8) (n : Nat) : Nat ⊕ List UInt8 := match Nat.ble n b.length with
  | false => .inl 10
  | true => match decide (ixV (b.take n) 0 ≥ 0) with
    | true => .inl 12
    | false => match Nat.beq b.length n with
      | true => .inl 12
      | false => .inr (b.drop n)
def rzD (b : List UInt8) (n : Nat) : DV := match rz b n with
  | .inl e => .tuple [.nil, iN e]
  | .inr r => .tuple [byL r, iN 0]
theorem rzD_flat (b : List UInt8) (n : Nat) : flatD (rzD b n) = true := by
  unfold rzD
  split <;> rfl
theorem rz_ans (x : Bs × Nat) : Ans Try.prog fRz [byL x.1.1, iN x.2] (rzD x.1.1 x.2) ⟨0, [], []⟩ := by
  obtain ⟨⟨b, hb⟩, n⟩ := x
  show Ans _ _ _ (rzD b n) _
  have hbl := by1_length b
  unfold rzD rz
  cases h1 : Nat.ble n b.length with
  | false =>
    have h1' : n > b.length := Nat.lt_of_not_le fun h => by rw [bleT h] at h1; cases h1
    exact zflat_ok tab_ok mixed fun_ok cIx_ok (rz10 (by1 b) n) (.cons (decide_eq_true (by omega)) .nil)
  | true =>
    have h1' := Nat.le_of_ble_eq_true h1
    have q1 : decide (((by1 b).length : Int) < (n : Int)) = false := decide_eq_false (by omega)
    have q2 : sliceD tab h00 bTI (.list 1 (by1 b)) none (some (iN n)) none = some (.list 1 (by1 (b.take n))) := by rw [slice_to (by omega), by1_take]
    have q3 := cIx_at (b.take n) (by rw [List.length_take]; omega)
    cases h2 : decide (ixV (b.take n) 0 ≥ 0) with
    | true => exact zflat_ok tab_ok mixed fun_ok cIx_ok (rz12 (by1 b) (by1 (b.take n)) n (ixV (b.take n) 0)) (.cons q1 (.cons q2 (.cons q3 (.cons h2 .nil))))
    | false =>
      try dsimp only
      cases h3 : Nat.beq b.length n with
      | true =>
        have h3' := Nat.eq_of_beq_eq_true h3
        exact zflat_ok tab_ok mixed fun_ok cIx_ok (rz12' (by1 b) (by1 (b.take n)) n (ixV (b.take n) 0)) (.cons q1 (.cons q2 (.cons q3 (.cons h2 (.cons (beq_iff_eq.2 (by omega)) .nil)))))
      | false =>
        have h3' := Nat.ne_of_beq_eq_false h3
        exact zflat_ok tab_ok mixed fun_ok cIx_ok (rz0 (by1 b) (by1 (b.take n)) (by1 (b.drop n)) n (ixV (b.take n) 0)) (.cons q1 (.cons q2 (.cons q3 (.cons h2 (.cons (beq_false_of_ne (by omega)) (.cons (by rw [slice_from (by omega), by1_drop]) .nil))))))
theorem iN_inj {a b : Nat} (h : iN a = iN b) : a = b := by
  simp only [iN, DV.int.injEq, true_and] at h
  omega
def cRz : ConF := liftC (eqC fRz (fun x : Bs × Nat => [byL x.1.1, iN x.2]) fun x => (rzD x.1.1 x.2, ⟨0, [], []⟩))
theorem cRz_ok : ConOk Try.prog cRz := liftC_ok (eqC_ok rz_ans fun _ => rfl)
theorem cRz_at (hp : Hp) (b : List UInt8) (n : Nat) (h : b.length < 2 ^ 30) : cRz fRz [byL b, iN n] hp = some (rzD b n, hp, none) :=
  lift_at (A := fun x : Bs × Nat => [byL x.1.1, iN x.2]) (D := fun x => rzD x.1.1 x.2) (fun x y hxy => by
    simp only [List.cons.injEq, and_true] at hxy
    rw [byL_inj' hxy.1, iN_inj hxy.2]) hp (⟨b, h⟩, n) rfl (rzD_flat b n)
/-! ### Unpack -/
def cUk : ConF := orK cRp cRz
theorem cUk_ok : ConOk Try.prog cUk := orK_ok cRp_ok cRz_ok
theorem cUk_rp (hp : Hp) (b : List UInt8) (h : b.length < 2 ^ 30) : cUk fRp [byL b] hp = some (rpD b, hp, none) := orK_left (cRp_at hp b h)
theorem cUk_rz (hp : Hp) (b : List UInt8) (n : Nat) (h : b.length < 2 ^ 30) : cUk fRz [byL b, iN n] hp = some (rzD b n, hp, none) := orK_right (lift_oth (eqC_other (by kernel_rfl))) (cRz_at hp b n h)
abbrev fUn : FuncId := 13
abbrev kUn : List (Nat × Nat) := ksF ftab fUn
abbrev unL : Code := loopAt (bodyOf ftab fUn) 0
abbrev unS (xs : List (List DV)) (d : DV) : Slots := mkT 45 [(0, .list 1 xs), (4, d)]
abbrev tyK : List TypeId := [26, 26]
end
end Go.Proofs.Ytmpmhkjfpeagkaa
