/- A list turned round: its encoding has the same length, or the same error. -/
import Derived.Test.YtagliahkojmncaaEz
namespace Go.Proofs.Ytagliahkojmncaa
open Go.RowKit

noncomputable section
mutual
def ndE : El → Nat
  | .mk _ _ _ s => 1 + ndA s
def ndA : List El → Nat
  | [] => 0
  | x :: l => ndE x + ndA l
end
mutual
def dqE : El → Nat → Prop
  | .mk _ _ _ s, d => d ≤ 4 ∧ dqA s (d + 1)
def dqA : List El → Nat → Prop
  | [], _ => True
  | x :: l, d => dqE x d ∧ dqA l d
end
mutual
theorem vfE_iff : ∀ (x : El) (d n : Nat), ((vfE x d n).2 = true ↔ dqE x d ∧ n + ndE x ≤ 64) ∧ ((vfE x d n).2 = true → (vfE x d n).1 = n + ndE x)
  | .mk i e dt s, d, n => by
    cases hq : (decide (n + 1 > 64) || decide (d > 4)) with
    | true =>
      have h : vfE (.mk i e dt s) d n = (n + 1, false) := by
        rw [vfE]
        simp only [hq]
      rw [h]
      refine ⟨⟨fun h => (by cases h), fun ⟨h1, h2⟩ => ?_⟩, fun h => (by cases h)⟩
      rw [Bool.or_eq_true, decide_eq_true_eq, decide_eq_true_eq] at hq
      rw [dqE] at h1
      rw [ndE] at h2
      omega
    | false =>
      have h : vfE (.mk i e dt s) d n = vfA s (d + 1) (n + 1) := by
        rw [vfE]
        simp only [hq]
      rw [Bool.or_eq_false_iff, decide_eq_false_iff_not, decide_eq_false_iff_not] at hq
      obtain ⟨h1, h2⟩ := vfA_iff s (d + 1) (n + 1) (by omega)
      rw [h, dqE, ndE]
      refine ⟨h1.trans ⟨fun ⟨a, b⟩ => ⟨⟨by omega, a⟩, by omega⟩, fun ⟨a, b⟩ => ⟨a.2, by omega⟩⟩, fun q => ?_⟩
      rw [h2 q]
      omega
theorem vfA_iff : ∀ (l : List El) (d n : Nat), n ≤ 64 → ((vfA l d n).2 = true ↔ dqA l d ∧ n + ndA l ≤ 64) ∧ ((vfA l d n).2 = true → (vfA l d n).1 = n + ndA l)
  | [], d, n, hn => ⟨⟨fun _ => ⟨trivial, hn⟩, fun _ => rfl⟩, fun _ => rfl⟩
  | x :: l, d, n, _ => by
    obtain ⟨h1, h2⟩ := vfE_iff x d n
    rw [dqA, ndA]
    cases hx : (vfE x d n).2 with
    | false =>
      have h : vfA (x :: l) d n = vfE x d n := by
        rw [vfA]
        simp only [hx]
      rw [h, hx]
      refine ⟨⟨fun h => (by cases h), fun ⟨a, b⟩ => ?_⟩, fun h => (by cases h)⟩
      have := h1.2 ⟨a.1, by omega⟩
      rw [hx] at this
      cases this
    | true =>
      have h : vfA (x :: l) d n = vfA l d (vfE x d n).1 := by
        rw [vfA]
        simp only [hx]
      have q := h1.1 hx
      rw [h, h2 hx]
      obtain ⟨h3, h4⟩ := vfA_iff l d (n + ndE x) q.2
      refine ⟨h3.trans ⟨fun ⟨a, b⟩ => ⟨⟨q.1, a⟩, by omega⟩, fun ⟨a, b⟩ => ⟨a.2, by omega⟩⟩, fun p => ?_⟩
      rw [h4 p]
      omega
end
theorem ndA_append (l m : List El) : ndA (l ++ m) = ndA l + ndA m := by
  induction l with
  | nil => simp [ndA]
  | cons x l ih => rw [List.cons_append, ndA, ndA, ih]; omega
theorem ndA_reverse (l : List El) : ndA l.reverse = ndA l := by
  induction l with
  | nil => rfl
  | cons x l ih => rw [List.reverse_cons, ndA_append, ih, ndA, ndA, ndA]; omega
theorem dqA_iff (l : List El) (d : Nat) : dqA l d ↔ ∀ x ∈ l, dqE x d := by
  induction l with
  | nil => exact ⟨fun _ x h => (by cases h), fun _ => trivial⟩
  | cons x l ih => rw [dqA, ih]; simp
theorem vdA_all (l : List El) : vdA l = l.all vdE := by
  induction l with
  | nil => rfl
  | cons x l ih => rw [vdA, ih]; rfl
theorem szA_append : ∀ (l m : List El) (a : Nat), szA a (l ++ m) = (szA a l).bind fun b => szA b m
  | [], m, a => rfl
  | x :: l, m, a => by
    rw [List.cons_append, szA, szA]
    cases szE x with
    | none => rfl
    | some n => exact szA_append l m (a + n)
theorem szA_plus : ∀ (l : List El) (a b : Nat), szA (a + b) l = (szA a l).map (· + b)
  | [], a, b => rfl
  | x :: l, a, b => by
    rw [szA, szA]
    cases szE x with
    | none => rfl
    | some n =>
      show szA (a + b + n) l = (szA (a + n) l).map (· + b)
      rw [show a + b + n = a + n + b by omega]
      exact szA_plus l (a + n) b
theorem szA_reverse (l : List El) : ∀ a, szA a l.reverse = szA a l := by
  induction l with
  | nil => exact fun _ => rfl
  | cons x l ih =>
    intro a
    rw [List.reverse_cons, szA_append, ih]
    cases hx : szE x with
    | none =>
      have h1 : ∀ b, szA b [x] = none := fun b => by rw [szA, hx]
      have h2 : szA a (x :: l) = none := by rw [szA, hx]
      rw [h2]
      cases szA a l with
      | none => rfl
      | some b => exact h1 b
    | some n =>
      have h1 : ∀ b, szA b [x] = some (b + n) := fun b => by rw [szA, hx]; rfl
      have h2 : szA a (x :: l) = szA (a + n) l := by rw [szA, hx]
      rw [h2, szA_plus]
      cases szA a l with
      | none => rfl
      | some b => exact h1 b
theorem szR_reverse (l : List El) : szR l.reverse = szR l := by
  have h1 : (vfA l.reverse 1 0).2 = (vfA l 1 0).2 := by
    have a := (vfA_iff l.reverse 1 0 (by decide)).1
    have b := (vfA_iff l 1 0 (by decide)).1
    have c : (dqA l.reverse 1 ∧ 0 + ndA l.reverse ≤ 64) ↔ (dqA l 1 ∧ 0 + ndA l ≤ 64) := by
      rw [ndA_reverse, dqA_iff, dqA_iff]
      simp
    exact Bool.eq_iff_iff.2 (a.trans (c.trans b.symm))
  have h2 : vdA l.reverse = vdA l := by
    rw [vdA_all, vdA_all, List.all_reverse]
  unfold szR
  rw [h1, h2, szA_reverse]
end
end Go.Proofs.Ytagliahkojmncaa
