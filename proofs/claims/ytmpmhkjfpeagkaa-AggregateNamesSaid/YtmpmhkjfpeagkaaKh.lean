/- announced: a contract; Scan, along its paths. -/
import Derived.Test.YtmpmhkjfpeagkaaKg
import Derived.Test.YtmpmhkjfpeagkaaQd
namespace Go.Proofs.Ytmpmhkjfpeagkaa
open Go.RowKit

noncomputable section
abbrev fAn : FuncId := 35
abbrev anA (a b c d : UInt8) (rs : List (List DV)) : List DV := [.list 1 ([i8 a] :: [i8 b] :: [i8 c] :: [i8 d] :: rs)]
abbrev anN (a b : UInt8) (n : Nat) : Prop := DV.int .i64 (bitD .or .i64 (IntKind.i64.wrap (a.toNat : Int)) (shlD .i64 (IntKind.i64.wrap (b.toNat : Int)) 8)) = iN n
abbrev anQ (a b q : UInt8) : Prop := cC8 fC8 [.sl 1 0 1 2 2] ⟨2, [oR 0 [i8 a, i8 b], oZ4], []⟩ = some (i8 q, ⟨2, [oR 0 [i8 a, i8 b], oZ4], []⟩, none)
abbrev anE (a b c d q : UInt8) : Bool := !(((a.toNat : Int) == (a.toNat : Int)) && (((b.toNat : Int) == (b.toNat : Int)) && (((c.toNat : Int) == (q.toNat : Int)) && (((d.toNat : Int) == 78) && true))))
section
variable (a b c d q : UInt8) (rs : List (List DV)) (n : Nat)
set_option maxRecDepth 1000000 in
theorem an1 : zflat (zans Try.prog tab ftab cC8 fAn (anA a b c d rs) [(10, .w (iN n)), (12, .b true)]) = some (iN 0, anN a b n :: (decide ((n : Int) < 1) = true) :: []) := by kernel_rfl
set_option maxRecDepth 1000000 in
theorem an2 : zflat (zans Try.prog tab ftab cC8 fAn (anA a b c d rs) [(10, .w (iN n)), (12, .b false), (15, .b true)]) = some (iN 0, anN a b n :: (decide ((n : Int) < 1) = false) :: (decide ((n : Int) > 2400) = true) :: []) := by kernel_rfl
set_option maxRecDepth 1000000 in
theorem an3 : zflat (zans Try.prog tab ftab cC8 fAn (anA a b c d rs) [(10, .w (iN n)), (12, .b false), (15, .b false), (22, .b true)]) = some (iN 0, anN a b n :: (decide ((n : Int) < 1) = false) :: (decide ((n : Int) > 2400) = false) :: (decide ((n : Int) > IntKind.i64.wrap (((([i8 a] :: [i8 b] :: [i8 c] :: [i8 d] :: rs) : List (List DV)).length : Int) - 4)) = true) :: []) := by kernel_rfl
set_option maxRecDepth 1000000 in
theorem an4 : zflat (zans Try.prog tab ftab cC8 fAn (anA a b c d rs) [(10, .w (iN n)), (12, .b false), (15, .b false), (22, .b false), (34, .c [(10, .q (i8 q))]), (35, .b true)]) = some (iN 0, anN a b n :: (decide ((n : Int) < 1) = false) :: (decide ((n : Int) > 2400) = false) :: (decide ((n : Int) > IntKind.i64.wrap (((([i8 a] :: [i8 b] :: [i8 c] :: [i8 d] :: rs) : List (List DV)).length : Int) - 4)) = false) :: anQ a b q :: (anE a b c d q = true) :: []) := by kernel_rfl
set_option maxRecDepth 1000000 in
theorem an0 : zflat (zans Try.prog tab ftab cC8 fAn (anA a b c d rs) [(10, .w (iN n)), (12, .b false), (15, .b false), (22, .b false), (34, .c [(10, .q (i8 q))]), (35, .b false)]) = some (iN n, anN a b n :: (decide ((n : Int) < 1) = false) :: (decide ((n : Int) > 2400) = false) :: (decide ((n : Int) > IntKind.i64.wrap (((([i8 a] :: [i8 b] :: [i8 c] :: [i8 d] :: rs) : List (List DV)).length : Int) - 4)) = false) :: anQ a b q :: (anE a b c d q = false) :: []) := by kernel_rfl
end
theorem orI {a b : Nat} (ha : a < 2 ^ 62) (hb : b < 2 ^ 62) : bitD .or .i64 (a : Int) (b : Int) = ((a ||| b : Nat) : Int) := by
  simp only [bitD, BitVec.toNat_or, ofIntU (k := .i64) a (Nat.lt_of_lt_of_le ha (by decide)), ofIntU (k := .i64) b (Nat.lt_of_lt_of_le hb (by decide))]
  exact wrapI (Nat.lt_of_lt_of_le (Nat.or_lt_two_pow ha hb) (by decide))
theorem num_ok (a b : UInt8) : anN a b (a.toNat + 256 * b.toNat) := by
  have ha := UInt8.toNat_lt a
  have hb := UInt8.toNat_lt b
  have e1 : shlD .i64 (b.toNat : Int) 8 = ((2 ^ 8 * b.toNat : Nat) : Int) := by
    unfold shlD
    rw [show ((b.toNat : Int) * 2 ^ (min (8 : Int).toNat IntKind.i64.bits)) = ((2 ^ 8 * b.toNat : Nat) : Int) by
      show (b.toNat : Int) * 256 = _
      omega]
    exact wrapI (by omega)
  unfold anN
  rw [wrapI (n := a.toNat) (by omega), wrapI (n := b.toNat) (by omega), e1, orI (by omega) (by omega), Nat.or_comm, ← Nat.two_pow_add_eq_or_of_lt (by omega)]
  show DV.int .i64 ((256 * b.toNat + a.toNat : Nat) : Int) = _
  rw [Nat.add_comm]
  rfl
theorem beq_u8 (c q : UInt8) : ((c.toNat : Int) == (q.toNat : Int)) = decide (c = q) := by
  by_cases h : c = q
  · subst h
    simp
  · rw [decide_eq_false h]
    refine beq_false_of_ne fun e => h (UInt8.toNat_inj.1 ?_)
    omega
theorem anE_eq (a b c d q : UInt8) : anE a b c d q = !(decide (c = q) && decide (d = 78)) := by
  have h1 : ((a.toNat : Int) == (a.toNat : Int)) = true := beq_iff_eq.2 rfl
  have h2 : ((b.toNat : Int) == (b.toNat : Int)) = true := beq_iff_eq.2 rfl
  have h3 : ((d.toNat : Int) == 78) = decide (d = 78) := beq_u8 d 78
  unfold anE
  rw [h1, h2, h3, beq_u8 c q]
  simp
abbrev B4 : Type := {b : List UInt8 // 4 ≤ b.length ∧ b.length < 2 ^ 30}
theorem an_ans (x : B4) : Ans Try.prog fAn [byL x.1] (iN (ann x.1)) ⟨0, [], []⟩ := by
  obtain ⟨l, h4, h30⟩ := x
  obtain ⟨a, b, c, d, r, rfl⟩ : ∃ a b c d r, l = a :: b :: c :: d :: r := by
    match l, h4 with
    | a :: b :: c :: d :: r, _ => exact ⟨a, b, c, d, r, rfl⟩
  have hl : (((([i8 a] :: [i8 b] :: [i8 c] :: [i8 d] :: by1 r) : List (List DV)).length : Int) - 4) = ((r.length : Nat) : Int) := by
    simp only [List.length_cons, by1_length]
    omega
  have hr : r.length < 2 ^ 30 := by simp only [List.length_cons] at h30; omega
  have hw : IntKind.i64.wrap (((([i8 a] :: [i8 b] :: [i8 c] :: [i8 d] :: by1 r) : List (List DV)).length : Int) - 4) = ((r.length : Nat) : Int) := by rw [hl]; exact wrapI (by omega)
  have hq : anQ a b (c8 a b) := c8_at (o := oR 0 [i8 a, i8 b]) rfl rfl
  have hn := num_ok a b
  show Ans _ _ _ (iN (ann (a :: b :: c :: d :: r))) _
  obtain ⟨n, hN⟩ : ∃ n, n = a.toNat + 256 * b.toNat := ⟨_, rfl⟩
  unfold ann
  dsimp only
  rw [← hN] at hn ⊢
  by_cases h1 : 1 ≤ n
  · have q1 : decide ((n : Int) < 1) = false := decide_eq_false (by omega)
    by_cases h2 : n ≤ 2400
    · have q2 : decide ((n : Int) > 2400) = false := decide_eq_false (by omega)
      by_cases h3 : n ≤ r.length
      · have q3 : decide ((n : Int) > IntKind.i64.wrap (((([i8 a] :: [i8 b] :: [i8 c] :: [i8 d] :: by1 r) : List (List DV)).length : Int) - 4)) = false := by rw [hw]; exact decide_eq_false (by omega)
        by_cases h5 : c = c8 a b ∧ d = 78
        · rw [decide_eq_true ⟨h1, h2, h3, h5⟩]
          exact zflat_ok tab_ok mixed fun_ok cC8_ok (an0 a b c d (c8 a b) (by1 r) n) (.cons hn (.cons q1 (.cons q2 (.cons q3 (.cons hq (.cons (by rw [anE_eq, decide_eq_true h5.1, decide_eq_true h5.2]; rfl) .nil))))))
        · rw [decide_eq_false (fun h => h5 h.2.2.2)]
          refine zflat_ok tab_ok mixed fun_ok cC8_ok (an4 a b c d (c8 a b) (by1 r) n) (.cons hn (.cons q1 (.cons q2 (.cons q3 (.cons hq (.cons ?_ .nil))))))
          rw [anE_eq]
          by_cases h6 : c = c8 a b
          · rw [decide_eq_false (fun h => h5 ⟨h6, h⟩), Bool.and_false]
            rfl
          · rw [decide_eq_false h6]
            rfl
      · have q3 : decide ((n : Int) > IntKind.i64.wrap (((([i8 a] :: [i8 b] :: [i8 c] :: [i8 d] :: by1 r) : List (List DV)).length : Int) - 4)) = true := by rw [hw]; exact decide_eq_true (by omega)
        rw [decide_eq_false (fun h => h3 h.2.2.1)]
        exact zflat_ok tab_ok mixed fun_ok cC8_ok (an3 a b c d (by1 r) n) (.cons hn (.cons q1 (.cons q2 (.cons q3 .nil))))
    · rw [decide_eq_false (fun h => h2 h.2.1)]
      exact zflat_ok tab_ok mixed fun_ok cC8_ok (an2 a b c d (by1 r) n) (.cons hn (.cons q1 (.cons (decide_eq_true (by omega)) .nil)))
  · rw [decide_eq_false (fun h => h1 h.1)]
    exact zflat_ok tab_ok mixed fun_ok cC8_ok (an1 a b c d (by1 r) n) (.cons hn (.cons (decide_eq_true (by omega)) .nil))
def cAn : ConF := liftC (eqC fAn (fun x : B4 => [byL x.1]) fun x => (iN (ann x.1), ⟨0, [], []⟩))
theorem cAn_ok : ConOk Try.prog cAn := liftC_ok (eqC_ok an_ans fun _ => rfl)
theorem byL_inj' {a b : List UInt8} (h : byL a = byL b) : a = b := by
  simp only [byL, DV.list.injEq, true_and] at h
  exact by1_inj h
theorem cAn_at (hp : Hp) (b : List UInt8) (h : 4 ≤ b.length ∧ b.length < 2 ^ 30) : cAn fAn [byL b] hp = some (iN (ann b), hp, none) :=
  lift_at (A := fun x : B4 => [byL x.1]) (D := fun x => iN (ann x.1)) (fun x y hxy => by
    simp only [List.cons.injEq, and_true] at hxy
    rw [byL_inj' hxy]) hp ⟨b, h⟩ rfl rfl
end
end Go.Proofs.Ytmpmhkjfpeagkaa
