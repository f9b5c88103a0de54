/- readPacket: a contract. -/
import Derived.Test.YtmpmhkjfpeagkaaKy
import Derived.Test.YtmpmhkjfpeagkaaKj
namespace Go.Proofs.Ytmpmhkjfpeagkaa
open Go.RowKit

noncomputable section
abbrev fRp : FuncId := 29
abbrev hd14 (t0 t1 t2 t3 t4 t5 f0 f1 f2 f3 f4 f5 l0 l1 : UInt8) (rs : List (List DV)) : List (List DV) := [i8 t0] :: [i8 t1] :: [i8 t2] :: [i8 t3] :: [i8 t4] :: [i8 t5] :: [i8 f0] :: [i8 f1] :: [i8 f2] :: [i8 f3] :: [i8 f4] :: [i8 f5] :: [i8 l0] :: [i8 l1] :: rs
abbrev zpk : List DV := [i8 0, i8 0, i8 0, i8 0, i8 0, i8 0, i8 0, i8 0, i8 0, i8 0, i8 0, i8 0, .nil]
abbrev npk (t0 t1 t2 t3 t4 t5 f0 f1 f2 f3 f4 f5 : UInt8) : List DV := [i8 t0, i8 t1, i8 t2, i8 t3, i8 t4, i8 t5, i8 f0, i8 f1, i8 f2, i8 f3, i8 f4, i8 f5, .nil]
abbrev HR (t0 t1 t2 t3 t4 t5 f0 f1 f2 f3 f4 f5 : UInt8) : Hp := ⟨1, [⟨0, 0, 30, npk t0 t1 t2 t3 t4 t5 f0 f1 f2 f3 f4 f5⟩], []⟩
abbrev HS3 (t0 t1 t2 t3 t4 t5 f0 f1 f2 f3 f4 f5 : UInt8) (ps : List (List DV)) : Hp := ⟨1, [⟨0, 0, 30, pkc t0 t1 t2 t3 t4 t5 f0 f1 f2 f3 f4 f5 ps⟩], []⟩
section
variable (t0 t1 t2 t3 t4 t5 f0 f1 f2 f3 f4 f5 l0 l1 : UInt8) (rs ps qs : List (List DV)) (n : Nat)
abbrev rpK (t : List Prop) : List Prop := (decide (((hd14 t0 t1 t2 t3 t4 t5 f0 f1 f2 f3 f4 f5 l0 l1 rs).length : Int) < 14) = false) :: anN l0 l1 n :: (sliceD tab (HR t0 t1 t2 t3 t4 t5 f0 f1 f2 f3 f4 f5) bTI (.list 1 (hd14 t0 t1 t2 t3 t4 t5 f0 f1 f2 f3 f4 f5 l0 l1 rs)) (some (.int .i64 14)) none none = some (.list 1 rs)) :: t
set_option maxRecDepth 1000000 in
theorem rp10 (xs : List (List DV)) : zflat (zans Try.prog tab ftab cBc fRp [.list 1 xs] [(8, .b true)]) = some (.tuple [.agg zpk, .nil, iN 10], (decide ((xs.length : Int) < 14) = true) :: []) := by kernel_rfl
set_option maxRecDepth 1000000 in
theorem rp12 : zflat (zans Try.prog tab ftab cBc fRp [.list 1 (hd14 t0 t1 t2 t3 t4 t5 f0 f1 f2 f3 f4 f5 l0 l1 rs)] [(8, .b false), (26, .w (iN n)), (28, .n (.list 1 rs)), (32, .c [(6, .b true)])]) = some (.tuple [.agg zpk, .nil, iN 12], rpK t0 t1 t2 t3 t4 t5 f0 f1 f2 f3 f4 f5 l0 l1 rs n (grP f0 true :: [])) := by kernel_rfl
set_option maxRecDepth 1000000 in
theorem rp11 : zflat (zans Try.prog tab ftab cBc fRp [.list 1 (hd14 t0 t1 t2 t3 t4 t5 f0 f1 f2 f3 f4 f5 l0 l1 rs)] [(8, .b false), (26, .w (iN n)), (28, .n (.list 1 rs)), (32, .c [(6, .b false)]), (36, .b true)]) = some (.tuple [.agg zpk, .nil, iN 11], rpK t0 t1 t2 t3 t4 t5 f0 f1 f2 f3 f4 f5 l0 l1 rs n (grP f0 false :: (decide ((n : Int) > 1500) = true) :: [])) := by kernel_rfl
set_option maxRecDepth 1000000 in
theorem rp10' : zflat (zans Try.prog tab ftab cBc fRp [.list 1 (hd14 t0 t1 t2 t3 t4 t5 f0 f1 f2 f3 f4 f5 l0 l1 rs)] [(8, .b false), (26, .w (iN n)), (28, .n (.list 1 rs)), (32, .c [(6, .b false)]), (36, .b false), (42, .b true)]) = some (.tuple [.agg zpk, .nil, iN 10], rpK t0 t1 t2 t3 t4 t5 f0 f1 f2 f3 f4 f5 l0 l1 rs n (grP f0 false :: (decide ((n : Int) > 1500) = false) :: (decide ((n : Int) > (rs.length : Int)) = true) :: [])) := by kernel_rfl
set_option maxRecDepth 1000000 in
theorem rp0 : zflat (zans Try.prog tab ftab cBc fRp [.list 1 (hd14 t0 t1 t2 t3 t4 t5 f0 f1 f2 f3 f4 f5 l0 l1 rs)] [(8, .b false), (26, .w (iN n)), (28, .n (.list 1 rs)), (32, .c [(6, .b false)]), (36, .b false), (42, .b false), (46, .n (.list 1 ps)), (47, .q (.list 1 ps)), (52, .n (.list 1 qs))]) = some (.tuple [.agg (pkc t0 t1 t2 t3 t4 t5 f0 f1 f2 f3 f4 f5 ps), .list 1 qs, iN 0], rpK t0 t1 t2 t3 t4 t5 f0 f1 f2 f3 f4 f5 l0 l1 rs n (grP f0 false :: (decide ((n : Int) > 1500) = false) :: (decide ((n : Int) > (rs.length : Int)) = false) :: (sliceD tab (HR t0 t1 t2 t3 t4 t5 f0 f1 f2 f3 f4 f5) bTI (.list 1 rs) none (some (iN n)) none = some (.list 1 ps)) :: (cBc fBc [.list 1 ps] (HR t0 t1 t2 t3 t4 t5 f0 f1 f2 f3 f4 f5) = some (.list 1 ps, HR t0 t1 t2 t3 t4 t5 f0 f1 f2 f3 f4 f5, none)) :: (sliceD tab (HS3 t0 t1 t2 t3 t4 t5 f0 f1 f2 f3 f4 f5 ps) bTI (.list 1 rs) (some (iN n)) none none = some (.list 1 qs)) :: [])) := by kernel_rfl
end
/-- readPacket's answer -/
def rp : List UInt8 → Nat ⊕ (Pk × List UInt8)
  | t0 :: t1 :: t2 :: t3 :: t4 :: t5 :: f0 :: f1 :: f2 :: f3 :: f4 :: f5 :: l0 :: l1 :: rs =>
    match Nat.beq (f0.toNat % 2) 1 with
    | true => .inl 12
    | false => match Nat.ble (l0.toNat + 256 * l1.toNat) 1500 with
      | false => .inl 11
      | true => match Nat.ble (l0.toNat + 256 * l1.toNat) rs.length with
        | false => .inl 10
        | true => .inr (⟨t0, t1, t2, t3, t4, t5, f0, f1, f2, f3, f4, f5, rs.take (l0.toNat + 256 * l1.toNat)⟩, rs.drop (l0.toNat + 256 * l1.toNat))
  | _ => .inl 10
def rpD (b : List UInt8) : DV := match rp b with
  | .inl e => .tuple [.agg zpk, .nil, iN e]
  | .inr (p, r) => .tuple [.agg (pkD p), byL r, iN 0]
theorem split14 (b : List UInt8) (h : 14 ≤ b.length) : ∃ t0 t1 t2 t3 t4 t5 f0 f1 f2 f3 f4 f5 l0 l1 rs, b = t0 :: t1 :: t2 :: t3 :: t4 :: t5 :: f0 :: f1 :: f2 :: f3 :: f4 :: f5 :: l0 :: l1 :: rs := by
  match b, h with
  | t0 :: t1 :: t2 :: t3 :: t4 :: t5 :: f0 :: f1 :: f2 :: f3 :: f4 :: f5 :: l0 :: l1 :: rs, _ => exact ⟨t0, t1, t2, t3, t4, t5, f0, f1, f2, f3, f4, f5, l0, l1, rs, rfl⟩
theorem rp_short {b : List UInt8} (h : b.length < 14) : rp b = .inl 10 := by
  unfold rp
  split
  · simp at h
    omega
  · rfl
theorem rp_ans (x : Bs) : Ans Try.prog fRp [byL x.1] (rpD x.1) ⟨0, [], []⟩ := by
  obtain ⟨b, hb⟩ := x
  show Ans _ _ _ (rpD b) _
  by_cases h : 14 ≤ b.length
  · obtain ⟨t0, t1, t2, t3, t4, t5, f0, f1, f2, f3, f4, f5, l0, l1, rs, rfl⟩ := split14 b h
    have hn := num_ok l0 l1
    have hrl := by1_length rs
    obtain ⟨n, hN⟩ : ∃ n, n = l0.toNat + 256 * l1.toNat := ⟨_, rfl⟩
    have q0 : decide (((hd14 t0 t1 t2 t3 t4 t5 f0 f1 f2 f3 f4 f5 l0 l1 (by1 rs)).length : Int) < 14) = false := decide_eq_false (by simp only [List.length_cons]; omega)
    have q1 : sliceD tab (HR t0 t1 t2 t3 t4 t5 f0 f1 f2 f3 f4 f5) bTI (.list 1 (hd14 t0 t1 t2 t3 t4 t5 f0 f1 f2 f3 f4 f5 l0 l1 (by1 rs))) (some (.int .i64 14)) none none = some (.list 1 (by1 rs)) := (slice_from (n := 14) (by simp only [List.length_cons]; omega)).trans rfl
    have g := gr_ok f0
    unfold rpD rp
    dsimp only
    rw [← hN] at hn ⊢
    cases h1 : Nat.beq (f0.toNat % 2) 1 with
    | true =>
      have h1' := Nat.eq_of_beq_eq_true h1
      exact zflat_ok tab_ok mixed fun_ok cBc_ok (rp12 t0 t1 t2 t3 t4 t5 f0 f1 f2 f3 f4 f5 l0 l1 (by1 rs) n) (.cons q0 (.cons hn (.cons q1 (.cons (by unfold grP; rw [g]; exact decide_eq_true h1') .nil))))
    | false =>
      have h1' := Nat.ne_of_beq_eq_false h1
      have g0 : grP f0 false := by unfold grP; rw [g]; exact decide_eq_false h1'
      cases h2 : Nat.ble n 1500 with
      | false =>
        have h2' : n > 1500 := Nat.lt_of_not_le fun h => by rw [bleT h] at h2; cases h2
        exact zflat_ok tab_ok mixed fun_ok cBc_ok (rp11 t0 t1 t2 t3 t4 t5 f0 f1 f2 f3 f4 f5 l0 l1 (by1 rs) n) (.cons q0 (.cons hn (.cons q1 (.cons g0 (.cons (decide_eq_true (by omega)) .nil)))))
      | true =>
        have h2' := Nat.le_of_ble_eq_true h2
        have d2 : decide ((n : Int) > 1500) = false := decide_eq_false (by omega)
        cases h3 : Nat.ble n rs.length with
        | false =>
          have h3' : n > rs.length := Nat.lt_of_not_le fun h => by rw [bleT h] at h3; cases h3
          exact zflat_ok tab_ok mixed fun_ok cBc_ok (rp10' t0 t1 t2 t3 t4 t5 f0 f1 f2 f3 f4 f5 l0 l1 (by1 rs) n) (.cons q0 (.cons hn (.cons q1 (.cons g0 (.cons d2 (.cons (decide_eq_true (by omega)) .nil))))))
        | true =>
          have h3' := Nat.le_of_ble_eq_true h3
          refine zflat_ok tab_ok mixed fun_ok cBc_ok (rp0 t0 t1 t2 t3 t4 t5 f0 f1 f2 f3 f4 f5 l0 l1 (by1 rs) (by1 (rs.take n)) (by1 (rs.drop n)) n) (.cons q0 (.cons hn (.cons q1 (.cons g0 (.cons d2 (.cons (decide_eq_false (by omega)) (.cons ?_ (.cons ?_ (.cons ?_ .nil)))))))))
          · rw [slice_to (by omega), by1_take]
          · exact cBc_at _ _ (by rw [List.length_take]; omega)
          · rw [slice_from (by omega), by1_drop]
  · unfold rpD
    rw [rp_short (by omega)]
    exact zflat_ok tab_ok mixed fun_ok cBc_ok (rp10 (by1 b)) (.cons (decide_eq_true (by rw [by1_length]; omega)) .nil)
theorem rpD_flat (b : List UInt8) : flatD (rpD b) = true := by
  unfold rpD
  split <;> rfl
def cRp : ConF := liftC (eqC fRp (fun x : Bs => [byL x.1]) fun x => (rpD x.1, ⟨0, [], []⟩))
theorem cRp_ok : ConOk Try.prog cRp := liftC_ok (eqC_ok rp_ans fun _ => rfl)
theorem cRp_at (hp : Hp) (b : List UInt8) (h : b.length < 2 ^ 30) : cRp fRp [byL b] hp = some (rpD b, hp, none) :=
  lift_at (A := fun x : Bs => [byL x.1]) (D := fun x => rpD x.1) (fun x y hxy => by
    simp only [List.cons.injEq, and_true] at hxy
    rw [byL_inj' hxy]) hp ⟨b, h⟩ rfl (rpD_flat b)
end
end Go.Proofs.Ytmpmhkjfpeagkaa
