/- EncodeAuth, encoded: a contract. -/
import Derived.Test.YtejlbkhddehaiaaBx
namespace Go.Proofs.Ytejlbkhddehaiaa
open Go.RowKit

noncomputable section
abbrev fEAu : FuncId := 10
abbrev AuH (a b c : Nat) (a0 a1 b0 b1 c0 c1 : UInt8) (xs : List (List DV)) : Hp := ⟨19, [oU 3 13 [i8 a0, i8 a1, i8 b0, i8 b1, i8 c0, i8 c1], oU 0 0 [i8 c1], oU 2 13 [i8 a0, i8 a1, i8 b0, i8 b1, i8 c0], oU 0 0 [i8 c0], oU 2 13 [i8 a0, i8 a1, i8 b0, i8 b1], oU 2 0 [], oU 3 7 [i8 a0, i8 a1, i8 b0, i8 b1], oU 0 0 [i8 b1], oU 2 7 [i8 a0, i8 a1, i8 b0], oU 0 0 [i8 b0], oU 2 7 [i8 a0, i8 a1], oU 2 0 [], oU 3 2 [i8 a0, i8 a1], oU 0 0 [i8 a1], oU 2 2 [i8 a0], oU 0 0 [i8 a0], oU 2 0 [], ⟨0, 0, 23, [w16 a, w16 b, w16 c]⟩, ⟨0, 0, 28, [w16 a, w16 b, w16 c, .list 4 xs]⟩], []⟩
abbrev AuP (a0 a1 b0 b1 c0 c1 : UInt8) : YE := .c [(15, .c [(7, .c [(9, .c [(16, .w (i8 a0)), (16, .w (i8 a1))])])]), (15, .c [(7, .c [(9, .c [(16, .w (i8 b0)), (16, .w (i8 b1))])])]), (15, .c [(7, .c [(9, .c [(16, .w (i8 c0)), (16, .w (i8 c1))])])])]
set_option maxRecDepth 1000000 in
theorem AuE (a b c : Nat) (a0 a1 b0 b1 c0 c1 : UInt8) (xs : List (List DV)) (e : Nat) : zflat (zans Try.prog tab ftab cWi fEAu [.agg [w16 a, w16 b, w16 c, .list 4 xs]] [(11, AuP a0 a1 b0 b1 c0 c1), (14, .q (.tuple [.nil, iN e]))]) =
    some (.tuple [.nil, iN e], arB a 0 a0 :: arB a 8 a1 :: arB b 0 b0 :: arB b 8 b1 :: arB c 0 c0 :: arB c 8 c1 :: (cWi fWi [.sl 18 0 1 6 6, .list 4 xs] (AuH a b c a0 a1 b0 b1 c0 c1 xs) = some (.tuple [.nil, iN e], (AuH a b c a0 a1 b0 b1 c0 c1 xs), none)) :: []) := by kernel_rfl
set_option maxRecDepth 1000000 in
theorem AuO (a b c : Nat) (a0 a1 b0 b1 c0 c1 : UInt8) (xs : List (List DV)) (n : Nat) (cl : List DV) : zans Try.prog tab ftab cWi fEAu [.agg [w16 a, w16 b, w16 c, .list 4 xs]] [(11, AuP a0 a1 b0 b1 c0 c1), (14, .r (.tuple [.sl 19 0 1 n n, iN 0]) (layH (AuH a b c a0 a1 b0 b1 c0 c1 xs) (ownH 5 1 cl)))] =
    some (.tuple [.sl 19 0 1 n n, iN 0], layH (AuH a b c a0 a1 b0 b1 c0 c1 xs) (ownH 5 1 cl), arB a 0 a0 :: arB a 8 a1 :: arB b 0 b0 :: arB b 8 b1 :: arB c 0 c0 :: arB c 8 c1 :: (cWi fWi [.sl 18 0 1 6 6, .list 4 xs] (AuH a b c a0 a1 b0 b1 c0 c1 xs) = some (.tuple [.sl 19 0 1 n n, iN 0], layH (AuH a b c a0 a1 b0 b1 c0 c1 xs) (ownH 5 1 cl), none)) :: []) := by kernel_rfl
/-- the front's bytes -/
def frAu (a b c : Nat) : List UInt8 := [UInt8.ofNat (a / 256 ^ 0 % 256), UInt8.ofNat (a / 256 ^ 1 % 256), UInt8.ofNat (b / 256 ^ 0 % 256), UInt8.ofNat (b / 256 ^ 1 % 256), UInt8.ofNat (c / 256 ^ 0 % 256), UInt8.ofNat (c / 256 ^ 1 % 256)]
abbrev XAu : Type := {x : (Nat × Nat × Nat) × List El // (x.1.1 < 65536 ∧ x.1.2.1 < 65536 ∧ x.1.2.2 < 65536) ∧ SmL x.2 ∧ depA x.2 ≤ 2 ^ 39}
theorem Au_ans (x : XAu) : Ans Try.prog fEAu [.agg [w16 x.1.1.1, w16 x.1.1.2.1, w16 x.1.1.2.2, elsD x.1.2]] (wiD (frAu x.1.1.1 x.1.1.2.1 x.1.1.2.2) x.1.2) ⟨0, [], []⟩ := by
  obtain ⟨⟨⟨a, b, c⟩, es⟩, ⟨ha, hb, hc⟩, hs⟩ := x
  replace ha : a < 65536 := ha
  replace hb : b < 65536 := hb
  replace hc : c < 65536 := hc
  have ka0 := arB_ok (q := a) (by omega) 0 (by decide)
  have ka1 := arB_ok (q := a) (by omega) 1 (by decide)
  have kb0 := arB_ok (q := b) (by omega) 0 (by decide)
  have kb1 := arB_ok (q := b) (by omega) 1 (by decide)
  have kc0 := arB_ok (q := c) (by omega) 0 (by decide)
  have kc1 := arB_ok (q := c) (by omega) 1 (by decide)
  have q := cWi_at (hp := AuH a b c (UInt8.ofNat (a / 256 ^ 0 % 256)) (UInt8.ofNat (a / 256 ^ 1 % 256)) (UInt8.ofNat (b / 256 ^ 0 % 256)) (UInt8.ofNat (b / 256 ^ 1 % 256)) (UInt8.ofNat (c / 256 ^ 0 % 256)) (UInt8.ofNat (c / 256 ^ 1 % 256)) (elR es)) (d := .sl 18 0 1 6 6) (frAu a b c) es ⟨⟨by simp [frAu], by simp [frAu]⟩, hs⟩ (frz_cells (id := 18) rfl rfl rfl)
  dsimp only
  unfold wiB at q
  unfold wiD
  cases he : (szR es).2 with
  | succ e =>
    rw [he] at q
    exact Ans.nil1 (zflat_ok tab_ok mixed fun_ok cWi_ok (AuE a b c _ _ _ _ _ _ (elR es) (e + 1)) (.cons ka0 (.cons ka1 (.cons kb0 (.cons kb1 (.cons kc0 (.cons kc1 (.cons q .nil))))))))
  | zero =>
    rw [he] at q
    dsimp only at q ⊢
    cases hb : Nat.ble ((frAu a b c).length + (encA es).length) 2304 with
    | false =>
      rw [hb] at q
      exact Ans.nil1 (zflat_ok tab_ok mixed fun_ok cWi_ok (AuE a b c _ _ _ _ _ _ (elR es) 11) (.cons ka0 (.cons ka1 (.cons kb0 (.cons kb1 (.cons kc0 (.cons kc1 (.cons q .nil))))))))
    | true =>
      rw [hb] at q
      have z := zans_ok tab_ok mixed fun_ok cWi_ok (AuO a b c _ _ _ _ _ _ (elR es) _ _) (.cons ka0 (.cons ka1 (.cons kb0 (.cons kb1 (.cons kc0 (.cons kc1 (.cons q .nil)))))))
      exact AnsH.frz z rfl (FrzL.tuple ⟨frzD_bytes (id := 19) (off := 0) (o := ⟨1, 0, 5, _⟩) rfl rfl (by show (1 : Nat) ≠ 2; decide) fun i b hb' => celB_get hb', FrzD.int' _ _, trivial⟩)
def cEAu : ConF := liftC (eqC fEAu (fun x : XAu => [.agg [w16 x.1.1.1, w16 x.1.1.2.1, w16 x.1.1.2.2, elsD x.1.2]]) fun x => (wiD (frAu x.1.1.1 x.1.1.2.1 x.1.1.2.2) x.1.2, ⟨0, [], []⟩))
theorem cEAu_ok : ConOk Try.prog cEAu := liftC_ok (eqC_ok Au_ans fun _ => rfl)
end
end Go.Proofs.Ytejlbkhddehaiaa
/- EncodeAssocResp, encoded: a contract. -/
namespace Go.Proofs.Ytejlbkhddehaiaa
open Go.RowKit

noncomputable section
abbrev fERe : FuncId := 14
abbrev ReH (a b c : Nat) (a0 a1 b0 b1 c0 c1 : UInt8) (xs : List (List DV)) : Hp := ⟨19, [oU 3 13 [i8 a0, i8 a1, i8 b0, i8 b1, i8 c0, i8 c1], oU 0 0 [i8 c1], oU 2 13 [i8 a0, i8 a1, i8 b0, i8 b1, i8 c0], oU 0 0 [i8 c0], oU 2 13 [i8 a0, i8 a1, i8 b0, i8 b1], oU 2 0 [], oU 3 7 [i8 a0, i8 a1, i8 b0, i8 b1], oU 0 0 [i8 b1], oU 2 7 [i8 a0, i8 a1, i8 b0], oU 0 0 [i8 b0], oU 2 7 [i8 a0, i8 a1], oU 2 0 [], oU 3 2 [i8 a0, i8 a1], oU 0 0 [i8 a1], oU 2 2 [i8 a0], oU 0 0 [i8 a0], oU 2 0 [], ⟨0, 0, 23, [w16 a, w16 b, w16 c]⟩, ⟨0, 0, 34, [w16 a, w16 b, iN c, .list 4 xs]⟩], []⟩
abbrev ReP (a0 a1 b0 b1 c0 c1 : UInt8) : YE := .c [(15, .c [(7, .c [(9, .c [(16, .w (i8 a0)), (16, .w (i8 a1))])])]), (15, .c [(7, .c [(9, .c [(16, .w (i8 b0)), (16, .w (i8 b1))])])]), (15, .c [(7, .c [(9, .c [(16, .w (i8 c0)), (16, .w (i8 c1))])])])]
set_option maxRecDepth 1000000 in
theorem ReE (a b c : Nat) (a0 a1 b0 b1 c0 c1 : UInt8) (xs : List (List DV)) (e : Nat) : zflat (zans Try.prog tab ftab cWi fERe [.agg [w16 a, w16 b, iN c, .list 4 xs]] [(6, .c [(6, .b true), (10, .b true)]), (14, .w (w16 c)), (16, ReP a0 a1 b0 b1 c0 c1), (19, .q (.tuple [.nil, iN e]))]) =
    some (.tuple [.nil, iN e], (decide ((c : Int) ≥ 0) = true) :: (decide ((c : Int) ≤ 255) = true) :: (DV.int .u16 (IntKind.u16.wrap (c : Int)) = w16 c) :: arB a 0 a0 :: arB a 8 a1 :: arB b 0 b0 :: arB b 8 b1 :: arB c 0 c0 :: arB c 8 c1 :: (cWi fWi [.sl 18 0 1 6 6, .list 4 xs] (ReH a b c a0 a1 b0 b1 c0 c1 xs) = some (.tuple [.nil, iN e], (ReH a b c a0 a1 b0 b1 c0 c1 xs), none)) :: []) := by kernel_rfl
set_option maxRecDepth 1000000 in
theorem ReO (a b c : Nat) (a0 a1 b0 b1 c0 c1 : UInt8) (xs : List (List DV)) (n : Nat) (cl : List DV) : zans Try.prog tab ftab cWi fERe [.agg [w16 a, w16 b, iN c, .list 4 xs]] [(6, .c [(6, .b true), (10, .b true)]), (14, .w (w16 c)), (16, ReP a0 a1 b0 b1 c0 c1), (19, .r (.tuple [.sl 19 0 1 n n, iN 0]) (layH (ReH a b c a0 a1 b0 b1 c0 c1 xs) (ownH 5 1 cl)))] =
    some (.tuple [.sl 19 0 1 n n, iN 0], layH (ReH a b c a0 a1 b0 b1 c0 c1 xs) (ownH 5 1 cl), (decide ((c : Int) ≥ 0) = true) :: (decide ((c : Int) ≤ 255) = true) :: (DV.int .u16 (IntKind.u16.wrap (c : Int)) = w16 c) :: arB a 0 a0 :: arB a 8 a1 :: arB b 0 b0 :: arB b 8 b1 :: arB c 0 c0 :: arB c 8 c1 :: (cWi fWi [.sl 18 0 1 6 6, .list 4 xs] (ReH a b c a0 a1 b0 b1 c0 c1 xs) = some (.tuple [.sl 19 0 1 n n, iN 0], layH (ReH a b c a0 a1 b0 b1 c0 c1 xs) (ownH 5 1 cl), none)) :: []) := by kernel_rfl
/-- the front's bytes -/
def frRe (a b c : Nat) : List UInt8 := [UInt8.ofNat (a / 256 ^ 0 % 256), UInt8.ofNat (a / 256 ^ 1 % 256), UInt8.ofNat (b / 256 ^ 0 % 256), UInt8.ofNat (b / 256 ^ 1 % 256), UInt8.ofNat (c / 256 ^ 0 % 256), UInt8.ofNat (c / 256 ^ 1 % 256)]
abbrev XRe : Type := {x : (Nat × Nat × Nat) × List El // (x.1.1 < 65536 ∧ x.1.2.1 < 65536 ∧ x.1.2.2 ≤ 255) ∧ SmL x.2 ∧ depA x.2 ≤ 2 ^ 39}
theorem Re_ans (x : XRe) : Ans Try.prog fERe [.agg [w16 x.1.1.1, w16 x.1.1.2.1, iN x.1.1.2.2, elsD x.1.2]] (wiD (frRe x.1.1.1 x.1.1.2.1 x.1.1.2.2) x.1.2) ⟨0, [], []⟩ := by
  obtain ⟨⟨⟨a, b, c⟩, es⟩, ⟨ha, hb, hc⟩, hs⟩ := x
  replace ha : a < 65536 := ha
  replace hb : b < 65536 := hb
  replace hc : c ≤ 255 := hc
  have p1 : decide ((c : Int) ≥ 0) = true := decide_eq_true (by omega)
  have p2 : decide ((c : Int) ≤ 255) = true := decide_eq_true (by omega)
  have p3 : DV.int .u16 (IntKind.u16.wrap (c : Int)) = w16 c := by
    rw [wrapU rfl]
    exact congrArg (fun x : Nat => DV.int .u16 (x : Int)) (Nat.mod_eq_of_lt (by show c < 65536; omega))
  have ka0 := arB_ok (q := a) (by omega) 0 (by decide)
  have ka1 := arB_ok (q := a) (by omega) 1 (by decide)
  have kb0 := arB_ok (q := b) (by omega) 0 (by decide)
  have kb1 := arB_ok (q := b) (by omega) 1 (by decide)
  have kc0 := arB_ok (q := c) (by omega) 0 (by decide)
  have kc1 := arB_ok (q := c) (by omega) 1 (by decide)
  have q := cWi_at (hp := ReH a b c (UInt8.ofNat (a / 256 ^ 0 % 256)) (UInt8.ofNat (a / 256 ^ 1 % 256)) (UInt8.ofNat (b / 256 ^ 0 % 256)) (UInt8.ofNat (b / 256 ^ 1 % 256)) (UInt8.ofNat (c / 256 ^ 0 % 256)) (UInt8.ofNat (c / 256 ^ 1 % 256)) (elR es)) (d := .sl 18 0 1 6 6) (frRe a b c) es ⟨⟨by simp [frRe], by simp [frRe]⟩, hs⟩ (frz_cells (id := 18) rfl rfl rfl)
  dsimp only
  unfold wiB at q
  unfold wiD
  cases he : (szR es).2 with
  | succ e =>
    rw [he] at q
    exact Ans.nil1 (zflat_ok tab_ok mixed fun_ok cWi_ok (ReE a b c _ _ _ _ _ _ (elR es) (e + 1)) (.cons p1 (.cons p2 (.cons p3 (.cons ka0 (.cons ka1 (.cons kb0 (.cons kb1 (.cons kc0 (.cons kc1 (.cons q .nil)))))))))))
  | zero =>
    rw [he] at q
    dsimp only at q ⊢
    cases hb : Nat.ble ((frRe a b c).length + (encA es).length) 2304 with
    | false =>
      rw [hb] at q
      exact Ans.nil1 (zflat_ok tab_ok mixed fun_ok cWi_ok (ReE a b c _ _ _ _ _ _ (elR es) 11) (.cons p1 (.cons p2 (.cons p3 (.cons ka0 (.cons ka1 (.cons kb0 (.cons kb1 (.cons kc0 (.cons kc1 (.cons q .nil)))))))))))
    | true =>
      rw [hb] at q
      have z := zans_ok tab_ok mixed fun_ok cWi_ok (ReO a b c _ _ _ _ _ _ (elR es) _ _) (.cons p1 (.cons p2 (.cons p3 (.cons ka0 (.cons ka1 (.cons kb0 (.cons kb1 (.cons kc0 (.cons kc1 (.cons q .nil))))))))))
      exact AnsH.frz z rfl (FrzL.tuple ⟨frzD_bytes (id := 19) (off := 0) (o := ⟨1, 0, 5, _⟩) rfl rfl (by show (1 : Nat) ≠ 2; decide) fun i b hb' => celB_get hb', FrzD.int' _ _, trivial⟩)
def cERe : ConF := liftC (eqC fERe (fun x : XRe => [.agg [w16 x.1.1.1, w16 x.1.1.2.1, iN x.1.1.2.2, elsD x.1.2]]) fun x => (wiD (frRe x.1.1.1 x.1.1.2.1 x.1.1.2.2) x.1.2, ⟨0, [], []⟩))
theorem cERe_ok : ConOk Try.prog cERe := liftC_ok (eqC_ok Re_ans fun _ => rfl)
end
end Go.Proofs.Ytejlbkhddehaiaa
/- EncodeBeacon, encoded: a contract. -/
namespace Go.Proofs.Ytejlbkhddehaiaa
open Go.RowKit

noncomputable section
abbrev a64 (q : Nat) (k : Int) (c : UInt8) : Prop := DV.int .u8 (IntKind.u8.wrap (shrD .u64 (q : Int) k)) = i8 c
theorem a64_ok {q : Nat} (h : q < 18446744073709551616) (k : Nat) (hk : 8 * k < 64) : a64 q ((8 * k : Nat) : Int) (UInt8.ofNat (q / 256 ^ k % 256)) := sh_byte h k hk
abbrev fEBe : FuncId := 7
abbrev BeH (t a b : Nat) (t0 t1 t2 t3 t4 t5 t6 t7 a0 a1 b0 b1 : UInt8) (xs : List (List DV)) : Hp := ⟨31, [oU 3 25 [i8 t0, i8 t1, i8 t2, i8 t3, i8 t4, i8 t5, i8 t6, i8 t7, i8 a0, i8 a1, i8 b0, i8 b1], oU 0 0 [i8 b1], oU 2 25 [i8 t0, i8 t1, i8 t2, i8 t3, i8 t4, i8 t5, i8 t6, i8 t7, i8 a0, i8 a1, i8 b0], oU 0 0 [i8 b0], oU 2 25 [i8 t0, i8 t1, i8 t2, i8 t3, i8 t4, i8 t5, i8 t6, i8 t7, i8 a0, i8 a1], oU 2 0 [], oU 3 19 [i8 t0, i8 t1, i8 t2, i8 t3, i8 t4, i8 t5, i8 t6, i8 t7, i8 a0, i8 a1], oU 0 0 [i8 a1], oU 2 19 [i8 t0, i8 t1, i8 t2, i8 t3, i8 t4, i8 t5, i8 t6, i8 t7, i8 a0], oU 0 0 [i8 a0], oU 2 19 [i8 t0, i8 t1, i8 t2, i8 t3, i8 t4, i8 t5, i8 t6, i8 t7], oU 2 0 [], ⟨0, 0, 23, [w16 a, w16 b]⟩, oU 3 1 [i8 t0, i8 t1, i8 t2, i8 t3, i8 t4, i8 t5, i8 t6, i8 t7], oU 0 0 [i8 t7], oU 2 1 [i8 t0, i8 t1, i8 t2, i8 t3, i8 t4, i8 t5, i8 t6], oU 0 0 [i8 t6], oU 2 1 [i8 t0, i8 t1, i8 t2, i8 t3, i8 t4, i8 t5], oU 0 0 [i8 t5], oU 2 1 [i8 t0, i8 t1, i8 t2, i8 t3, i8 t4], oU 0 0 [i8 t4], oU 2 1 [i8 t0, i8 t1, i8 t2, i8 t3], oU 0 0 [i8 t3], oU 2 1 [i8 t0, i8 t1, i8 t2], oU 0 0 [i8 t2], oU 2 1 [i8 t0, i8 t1], oU 0 0 [i8 t1], oU 2 1 [i8 t0], oU 0 0 [i8 t0], oU 2 0 [], ⟨0, 0, 26, [.int .u64 (t : Int), w16 a, w16 b, .list 4 xs]⟩], []⟩
abbrev BeP (_t0 _t1 _t2 _t3 _t4 _t5 _t6 _t7 a0 a1 b0 b1 : UInt8) : YE := .c [(15, .c [(7, .c [(9, .c [(16, .w (i8 a0)), (16, .w (i8 a1))])])]), (15, .c [(7, .c [(9, .c [(16, .w (i8 b0)), (16, .w (i8 b1))])])])]
set_option maxRecDepth 1000000 in
theorem BeE (t a b : Nat) (t0 t1 t2 t3 t4 t5 t6 t7 a0 a1 b0 b1 : UInt8) (xs : List (List DV)) (e : Nat) : zflat (zans Try.prog tab ftab cWi fEBe [.agg [.int .u64 (t : Int), w16 a, w16 b, .list 4 xs]] [(6, .c [(7, .c [(9, .c [(15, .w (i8 t0)), (15, .w (i8 t1)), (15, .w (i8 t2)), (15, .w (i8 t3)), (15, .w (i8 t4)), (15, .w (i8 t5)), (15, .w (i8 t6)), (15, .w (i8 t7))])])]), (12, BeP t0 t1 t2 t3 t4 t5 t6 t7 a0 a1 b0 b1), (15, .q (.tuple [.nil, iN e]))]) =
    some (.tuple [.nil, iN e], a64 t 0 t0 :: a64 t 8 t1 :: a64 t 16 t2 :: a64 t 24 t3 :: a64 t 32 t4 :: a64 t 40 t5 :: a64 t 48 t6 :: a64 t 56 t7 :: arB a 0 a0 :: arB a 8 a1 :: arB b 0 b0 :: arB b 8 b1 :: (cWi fWi [.sl 30 0 1 12 12, .list 4 xs] (BeH t a b t0 t1 t2 t3 t4 t5 t6 t7 a0 a1 b0 b1 xs) = some (.tuple [.nil, iN e], (BeH t a b t0 t1 t2 t3 t4 t5 t6 t7 a0 a1 b0 b1 xs), none)) :: []) := by kernel_rfl
set_option maxRecDepth 1000000 in
theorem BeO (t a b : Nat) (t0 t1 t2 t3 t4 t5 t6 t7 a0 a1 b0 b1 : UInt8) (xs : List (List DV)) (n : Nat) (cl : List DV) : zans Try.prog tab ftab cWi fEBe [.agg [.int .u64 (t : Int), w16 a, w16 b, .list 4 xs]] [(6, .c [(7, .c [(9, .c [(15, .w (i8 t0)), (15, .w (i8 t1)), (15, .w (i8 t2)), (15, .w (i8 t3)), (15, .w (i8 t4)), (15, .w (i8 t5)), (15, .w (i8 t6)), (15, .w (i8 t7))])])]), (12, BeP t0 t1 t2 t3 t4 t5 t6 t7 a0 a1 b0 b1), (15, .r (.tuple [.sl 31 0 1 n n, iN 0]) (layH (BeH t a b t0 t1 t2 t3 t4 t5 t6 t7 a0 a1 b0 b1 xs) (ownH 5 1 cl)))] =
    some (.tuple [.sl 31 0 1 n n, iN 0], layH (BeH t a b t0 t1 t2 t3 t4 t5 t6 t7 a0 a1 b0 b1 xs) (ownH 5 1 cl), a64 t 0 t0 :: a64 t 8 t1 :: a64 t 16 t2 :: a64 t 24 t3 :: a64 t 32 t4 :: a64 t 40 t5 :: a64 t 48 t6 :: a64 t 56 t7 :: arB a 0 a0 :: arB a 8 a1 :: arB b 0 b0 :: arB b 8 b1 :: (cWi fWi [.sl 30 0 1 12 12, .list 4 xs] (BeH t a b t0 t1 t2 t3 t4 t5 t6 t7 a0 a1 b0 b1 xs) = some (.tuple [.sl 31 0 1 n n, iN 0], layH (BeH t a b t0 t1 t2 t3 t4 t5 t6 t7 a0 a1 b0 b1 xs) (ownH 5 1 cl), none)) :: []) := by kernel_rfl
/-- the front's bytes -/
def frBe (t a b : Nat) : List UInt8 := [UInt8.ofNat (t / 256 ^ 0 % 256), UInt8.ofNat (t / 256 ^ 1 % 256), UInt8.ofNat (t / 256 ^ 2 % 256), UInt8.ofNat (t / 256 ^ 3 % 256), UInt8.ofNat (t / 256 ^ 4 % 256), UInt8.ofNat (t / 256 ^ 5 % 256), UInt8.ofNat (t / 256 ^ 6 % 256), UInt8.ofNat (t / 256 ^ 7 % 256), UInt8.ofNat (a / 256 ^ 0 % 256), UInt8.ofNat (a / 256 ^ 1 % 256), UInt8.ofNat (b / 256 ^ 0 % 256), UInt8.ofNat (b / 256 ^ 1 % 256)]
abbrev XBe : Type := {x : (Nat × Nat × Nat) × List El // (x.1.1 < 18446744073709551616 ∧ x.1.2.1 < 65536 ∧ x.1.2.2 < 65536) ∧ SmL x.2 ∧ depA x.2 ≤ 2 ^ 39}
theorem Be_ans (x : XBe) : Ans Try.prog fEBe [.agg [.int .u64 (x.1.1.1 : Int), w16 x.1.1.2.1, w16 x.1.1.2.2, elsD x.1.2]] (wiD (frBe x.1.1.1 x.1.1.2.1 x.1.1.2.2) x.1.2) ⟨0, [], []⟩ := by
  obtain ⟨⟨⟨t, a, b⟩, es⟩, ⟨ht, ha, hb⟩, hs⟩ := x
  replace ht : t < 18446744073709551616 := ht
  replace ha : a < 65536 := ha
  replace hb : b < 65536 := hb
  have kt0 := a64_ok (q := t) (by omega) 0 (by decide)
  have kt1 := a64_ok (q := t) (by omega) 1 (by decide)
  have kt2 := a64_ok (q := t) (by omega) 2 (by decide)
  have kt3 := a64_ok (q := t) (by omega) 3 (by decide)
  have kt4 := a64_ok (q := t) (by omega) 4 (by decide)
  have kt5 := a64_ok (q := t) (by omega) 5 (by decide)
  have kt6 := a64_ok (q := t) (by omega) 6 (by decide)
  have kt7 := a64_ok (q := t) (by omega) 7 (by decide)
  have ka0 := arB_ok (q := a) (by omega) 0 (by decide)
  have ka1 := arB_ok (q := a) (by omega) 1 (by decide)
  have kb0 := arB_ok (q := b) (by omega) 0 (by decide)
  have kb1 := arB_ok (q := b) (by omega) 1 (by decide)
  have q := cWi_at (hp := BeH t a b (UInt8.ofNat (t / 256 ^ 0 % 256)) (UInt8.ofNat (t / 256 ^ 1 % 256)) (UInt8.ofNat (t / 256 ^ 2 % 256)) (UInt8.ofNat (t / 256 ^ 3 % 256)) (UInt8.ofNat (t / 256 ^ 4 % 256)) (UInt8.ofNat (t / 256 ^ 5 % 256)) (UInt8.ofNat (t / 256 ^ 6 % 256)) (UInt8.ofNat (t / 256 ^ 7 % 256)) (UInt8.ofNat (a / 256 ^ 0 % 256)) (UInt8.ofNat (a / 256 ^ 1 % 256)) (UInt8.ofNat (b / 256 ^ 0 % 256)) (UInt8.ofNat (b / 256 ^ 1 % 256)) (elR es)) (d := .sl 30 0 1 12 12) (frBe t a b) es ⟨⟨by simp [frBe], by simp [frBe]⟩, hs⟩ (frz_cells (id := 30) rfl rfl rfl)
  dsimp only
  unfold wiB at q
  unfold wiD
  cases he : (szR es).2 with
  | succ e =>
    rw [he] at q
    exact Ans.nil1 (zflat_ok tab_ok mixed fun_ok cWi_ok (BeE t a b _ _ _ _ _ _ _ _ _ _ _ _ (elR es) (e + 1)) (.cons kt0 (.cons kt1 (.cons kt2 (.cons kt3 (.cons kt4 (.cons kt5 (.cons kt6 (.cons kt7 (.cons ka0 (.cons ka1 (.cons kb0 (.cons kb1 (.cons q .nil))))))))))))))
  | zero =>
    rw [he] at q
    dsimp only at q ⊢
    cases hb : Nat.ble ((frBe t a b).length + (encA es).length) 2304 with
    | false =>
      rw [hb] at q
      exact Ans.nil1 (zflat_ok tab_ok mixed fun_ok cWi_ok (BeE t a b _ _ _ _ _ _ _ _ _ _ _ _ (elR es) 11) (.cons kt0 (.cons kt1 (.cons kt2 (.cons kt3 (.cons kt4 (.cons kt5 (.cons kt6 (.cons kt7 (.cons ka0 (.cons ka1 (.cons kb0 (.cons kb1 (.cons q .nil))))))))))))))
    | true =>
      rw [hb] at q
      have z := zans_ok tab_ok mixed fun_ok cWi_ok (BeO t a b _ _ _ _ _ _ _ _ _ _ _ _ (elR es) _ _) (.cons kt0 (.cons kt1 (.cons kt2 (.cons kt3 (.cons kt4 (.cons kt5 (.cons kt6 (.cons kt7 (.cons ka0 (.cons ka1 (.cons kb0 (.cons kb1 (.cons q .nil)))))))))))))
      exact AnsH.frz z rfl (FrzL.tuple ⟨frzD_bytes (id := 31) (off := 0) (o := ⟨1, 0, 5, _⟩) rfl rfl (by show (1 : Nat) ≠ 2; decide) fun i b hb' => celB_get hb', FrzD.int' _ _, trivial⟩)
def cEBe : ConF := liftC (eqC fEBe (fun x : XBe => [.agg [.int .u64 (x.1.1.1 : Int), w16 x.1.1.2.1, w16 x.1.1.2.2, elsD x.1.2]]) fun x => (wiD (frBe x.1.1.1 x.1.1.2.1 x.1.1.2.2) x.1.2, ⟨0, [], []⟩))
theorem cEBe_ok : ConOk Try.prog cEBe := liftC_ok (eqC_ok Be_ans fun _ => rfl)
end
end Go.Proofs.Ytejlbkhddehaiaa
/- Requests for a block acknowledgement and such, encoded: contracts. -/
namespace Go.Proofs.Ytejlbkhddehaiaa
open Go.RowKit

noncomputable section
abbrev fEBr : FuncId := 20
abbrev fEBk : FuncId := 22
abbrev pkQ (a s v : Nat) : Prop := DV.int .u16 (IntKind.u16.wrap (bitD .or .i64 (a : Int) (shlD .i64 (s : Int) 4))) = w16 v
theorem pk_or {a s : Nat} (h1 : a ≤ 7) (h2 : s ≤ 4095) : bitD .or .i64 (a : Int) (shlD .i64 (s : Int) 4) = ((a + 16 * s : Nat) : Int) := by
  have e1 : shlD .i64 (s : Int) 4 = ((2 ^ 4 * s : Nat) : Int) := by
    unfold shlD
    rw [show ((s : Int) * 2 ^ (min (4 : Int).toNat IntKind.i64.bits)) = ((2 ^ 4 * s : Nat) : Int) by
      show (s : Int) * 16 = _
      omega]
    exact wrapI (by omega)
  have hlt : 2 ^ 4 * s < 2 ^ 62 := by omega
  rw [e1]
  simp only [bitD, BitVec.toNat_or, ofIntU (k := .i64) a (show a < 2 ^ 64 by omega), ofIntU (k := .i64) (2 ^ 4 * s) (show 2 ^ 4 * s < 2 ^ 64 by omega)]
  rw [Nat.or_comm, ← Nat.two_pow_add_eq_or_of_lt (show a < 2 ^ 4 by omega)]
  rw [show 2 ^ 4 * s + a = a + 16 * s by omega]
  exact wrapI (by omega)
theorem pkQ_ok {a s : Nat} (h1 : a ≤ 7) (h2 : s ≤ 4095) : pkQ a s (a + 16 * s) := by
  unfold pkQ
  rw [pk_or h1 h2, wrapU rfl]
  exact congrArg (fun x : Nat => DV.int .u16 (x : Int)) (Nat.mod_eq_of_lt (by show a + 16 * s < 65536; omega))
/-! ### Bar -/
abbrev brH (a s : Nat) (c0 c1 : UInt8) : Hp := ⟨6, [oU 3 1 [i8 c0, i8 c1], oU 0 0 [i8 c1], oU 2 1 [i8 c0], oU 0 0 [i8 c0], oU 2 0 [], ⟨0, 0, 41, [iN a, iN s]⟩], []⟩
set_option maxRecDepth 1000000 in
theorem brO (a s v : Nat) (c0 c1 : UInt8) : zans Try.prog tab ftab noC fEBr [.agg [iN a, iN s]] [(8, .c [(6, .c [(6, .b true), (10, .b true)]), (9, .c [(6, .b true), (10, .b true)])]), (14, .w (w16 v)), (15, .c [(7, .c [(9, .c [(16, .w (i8 c0)), (16, .w (i8 c1))])])])] =
    some (.tuple [.sl 5 0 1 2 2, iN 0], brH a s c0 c1, (decide ((a : Int) ≥ 0) = true) :: (decide ((a : Int) ≤ 7) = true) :: (decide ((s : Int) ≥ 0) = true) :: (decide ((s : Int) ≤ 4095) = true) :: pkQ a s v :: arB v 0 c0 :: arB v 8 c1 ::  []) := by kernel_rfl
set_option maxRecDepth 1000000 in
theorem brB1 (a s : Int) : zflat (zans Try.prog tab ftab noC fEBr [.agg [.int .i64 a, .int .i64 s]] [(8, .c [(6, .c [(6, .b false)])])]) = some (.tuple [.nil, iN 8], (decide (a ≥ 0) = false) :: []) := by kernel_rfl
set_option maxRecDepth 1000000 in
theorem brB2 (a s : Int) : zflat (zans Try.prog tab ftab noC fEBr [.agg [.int .i64 a, .int .i64 s]] [(8, .c [(6, .c [(6, .b true), (10, .b false)])])]) = some (.tuple [.nil, iN 8], (decide (a ≥ 0) = true) :: (decide (a ≤ 7) = false) :: []) := by kernel_rfl
set_option maxRecDepth 1000000 in
theorem brB3 (a s : Int) : zflat (zans Try.prog tab ftab noC fEBr [.agg [.int .i64 a, .int .i64 s]] [(8, .c [(6, .c [(6, .b true), (10, .b true)]), (9, .c [(6, .b false)])])]) = some (.tuple [.nil, iN 8], (decide (a ≥ 0) = true) :: (decide (a ≤ 7) = true) :: (decide (s ≥ 0) = false) :: []) := by kernel_rfl
set_option maxRecDepth 1000000 in
theorem brB4 (a s : Int) : zflat (zans Try.prog tab ftab noC fEBr [.agg [.int .i64 a, .int .i64 s]] [(8, .c [(6, .c [(6, .b true), (10, .b true)]), (9, .c [(6, .b true), (10, .b false)])])]) = some (.tuple [.nil, iN 8], (decide (a ≥ 0) = true) :: (decide (a ≤ 7) = true) :: (decide (s ≥ 0) = true) :: (decide (s ≤ 4095) = false) :: []) := by kernel_rfl
/-! ### Back -/
abbrev bkH (a s q : Nat) (c0 c1 t0 t1 t2 t3 t4 t5 t6 t7 : UInt8) : Hp := ⟨24, [oU 3 6 [i8 c0, i8 c1, i8 t0, i8 t1, i8 t2, i8 t3, i8 t4, i8 t5, i8 t6, i8 t7], oU 0 0 [i8 t7], oU 2 6 [i8 c0, i8 c1, i8 t0, i8 t1, i8 t2, i8 t3, i8 t4, i8 t5, i8 t6], oU 0 0 [i8 t6], oU 2 6 [i8 c0, i8 c1, i8 t0, i8 t1, i8 t2, i8 t3, i8 t4, i8 t5], oU 0 0 [i8 t5], oU 2 6 [i8 c0, i8 c1, i8 t0, i8 t1, i8 t2, i8 t3, i8 t4], oU 0 0 [i8 t4], oU 2 6 [i8 c0, i8 c1, i8 t0, i8 t1, i8 t2, i8 t3], oU 0 0 [i8 t3], oU 2 6 [i8 c0, i8 c1, i8 t0, i8 t1, i8 t2], oU 0 0 [i8 t2], oU 2 6 [i8 c0, i8 c1, i8 t0, i8 t1], oU 0 0 [i8 t1], oU 2 6 [i8 c0, i8 c1, i8 t0], oU 0 0 [i8 t0], oU 2 6 [i8 c0, i8 c1], oU 2 0 [], oU 3 1 [i8 c0, i8 c1], oU 0 0 [i8 c1], oU 2 1 [i8 c0], oU 0 0 [i8 c0], oU 2 0 [], ⟨0, 0, 43, [iN a, iN s, .int .u64 (q : Int)]⟩], []⟩
set_option maxRecDepth 1000000 in
theorem bkO (a s q v : Nat) (c0 c1 t0 t1 t2 t3 t4 t5 t6 t7 : UInt8) : zans Try.prog tab ftab noC fEBk [.agg [iN a, iN s, .int .u64 (q : Int)]] [(8, .c [(6, .c [(6, .b true), (10, .b true)]), (9, .c [(6, .b true), (10, .b true)])]), (14, .w (w16 v)), (15, .c [(7, .c [(9, .c [(16, .w (i8 c0)), (16, .w (i8 c1))])])]), (18, .c [(7, .c [(9, .c [(15, .w (i8 t0)), (15, .w (i8 t1)), (15, .w (i8 t2)), (15, .w (i8 t3)), (15, .w (i8 t4)), (15, .w (i8 t5)), (15, .w (i8 t6)), (15, .w (i8 t7))])])])] =
    some (.tuple [.sl 23 0 1 10 10, iN 0], bkH a s q c0 c1 t0 t1 t2 t3 t4 t5 t6 t7, (decide ((a : Int) ≥ 0) = true) :: (decide ((a : Int) ≤ 7) = true) :: (decide ((s : Int) ≥ 0) = true) :: (decide ((s : Int) ≤ 4095) = true) :: pkQ a s v :: arB v 0 c0 :: arB v 8 c1 ::  a64 q 0 t0 :: a64 q 8 t1 :: a64 q 16 t2 :: a64 q 24 t3 :: a64 q 32 t4 :: a64 q 40 t5 :: a64 q 48 t6 :: a64 q 56 t7 :: []) := by kernel_rfl
set_option maxRecDepth 1000000 in
theorem bkB1 (a s : Int) (q : Nat) : zflat (zans Try.prog tab ftab noC fEBk [.agg [.int .i64 a, .int .i64 s, .int .u64 (q : Int)]] [(8, .c [(6, .c [(6, .b false)])])]) = some (.tuple [.nil, iN 8], (decide (a ≥ 0) = false) :: []) := by kernel_rfl
set_option maxRecDepth 1000000 in
theorem bkB2 (a s : Int) (q : Nat) : zflat (zans Try.prog tab ftab noC fEBk [.agg [.int .i64 a, .int .i64 s, .int .u64 (q : Int)]] [(8, .c [(6, .c [(6, .b true), (10, .b false)])])]) = some (.tuple [.nil, iN 8], (decide (a ≥ 0) = true) :: (decide (a ≤ 7) = false) :: []) := by kernel_rfl
set_option maxRecDepth 1000000 in
theorem bkB3 (a s : Int) (q : Nat) : zflat (zans Try.prog tab ftab noC fEBk [.agg [.int .i64 a, .int .i64 s, .int .u64 (q : Int)]] [(8, .c [(6, .c [(6, .b true), (10, .b true)]), (9, .c [(6, .b false)])])]) = some (.tuple [.nil, iN 8], (decide (a ≥ 0) = true) :: (decide (a ≤ 7) = true) :: (decide (s ≥ 0) = false) :: []) := by kernel_rfl
set_option maxRecDepth 1000000 in
theorem bkB4 (a s : Int) (q : Nat) : zflat (zans Try.prog tab ftab noC fEBk [.agg [.int .i64 a, .int .i64 s, .int .u64 (q : Int)]] [(8, .c [(6, .c [(6, .b true), (10, .b true)]), (9, .c [(6, .b true), (10, .b false)])])]) = some (.tuple [.nil, iN 8], (decide (a ≥ 0) = true) :: (decide (a ≤ 7) = true) :: (decide (s ≥ 0) = true) :: (decide (s ≤ 4095) = false) :: []) := by kernel_rfl
/-- a number of 16 bits, as bytes -/
def by2 (v : Nat) : List UInt8 := [UInt8.ofNat (v / 256 ^ 0 % 256), UInt8.ofNat (v / 256 ^ 1 % 256)]
def by8 (t : Nat) : List UInt8 := [UInt8.ofNat (t / 256 ^ 0 % 256), UInt8.ofNat (t / 256 ^ 1 % 256), UInt8.ofNat (t / 256 ^ 2 % 256), UInt8.ofNat (t / 256 ^ 3 % 256), UInt8.ofNat (t / 256 ^ 4 % 256), UInt8.ofNat (t / 256 ^ 5 % 256), UInt8.ofNat (t / 256 ^ 6 % 256), UInt8.ofNat (t / 256 ^ 7 % 256)]
def okTS (a s : Int) : Bool := decide (a ≥ 0) && (decide (a ≤ 7) && (decide (s ≥ 0) && decide (s ≤ 4095)))
def ebrD (a s : Int) : DV := match okTS a s with
  | true => .tuple [byL (by2 (a.toNat + 16 * s.toNat)), iN 0]
  | false => .tuple [.list 1 [], iN 8]
def ebkD (a s : Int) (q : Nat) : DV := match okTS a s with
  | true => .tuple [byL (by2 (a.toNat + 16 * s.toNat) ++ by8 q), iN 0]
  | false => .tuple [.list 1 [], iN 8]
theorem ebr_ans (x : Int × Int) : Ans Try.prog fEBr [.agg [.int .i64 x.1, .int .i64 x.2]] (ebrD x.1 x.2) ⟨0, [], []⟩ := by
  obtain ⟨a, s⟩ := x
  show Ans _ _ _ (ebrD a s) _
  unfold ebrD okTS
  cases h1 : decide (a ≥ 0) with
  | false => exact Ans.nil1 (zflat_ok tab_ok mixed fun_ok noC_ok (brB1 a s) (.cons h1 .nil))
  | true =>
  cases h2 : decide (a ≤ 7) with
  | false => exact Ans.nil1 (zflat_ok tab_ok mixed fun_ok noC_ok (brB2 a s) (.cons h1 (.cons h2 .nil)))
  | true =>
  cases h3 : decide (s ≥ 0) with
  | false => exact Ans.nil1 (zflat_ok tab_ok mixed fun_ok noC_ok (brB3 a s) (.cons h1 (.cons h2 (.cons h3 .nil))))
  | true =>
  cases h4 : decide (s ≤ 4095) with
  | false => exact Ans.nil1 (zflat_ok tab_ok mixed fun_ok noC_ok (brB4 a s) (.cons h1 (.cons h2 (.cons h3 (.cons h4 .nil)))))
  | true =>
  have g1 := of_decide_eq_true h1
  have g2 := of_decide_eq_true h2
  have g3 := of_decide_eq_true h3
  have g4 := of_decide_eq_true h4
  obtain ⟨a, rfl⟩ : ∃ n : Nat, a = n := ⟨a.toNat, by omega⟩
  obtain ⟨s, rfl⟩ : ∃ n : Nat, s = n := ⟨s.toNat, by omega⟩
  have hv : a + 16 * s < 65536 := by omega
  have z := zans_ok tab_ok mixed fun_ok noC_ok (brO a s (a + 16 * s) _ _) (.cons h1 (.cons h2 (.cons h3 (.cons h4 (.cons (pkQ_ok (by omega) (by omega)) (.cons (arB_ok hv 0 (by decide)) (.cons (arB_ok hv 1 (by decide)) .nil)))))))
  exact AnsH.frz z rfl (FrzL.tuple ⟨frzD_bytes (bs := by2 (a + 16 * s)) (id := 5) (off := 0) (o := oU 3 1 _) rfl rfl (by show (3 : Nat) ≠ 2; decide) fun i b hb' => celB_get hb', FrzD.int' _ _, trivial⟩)
theorem ebk_ans (x : (Int × Int) × {q : Nat // q < 18446744073709551616}) : Ans Try.prog fEBk [.agg [.int .i64 x.1.1, .int .i64 x.1.2, .int .u64 (x.2.1 : Int)]] (ebkD x.1.1 x.1.2 x.2.1) ⟨0, [], []⟩ := by
  obtain ⟨⟨a, s⟩, q, hq⟩ := x
  show Ans _ _ _ (ebkD a s q) _
  unfold ebkD okTS
  cases h1 : decide (a ≥ 0) with
  | false => exact Ans.nil1 (zflat_ok tab_ok mixed fun_ok noC_ok (bkB1 a s q) (.cons h1 .nil))
  | true =>
  cases h2 : decide (a ≤ 7) with
  | false => exact Ans.nil1 (zflat_ok tab_ok mixed fun_ok noC_ok (bkB2 a s q) (.cons h1 (.cons h2 .nil)))
  | true =>
  cases h3 : decide (s ≥ 0) with
  | false => exact Ans.nil1 (zflat_ok tab_ok mixed fun_ok noC_ok (bkB3 a s q) (.cons h1 (.cons h2 (.cons h3 .nil))))
  | true =>
  cases h4 : decide (s ≤ 4095) with
  | false => exact Ans.nil1 (zflat_ok tab_ok mixed fun_ok noC_ok (bkB4 a s q) (.cons h1 (.cons h2 (.cons h3 (.cons h4 .nil)))))
  | true =>
  have g1 := of_decide_eq_true h1
  have g2 := of_decide_eq_true h2
  have g3 := of_decide_eq_true h3
  have g4 := of_decide_eq_true h4
  obtain ⟨a, rfl⟩ : ∃ n : Nat, a = n := ⟨a.toNat, by omega⟩
  obtain ⟨s, rfl⟩ : ∃ n : Nat, s = n := ⟨s.toNat, by omega⟩
  have hv : a + 16 * s < 65536 := by omega
  have z := zans_ok tab_ok mixed fun_ok noC_ok (bkO a s q (a + 16 * s) _ _ _ _ _ _ _ _ _ _) (.cons h1 (.cons h2 (.cons h3 (.cons h4 (.cons (pkQ_ok (by omega) (by omega)) (.cons (arB_ok hv 0 (by decide)) (.cons (arB_ok hv 1 (by decide)) (.cons (a64_ok hq 0 (by decide)) (.cons (a64_ok hq 1 (by decide)) (.cons (a64_ok hq 2 (by decide)) (.cons (a64_ok hq 3 (by decide)) (.cons (a64_ok hq 4 (by decide)) (.cons (a64_ok hq 5 (by decide)) (.cons (a64_ok hq 6 (by decide)) (.cons (a64_ok hq 7 (by decide)) .nil)))))))))))))))
  exact AnsH.frz z rfl (FrzL.tuple ⟨frzD_bytes (bs := by2 (a + 16 * s) ++ by8 q) (id := 23) (off := 0) (o := oU 3 6 _) rfl rfl (by show (3 : Nat) ≠ 2; decide) fun i b hb' => celB_get hb', FrzD.int' _ _, trivial⟩)
theorem ebrD_flat (a s : Int) : flatD (ebrD a s) = true := by
  unfold ebrD
  split <;> rfl
theorem ebkD_flat (a s : Int) (q : Nat) : flatD (ebkD a s q) = true := by
  unfold ebkD
  split <;> rfl
def cEBr : ConF := liftC (eqC fEBr (fun x : Int × Int => [.agg [.int .i64 x.1, .int .i64 x.2]]) fun x => (ebrD x.1 x.2, ⟨0, [], []⟩))
theorem cEBr_ok : ConOk Try.prog cEBr := liftC_ok (eqC_ok ebr_ans fun _ => rfl)
theorem cEBr_at (hp : Hp) (a s : Int) : cEBr fEBr [.agg [.int .i64 a, .int .i64 s]] hp = some (ebrD a s, hp, none) :=
  lift_at (A := fun x : Int × Int => [.agg [.int .i64 x.1, .int .i64 x.2]]) (D := fun x => ebrD x.1 x.2) (fun x y hxy => by
    simp only [List.cons.injEq, and_true, DV.agg.injEq, DV.int.injEq, true_and] at hxy
    rw [hxy.1, hxy.2]) hp (a, s) rfl (ebrD_flat a s)
abbrev TSQ : Type := (Int × Int) × {q : Nat // q < 18446744073709551616}
def cEBk : ConF := liftC (eqC fEBk (fun x : TSQ => [.agg [.int .i64 x.1.1, .int .i64 x.1.2, .int .u64 (x.2.1 : Int)]]) fun x => (ebkD x.1.1 x.1.2 x.2.1, ⟨0, [], []⟩))
theorem cEBk_ok : ConOk Try.prog cEBk := liftC_ok (eqC_ok ebk_ans fun _ => rfl)
theorem cEBk_at (hp : Hp) (a s : Int) (q : Nat) (hq : q < 18446744073709551616) : cEBk fEBk [.agg [.int .i64 a, .int .i64 s, .int .u64 (q : Int)]] hp = some (ebkD a s q, hp, none) :=
  lift_at (A := fun x : TSQ => [.agg [.int .i64 x.1.1, .int .i64 x.1.2, .int .u64 (x.2.1 : Int)]]) (D := fun x => ebkD x.1.1 x.1.2 x.2.1) (fun x y hxy => by
    simp only [List.cons.injEq, and_true, DV.agg.injEq, DV.int.injEq, true_and] at hxy
    rw [hxy.1, hxy.2.1, show x.2.1 = y.2.1 from Int.ofNat.inj hxy.2.2]) hp ((a, s), ⟨q, hq⟩) rfl (ebkD_flat a s q)
end
end Go.Proofs.Ytejlbkhddehaiaa
/- join, and EncodeAction: contracts. -/
namespace Go.Proofs.Ytejlbkhddehaiaa
open Go.RowKit

noncomputable section
abbrev fJw : FuncId := 50
abbrev jwP (fs es : List (List DV)) (nf n : Nat) (zs c1 c2 : List DV) (m1 m2 : Mut) : Yath := [(10, .w (iN n)), (11, .b false), (15, .c [(18, .w (iN nf)), (20, .b false), (18, .w (iN n)), (20, .b false),
  (24, .c [(6, .b false), (14, .w (iN n)), (16, .b true), (22, .h (.sl 1 0 1 n n) (wH1 fs es zs) none), (25, .n (.sl 1 0 1 0 n))]), (33, .h (.sl 1 0 1 nf n) (wH1 fs es c1) m1), (33, .h (.sl 1 0 1 n n) (wH1 fs es c2) m2)])]
abbrev jwQ (fs es : List (List DV)) (nf n : Nat) (zs c1 c2 : List DV) (m1 m2 : Mut) : List Prop := (DV.int .i64 (IntKind.i64.wrap ((fs.length : Int) + (es.length : Int))) = iN n) :: (decide ((n : Int) > 2304) = false) ::
  (DV.int .i64 (IntKind.i64.wrap ((0 : Int) + (fs.length : Int))) = iN nf) :: (decide ((nf : Int) < 0) = false) :: (DV.int .i64 (IntKind.i64.wrap ((nf : Int) + (es.length : Int))) = iN n) :: (decide ((n : Int) < 0) = false) :: (decide ((n : Int) < 0) = false) :: (DV.int .i64 (IntKind.i64.wrap ((n : Int) - IntKind.i64.wrap (0 - 0))) = iN n) ::
  (decide ((n : Int) > 0) = true) :: (builtinD tab (wH0 fs es) .append [.nil, iN n] tyZ = some (.sl 1 0 1 n n, wH1 fs es zs, none)) :: (sliceD tab (wH1 fs es zs) bTI (.sl 1 0 1 n n) none (some (iN 0)) none = some (.sl 1 0 1 0 n)) ::
  (builtinD tab (wH1 fs es zs) .append [.sl 1 0 1 0 n, .list 1 fs] tyBB = some (.sl 1 0 1 nf n, wH1 fs es c1, m1)) :: (builtinD tab (wH1 fs es c1) .append [.sl 1 0 1 nf n, .list 1 es] tyBB = some (.sl 1 0 1 n n, wH1 fs es c2, m2)) :: []
set_option maxRecDepth 1000000 in
theorem jw1 (fs es : List (List DV)) (nf n : Nat) (zs c1 c2 : List DV) : zans Try.prog tab ftab noC fJw [.list 1 fs, .list 1 es] (jwP fs es nf n zs c1 c2 (some 1) (some 1)) = some (.tuple [.sl 1 0 1 n n, iN 0], wH1 fs es c2, jwQ fs es nf n zs c1 c2 (some 1) (some 1)) := by kernel_rfl
set_option maxRecDepth 1000000 in
theorem jw0 (fs es : List (List DV)) (nf n : Nat) (zs c1 c2 : List DV) : zans Try.prog tab ftab noC fJw [.list 1 fs, .list 1 es] (jwP fs es nf n zs c1 c2 (some 1) none) = some (.tuple [.sl 1 0 1 n n, iN 0], wH1 fs es c2, jwQ fs es nf n zs c1 c2 (some 1) none) := by kernel_rfl
set_option maxRecDepth 1000000 in
theorem jwL (fs es : List (List DV)) (n : Nat) : zflat (zans Try.prog tab ftab noC fJw [.list 1 fs, .list 1 es] [(10, .w (iN n)), (11, .b true)]) = some (.tuple [.nil, iN 11], (DV.int .i64 (IntKind.i64.wrap ((fs.length : Int) + (es.length : Int))) = iN n) :: (decide ((n : Int) > 2304) = true) :: []) := by kernel_rfl
def jwB (f g : List UInt8) : DV × Hp := match Nat.ble (f.length + g.length) 2304 with
  | true => (.tuple [.sl 0 0 1 (f ++ g).length (f ++ g).length, iN 0], ownH 5 1 (celB (f ++ g)))
  | false => (.tuple [.nil, iN 11], ⟨0, [], []⟩)
abbrev JwX : Type := {x : List UInt8 × List UInt8 // (x.1 ≠ [] ∧ x.1.length ≤ 64) ∧ x.2.length < 2 ^ 62}
theorem jw_ans (x : JwX) : Ans Try.prog fJw [byL x.1.1, byL x.1.2] (jwB x.1.1 x.1.2).1 (jwB x.1.1 x.1.2).2 := by
  obtain ⟨⟨f, g⟩, ⟨h0, h64⟩, hl⟩ := x
  dsimp only at h0 h64 hl ⊢
  unfold jwB
  obtain ⟨n, hn⟩ : ∃ n, n = f.length + g.length := ⟨_, rfl⟩
  have hw : IntKind.i64.wrap (((by1 f).length : Int) + ((by1 (g)).length : Int)) = n := by
    rw [by1_length, by1_length, show (f.length : Int) + ((g).length : Int) = (n : Int) by omega]
    exact wrapI (by omega)
  cases hb : Nat.ble (f.length + (g).length) 2304 with
  | false =>
    have hgt : ¬ f.length + (g).length ≤ 2304 := fun h => by rw [bleT h] at hb; cases hb
    exact zflat_ok tab_ok mixed fun_ok noC_ok (jwL (by1 f) (by1 g) n) (.cons (congrArg (DV.int .i64) hw) (.cons (decide_eq_true (by omega)) .nil))
  | true =>
    have hle2 : n ≤ 2304 := by rw [hn]; exact Nat.le_of_ble_eq_true hb
    obtain ⟨c, t, rfl⟩ := List.exists_cons_of_ne_nil h0
    have hlen : (c :: t).length = t.length + 1 := rfl
    have r2 : DV.int .i64 (IntKind.i64.wrap ((0 : Int) + ((by1 (c :: t)).length : Int))) = iN (t.length + 1) := by
      rw [by1_length, Int.zero_add, hlen]
      exact congrArg (DV.int .i64) (wrapI (by omega))
    have r3 : DV.int .i64 (IntKind.i64.wrap (((t.length + 1 : Nat) : Int) + ((by1 (g)).length : Int))) = iN n := by
      rw [by1_length, show ((t.length + 1 : Nat) : Int) + ((g).length : Int) = (n : Int) by omega]
      exact congrArg (DV.int .i64) (wrapI (by omega))
    have r4 : DV.int .i64 (IntKind.i64.wrap ((n : Int) - IntKind.i64.wrap (0 - 0))) = iN n := by
      rw [show IntKind.i64.wrap (0 - 0) = 0 from by decide, Int.sub_zero]
      exact congrArg (DV.int .i64) (wrapI (by omega))
    have z1 := nlist_length n (.int .u8 0)
    have a1 := wiA (fs := by1 (c :: t)) (es := by1 (g)) (cl := nlist n [.int .u8 0]) (k := 0) (n := n) c t (by omega) z1
    rw [Nat.zero_add] at a1
    have hc1 : layD (nlist n [.int .u8 0]) 0 (celB (c :: t)) = celB (c :: t) ++ (nlist n [.int .u8 0]).drop (t.length + 1) := by
      simp only [layD, List.take_zero, List.nil_append, celB_length, hlen, Nat.zero_add]
    have lc1 : (layD (nlist n [.int .u8 0]) 0 (celB (c :: t))).length = n := by
      rw [layD_length (by rw [celB_length, z1, hlen]; omega), z1]
    cases hE : g with
    | nil =>
      rw [hE] at hn r3
      have hnn : n = t.length + 1 := by rw [hn, hlen]; rfl
      have hc2 : layD (nlist n [.int .u8 0]) 0 (celB (c :: t)) = celB (c :: t) := by
        rw [hc1, List.drop_eq_nil_of_le (by rw [z1]; omega), List.append_nil]
      have a2 := wiN (fs := by1 (c :: t)) (es := by1 ([] : List UInt8)) (cl := layD (nlist n [.int .u8 0]) 0 (celB (c :: t))) (k := t.length + 1) (n := n)
      rw [hE] at a1 hw
      have z := zans_ok tab_ok mixed fun_ok noC_ok (jw0 (by1 (c :: t)) (by1 []) (t.length + 1) n (nlist n [.int .u8 0]) _ _) (.cons (congrArg (DV.int .i64) hw) (.cons (decide_eq_false (by omega)) (.cons r2 (.cons (decide_eq_false (by omega)) (.cons r3 (.cons (decide_eq_false (by omega)) (.cons (decide_eq_false (by omega)) (.cons r4
        (.cons (decide_eq_true (by omega)) (.cons (wiZ _ _ (by omega) (by omega)) (.cons wiS (.cons a1 (.cons (by rw [← hnn] at a2 ⊢; exact a2) .nil)))))))))))))
      rw [hc2] at z
      rw [List.append_nil, show n = (c :: t).length from hnn] at *
      exact AnsH.see z (wi_see _ _ (c :: t))
    | cons d e =>
      rw [hE] at hn r3 hw
      have hnn : n = t.length + 1 + (e.length + 1) := by rw [hn]; rfl
      rw [hE] at a1
      have a2 := wiA (fs := by1 (c :: t)) (es := by1 (d :: e)) (k := t.length + 1) (n := n) d e (by omega) lc1
      rw [← hnn] at a2
      have hc2 : layD (layD (nlist n [.int .u8 0]) 0 (celB (c :: t))) (t.length + 1) (celB (d :: e)) = celB ((c :: t) ++ (d :: e)) := by
        have hlc : (celB (c :: t)).length = t.length + 1 := celB_length _
        rw [hc1, layD, List.take_left' hlc, celB_length, List.drop_eq_nil_of_le (by rw [List.length_append, List.length_drop, hlc, z1, List.length_cons]; omega), List.append_nil, celB_append]
      have z := zans_ok tab_ok mixed fun_ok noC_ok (jw1 (by1 (c :: t)) (by1 (d :: e)) (t.length + 1) n (nlist n [.int .u8 0]) _ _) (.cons (congrArg (DV.int .i64) hw) (.cons (decide_eq_false (by omega)) (.cons r2 (.cons (decide_eq_false (by omega)) (.cons r3 (.cons (decide_eq_false (by omega)) (.cons (decide_eq_false (by omega)) (.cons r4
        (.cons (decide_eq_true (by omega)) (.cons (wiZ _ _ (by omega) (by omega)) (.cons wiS (.cons a1 (.cons a2 .nil)))))))))))))
      rw [hc2] at z
      rw [show n = ((c :: t) ++ (d :: e)).length by rw [hnn, List.length_append]; rfl] at z
      exact AnsH.see z (wi_see _ _ ((c :: t) ++ (d :: e)))
theorem fine_jw (f g : List UInt8) : Fine (jwB f g).1 (jwB f g).2 := by
  unfold jwB
  split
  · exact ⟨rfl, plain_own _ _ _, rfl⟩
  · exact ⟨rfl, fun id o h => by simp [Hp.get_eq] at h, rfl⟩
def cJw : ConF := conC fJw (fun x : JwX => [byL x.1.1, byL x.1.2]) fun x => jwB x.1.1 x.1.2
theorem cJw_ok : ConOk Try.prog cJw := conC_ok jw_ans fun x => fine_jw x.1.1 x.1.2
theorem byL_in {a b : List UInt8} (h : byL a = byL b) : a = b := by
  simp only [byL, DV.list.injEq, true_and] at h
  exact by1_inj h
theorem cJw_at {hp : Hp} {d : DV} (f g : List UInt8) (h : (f ≠ [] ∧ f.length ≤ 64) ∧ g.length < 2 ^ 62) (hd : frz1 hp d (byL f)) : cJw fJw [d, byL g] hp = some (sh3 hp.n (jwB f g).1, layH hp (jwB f g).2, none) :=
  conC_at (f0 := fJw) (A := fun x : JwX => [byL x.1.1, byL x.1.2]) (B := fun x => jwB x.1.1 x.1.2) (args := [d, byL g]) (hp := hp) (fun x y hxy => by
    simp only [List.cons.injEq, and_true] at hxy
    rw [byL_in hxy.1, byL_in hxy.2]) ⟨(f, g), h⟩ ⟨hd, ⟨rfl, rfl⟩, trivial⟩
/-! ### Actions -/
abbrev fEAc : FuncId := 18
abbrev acH (a b c : UInt8) (ys : List (List DV)) : Hp := ⟨2, [oU 0 0 [i8 a, i8 b, i8 c], ⟨0, 0, 39, [i8 a, i8 b, i8 c, .list 1 ys]⟩], []⟩
set_option maxRecDepth 1000000 in
theorem acE (a b c : UInt8) (ys : List (List DV)) : zflat (zans Try.prog tab ftab cJw fEAc [.agg [i8 a, i8 b, i8 c, .list 1 ys]] [(13, .q (.tuple [.nil, iN 11]))]) =
    some (.tuple [.nil, iN 11], (cJw fJw [.sl 1 0 1 3 3, .list 1 ys] (acH a b c ys) = some (.tuple [.nil, iN 11], acH a b c ys, none)) :: []) := by kernel_rfl
set_option maxRecDepth 1000000 in
theorem acO (a b c : UInt8) (ys : List (List DV)) (n : Nat) (cl : List DV) : zans Try.prog tab ftab cJw fEAc [.agg [i8 a, i8 b, i8 c, .list 1 ys]] [(13, .r (.tuple [.sl 2 0 1 n n, iN 0]) (layH (acH a b c ys) (ownH 5 1 cl)))] =
    some (.tuple [.sl 2 0 1 n n, iN 0], layH (acH a b c ys) (ownH 5 1 cl), (cJw fJw [.sl 1 0 1 3 3, .list 1 ys] (acH a b c ys) = some (.tuple [.sl 2 0 1 n n, iN 0], layH (acH a b c ys) (ownH 5 1 cl), none)) :: []) := by kernel_rfl
def eacD (a b c : UInt8) (g : List UInt8) : DV := match Nat.ble ([a, b, c].length + g.length) 2304 with
  | true => .tuple [byL ([a, b, c] ++ g), iN 0]
  | false => .tuple [.list 1 [], iN 11]
abbrev AcX : Type := {x : (UInt8 × UInt8 × UInt8) × List UInt8 // x.2.length < 2 ^ 62}
theorem eac_ans (x : AcX) : Ans Try.prog fEAc [.agg [i8 x.1.1.1, i8 x.1.1.2.1, i8 x.1.1.2.2, byL x.1.2]] (eacD x.1.1.1 x.1.1.2.1 x.1.1.2.2 x.1.2) ⟨0, [], []⟩ := by
  obtain ⟨⟨⟨a, b, c⟩, g⟩, hg⟩ := x
  have q := cJw_at (hp := acH a b c (by1 g)) (d := .sl 1 0 1 3 3) [a, b, c] g ⟨⟨by simp, by simp⟩, hg⟩ (frz_cells (id := 1) rfl rfl rfl)
  dsimp only
  unfold jwB at q
  unfold eacD
  cases hb : Nat.ble ([a, b, c].length + g.length) 2304 with
  | false =>
    rw [hb] at q
    exact Ans.nil1 (zflat_ok tab_ok mixed fun_ok cJw_ok (acE a b c (by1 g)) (.cons q .nil))
  | true =>
    rw [hb] at q
    have z := zans_ok tab_ok mixed fun_ok cJw_ok (acO a b c (by1 g) _ _) (.cons q .nil)
    exact AnsH.frz z rfl (FrzL.tuple ⟨frzD_bytes (id := 2) (off := 0) (o := ⟨1, 0, 5, _⟩) rfl rfl (by show (1 : Nat) ≠ 2; decide) fun i b hb' => celB_get hb', FrzD.int' _ _, trivial⟩)
def cEAc : ConF := liftC (eqC fEAc (fun x : AcX => [.agg [i8 x.1.1.1, i8 x.1.1.2.1, i8 x.1.1.2.2, byL x.1.2]]) fun x => (eacD x.1.1.1 x.1.1.2.1 x.1.1.2.2 x.1.2, ⟨0, [], []⟩))
theorem cEAc_ok : ConOk Try.prog cEAc := liftC_ok (eqC_ok eac_ans fun _ => rfl)
end
end Go.Proofs.Ytejlbkhddehaiaa
