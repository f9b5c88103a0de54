/- Reasons, encoded: a contract. -/
import Derived.Test.YtejlbkhddehaiaaBs
namespace Go.Proofs.Ytejlbkhddehaiaa
open Go.RowKit

noncomputable section
abbrev fEr : FuncId := 16
abbrev erH (c : Nat) (c0 c1 : UInt8) (xs : List (List DV)) : Hp := ⟨7, [oU 3 2 [i8 c0, i8 c1], oU 0 0 [i8 c1], oU 2 2 [i8 c0], oU 0 0 [i8 c0], oU 2 0 [], ⟨0, 0, 23, [w16 c]⟩, ⟨0, 0, 36, [w16 c, .list 4 xs]⟩], []⟩
abbrev erP (c0 c1 : UInt8) : YE := .c [(15, .c [(7, .c [(9, .c [(16, .w (i8 c0)), (16, .w (i8 c1))])])])]
set_option maxRecDepth 1000000 in
theorem erE (c : Nat) (c0 c1 : UInt8) (xs : List (List DV)) (e : Nat) : zflat (zans Try.prog tab ftab cWi fEr [.agg [w16 c, .list 4 xs]] [(7, erP c0 c1), (10, .q (.tuple [.nil, iN e]))]) =
    some (.tuple [.nil, iN e], arB c 0 c0 :: arB c 8 c1 :: (cWi fWi [.sl 6 0 1 2 2, .list 4 xs] (erH c c0 c1 xs) = some (.tuple [.nil, iN e], erH c c0 c1 xs, none)) :: []) := by kernel_rfl
set_option maxRecDepth 1000000 in
theorem erO (c : Nat) (c0 c1 : UInt8) (xs : List (List DV)) (n : Nat) (cl : List DV) : zans Try.prog tab ftab cWi fEr [.agg [w16 c, .list 4 xs]] [(7, erP c0 c1), (10, .r (.tuple [.sl 7 0 1 n n, iN 0]) (layH (erH c c0 c1 xs) (ownH 5 1 cl)))] =
    some (.tuple [.sl 7 0 1 n n, iN 0], layH (erH c c0 c1 xs) (ownH 5 1 cl), arB c 0 c0 :: arB c 8 c1 :: (cWi fWi [.sl 6 0 1 2 2, .list 4 xs] (erH c c0 c1 xs) = some (.tuple [.sl 7 0 1 n n, iN 0], layH (erH c c0 c1 xs) (ownH 5 1 cl), none)) :: []) := by kernel_rfl
/-- the front's bytes -/
def frE (c : Nat) : List UInt8 := [UInt8.ofNat (c / 256 ^ 0 % 256), UInt8.ofNat (c / 256 ^ 1 % 256)]
abbrev ErX : Type := {x : Nat × List El // x.1 < 65536 ∧ SmL x.2 ∧ depA x.2 ≤ 2 ^ 39}
theorem er_ans (x : ErX) : Ans Try.prog fEr [.agg [w16 x.1.1, elsD x.1.2]] (wiD (frE x.1.1) x.1.2) ⟨0, [], []⟩ := by
  obtain ⟨⟨c, es⟩, h1, hs⟩ := x
  have k1 := arB_ok h1 0 (by decide)
  have k2 := arB_ok h1 1 (by decide)
  have q := cWi_at (hp := erH c (UInt8.ofNat (c / 256 ^ 0 % 256)) (UInt8.ofNat (c / 256 ^ 1 % 256)) (elR es)) (d := .sl 6 0 1 2 2) (frE c) es ⟨⟨by simp [frE], by simp [frE]⟩, hs⟩ (frz_cells (id := 6) rfl rfl rfl)
  dsimp only
  unfold wiB at q
  unfold wiD
  cases he : (szR es).2 with
  | succ e =>
    rw [he] at q
    exact Ans.nil1 (zflat_ok tab_ok mixed fun_ok cWi_ok (erE c _ _ (elR es) (e + 1)) (.cons k1 (.cons k2 (.cons q .nil))))
  | zero =>
    rw [he] at q
    dsimp only at q ⊢
    cases hb : Nat.ble ((frE c).length + (encA es).length) 2304 with
    | false =>
      rw [hb] at q
      exact Ans.nil1 (zflat_ok tab_ok mixed fun_ok cWi_ok (erE c _ _ (elR es) 11) (.cons k1 (.cons k2 (.cons q .nil))))
    | true =>
      rw [hb] at q
      have z := zans_ok tab_ok mixed fun_ok cWi_ok (erO c _ _ (elR es) _ _) (.cons k1 (.cons k2 (.cons q .nil)))
      exact AnsH.frz z rfl (FrzL.tuple ⟨frzD_bytes (id := 7) (off := 0) (o := ⟨1, 0, 5, _⟩) rfl rfl (by show (1 : Nat) ≠ 2; decide) fun i b hb' => celB_get hb', FrzD.int' _ _, trivial⟩)
def cEr : ConF := liftC (eqC fEr (fun x : ErX => [.agg [w16 x.1.1, elsD x.1.2]]) fun x => (wiD (frE x.1.1) x.1.2, ⟨0, [], []⟩))
theorem cEr_ok : ConOk Try.prog cEr := liftC_ok (eqC_ok er_ans fun _ => rfl)
end
end Go.Proofs.Ytejlbkhddehaiaa
