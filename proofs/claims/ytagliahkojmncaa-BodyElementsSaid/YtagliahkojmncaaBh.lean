/- BodyElements, over the data of its arguments. -/
import Derived.Test.YtagliahkojmncaaBg
namespace Go.Proofs.Ytagliahkojmncaa
open Go.RowKit

noncomputable section
theorem be_seen (xs : List (List DV)) (c : Nat) (a : List El) : Seen (beF xs c (bD a)) (bH a) (beF xs c (elsD a)) h00 := by
  cases a with
  | nil =>
    refine seen_slots fun W0 S0 E w hs => ⟨E, .up (E := E) (E' := E) (fun _ h => h) rfl (fun _ => rfl) _, hs, fun t a ht => ?_⟩
    rcases List.mem_cons.1 ht with h1 | ht
    · cases h1
      exact ⟨_, by kernel_rfl, fun _ h => h⟩
    rcases List.mem_cons.1 ht with h1 | ht
    · cases h1
      exact ⟨_, by kernel_rfl, fun _ h => h⟩
    rcases List.mem_cons.1 ht with h1 | ht
    · cases h1
      exact ⟨_, by kernel_rfl, fun _ h => h⟩
    · obtain h1 := List.mem_singleton.1 ht
      cases h1
      exact ⟨.nil, by kernel_rfl, fun _ h => vr_nl h⟩
  | cons x a =>
    refine seen_melt (melt_nil rfl) fun t b ht => ?_
    rcases List.mem_cons.1 ht with h1 | ht
    · cases h1
      exact ⟨_, by kernel_rfl, .frz _ _ (.flat _ rfl)⟩
    rcases List.mem_cons.1 ht with h1 | ht
    · cases h1
      exact ⟨_, by kernel_rfl, .frz _ _ (.flat _ rfl)⟩
    rcases List.mem_cons.1 ht with h1 | ht
    · cases h1
      exact ⟨_, by kernel_rfl, .frz _ _ (.flat _ rfl)⟩
    · obtain h1 := List.mem_singleton.1 ht
      cases h1
      exact ⟨.sl 0 0 4 (x :: a).length (x :: a).length, by kernel_rfl, .frz _ _ (frz_el rfl rfl (by decide) rfl)⟩
/-! ### The law's paths -/
def cBe : ConF := orK cAl (orK cGn (orK cEr (orK cDr (orK cDe (cSa 10)))))
theorem cBe_ok : ConOk Try.prog cBe := orK_ok cAl_ok (orK_ok cGn_ok (orK_ok cEr_ok (orK_ok cDr_ok (orK_ok cDe_ok (liftC_ok (eqC_ok (sa_ans 10) fun _ => rfl))))))
theorem cBe_al : cBe fAl [] h00 = some (.bool true, h00, none) := orK_left rfl
theorem cBe_gr (hp : Hp) (x : Option ElA) : cBe fGr [gnA x] hp = some (.bool (gnB x), hp, none) := orK_right rfl (orK_left (cGn_at hp x))
theorem cBe_er {args : List DV} {hp : Hp} {r : DV × Hp × Mut} (h : cEr fEr args hp = some r) : cBe fEr args hp = some r := orK_right rfl (orK_right (lift_oth (eqC_other (by kernel_rfl))) (orK_left h))
theorem cBe_dr {args : List DV} {hp : Hp} {r : DV × Hp × Mut} (h : cDr fDr args hp = some r) : cBe fDr args hp = some r := orK_right rfl (orK_right (lift_oth (eqC_other (by kernel_rfl))) (orK_right (lift_oth (eqC_other (by kernel_rfl))) (orK_left h)))
theorem cBe_de {args : List DV} {hp : Hp} {r : DV × Hp × Mut} (h : cDe fDe args hp = some r) : cBe fDe args hp = some r := orK_right rfl (orK_right (lift_oth (eqC_other (by kernel_rfl))) (orK_right (lift_oth (eqC_other (by kernel_rfl))) (orK_right (lift_oth (eqC_other (by kernel_rfl))) (orK_left h))))
theorem cBe_sa {args : List DV} {hp : Hp} {r : DV × Hp × Mut} (h : cSa 10 fSa args hp = some r) : cBe fSa args hp = some r := orK_right rfl (orK_right (lift_oth (eqC_other (by kernel_rfl))) (orK_right (lift_oth (eqC_other (by kernel_rfl))) (orK_right (lift_oth (eqC_other (by kernel_rfl))) (orK_right (lift_oth (eqC_other (by kernel_rfl))) h))))
abbrev bgR (e : DV) : List DV := [.int .u64 0, .int .u16 0, .int .u16 0, .nil, .int .u16 0, .int .u16 0, .int .u16 0, .nil, .int .u16 0, .int .u16 0, .int .u8 0, .int .u8 0, .int .u8 0, .int .u8 0, .int .u8 0, .int .u8 0, .nil, .bool false,
  .int .u16 0, .int .u16 0, .int .i64 0, .nil, .int .u16 0, e, .int .u8 0, .int .u8 0, .int .u8 0, .nil, .int .i64 0, .int .i64 0, .int .i64 0, .int .i64 0, .int .u64 0]
abbrev beHg (xs : List (List DV)) : Hp := ⟨1, [⟨0, 0, 45, bgR (.list 4 xs)⟩], []⟩
abbrev beQ (xs : List (List DV)) (d : DV) (b : Bool) : Prop := cBe fGr [d] (beHg xs) = some (.bool b, beHg xs, none)
abbrev beP (xs zs : List (List DV)) (c : Nat) (z : Int) (d : DV) (H : Hp) (ps bs : List (List DV)) (e : Nat) (t : Yath) : Yath := (16, .q (.bool true)) :: (20, .c [(6, .q (.bool false)), (11, .q (.bool false)), (17, .q (.bool false)), (23, .q (.bool false)), (29, .q (.bool false))]) :: (28, .w (.int .i64 z)) ::
  (0, .l [0, 1, 5, 6, 7] (.exit 0) (beF xs c d) H) :: (9, .s [0, 1, 5, 6] (beF xs c (.list 4 zs)) h00) :: (44, .q (.tuple [.list 1 ps, iN e])) :: (51, .q (.tuple [.list 1 bs, iN e])) :: t
abbrev beN (xs zs : List (List DV)) (c : Nat) (z : Int) (d : DV) (H : Hp) (ps bs : List (List DV)) (e : Nat) (t : List Prop) : List Prop := (cBe fAl [] h00 = some (.bool true, h00, none)) :: beQ xs .nil false :: beQ xs .nil false :: beQ xs .nil false :: beQ xs .nil false :: beQ xs (.list 4 xs) false :: (DV.int .i64 (IntKind.i64.wrap ((xs.length : Int) - 1)) = .int .i64 z) ::
  (Goes Try.prog tab kBe (.loop beL) (beS xs c .nil z) h00 (.exit 0) (beF xs c d) H) :: (Seen (beF xs c d) H (beF xs c (.list 4 zs)) h00) :: (cBe fEr [.agg [w16 c, .list 4 xs]] h00 = some (.tuple [.list 1 ps, iN e], h00, none)) :: (cBe fEr [.agg [w16 c, .list 4 zs]] h00 = some (.tuple [.list 1 bs, iN e], h00, none)) :: t
set_option maxRecDepth 1000000 in
theorem beG (xs : List (List DV)) (c : Nat) : zflat (zans Try.prog tab ftab cBe fBe [.list 4 xs, w16 c] [(16, .q (.bool true)), (20, .c [(6, .q (.bool false)), (11, .q (.bool false)), (17, .q (.bool false)), (23, .q (.bool false)), (29, .q (.bool true))])]) =
    some (.bool true, (cBe fAl [] h00 = some (.bool true, h00, none)) :: beQ xs .nil false :: beQ xs .nil false :: beQ xs .nil false :: beQ xs .nil false :: beQ xs (.list 4 xs) true :: []) := by kernel_rfl
set_option maxRecDepth 1000000 in
theorem beE (xs zs : List (List DV)) (c : Nat) (z : Int) (d : DV) (H : Hp) (ps bs : List (List DV)) (e : Nat) : zflat (zans Try.prog tab ftab cBe fBe [.list 4 xs, w16 c] (beP xs zs c z d H ps bs e [(55, .b true), (64, .b true)])) =
    some (.bool true, beN xs zs c z d H ps bs e ((((e : Int) != 0) = true) :: (((e : Int) == (e : Int)) = true) :: [])) := by kernel_rfl
abbrev beX (v : Nat) (zs : List (List DV)) : Hp := ⟨1, [⟨0, 0, 36, [w16 v, .list 4 zs]⟩], []⟩
set_option maxRecDepth 1000000 in
theorem beO (xs zs : List (List DV)) (c : Nat) (z : Int) (d : DV) (H : Hp) (ps bs rs : List (List DV)) : zflat (zans Try.prog tab ftab cBe fBe [.list 4 xs, w16 c] (beP xs zs c z d H ps bs 0 [(68, .b false), (71, .n (.list 1 rs)), (72, .q (.tuple [.list 4 xs, iN 0])), (77, .q (.tuple [.agg [w16 c, .list 4 zs], iN 0])), (88, .c [(7, .q (.bool true))]), (98, .c [(7, .q (.bool true))]), (104, .b true), (111, .b true)])) =
    some (.bool true, beN xs zs c z d H ps bs 0 ((decide ((ps.length : Int) < 2) = false) :: (sliceD tab h00 bTI (.list 1 ps) (some (iN 2)) none none = some (.list 1 rs)) :: (cBe fDe [.list 1 rs] h00 = some (.tuple [.list 4 xs, iN 0], h00, none)) :: (cBe fDr [.list 1 bs] h00 = some (.tuple [.agg [w16 c, .list 4 zs], iN 0], h00, none)) ::
      (cBe fSa [.list 4 xs, .list 4 xs] (beX c zs) = some (.bool true, beX c zs, none)) :: (cBe fSa [.list 4 zs, .list 4 zs] (beX c zs) = some (.bool true, beX c zs, none)) :: (((c : Int) == (c : Int)) = true) :: (((ps.length : Int) == (bs.length : Int)) = true) :: [])) := by kernel_rfl
end
end Go.Proofs.Ytagliahkojmncaa
