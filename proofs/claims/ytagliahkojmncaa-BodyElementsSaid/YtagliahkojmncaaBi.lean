/- BodyElements over data: the law. -/
import Derived.Test.YtagliahkojmncaaBh
namespace Go.Proofs.Ytagliahkojmncaa
open Go.RowKit

noncomputable section
theorem smL_all (l : List El) : smL l ↔ ∀ x ∈ l, smE x := by
  induction l with
  | nil => exact ⟨fun _ x h => (by cases h), fun _ => trivial⟩
  | cons x l ih => rw [smL, ih]; simp
theorem smL_rev {l : List El} (h : smL l) : smL l.reverse := (smL_all _).2 fun x hx => (smL_all _).1 h x (List.mem_reverse.1 hx)
theorem dep_all (l : List El) (k : Nat) : depA l ≤ k ↔ ∀ x ∈ l, depE x ≤ k := by
  induction l with
  | nil => exact ⟨fun _ x h => (by cases h), fun _ => Nat.zero_le _⟩
  | cons x l ih => rw [depA, Nat.max_le, ih]; simp
theorem depA_rev (l : List El) : depA l.reverse = depA l := by
  refine Nat.le_antisymm ((dep_all _ _).2 fun x hx => (dep_all l _).1 (Nat.le_refl _) x (List.mem_reverse.1 hx)) ((dep_all _ _).2 fun x hx => (dep_all l.reverse _).1 (Nat.le_refl _) x (List.mem_reverse.2 hx))
theorem dec_all {l : List El} (h : (szR l).2 = 0) : deE (encA l) = 0 ∧ deL (encA l) = l := by
  obtain ⟨q1, q2, q3, q4⟩ := szR_zero h
  have := dec_enc 4 (by decide) l 0 q1 q2 ⟨_, q3⟩
  unfold deE deL
  rw [this]
  exact ⟨rfl, rfl⟩
theorem be_all (x : ElA) (c : Nat) (hc : c < 65536) : Ans Try.prog fBe [elsD x.1, w16 c] (.bool true) ⟨0, [], []⟩ := by
  have gN := cBe_gr (beHg (elR x.1)) none
  have gL := cBe_gr (beHg (elR x.1)) (some x)
  obtain ⟨l, hx1, hx2⟩ := x
  cases hq : grB l with
  | true =>
    have gL : beQ (elR l) (.list 4 (elR l)) true := by
      show cBe fGr [gnA (some ⟨l, hx1, hx2⟩)] _ = _
      rw [gL]
      show some (DV.bool (grB l), _, _) = _
      rw [hq]
    exact zflat_ok tab_ok mixed fun_ok cBe_ok (beG (elR l) c) (.cons cBe_al (.cons gN (.cons gN (.cons gN (.cons gN (.cons gL .nil))))))
  | false =>
    have gL : beQ (elR l) (.list 4 (elR l)) false := by
      show cBe fGr [gnA (some ⟨l, hx1, hx2⟩)] _ = _
      rw [gL]
      show some (DV.bool (grB l), _, _) = _
      rw [hq]
    obtain ⟨hs, hl200⟩ := small_of hx2 hq
    have hdep := dep_of hq
    have hsr : SmL l.reverse := ⟨by rw [List.length_reverse]; exact hs.1, smL_rev hs.2⟩
    have hdr : depA l.reverse ≤ 10 := by rw [depA_rev]; exact hdep
    have hn := elR_length l
    obtain ⟨m, g⟩ := be_loop l c hs l.reverse [] (by simp)
    rw [List.length_reverse] at g
    have hz : DV.int .i64 (IntKind.i64.wrap (((elR l).length : Int) - 1)) = .int .i64 ((l.length : Int) - 1) := by
      rw [hn]
      exact congrArg (DV.int .i64) (wrapZ (by omega) (by omega))
    have s := be_seen (elR l) c l.reverse
    have e1 := cBe_er (cEr_at h00 c l ⟨hc, hs, Nat.le_trans hdep (by decide)⟩)
    have e2 := cBe_er (cEr_at h00 c l.reverse ⟨hc, hsr, Nat.le_trans hdr (by decide)⟩)
    have hr := szR_reverse l
    unfold wiD at e1 e2
    rw [hr] at e2
    have first : ∀ {ps bs : List (List DV)} {e : Nat} {t : List Prop}, cBe fEr [.agg [w16 c, .list 4 (elR l)]] h00 = some (.tuple [.list 1 ps, iN e], h00, none) → cBe fEr [.agg [w16 c, .list 4 (elR l.reverse)]] h00 = some (.tuple [.list 1 bs, iN e], h00, none) → AskedP t →
        AskedP (beN (elR l) (elR l.reverse) c ((l.length : Int) - 1) (bD l.reverse) (bH l.reverse) ps bs e t) :=
      fun p q ht => .cons cBe_al (.cons gN (.cons gN (.cons gN (.cons gN (.cons gL (.cons hz (.cons g.goes (.cons s (.cons p (.cons q ht))))))))))
    cases he : (szR l).2 with
    | succ e =>
      rw [he] at e1 e2
      exact zflat_ok tab_ok mixed fun_ok cBe_ok (beE (elR l) (elR l.reverse) c _ _ _ [] [] (e + 1)) (first e1 e2 (.cons (bne_iff_ne.2 (by omega)) (.cons (beq_iff_eq.2 rfl) .nil)))
    | zero =>
      have he' : (szR l.reverse).2 = 0 := by rw [hr]; exact he
      rw [he] at e1 e2
      have hlen : (encA l.reverse).length = (encA l).length := by
        rw [← (szR_zero he).2.2.2, ← (szR_zero he').2.2.2, hr]
      skip
      rw [hlen] at e2
      cases hb : Nat.ble ((frE c).length + (encA l).length) 2304 with
      | false =>
        rw [hb] at e1 e2
        exact zflat_ok tab_ok mixed fun_ok cBe_ok (beE (elR l) (elR l.reverse) c _ _ _ [] [] 11) (first e1 e2 (.cons rfl (.cons rfl .nil)))
      | true =>
        rw [hb] at e1 e2
        have hle : 2 + (encA l).length ≤ 2304 := Nat.le_of_ble_eq_true hb
        have lp : ∀ k : List El, (by1 (frE c ++ encA k)).length = 2 + (encA k).length := fun k => by rw [by1_length, List.length_append]; rfl
        have lq : ∀ k : List El, (frE c ++ encA k).length = 2 + (encA k).length := fun k => by rw [List.length_append]; rfl
        have d := cBe_de (cDe_at h00 (encA l) (by omega))
        unfold deD at d
        rw [(dec_all he).1, (dec_all he).2] at d
        have r := cBe_dr (cDr_at h00 ⟨frE c ++ encA l.reverse, by rw [lq, hlen]; omega⟩)
        have rd : drD (frE c ++ encA l.reverse) = .tuple [.agg [w16 c, elsD l.reverse], iN 0] := by
          unfold drD
          rw [bleT (show (frE c ++ encA l.reverse).length ≤ 2304 by rw [lq, hlen]; omega), bleT (show 2 ≤ (frE c ++ encA l.reverse).length by rw [lq]; omega)]
          have h1 : (frE c ++ encA l.reverse).drop 2 = encA l.reverse := rfl
          have h2 : (frE c ++ encA l.reverse).take 2 = frE c := rfl
          rw [h1, h2, (dec_all he').1, (dec_all he').2, leN_frE hc]
          rfl
        dsimp only at r
        rw [rd] at r
        have t1 := cBe_sa (cSa_at 10 (beX c (elR l.reverse)) l l ⟨hdep, hs⟩ hs)
        have t2 := cBe_sa (cSa_at 10 (beX c (elR l.reverse)) l.reverse l.reverse ⟨hdr, hsr⟩ hsr)
        rw [eqB_t rfl] at t1 t2
        exact zflat_ok tab_ok mixed fun_ok cBe_ok (beO (elR l) (elR l.reverse) c _ _ _ (by1 (frE c ++ encA l)) (by1 (frE c ++ encA l.reverse)) (by1 (encA l))) (first e1 e2 (.cons (decide_eq_false (by rw [lp]; omega)) (.cons (slice_from (n := 2) (by rw [lp]; omega)) (.cons d (.cons r (.cons t1 (.cons t2 (.cons (beq_iff_eq.2 rfl) (.cons (by rw [lp, lp, hlen]; exact beq_iff_eq.2 rfl) .nil)))))))))
end
end Go.Proofs.Ytagliahkojmncaa
