/- Unpack: the contract. -/
import Derived.Test.YtmpmhkjfpeagkaaYe
namespace Go.Proofs.Ytmpmhkjfpeagkaa
open Go.RowKit

noncomputable section
def wdP (l : List Pk) : DV := match l with
  | [] => .nil
  | _ :: _ => .sl 0 0 13 l.length l.length
def whP (l : List Pk) : Hp := match l with
  | [] => h00
  | _ :: _ => UJ (celP l)
theorem whP_snoc (l : List Pk) (p : Pk) : wdP (l ++ [p]) = .sl 0 0 13 (l.length + 1) (l.length + 1) ∧ whP (l ++ [p]) = UJ (celP l ++ pkD p) := by
  rw [← celP_snoc]
  cases l with
  | nil => exact ⟨rfl, rfl⟩
  | cons a r =>
    refine ⟨?_, rfl⟩
    show DV.sl 0 0 13 (a :: (r ++ [p])).length (a :: (r ++ [p])).length = _
    simp
theorem rpD_inl {b : List UInt8} {e : Nat} (h : rp b = .inl e) : rpD b = rpE e := by
  unfold rpD
  rw [h]
theorem rpD_inr {b : List UInt8} {p : Pk} {r : List UInt8} (h : rp b = .inr (p, r)) : rpD b = rpT (by1 p.d) (by1 r) p.t0 p.t1 p.t2 p.t3 p.t4 p.t5 p.f0 p.f1 p.f2 p.f3 p.f4 p.f5 := by
  unfold rpD
  rw [h]
  rfl
theorem ne0 {e : Nat} (h : e ≠ 0) : (((e : Int) != 0) = true) := bne_iff_ne.2 (by omega)
/-- what Unpack's loop comes to -/
def unC (pre : List Pk) (r : Nat ⊕ List Pk) (e : Ex) (sl : Slots) (hp : Hp) : Prop := match r with
  | .inl er => (e = .ret ∧ sl = unE er ∧ hp = h00) ∨ (er = 4 ∧ e = .exit 0 ∧ sl = mkT 45 [] ∧ hp = h00)
  | .inr l => e = .ret ∧ sl = unR (pre ++ l).length ∧ hp = UJ (celP (pre ++ l))
theorem un_loop : ∀ (r : Nat) (b : List UInt8) (pre : List Pk), pre.length + r = 32 → b.length < 2 ^ 30 → ∃ m e sl hp, GoesR Try.prog tab kUn unL (m + 1) (unS (by1 b) (wdP pre)) (whP pre) e sl hp ∧ unC pre (up r b) e sl hp
  | 0, b, pre, hr, hb => by
    cases pre with
    | nil => cases hr
    | cons q r =>
      exact ⟨0, .exit 0, mkT 45 [], h00, GoesR.last (zgm_ok tab_ok mixed fun_ok cUk_ok (unX (by1 b) (celP (q :: r)) (q :: r).length) (.cons flat_no (.cons (decide_eq_false (by omega)) .nil))) (by intro h; cases h), .inr ⟨rfl, rfl, rfl, rfl⟩⟩
  | r + 1, b, pre, hr, hb => by
    have hrp := fun h => cUk_rp h b hb
    have hpl := celP_length pre
    unfold up
    cases hp : rp b with
    | inl e =>
      have q := ne0 (rp_ne hp)
      rw [rpD_inl hp] at hrp
      refine ⟨0, .ret, unE e, h00, GoesR.last ?_ (by intro h; cases h), .inl ⟨rfl, rfl, rfl⟩⟩
      cases pre with
      | nil => exact zgm_ok tab_ok mixed fun_ok cUk_ok (unAe (by1 b) e) (.cons flat_no (.cons (hrp _) (.cons q .nil)))
      | cons q0 r0 => exact zgm_ok tab_ok mixed fun_ok cUk_ok (unBe (by1 b) (celP (q0 :: r0)) (q0 :: r0).length e) (.cons flat_no (.cons (decide_eq_true (by omega)) (.cons (hrp _) (.cons q .nil))))
    | inr x =>
      obtain ⟨p, rest⟩ := x
      rw [rpD_inr hp] at hrp
      obtain ⟨hbe, hk⟩ := rp_some hp
      have hbl : b.length = (pent p).length + rest.length := by rw [hbe, List.length_append]
      have hrl := by1_length rest
      have hb1 := by1_length b
      obtain ⟨s1, s2⟩ := whP_snoc pre p
      have f1 : FlatIn [2] (H3a (by1 p.d) p.t0 p.t1 p.t2 p.t3 p.t4 p.t5 p.f0 p.f1 p.f2 p.f3 p.f4 p.f5) := flat_rowP (l := [p]) rfl (by simp [celP, pkR]; rfl)
      have f2 : FlatIn [3] (H4b (by1 p.d) (celP pre) p.t0 p.t1 p.t2 p.t3 p.t4 p.t5 p.f0 p.f1 p.f2 p.f3 p.f4 p.f5) := flat_rowP (l := pre ++ [p]) rfl (by rw [celP_snoc]; rfl)
      have hap := app_pk (p := p) (cl := celP pre) (n := pre.length) hpl (by omega)
      cases rest with
      | nil =>
        have q2 : (((by1 ([] : List UInt8)).length : Int) == 0) = true := rfl
        refine ⟨0, .ret, unR (pre ++ [p]).length, UJ (celP (pre ++ [p])), GoesR.last ?_ (by intro h; cases h), rfl, rfl, rfl⟩
        rw [celP_snoc, List.length_append, List.length_singleton]
        cases pre with
        | nil => exact zgm_ok tab_ok mixed fun_ok cUk_ok (unAr (by1 b) (by1 p.d) (by1 []) p.t0 p.t1 p.t2 p.t3 p.t4 p.t5 p.f0 p.f1 p.f2 p.f3 p.f4 p.f5) (.cons f1 (.cons (hrp _) (.cons q2 .nil)))
        | cons q0 r0 => exact zgm_ok tab_ok mixed fun_ok cUk_ok (unBr (by1 b) (by1 p.d) (by1 []) (celP (q0 :: r0)) (q0 :: r0).length p.t0 p.t1 p.t2 p.t3 p.t4 p.t5 p.f0 p.f1 p.f2 p.f3 p.f4 p.f5) (.cons f2 (.cons (decide_eq_true (by omega)) (.cons (hrp _) (.cons hap (.cons q2 .nil)))))
      | cons c t =>
        have q2 : (((by1 (c :: t)).length : Int) == 0) = false := beq_false_of_ne (by rw [hrl]; simp only [List.length_cons]; omega)
        have hm : b.length - (c :: t).length = (pent p).length := by omega
        have q3 : DV.int .i64 (IntKind.i64.wrap (((by1 b).length : Int) - ((by1 (c :: t)).length : Int))) = iN (pent p).length := congrArg (DV.int .i64) (wrN (n := (pent p).length) (by omega) (by omega))
        have q4 := wrM_ok (pent p).length
        have q5 := fun h => cUk_rz h (c :: t) (mis (pent p).length) (by omega)
        try dsimp only
        rw [hm]
        cases hz : rz (c :: t) (mis (pent p).length) with
        | inl e =>
          have q6 := ne0 (rz_ne hz)
          unfold rzD at q5
          rw [hz] at q5
          refine ⟨0, .ret, unE e, h00, GoesR.last ?_ (by intro h; cases h), .inl ⟨rfl, rfl, rfl⟩⟩
          cases pre with
          | nil => exact zgm_ok tab_ok mixed fun_ok cUk_ok (unAx (by1 b) (by1 p.d) (by1 (c :: t)) (pent p).length (mis (pent p).length) e p.t0 p.t1 p.t2 p.t3 p.t4 p.t5 p.f0 p.f1 p.f2 p.f3 p.f4 p.f5) (.cons flat_no (.cons (hrp _) (.cons q2 (.cons q3 (.cons q4 (.cons (q5 _) (.cons q6 .nil)))))))
          | cons q0 r0 => exact zgm_ok tab_ok mixed fun_ok cUk_ok (unBx (by1 b) (by1 p.d) (by1 (c :: t)) (celP (q0 :: r0)) (q0 :: r0).length (pent p).length (mis (pent p).length) e p.t0 p.t1 p.t2 p.t3 p.t4 p.t5 p.f0 p.f1 p.f2 p.f3 p.f4 p.f5) (.cons flat_no (.cons (decide_eq_true (by omega)) (.cons (hrp _) (.cons hap (.cons q2 (.cons q3 (.cons q4 (.cons (q5 _) (.cons q6 .nil)))))))))
        | inr b' =>
          obtain ⟨hz1, hz2⟩ := rz_some hz
          have hb'l : (c :: t).length = mis (pent p).length + b'.length := by rw [hz1, List.length_append, zrs_length]
          unfold rzD at q5
          rw [hz] at q5
          obtain ⟨m, e, sl, hp', g, hc⟩ := un_loop r b' (pre ++ [p]) (by rw [List.length_append, List.length_singleton]; omega) (by omega)
          rw [s1, s2] at g
          have z : Goes Try.prog tab kUn unL (unS (by1 b) (wdP pre)) (whP pre) .normal (unS (by1 b') (.sl 0 0 13 (pre.length + 1) (pre.length + 1))) (UJ (celP pre ++ pkD p)) := by
            cases pre with
            | nil => exact zgm_ok tab_ok mixed fun_ok cUk_ok (unAn (by1 b) (by1 p.d) (by1 (c :: t)) (by1 b') (pent p).length (mis (pent p).length) p.t0 p.t1 p.t2 p.t3 p.t4 p.t5 p.f0 p.f1 p.f2 p.f3 p.f4 p.f5) (.cons f1 (.cons (hrp _) (.cons q2 (.cons q3 (.cons q4 (.cons (q5 _) .nil))))))
            | cons q0 r0 => exact zgm_ok tab_ok mixed fun_ok cUk_ok (unBn (by1 b) (by1 p.d) (by1 (c :: t)) (by1 b') (celP (q0 :: r0)) (q0 :: r0).length (pent p).length (mis (pent p).length) p.t0 p.t1 p.t2 p.t3 p.t4 p.t5 p.f0 p.f1 p.f2 p.f3 p.f4 p.f5) (.cons f2 (.cons (decide_eq_true (by omega)) (.cons (hrp _) (.cons hap (.cons q2 (.cons q3 (.cons q4 (.cons (q5 _) .nil))))))))
          refine ⟨m + 1, e, sl, hp', GoesR.step z g, ?_⟩
          try dsimp only
          cases hu : up r b' with
          | inl er =>
            rw [hu] at hc
            exact hc
          | inr l =>
            rw [hu] at hc
            unfold unC at hc ⊢
            dsimp only at hc ⊢
            rw [List.append_assoc] at hc
            exact hc
def upD (b : List UInt8) : DV := match un b with
  | .inl e => .tuple [.nil, iN e]
  | .inr l => .tuple [pksD l, iN 0]
theorem upD_flat (b : List UInt8) : flatD (upD b) = true := by
  unfold upD
  split <;> rfl
theorem pk_frz {L : List Nat} {hp : Hp} (l : List Pk) (i : Nat) (cs : List DV) (h : (pkR l)[i]? = some cs) : cs.length = 13 ∧ scals cs = true ∧ ∀ (j : Nat) (d : DV), cs[j]? = some d → ∃ e, (celP l)[0 + (i * 13 + j)]? = some e ∧ FrzD L hp e d := by
  unfold pkR at h
  rw [List.getElem?_map, Option.map_eq_some_iff] at h
  obtain ⟨p, hp', rfl⟩ := h
  refine ⟨rfl, rfl, fun j d hd => ?_⟩
  have hj : j < 13 := (List.getElem?_eq_some_iff.1 hd).1
  refine ⟨d, ?_, ?_⟩
  · rw [Nat.zero_add]
    clear L
    induction l generalizing i with
    | nil => simp at hp'
    | cons q r ih =>
      have hq : celP (q :: r) = pkD q ++ celP r := rfl
      cases i with
      | zero =>
        cases hp'
        rw [hq, List.getElem?_append_left (by show _ < 13; omega), Nat.zero_mul, Nat.zero_add]
        exact hd
      | succ i =>
        rw [hq, List.getElem?_append_right (by show 13 ≤ _; omega)]
        have := ih i hp'
        rw [show (i + 1) * 13 + j - (pkD q).length = i * 13 + j by show _ - 13 = _; omega]
        exact this
  · match j, hj with
    | 0, _ | 1, _ | 2, _ | 3, _ | 4, _ | 5, _ | 6, _ | 7, _ | 8, _ | 9, _ | 10, _ | 11, _ => cases hd; exact FrzD.int' _ _
    | 12, _ => cases hd; exact .flat _ rfl
theorem un_ans (x : Bs) : Ans Try.prog fUn [byL x.1] (upD x.1) ⟨0, [], []⟩ := by
  obtain ⟨b, hb⟩ := x
  show Ans _ _ _ (upD b) _
  have hbl := by1_length b
  unfold upD un
  cases h1 : Nat.ble b.length 2304 with
  | false =>
    have h1' : b.length > 2304 := Nat.lt_of_not_le fun h => by rw [bleT h] at h1; cases h1
    exact zflat_ok tab_ok mixed fun_ok cUk_ok (unF11 (by1 b)) (.cons (decide_eq_true (by omega)) .nil)
  | true =>
    have h1' := Nat.le_of_ble_eq_true h1
    have q1 : decide (((by1 b).length : Int) > 2304) = false := decide_eq_false (by omega)
    obtain ⟨m, e, sl, hp, g, hc⟩ := un_loop 32 b [] rfl hb
    try dsimp only
    cases hu : up 32 b with
    | inl er =>
      rw [hu] at hc
      rcases hc with ⟨rfl, rfl, rfl⟩ | ⟨rfl, rfl, rfl, rfl⟩
      · exact zflat_ok tab_ok mixed fun_ok cUk_ok (unFe (by1 b) er) (.cons q1 (.cons g.goes .nil))
      · exact zflat_ok tab_ok mixed fun_ok cUk_ok (unFx (by1 b)) (.cons q1 (.cons g.goes .nil))
    | inr l =>
      rw [hu] at hc
      obtain ⟨rfl, rfl, rfl⟩ := hc
      rw [List.nil_append] at g
      have r := zans_ok tab_ok mixed fun_ok cUk_ok (unF0 (by1 b) (celP l) l.length) (.cons q1 (.cons g.goes .nil))
      exact AnsH.frz r rfl (FrzL.tuple ⟨FrzD.slice (o := oK 1 (celP l)) rfl rfl (by show (1 : Nat) ≠ 2; decide) (pkR_length l) (pk_frz l), FrzD.int' _ _, trivial⟩)
def cUn : ConF := liftC (eqC fUn (fun x : Bs => [byL x.1]) fun x => (upD x.1, ⟨0, [], []⟩))
theorem cUn_ok : ConOk Try.prog cUn := liftC_ok (eqC_ok un_ans fun _ => rfl)
theorem cUn_at (hp : Hp) (b : List UInt8) (h : b.length < 2 ^ 30) : cUn fUn [byL b] hp = some (upD b, hp, none) :=
  lift_at (A := fun x : Bs => [byL x.1]) (D := fun x => upD x.1) (fun x y hxy => by
    simp only [List.cons.injEq, and_true] at hxy
    rw [byL_inj' hxy]) hp ⟨b, h⟩ rfl (upD_flat b)
end
end Go.Proofs.Ytmpmhkjfpeagkaa
