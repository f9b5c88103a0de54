/- Elements are decoded, at each depth: the contracts. -/
import Derived.Test.YtejlbkhddehaiaaFd
namespace Go.Proofs.Ytejlbkhddehaiaa
open Go.RowKit

noncomputable section
/-! ### depth 4 -/
theorem fl_ans4 (r1 r2 r3 : List DV) (r : List DV) (hr1 : FlR r1) (hr2 : FlR r2) (hr3 : FlR r3) (hr : FlR r) (n : Nat) (_hn : n ≤ 64) (i : UInt8) (c : List UInt8) (hc : c.length ≤ 2 ^ 29) :
    AnsK 12 Try.prog fFl [.ptr 0 0, i8 i, byL c, iN 4] (EH4 r1 r2 r3 r n) (.tuple [.agg (elD (filF (decL 0) true n i c).1), iN (filF (decL 0) true n i c).2.1]) (EH4 r1 r2 r3 r (filF (decL 0) true n i c).2.2) := by
  have hl := by1_length c
  have hx := cFx_xs (FH4 r1 r2 r3 r n) i
  have hco := cFx_co (FH4 r1 r2 r3 r n) i
  have sl1 : ∀ H e t, c = e :: t → aSl1 H (by1 c) (by1 t) := fun H e t h => by
    rw [h]
    exact slice_from (n := 1) (by rw [by1_length, List.length_cons]; omega)
  unfold filF
  cases h1 : decide (c.length > 1024 + exts i) with
  | true =>
    have q1 : decide (((by1 c).length : Int) > ((1024 + exts i : Nat) : Int)) = true := decide_eq_true (by have := of_decide_eq_true h1; omega)
    exact (zkpK_ok tab_ok mixed fun_ok cFx_ok (fl4e11 cFx r1 r2 r3 r (by1 c) n i (exts i) (1024 + exts i)) (.cons (flatIn_cons rfl hr1 (flatIn_cons rfl hr2 (flatIn_cons rfl hr3 (flatIn_cons rfl hr (flatIn_nil _))))) (.cons hx (.cons (wx i) (.cons q1 .nil))))).seeD fun E w v => see_t2 (fun _ h => see_zE h) v
  | false =>
    have q1 : decide (((by1 c).length : Int) > ((1024 + exts i : Nat) : Int)) = false := decide_eq_false (by have := of_decide_eq_false h1; omega)
    dsimp only
    cases h2 : (nx i == 255) with
    | true =>
      cases c with
      | nil => exact (zkpK_ok tab_ok mixed fun_ok cFx_ok (fl4e12 cFx r1 r2 r3 r (by1 []) n i (exts i) (1024 + exts i)) (.cons (flatIn_cons rfl hr1 (flatIn_cons rfl hr2 (flatIn_cons rfl hr3 (flatIn_cons rfl hr (flatIn_nil _))))) (.cons hx (.cons (wx i) (.cons q1 (.cons h2 (.cons rfl .nil))))))).seeD fun E w v => see_t2 (fun _ h => see_zE h) v
      | cons e t => exact (zkpK_ok tab_ok mixed fun_ok cFx_ok (fl4x cFx r1 r2 r3 r (by1 (e :: t)) n i (exts i) (1024 + exts i) e (by1 t)) (.cons (flatIn_cons rfl hr1 (flatIn_cons rfl hr2 (flatIn_cons rfl hr3 (flatIn_cons rfl hr (flatIn_nil _))))) (.cons hx (.cons (wx i) (.cons q1 (.cons h2 (.cons (beq_false_of_ne (by rw [by1_length, List.length_cons]; omega)) (.cons h2 (.cons (idxOk_lt (k := 0) (by rw [by1_length, List.length_cons]; omega)) (.cons rfl (.cons (sl1 _ e t rfl) .nil))))))))))).seeD fun E w v => see_t2 (fun _ h => see_sub h) v
    | false =>
      dsimp only
      cases h3 : cont i with
      | false =>
        rw [h3] at hco
        exact (zkpK_ok tab_ok mixed fun_ok cFx_ok (fl4d cFx r1 r2 r3 r (by1 c) n i (exts i) (1024 + exts i)) (.cons (flatIn_cons rfl hr1 (flatIn_cons rfl hr2 (flatIn_cons rfl hr3 (flatIn_cons rfl hr (flatIn_nil _))))) (.cons hx (.cons (wx i) (.cons q1 (.cons h2 (.cons h2 (.cons hco .nil)))))))).seeD fun E w v => see_t2 (fun _ h => see_sub h) v
      | true =>
        rw [h3] at hco
        cases c with
        | nil => exact (zkpK_ok tab_ok mixed fun_ok cFx_ok (fl4c r1 r2 r3 r n i (exts i) (1024 + exts i)) (.cons (flatIn_cons rfl hr1 (flatIn_cons rfl hr2 (flatIn_cons rfl hr3 (flatIn_cons rfl hr (flatIn_nil _))))) (.cons hx (.cons (wx i) (.cons q1 (.cons h2 (.cons h2 (.cons hco .nil)))))))).seeD fun E w v => see_t2 (fun _ h => see_sub (see_dat h)) v
        | cons e t => exact (zkpK_ok tab_ok mixed fun_ok cFx_ok (fl4e4 cFx r1 r2 r3 r (by1 (e :: t)) n i (exts i) (1024 + exts i)) (.cons (flatIn_cons rfl hr1 (flatIn_cons rfl hr2 (flatIn_cons rfl hr3 (flatIn_cons rfl hr (flatIn_nil _))))) (.cons hx (.cons (wx i) (.cons q1 (.cons h2 (.cons h2 (.cons hco (.cons (decide_eq_true (by rw [by1_length, List.length_cons]; omega)) .nil))))))))).seeD fun E w v => see_t2 (fun _ h => see_zE h) v
theorem el_ans4 (r1 r2 r3 : List DV) (r : List DV) (hr1 : FlR r1) (hr2 : FlR r2) (hr3 : FlR r3) (hr : FlR r) (n : Nat) (hn : n ≤ 64) (c : UInt8) (t : List UInt8) (hc : (c :: t).length ≤ 2 ^ 29) :
    AnsK 11 Try.prog fEl [.ptr 0 0, byL (c :: t), iN 4] (LH4 r1 r2 r3 r n) (.tuple [.agg (elD (elF (decL 0) true n (c :: t)).1), byL (elF (decL 0) true n (c :: t)).2.1, iN (elF (decL 0) true n (c :: t)).2.2.1]) (LH4 r1 r2 r3 r (elF (decL 0) true n (c :: t)).2.2.2) := by
  simp only [List.length_cons] at hc
  have ix1 : idxOk 0 (by1 (c :: t)).length = true := idxOk_lt (k := 0) (by rw [by1_length, List.length_cons]; omega)
  have sl1 : ∀ H, aSl1 H (by1 (c :: t)) (by1 t) := fun H => slice_from (n := 1) (by rw [by1_length, List.length_cons]; omega)
  have hwn : DV.int .i64 (IntKind.i64.wrap ((n : Int) + 1)) = iN (n + 1) := congrArg (DV.int .i64) (wrapI (n := n + 1) (by omega))
  unfold elF
  dsimp only
  cases h1 : decide (n = 64) with
  | true =>
    have q1 : ((n : Int) == 64) = true := by rw [of_decide_eq_true h1]; rfl
    exact (zkpK_ok tab_ok mixed fun_ok noC_ok (el4e4 noC r1 r2 r3 r (by1 (c :: t)) n) (.cons (flatIn_cons rfl hr1 (flatIn_cons rfl hr2 (flatIn_cons rfl hr3 (flatIn_cons rfl hr (flatIn_nil _))))) (.cons q1 .nil))).seeD fun E w v => see_t3 v
  | false =>
    have h64 := of_decide_eq_false h1
    have q1 : ((n : Int) == 64) = false := beq_false_of_ne (by omega)
    dsimp only
    cases h2 : decide (c = 254) with
    | true =>
      have q2 : (nx c == 254) = true := by rw [of_decide_eq_true h2]; rfl
      exact (zkpK_ok tab_ok mixed fun_ok noC_ok (el4e12 noC r1 r2 r3 r (by1 (c :: t)) n c) (.cons (flatIn_cons rfl hr1 (flatIn_cons rfl hr2 (flatIn_cons rfl hr3 (flatIn_cons rfl hr (flatIn_nil _))))) (.cons q1 (.cons hwn (.cons ix1 (.cons rfl (.cons q2 .nil))))))).seeD fun E w v => see_t3 v
    | false =>
      have q2 : (nx c == 254) = false := by
        have := nx_dec c 254
        rw [h2] at this
        exact this
      have hj := cJn_at (EH4 r1 r2 r3 r (n + 1)) t (by omega)
      dsimp only
      cases h3 : jnB [] t with
      | inl e =>
        have he := jn_bad _ (Nat.le_refl _) h3
        rw [h3] at hj
        exact (zkpK_ok tab_ok mixed fun_ok cJn_ok (el4ej cJn r1 r2 r3 r (by1 (c :: t)) n c (by1 t) e) (.cons (flatIn_cons rfl hr1 (flatIn_cons rfl hr2 (flatIn_cons rfl hr3 (flatIn_cons rfl hr (flatIn_nil _))))) (.cons q1 (.cons hwn (.cons ix1 (.cons rfl (.cons q2 (.cons (sl1 _) (.cons hj (.cons (bne_iff_ne.2 (by omega)) .nil)))))))))).seeD fun E w v => see_t3 v
      | inr x =>
        obtain ⟨a, rest⟩ := x
        have hal := jn_len _ (Nat.le_refl _) h3
        rw [h3] at hj
        simp only [List.length_nil] at hal
        have hA := fl_ans4 r1 r2 r3 r hr1 hr2 hr3 hr (n + 1) (by omega) c a (by omega)
        dsimp only
        generalize filF (decL 0) true (n + 1) c a = res at hA ⊢
        obtain ⟨⟨i, e, d, s⟩, er, n2⟩ := res
        dsimp only at hA ⊢
        have hC : ConOk Try.prog (orK cJn (oneC fFl [.ptr 0 0, i8 c, byL a, iN 4] (EH4 r1 r2 r3 r (n + 1)) (.tuple [.agg (elD (.mk i e d s)), iN er]) (EH4 r1 r2 r3 r n2))) := orK_ok cJn_ok (oneC_ok hA (Nat.le_refl _) rfl rfl)
        have hcall := orK_right (C1 := cJn) (C2 := oneC fFl [.ptr 0 0, i8 c, byL a, iN 4] (EH4 r1 r2 r3 r (n + 1)) (.tuple [.agg (elD (.mk i e d s)), iN er]) (EH4 r1 r2 r3 r n2)) (lift_oth (eqC_other (by kernel_rfl))) (oneC_at fFl [.ptr 0 0, i8 c, byL a, iN 4] (EH4 r1 r2 r3 r (n + 1)) (.tuple [.agg (elD (.mk i e d s)), iN er]) (EH4 r1 r2 r3 r n2))
        exact zkpK_ok tab_ok mixed fun_ok hC (el4o (orK cJn (oneC fFl [.ptr 0 0, i8 c, byL a, iN 4] (EH4 r1 r2 r3 r (n + 1)) (.tuple [.agg (elD (.mk i e d s)), iN er]) (EH4 r1 r2 r3 r n2))) r1 r2 r3 r (by1 (c :: t)) n c (by1 t) (by1 a) (by1 rest) (by1 d) (elR s) i e n2 er) (.cons (by exact (flatIn_cons rfl hr1 (flatIn_cons rfl hr2 (flatIn_cons rfl hr3 (flatIn_cons rfl hr (flatIn_nil _)))))) (.cons q1 (.cons hwn (.cons ix1 (.cons rfl (.cons q2 (.cons (sl1 _) (.cons (orK_left hj) (.cons hcall .nil)))))))))
def rdX4 (r1 r2 r3 : List DV) (res : List El × Nat × Nat) (dv : DV) : Ex × Slots × Hp := match res.2.1 with
  | 0 => (.exit 0, mkT 32 [(8, dv)], LH4 r1 r2 r3 (celE res.1) res.2.2)
  | e + 1 => (.ret, mkT 32 [(6, .nil), (7, iN (e + 1))], RH4 r1 r2 r3 res.2.2)
theorem rd_loop4 (r1 r2 r3 : List DV) (hr1 : FlR r1) (hr2 : FlR r2) (hr3 : FlR r3) : ∀ (m : Nat) (b : List UInt8), b.length ≤ m → ∀ (n : Nat) (acc : List El) (dv : DV), n ≤ 64 → RowE 10 dv acc → acc.length + b.length ≤ 2 ^ 29 →
    ∃ k dv', GoesRK 10 Try.prog tab kRd rdL (k + 1) (rdS (by1 b) 4 dv) (LH4 r1 r2 r3 (celE acc) n) (rdX4 r1 r2 r3 (rdF (elF (decL 0) true) (m + 1) n b acc) dv').1 (rdX4 r1 r2 r3 (rdF (elF (decL 0) true) (m + 1) n b acc) dv').2.1 (rdX4 r1 r2 r3 (rdF (elF (decL 0) true) (m + 1) n b acc) dv').2.2 ∧ ((rdF (elF (decL 0) true) (m + 1) n b acc).2.1 = 0 → RowE 10 dv' (rdF (elF (decL 0) true) (m + 1) n b acc).1)
  | m, [], hm, n, acc, dv, hn, hd, hl => ⟨0, dv, GoesRK.last (zseeK_ok tab_ok mixed fun_ok noC_ok (rd4o noC r1 r2 r3 (celE acc) (by1 []) n dv) (.cons rfl .nil)) (by intro h; cases h), fun _ => hd⟩
  | 0, c :: b, hm, _, _, _, _, _, _ => by simp at hm
  | m + 1, c :: b, hm, n, acc, dv, hn, hd, hl => by
    have lt : decide (((by1 (c :: b)).length : Int) > 0) = true := decide_eq_true (by rw [by1_length, List.length_cons]; omega)
    have hA := el_ans4 r1 r2 r3 (celE acc) hr1 hr2 hr3 (celE_flat acc) n hn c b (by omega)
    have hle : ((elF (decL 0) true) n (c :: b)).2.2.2 ≤ 64 := el_le (fun n c hn => decL_le 0 n c hn) hn
    have hrl := el_rest (rd := (decL 0)) (last := true) (n := n) (c := c) (t := b)
    rw [show rdF (elF (decL 0) true) (m + 1 + 1) n (c :: b) acc = (match ((elF (decL 0) true) n (c :: b)).2.2.1 with
      | 0 => rdF (elF (decL 0) true) (m + 1) ((elF (decL 0) true) n (c :: b)).2.2.2 ((elF (decL 0) true) n (c :: b)).2.1 (acc ++ [((elF (decL 0) true) n (c :: b)).1])
      | e + 1 => ([], e + 1, ((elF (decL 0) true) n (c :: b)).2.2.2)) from rfl]
    generalize (elF (decL 0) true) n (c :: b) = res at hA hle hrl ⊢
    obtain ⟨⟨i, e, y, s⟩, rest, er, n2⟩ := res
    dsimp only at hA hle hrl ⊢
    simp only [List.length_cons] at hrl hm hl
    have hC : ConOk Try.prog (oneC fEl [.ptr 0 0, byL (c :: b), iN 4] (LH4 r1 r2 r3 (celE acc) n) (.tuple [.agg (elD (.mk i e y s)), byL rest, iN er]) (LH4 r1 r2 r3 (celE acc) n2)) := oneC_ok hA (Nat.le_refl _) rfl rfl
    have hcall := oneC_at fEl [.ptr 0 0, byL (c :: b), iN 4] (LH4 r1 r2 r3 (celE acc) n) (.tuple [.agg (elD (.mk i e y s)), byL rest, iN er]) (LH4 r1 r2 r3 (celE acc) n2)
    cases er with
    | succ er => exact ⟨0, dv, GoesRK.last (zgmK_ok tab_ok mixed fun_ok hC (rd4e (oneC fEl [.ptr 0 0, byL (c :: b), iN 4] (LH4 r1 r2 r3 (celE acc) n) (.tuple [.agg (elD (.mk i e y s)), byL rest, iN (er + 1)]) (LH4 r1 r2 r3 (celE acc) n2)) r1 r2 r3 (celE acc) (by1 (c :: b)) n dv n2 (er + 1) i e (by1 y) (elR s) (by1 rest)) (.cons (flatIn_cons rfl hr1 (flatIn_cons rfl hr2 (flatIn_cons rfl hr3 (flatIn_nil _)))) (.cons lt (.cons hcall (.cons (bne_iff_ne.2 (by omega)) .nil))))) (by intro h; cases h), fun h => (by cases h)⟩
    | zero =>
      have hfl : FlR (celE acc ++ elD (.mk i e y s)) := fun a ha => by
        rcases List.mem_append.1 ha with ha | ha
        · exact celE_flat acc a ha
        · exact elD_flat (.mk i e y s) a ha
      obtain ⟨k, dv', g, hq⟩ := rd_loop4 r1 r2 r3 hr1 hr2 hr3 m rest (by omega) n2 (acc ++ [.mk i e y s]) (sl4 10 (acc.length + 1)) hle (.inl (by rw [List.length_append]; rfl)) (by rw [List.length_append]; simp; omega)
      rw [celE_snoc] at g
      refine ⟨k + 1, dv', ?_, hq⟩
      rcases hd with rfl | ⟨rfl, rfl⟩
      · exact GoesRK.step (zgmK_ok tab_ok mixed fun_ok hC (rd4s (oneC fEl [.ptr 0 0, byL (c :: b), iN 4] (LH4 r1 r2 r3 (celE acc) n) (.tuple [.agg (elD (.mk i e y s)), byL rest, iN 0]) (LH4 r1 r2 r3 (celE acc) n2)) r1 r2 r3 (celE acc) (by1 (c :: b)) n acc.length n2 i e (by1 y) (elR s) (by1 rest)) (.cons (flatIn_cons rfl hr1 (flatIn_cons rfl hr2 (flatIn_cons rfl hr3 (flatIn_cons rfl hfl (flatIn_nil _))))) (.cons lt (.cons hcall (.cons (app_elG (id := 10) (id2 := 12) (o := oEl 1 (celE acc)) (o2 := oEl 0 (elC i e (by1 y) (elR s))) rfl rfl rfl rfl (celE_length acc) rfl rfl rfl (by omega)) .nil))))) g
      · exact GoesRK.step (zgmK_ok tab_ok mixed fun_ok hC (rd4n (oneC fEl [.ptr 0 0, byL (c :: b), iN 4] (LH4 r1 r2 r3 (celE []) n) (.tuple [.agg (elD (.mk i e y s)), byL rest, iN 0]) (LH4 r1 r2 r3 (celE []) n2)) r1 r2 r3 (celE []) (by1 (c :: b)) n n2 i e (by1 y) (elR s) (by1 rest)) (.cons (flatIn_cons rfl hr1 (flatIn_cons rfl hr2 (flatIn_cons rfl hr3 (flatIn_cons rfl (elD_flat (.mk i e y s)) (flatIn_nil _))))) (.cons lt (.cons hcall (.cons (by show builtinD tab _ .append _ tyEE = _; kernel_rfl) .nil))))) g
theorem rd_ans4 (r1 r2 r3 : List DV) (hr1 : FlR r1) (hr2 : FlR r2) (hr3 : FlR r3) (n : Nat) (hn : n ≤ 64) (b : List UInt8) (hb : b.length ≤ 2 ^ 29) : AnsK 10 Try.prog fRd [byL b, iN 4, fnE] (RH4 r1 r2 r3 n) (.tuple [elsD (decL 1 n b).1, iN (decL 1 n b).2.1]) (RH4 r1 r2 r3 (decL 1 n b).2.2) := by
  obtain ⟨k, dv, g, hq⟩ := rd_loop4 r1 r2 r3 hr1 hr2 hr3 b.length b (Nat.le_refl _) n [] .nil hn (.inr ⟨rfl, rfl⟩) (by simpa using hb)
  show AnsK _ _ _ _ _ (.tuple [elsD (rdF (elF (decL 0) true) (b.length + 1) n b []).1, iN (rdF (elF (decL 0) true) (b.length + 1) n b []).2.1]) (RH4 r1 r2 r3 (rdF (elF (decL 0) true) (b.length + 1) n b []).2.2)
  have herr := rdF_err (elF (decL 0) true) (b.length + 1) n b []
  generalize rdF (elF (decL 0) true) (b.length + 1) n b [] = res at g hq herr ⊢
  obtain ⟨l, er, n2⟩ := res
  have pad : SeenK 10 (rdS (by1 b) 4 .nil) (RH4 r1 r2 r3 n) (rdS (by1 b) 4 .nil) (LH4 r1 r2 r3 (celE []) n) := seenK_pad (K := 10) (n := 10) (l := [oE0, oE0, oEl 1 r3, oE0, oE0, oEl 1 r2, oE0, oE0, oEl 1 r1, oCt n]) (ls := []) (oEl 1 []) rfl
  have g := g.goes.pre pad
  cases er with
  | zero =>
    have hR := hq rfl
    have z := zansK_ok tab_ok mixed fun_ok noC_ok (rd4G noC r1 r2 r3 (celE l) (by1 b) n dv n2) (.cons g .nil)
    dsimp only at hR ⊢
    rcases hR with rfl | ⟨rfl, rfl⟩
    · exact z.melt (L := [0, 1, 2, 3, 4, 5, 6, 7, 8, 9]) (fl := [1, 4, 7]) rfl rfl (flatIn_cons rfl hr1 (flatIn_cons rfl hr2 (flatIn_cons rfl hr3 (flatIn_nil _)))) (.frz _ _ (FrzL.tuple ⟨frz_el (k := 1) (by kernel_rfl) (by kernel_rfl) (by decide) rfl, FrzD.int' _ _, trivial⟩))
    · exact (z.melt (L := [0, 1, 2, 3, 4, 5, 6, 7, 8, 9]) (fl := [1, 4, 7]) rfl rfl (flatIn_cons rfl hr1 (flatIn_cons rfl hr2 (flatIn_cons rfl hr3 (flatIn_nil _)))) (d' := .tuple [.nil, iN 0]) (.frz _ _ (FrzL.tuple ⟨.flat _ rfl, FrzD.int' _ _, trivial⟩))).seeD fun E w v => see_t2 (fun _ h => vr_nl h) v
  | succ er =>
    obtain rfl : l = [] := herr.resolve_left (by simp)
    have z := zansK_ok tab_ok mixed fun_ok noC_ok (rd4B noC r1 r2 r3 (by1 b) n n2 (er + 1)) (.cons g .nil)
    exact z.seeD fun E w v => see_t2 (fun _ h => vr_nl h) v
/-! ### depth 3 -/
theorem fl_ans3 (r1 r2 : List DV) (r : List DV) (hr1 : FlR r1) (hr2 : FlR r2) (hr : FlR r) (n : Nat) (hn : n ≤ 64) (i : UInt8) (c : List UInt8) (hc : c.length ≤ 2 ^ 29) :
    AnsK 9 Try.prog fFl [.ptr 0 0, i8 i, byL c, iN 3] (EH3 r1 r2 r n) (.tuple [.agg (elD (filF (decL 1) false n i c).1), iN (filF (decL 1) false n i c).2.1]) (EH3 r1 r2 r (filF (decL 1) false n i c).2.2) := by
  have hl := by1_length c
  have hx := cFx_xs (FH3 r1 r2 r n) i
  have hco := cFx_co (FH3 r1 r2 r n) i
  have sl1 : ∀ H e t, c = e :: t → aSl1 H (by1 c) (by1 t) := fun H e t h => by
    rw [h]
    exact slice_from (n := 1) (by rw [by1_length, List.length_cons]; omega)
  unfold filF
  cases h1 : decide (c.length > 1024 + exts i) with
  | true =>
    have q1 : decide (((by1 c).length : Int) > ((1024 + exts i : Nat) : Int)) = true := decide_eq_true (by have := of_decide_eq_true h1; omega)
    exact (zkpK_ok tab_ok mixed fun_ok cFx_ok (fl3e11 cFx r1 r2 r (by1 c) n i (exts i) (1024 + exts i)) (.cons (flatIn_cons rfl hr1 (flatIn_cons rfl hr2 (flatIn_cons rfl hr (flatIn_nil _)))) (.cons hx (.cons (wx i) (.cons q1 .nil))))).seeD fun E w v => see_t2 (fun _ h => see_zE h) v
  | false =>
    have q1 : decide (((by1 c).length : Int) > ((1024 + exts i : Nat) : Int)) = false := decide_eq_false (by have := of_decide_eq_false h1; omega)
    dsimp only
    cases h2 : (nx i == 255) with
    | true =>
      cases c with
      | nil => exact (zkpK_ok tab_ok mixed fun_ok cFx_ok (fl3e12 cFx r1 r2 r (by1 []) n i (exts i) (1024 + exts i)) (.cons (flatIn_cons rfl hr1 (flatIn_cons rfl hr2 (flatIn_cons rfl hr (flatIn_nil _)))) (.cons hx (.cons (wx i) (.cons q1 (.cons h2 (.cons rfl .nil))))))).seeD fun E w v => see_t2 (fun _ h => see_zE h) v
      | cons e t => exact (zkpK_ok tab_ok mixed fun_ok cFx_ok (fl3x cFx r1 r2 r (by1 (e :: t)) n i (exts i) (1024 + exts i) e (by1 t)) (.cons (flatIn_cons rfl hr1 (flatIn_cons rfl hr2 (flatIn_cons rfl hr (flatIn_nil _)))) (.cons hx (.cons (wx i) (.cons q1 (.cons h2 (.cons (beq_false_of_ne (by rw [by1_length, List.length_cons]; omega)) (.cons h2 (.cons (idxOk_lt (k := 0) (by rw [by1_length, List.length_cons]; omega)) (.cons rfl (.cons (sl1 _ e t rfl) .nil))))))))))).seeD fun E w v => see_t2 (fun _ h => see_sub h) v
    | false =>
      dsimp only
      cases h3 : cont i with
      | false =>
        rw [h3] at hco
        exact (zkpK_ok tab_ok mixed fun_ok cFx_ok (fl3d cFx r1 r2 r (by1 c) n i (exts i) (1024 + exts i)) (.cons (flatIn_cons rfl hr1 (flatIn_cons rfl hr2 (flatIn_cons rfl hr (flatIn_nil _)))) (.cons hx (.cons (wx i) (.cons q1 (.cons h2 (.cons h2 (.cons hco .nil)))))))).seeD fun E w v => see_t2 (fun _ h => see_sub h) v
      | true =>
        rw [h3] at hco
        have hA := rd_ans4 r1 r2 r hr1 hr2 hr n hn c hc
        have hle := decL_le 1 n c hn
        generalize decL 1 n c = res at hA hle ⊢
        obtain ⟨l, e, n2⟩ := res
        dsimp only at hA hle ⊢
        have hC : ConOk Try.prog (orK cFx (oneC fRd [byL c, iN 4, fnE] (RH4 r1 r2 r n) (.tuple [elsD l, iN e]) (RH4 r1 r2 r n2))) := orK_ok cFx_ok (oneC_ok hA (Nat.le_refl _) rfl rfl)
        have hcall := orK_right (C2 := oneC fRd [byL c, iN 4, fnE] (RH4 r1 r2 r n) (.tuple [elsD l, iN e]) (RH4 r1 r2 r n2)) cFx_rd (oneC_at fRd [byL c, iN 4, fnE] (RH4 r1 r2 r n) (.tuple [elsD l, iN e]) (RH4 r1 r2 r n2))
        cases e with
        | zero => exact (zkpK_ok tab_ok mixed fun_ok hC (fl3c (orK cFx (oneC fRd [byL c, iN 4, fnE] (RH4 r1 r2 r n) (.tuple [elsD l, iN 0]) (RH4 r1 r2 r n2))) r1 r2 r (by1 c) n i (exts i) (1024 + exts i) (elR l) n2) (.cons (flatIn_cons rfl hr1 (flatIn_cons rfl hr2 (flatIn_cons rfl hr (flatIn_nil _)))) (.cons (orK_left hx) (.cons (wx i) (.cons q1 (.cons h2 (.cons h2 (.cons (orK_left hco) (.cons hcall .nil))))))))).seeD fun E w v => see_t2 (fun _ h => see_dat h) v
        | succ e => exact (zkpK_ok tab_ok mixed fun_ok hC (fl3e (orK cFx (oneC fRd [byL c, iN 4, fnE] (RH4 r1 r2 r n) (.tuple [elsD l, iN (e + 1)]) (RH4 r1 r2 r n2))) r1 r2 r (by1 c) n i (exts i) (1024 + exts i) (elR l) n2 (e + 1)) (.cons (flatIn_cons rfl hr1 (flatIn_cons rfl hr2 (flatIn_cons rfl hr (flatIn_nil _)))) (.cons (orK_left hx) (.cons (wx i) (.cons q1 (.cons h2 (.cons h2 (.cons (orK_left hco) (.cons hcall (.cons (bne_iff_ne.2 (by omega)) .nil)))))))))).seeD fun E w v => see_t2 (fun _ h => see_zE h) v
theorem el_ans3 (r1 r2 : List DV) (r : List DV) (hr1 : FlR r1) (hr2 : FlR r2) (hr : FlR r) (n : Nat) (hn : n ≤ 64) (c : UInt8) (t : List UInt8) (hc : (c :: t).length ≤ 2 ^ 29) :
    AnsK 8 Try.prog fEl [.ptr 0 0, byL (c :: t), iN 3] (LH3 r1 r2 r n) (.tuple [.agg (elD (elF (decL 1) false n (c :: t)).1), byL (elF (decL 1) false n (c :: t)).2.1, iN (elF (decL 1) false n (c :: t)).2.2.1]) (LH3 r1 r2 r (elF (decL 1) false n (c :: t)).2.2.2) := by
  simp only [List.length_cons] at hc
  have ix1 : idxOk 0 (by1 (c :: t)).length = true := idxOk_lt (k := 0) (by rw [by1_length, List.length_cons]; omega)
  have sl1 : ∀ H, aSl1 H (by1 (c :: t)) (by1 t) := fun H => slice_from (n := 1) (by rw [by1_length, List.length_cons]; omega)
  have hwn : DV.int .i64 (IntKind.i64.wrap ((n : Int) + 1)) = iN (n + 1) := congrArg (DV.int .i64) (wrapI (n := n + 1) (by omega))
  unfold elF
  dsimp only
  cases h1 : decide (n = 64) with
  | true =>
    have q1 : ((n : Int) == 64) = true := by rw [of_decide_eq_true h1]; rfl
    exact (zkpK_ok tab_ok mixed fun_ok noC_ok (el3e4 noC r1 r2 r (by1 (c :: t)) n) (.cons (flatIn_cons rfl hr1 (flatIn_cons rfl hr2 (flatIn_cons rfl hr (flatIn_nil _)))) (.cons q1 .nil))).seeD fun E w v => see_t3 v
  | false =>
    have h64 := of_decide_eq_false h1
    have q1 : ((n : Int) == 64) = false := beq_false_of_ne (by omega)
    dsimp only
    cases h2 : decide (c = 254) with
    | true =>
      have q2 : (nx c == 254) = true := by rw [of_decide_eq_true h2]; rfl
      exact (zkpK_ok tab_ok mixed fun_ok noC_ok (el3e12 noC r1 r2 r (by1 (c :: t)) n c) (.cons (flatIn_cons rfl hr1 (flatIn_cons rfl hr2 (flatIn_cons rfl hr (flatIn_nil _)))) (.cons q1 (.cons hwn (.cons ix1 (.cons rfl (.cons q2 .nil))))))).seeD fun E w v => see_t3 v
    | false =>
      have q2 : (nx c == 254) = false := by
        have := nx_dec c 254
        rw [h2] at this
        exact this
      have hj := cJn_at (EH3 r1 r2 r (n + 1)) t (by omega)
      dsimp only
      cases h3 : jnB [] t with
      | inl e =>
        have he := jn_bad _ (Nat.le_refl _) h3
        rw [h3] at hj
        exact (zkpK_ok tab_ok mixed fun_ok cJn_ok (el3ej cJn r1 r2 r (by1 (c :: t)) n c (by1 t) e) (.cons (flatIn_cons rfl hr1 (flatIn_cons rfl hr2 (flatIn_cons rfl hr (flatIn_nil _)))) (.cons q1 (.cons hwn (.cons ix1 (.cons rfl (.cons q2 (.cons (sl1 _) (.cons hj (.cons (bne_iff_ne.2 (by omega)) .nil)))))))))).seeD fun E w v => see_t3 v
      | inr x =>
        obtain ⟨a, rest⟩ := x
        have hal := jn_len _ (Nat.le_refl _) h3
        rw [h3] at hj
        simp only [List.length_nil] at hal
        have hA := fl_ans3 r1 r2 r hr1 hr2 hr (n + 1) (by omega) c a (by omega)
        dsimp only
        generalize filF (decL 1) false (n + 1) c a = res at hA ⊢
        obtain ⟨⟨i, e, d, s⟩, er, n2⟩ := res
        dsimp only at hA ⊢
        have hC : ConOk Try.prog (orK cJn (oneC fFl [.ptr 0 0, i8 c, byL a, iN 3] (EH3 r1 r2 r (n + 1)) (.tuple [.agg (elD (.mk i e d s)), iN er]) (EH3 r1 r2 r n2))) := orK_ok cJn_ok (oneC_ok hA (Nat.le_refl _) rfl rfl)
        have hcall := orK_right (C1 := cJn) (C2 := oneC fFl [.ptr 0 0, i8 c, byL a, iN 3] (EH3 r1 r2 r (n + 1)) (.tuple [.agg (elD (.mk i e d s)), iN er]) (EH3 r1 r2 r n2)) (lift_oth (eqC_other (by kernel_rfl))) (oneC_at fFl [.ptr 0 0, i8 c, byL a, iN 3] (EH3 r1 r2 r (n + 1)) (.tuple [.agg (elD (.mk i e d s)), iN er]) (EH3 r1 r2 r n2))
        exact zkpK_ok tab_ok mixed fun_ok hC (el3o (orK cJn (oneC fFl [.ptr 0 0, i8 c, byL a, iN 3] (EH3 r1 r2 r (n + 1)) (.tuple [.agg (elD (.mk i e d s)), iN er]) (EH3 r1 r2 r n2))) r1 r2 r (by1 (c :: t)) n c (by1 t) (by1 a) (by1 rest) (by1 d) (elR s) i e n2 er) (.cons (by exact (flatIn_cons rfl hr1 (flatIn_cons rfl hr2 (flatIn_cons rfl hr (flatIn_nil _))))) (.cons q1 (.cons hwn (.cons ix1 (.cons rfl (.cons q2 (.cons (sl1 _) (.cons (orK_left hj) (.cons hcall .nil)))))))))
def rdX3 (r1 r2 : List DV) (res : List El × Nat × Nat) (dv : DV) : Ex × Slots × Hp := match res.2.1 with
  | 0 => (.exit 0, mkT 32 [(8, dv)], LH3 r1 r2 (celE res.1) res.2.2)
  | e + 1 => (.ret, mkT 32 [(6, .nil), (7, iN (e + 1))], RH3 r1 r2 res.2.2)
theorem rd_loop3 (r1 r2 : List DV) (hr1 : FlR r1) (hr2 : FlR r2) : ∀ (m : Nat) (b : List UInt8), b.length ≤ m → ∀ (n : Nat) (acc : List El) (dv : DV), n ≤ 64 → RowE 7 dv acc → acc.length + b.length ≤ 2 ^ 29 →
    ∃ k dv', GoesRK 7 Try.prog tab kRd rdL (k + 1) (rdS (by1 b) 3 dv) (LH3 r1 r2 (celE acc) n) (rdX3 r1 r2 (rdF (elF (decL 1) false) (m + 1) n b acc) dv').1 (rdX3 r1 r2 (rdF (elF (decL 1) false) (m + 1) n b acc) dv').2.1 (rdX3 r1 r2 (rdF (elF (decL 1) false) (m + 1) n b acc) dv').2.2 ∧ ((rdF (elF (decL 1) false) (m + 1) n b acc).2.1 = 0 → RowE 7 dv' (rdF (elF (decL 1) false) (m + 1) n b acc).1)
  | m, [], hm, n, acc, dv, hn, hd, hl => ⟨0, dv, GoesRK.last (zseeK_ok tab_ok mixed fun_ok noC_ok (rd3o noC r1 r2 (celE acc) (by1 []) n dv) (.cons rfl .nil)) (by intro h; cases h), fun _ => hd⟩
  | 0, c :: b, hm, _, _, _, _, _, _ => by simp at hm
  | m + 1, c :: b, hm, n, acc, dv, hn, hd, hl => by
    have lt : decide (((by1 (c :: b)).length : Int) > 0) = true := decide_eq_true (by rw [by1_length, List.length_cons]; omega)
    have hA := el_ans3 r1 r2 (celE acc) hr1 hr2 (celE_flat acc) n hn c b (by omega)
    have hle : ((elF (decL 1) false) n (c :: b)).2.2.2 ≤ 64 := el_le (fun n c hn => decL_le 1 n c hn) hn
    have hrl := el_rest (rd := (decL 1)) (last := false) (n := n) (c := c) (t := b)
    rw [show rdF (elF (decL 1) false) (m + 1 + 1) n (c :: b) acc = (match ((elF (decL 1) false) n (c :: b)).2.2.1 with
      | 0 => rdF (elF (decL 1) false) (m + 1) ((elF (decL 1) false) n (c :: b)).2.2.2 ((elF (decL 1) false) n (c :: b)).2.1 (acc ++ [((elF (decL 1) false) n (c :: b)).1])
      | e + 1 => ([], e + 1, ((elF (decL 1) false) n (c :: b)).2.2.2)) from rfl]
    generalize (elF (decL 1) false) n (c :: b) = res at hA hle hrl ⊢
    obtain ⟨⟨i, e, y, s⟩, rest, er, n2⟩ := res
    dsimp only at hA hle hrl ⊢
    simp only [List.length_cons] at hrl hm hl
    have hC : ConOk Try.prog (oneC fEl [.ptr 0 0, byL (c :: b), iN 3] (LH3 r1 r2 (celE acc) n) (.tuple [.agg (elD (.mk i e y s)), byL rest, iN er]) (LH3 r1 r2 (celE acc) n2)) := oneC_ok hA (Nat.le_refl _) rfl rfl
    have hcall := oneC_at fEl [.ptr 0 0, byL (c :: b), iN 3] (LH3 r1 r2 (celE acc) n) (.tuple [.agg (elD (.mk i e y s)), byL rest, iN er]) (LH3 r1 r2 (celE acc) n2)
    cases er with
    | succ er => exact ⟨0, dv, GoesRK.last (zgmK_ok tab_ok mixed fun_ok hC (rd3e (oneC fEl [.ptr 0 0, byL (c :: b), iN 3] (LH3 r1 r2 (celE acc) n) (.tuple [.agg (elD (.mk i e y s)), byL rest, iN (er + 1)]) (LH3 r1 r2 (celE acc) n2)) r1 r2 (celE acc) (by1 (c :: b)) n dv n2 (er + 1) i e (by1 y) (elR s) (by1 rest)) (.cons (flatIn_cons rfl hr1 (flatIn_cons rfl hr2 (flatIn_nil _))) (.cons lt (.cons hcall (.cons (bne_iff_ne.2 (by omega)) .nil))))) (by intro h; cases h), fun h => (by cases h)⟩
    | zero =>
      have hfl : FlR (celE acc ++ elD (.mk i e y s)) := fun a ha => by
        rcases List.mem_append.1 ha with ha | ha
        · exact celE_flat acc a ha
        · exact elD_flat (.mk i e y s) a ha
      obtain ⟨k, dv', g, hq⟩ := rd_loop3 r1 r2 hr1 hr2 m rest (by omega) n2 (acc ++ [.mk i e y s]) (sl4 7 (acc.length + 1)) hle (.inl (by rw [List.length_append]; rfl)) (by rw [List.length_append]; simp; omega)
      rw [celE_snoc] at g
      refine ⟨k + 1, dv', ?_, hq⟩
      rcases hd with rfl | ⟨rfl, rfl⟩
      · exact GoesRK.step (zgmK_ok tab_ok mixed fun_ok hC (rd3s (oneC fEl [.ptr 0 0, byL (c :: b), iN 3] (LH3 r1 r2 (celE acc) n) (.tuple [.agg (elD (.mk i e y s)), byL rest, iN 0]) (LH3 r1 r2 (celE acc) n2)) r1 r2 (celE acc) (by1 (c :: b)) n acc.length n2 i e (by1 y) (elR s) (by1 rest)) (.cons (flatIn_cons rfl hr1 (flatIn_cons rfl hr2 (flatIn_cons rfl hfl (flatIn_nil _)))) (.cons lt (.cons hcall (.cons (app_elG (id := 7) (id2 := 9) (o := oEl 1 (celE acc)) (o2 := oEl 0 (elC i e (by1 y) (elR s))) rfl rfl rfl rfl (celE_length acc) rfl rfl rfl (by omega)) .nil))))) g
      · exact GoesRK.step (zgmK_ok tab_ok mixed fun_ok hC (rd3n (oneC fEl [.ptr 0 0, byL (c :: b), iN 3] (LH3 r1 r2 (celE []) n) (.tuple [.agg (elD (.mk i e y s)), byL rest, iN 0]) (LH3 r1 r2 (celE []) n2)) r1 r2 (celE []) (by1 (c :: b)) n n2 i e (by1 y) (elR s) (by1 rest)) (.cons (flatIn_cons rfl hr1 (flatIn_cons rfl hr2 (flatIn_cons rfl (elD_flat (.mk i e y s)) (flatIn_nil _)))) (.cons lt (.cons hcall (.cons (by show builtinD tab _ .append _ tyEE = _; kernel_rfl) .nil))))) g
theorem rd_ans3 (r1 r2 : List DV) (hr1 : FlR r1) (hr2 : FlR r2) (n : Nat) (hn : n ≤ 64) (b : List UInt8) (hb : b.length ≤ 2 ^ 29) : AnsK 7 Try.prog fRd [byL b, iN 3, fnE] (RH3 r1 r2 n) (.tuple [elsD (decL 2 n b).1, iN (decL 2 n b).2.1]) (RH3 r1 r2 (decL 2 n b).2.2) := by
  obtain ⟨k, dv, g, hq⟩ := rd_loop3 r1 r2 hr1 hr2 b.length b (Nat.le_refl _) n [] .nil hn (.inr ⟨rfl, rfl⟩) (by simpa using hb)
  show AnsK _ _ _ _ _ (.tuple [elsD (rdF (elF (decL 1) false) (b.length + 1) n b []).1, iN (rdF (elF (decL 1) false) (b.length + 1) n b []).2.1]) (RH3 r1 r2 (rdF (elF (decL 1) false) (b.length + 1) n b []).2.2)
  have herr := rdF_err (elF (decL 1) false) (b.length + 1) n b []
  generalize rdF (elF (decL 1) false) (b.length + 1) n b [] = res at g hq herr ⊢
  obtain ⟨l, er, n2⟩ := res
  have pad : SeenK 7 (rdS (by1 b) 3 .nil) (RH3 r1 r2 n) (rdS (by1 b) 3 .nil) (LH3 r1 r2 (celE []) n) := seenK_pad (K := 7) (n := 7) (l := [oE0, oE0, oEl 1 r2, oE0, oE0, oEl 1 r1, oCt n]) (ls := []) (oEl 1 []) rfl
  have g := g.goes.pre pad
  cases er with
  | zero =>
    have hR := hq rfl
    have z := zansK_ok tab_ok mixed fun_ok noC_ok (rd3G noC r1 r2 (celE l) (by1 b) n dv n2) (.cons g .nil)
    dsimp only at hR ⊢
    rcases hR with rfl | ⟨rfl, rfl⟩
    · exact z.melt (L := [0, 1, 2, 3, 4, 5, 6]) (fl := [1, 4]) rfl rfl (flatIn_cons rfl hr1 (flatIn_cons rfl hr2 (flatIn_nil _))) (.frz _ _ (FrzL.tuple ⟨frz_el (k := 1) (by kernel_rfl) (by kernel_rfl) (by decide) rfl, FrzD.int' _ _, trivial⟩))
    · exact (z.melt (L := [0, 1, 2, 3, 4, 5, 6]) (fl := [1, 4]) rfl rfl (flatIn_cons rfl hr1 (flatIn_cons rfl hr2 (flatIn_nil _))) (d' := .tuple [.nil, iN 0]) (.frz _ _ (FrzL.tuple ⟨.flat _ rfl, FrzD.int' _ _, trivial⟩))).seeD fun E w v => see_t2 (fun _ h => vr_nl h) v
  | succ er =>
    obtain rfl : l = [] := herr.resolve_left (by simp)
    have z := zansK_ok tab_ok mixed fun_ok noC_ok (rd3B noC r1 r2 (by1 b) n n2 (er + 1)) (.cons g .nil)
    exact z.seeD fun E w v => see_t2 (fun _ h => vr_nl h) v
/-! ### depth 2 -/
theorem fl_ans2 (r1 : List DV) (r : List DV) (hr1 : FlR r1) (hr : FlR r) (n : Nat) (hn : n ≤ 64) (i : UInt8) (c : List UInt8) (hc : c.length ≤ 2 ^ 29) :
    AnsK 6 Try.prog fFl [.ptr 0 0, i8 i, byL c, iN 2] (EH2 r1 r n) (.tuple [.agg (elD (filF (decL 2) false n i c).1), iN (filF (decL 2) false n i c).2.1]) (EH2 r1 r (filF (decL 2) false n i c).2.2) := by
  have hl := by1_length c
  have hx := cFx_xs (FH2 r1 r n) i
  have hco := cFx_co (FH2 r1 r n) i
  have sl1 : ∀ H e t, c = e :: t → aSl1 H (by1 c) (by1 t) := fun H e t h => by
    rw [h]
    exact slice_from (n := 1) (by rw [by1_length, List.length_cons]; omega)
  unfold filF
  cases h1 : decide (c.length > 1024 + exts i) with
  | true =>
    have q1 : decide (((by1 c).length : Int) > ((1024 + exts i : Nat) : Int)) = true := decide_eq_true (by have := of_decide_eq_true h1; omega)
    exact (zkpK_ok tab_ok mixed fun_ok cFx_ok (fl2e11 cFx r1 r (by1 c) n i (exts i) (1024 + exts i)) (.cons (flatIn_cons rfl hr1 (flatIn_cons rfl hr (flatIn_nil _))) (.cons hx (.cons (wx i) (.cons q1 .nil))))).seeD fun E w v => see_t2 (fun _ h => see_zE h) v
  | false =>
    have q1 : decide (((by1 c).length : Int) > ((1024 + exts i : Nat) : Int)) = false := decide_eq_false (by have := of_decide_eq_false h1; omega)
    dsimp only
    cases h2 : (nx i == 255) with
    | true =>
      cases c with
      | nil => exact (zkpK_ok tab_ok mixed fun_ok cFx_ok (fl2e12 cFx r1 r (by1 []) n i (exts i) (1024 + exts i)) (.cons (flatIn_cons rfl hr1 (flatIn_cons rfl hr (flatIn_nil _))) (.cons hx (.cons (wx i) (.cons q1 (.cons h2 (.cons rfl .nil))))))).seeD fun E w v => see_t2 (fun _ h => see_zE h) v
      | cons e t => exact (zkpK_ok tab_ok mixed fun_ok cFx_ok (fl2x cFx r1 r (by1 (e :: t)) n i (exts i) (1024 + exts i) e (by1 t)) (.cons (flatIn_cons rfl hr1 (flatIn_cons rfl hr (flatIn_nil _))) (.cons hx (.cons (wx i) (.cons q1 (.cons h2 (.cons (beq_false_of_ne (by rw [by1_length, List.length_cons]; omega)) (.cons h2 (.cons (idxOk_lt (k := 0) (by rw [by1_length, List.length_cons]; omega)) (.cons rfl (.cons (sl1 _ e t rfl) .nil))))))))))).seeD fun E w v => see_t2 (fun _ h => see_sub h) v
    | false =>
      dsimp only
      cases h3 : cont i with
      | false =>
        rw [h3] at hco
        exact (zkpK_ok tab_ok mixed fun_ok cFx_ok (fl2d cFx r1 r (by1 c) n i (exts i) (1024 + exts i)) (.cons (flatIn_cons rfl hr1 (flatIn_cons rfl hr (flatIn_nil _))) (.cons hx (.cons (wx i) (.cons q1 (.cons h2 (.cons h2 (.cons hco .nil)))))))).seeD fun E w v => see_t2 (fun _ h => see_sub h) v
      | true =>
        rw [h3] at hco
        have hA := rd_ans3 r1 r hr1 hr n hn c hc
        have hle := decL_le 2 n c hn
        generalize decL 2 n c = res at hA hle ⊢
        obtain ⟨l, e, n2⟩ := res
        dsimp only at hA hle ⊢
        have hC : ConOk Try.prog (orK cFx (oneC fRd [byL c, iN 3, fnE] (RH3 r1 r n) (.tuple [elsD l, iN e]) (RH3 r1 r n2))) := orK_ok cFx_ok (oneC_ok hA (Nat.le_refl _) rfl rfl)
        have hcall := orK_right (C2 := oneC fRd [byL c, iN 3, fnE] (RH3 r1 r n) (.tuple [elsD l, iN e]) (RH3 r1 r n2)) cFx_rd (oneC_at fRd [byL c, iN 3, fnE] (RH3 r1 r n) (.tuple [elsD l, iN e]) (RH3 r1 r n2))
        cases e with
        | zero => exact (zkpK_ok tab_ok mixed fun_ok hC (fl2c (orK cFx (oneC fRd [byL c, iN 3, fnE] (RH3 r1 r n) (.tuple [elsD l, iN 0]) (RH3 r1 r n2))) r1 r (by1 c) n i (exts i) (1024 + exts i) (elR l) n2) (.cons (flatIn_cons rfl hr1 (flatIn_cons rfl hr (flatIn_nil _))) (.cons (orK_left hx) (.cons (wx i) (.cons q1 (.cons h2 (.cons h2 (.cons (orK_left hco) (.cons hcall .nil))))))))).seeD fun E w v => see_t2 (fun _ h => see_dat h) v
        | succ e => exact (zkpK_ok tab_ok mixed fun_ok hC (fl2e (orK cFx (oneC fRd [byL c, iN 3, fnE] (RH3 r1 r n) (.tuple [elsD l, iN (e + 1)]) (RH3 r1 r n2))) r1 r (by1 c) n i (exts i) (1024 + exts i) (elR l) n2 (e + 1)) (.cons (flatIn_cons rfl hr1 (flatIn_cons rfl hr (flatIn_nil _))) (.cons (orK_left hx) (.cons (wx i) (.cons q1 (.cons h2 (.cons h2 (.cons (orK_left hco) (.cons hcall (.cons (bne_iff_ne.2 (by omega)) .nil)))))))))).seeD fun E w v => see_t2 (fun _ h => see_zE h) v
theorem el_ans2 (r1 : List DV) (r : List DV) (hr1 : FlR r1) (hr : FlR r) (n : Nat) (hn : n ≤ 64) (c : UInt8) (t : List UInt8) (hc : (c :: t).length ≤ 2 ^ 29) :
    AnsK 5 Try.prog fEl [.ptr 0 0, byL (c :: t), iN 2] (LH2 r1 r n) (.tuple [.agg (elD (elF (decL 2) false n (c :: t)).1), byL (elF (decL 2) false n (c :: t)).2.1, iN (elF (decL 2) false n (c :: t)).2.2.1]) (LH2 r1 r (elF (decL 2) false n (c :: t)).2.2.2) := by
  simp only [List.length_cons] at hc
  have ix1 : idxOk 0 (by1 (c :: t)).length = true := idxOk_lt (k := 0) (by rw [by1_length, List.length_cons]; omega)
  have sl1 : ∀ H, aSl1 H (by1 (c :: t)) (by1 t) := fun H => slice_from (n := 1) (by rw [by1_length, List.length_cons]; omega)
  have hwn : DV.int .i64 (IntKind.i64.wrap ((n : Int) + 1)) = iN (n + 1) := congrArg (DV.int .i64) (wrapI (n := n + 1) (by omega))
  unfold elF
  dsimp only
  cases h1 : decide (n = 64) with
  | true =>
    have q1 : ((n : Int) == 64) = true := by rw [of_decide_eq_true h1]; rfl
    exact (zkpK_ok tab_ok mixed fun_ok noC_ok (el2e4 noC r1 r (by1 (c :: t)) n) (.cons (flatIn_cons rfl hr1 (flatIn_cons rfl hr (flatIn_nil _))) (.cons q1 .nil))).seeD fun E w v => see_t3 v
  | false =>
    have h64 := of_decide_eq_false h1
    have q1 : ((n : Int) == 64) = false := beq_false_of_ne (by omega)
    dsimp only
    cases h2 : decide (c = 254) with
    | true =>
      have q2 : (nx c == 254) = true := by rw [of_decide_eq_true h2]; rfl
      exact (zkpK_ok tab_ok mixed fun_ok noC_ok (el2e12 noC r1 r (by1 (c :: t)) n c) (.cons (flatIn_cons rfl hr1 (flatIn_cons rfl hr (flatIn_nil _))) (.cons q1 (.cons hwn (.cons ix1 (.cons rfl (.cons q2 .nil))))))).seeD fun E w v => see_t3 v
    | false =>
      have q2 : (nx c == 254) = false := by
        have := nx_dec c 254
        rw [h2] at this
        exact this
      have hj := cJn_at (EH2 r1 r (n + 1)) t (by omega)
      dsimp only
      cases h3 : jnB [] t with
      | inl e =>
        have he := jn_bad _ (Nat.le_refl _) h3
        rw [h3] at hj
        exact (zkpK_ok tab_ok mixed fun_ok cJn_ok (el2ej cJn r1 r (by1 (c :: t)) n c (by1 t) e) (.cons (flatIn_cons rfl hr1 (flatIn_cons rfl hr (flatIn_nil _))) (.cons q1 (.cons hwn (.cons ix1 (.cons rfl (.cons q2 (.cons (sl1 _) (.cons hj (.cons (bne_iff_ne.2 (by omega)) .nil)))))))))).seeD fun E w v => see_t3 v
      | inr x =>
        obtain ⟨a, rest⟩ := x
        have hal := jn_len _ (Nat.le_refl _) h3
        rw [h3] at hj
        simp only [List.length_nil] at hal
        have hA := fl_ans2 r1 r hr1 hr (n + 1) (by omega) c a (by omega)
        dsimp only
        generalize filF (decL 2) false (n + 1) c a = res at hA ⊢
        obtain ⟨⟨i, e, d, s⟩, er, n2⟩ := res
        dsimp only at hA ⊢
        have hC : ConOk Try.prog (orK cJn (oneC fFl [.ptr 0 0, i8 c, byL a, iN 2] (EH2 r1 r (n + 1)) (.tuple [.agg (elD (.mk i e d s)), iN er]) (EH2 r1 r n2))) := orK_ok cJn_ok (oneC_ok hA (Nat.le_refl _) rfl rfl)
        have hcall := orK_right (C1 := cJn) (C2 := oneC fFl [.ptr 0 0, i8 c, byL a, iN 2] (EH2 r1 r (n + 1)) (.tuple [.agg (elD (.mk i e d s)), iN er]) (EH2 r1 r n2)) (lift_oth (eqC_other (by kernel_rfl))) (oneC_at fFl [.ptr 0 0, i8 c, byL a, iN 2] (EH2 r1 r (n + 1)) (.tuple [.agg (elD (.mk i e d s)), iN er]) (EH2 r1 r n2))
        exact zkpK_ok tab_ok mixed fun_ok hC (el2o (orK cJn (oneC fFl [.ptr 0 0, i8 c, byL a, iN 2] (EH2 r1 r (n + 1)) (.tuple [.agg (elD (.mk i e d s)), iN er]) (EH2 r1 r n2))) r1 r (by1 (c :: t)) n c (by1 t) (by1 a) (by1 rest) (by1 d) (elR s) i e n2 er) (.cons (by exact (flatIn_cons rfl hr1 (flatIn_cons rfl hr (flatIn_nil _)))) (.cons q1 (.cons hwn (.cons ix1 (.cons rfl (.cons q2 (.cons (sl1 _) (.cons (orK_left hj) (.cons hcall .nil)))))))))
def rdX2 (r1 : List DV) (res : List El × Nat × Nat) (dv : DV) : Ex × Slots × Hp := match res.2.1 with
  | 0 => (.exit 0, mkT 32 [(8, dv)], LH2 r1 (celE res.1) res.2.2)
  | e + 1 => (.ret, mkT 32 [(6, .nil), (7, iN (e + 1))], RH2 r1 res.2.2)
theorem rd_loop2 (r1 : List DV) (hr1 : FlR r1) : ∀ (m : Nat) (b : List UInt8), b.length ≤ m → ∀ (n : Nat) (acc : List El) (dv : DV), n ≤ 64 → RowE 4 dv acc → acc.length + b.length ≤ 2 ^ 29 →
    ∃ k dv', GoesRK 4 Try.prog tab kRd rdL (k + 1) (rdS (by1 b) 2 dv) (LH2 r1 (celE acc) n) (rdX2 r1 (rdF (elF (decL 2) false) (m + 1) n b acc) dv').1 (rdX2 r1 (rdF (elF (decL 2) false) (m + 1) n b acc) dv').2.1 (rdX2 r1 (rdF (elF (decL 2) false) (m + 1) n b acc) dv').2.2 ∧ ((rdF (elF (decL 2) false) (m + 1) n b acc).2.1 = 0 → RowE 4 dv' (rdF (elF (decL 2) false) (m + 1) n b acc).1)
  | m, [], hm, n, acc, dv, hn, hd, hl => ⟨0, dv, GoesRK.last (zseeK_ok tab_ok mixed fun_ok noC_ok (rd2o noC r1 (celE acc) (by1 []) n dv) (.cons rfl .nil)) (by intro h; cases h), fun _ => hd⟩
  | 0, c :: b, hm, _, _, _, _, _, _ => by simp at hm
  | m + 1, c :: b, hm, n, acc, dv, hn, hd, hl => by
    have lt : decide (((by1 (c :: b)).length : Int) > 0) = true := decide_eq_true (by rw [by1_length, List.length_cons]; omega)
    have hA := el_ans2 r1 (celE acc) hr1 (celE_flat acc) n hn c b (by omega)
    have hle : ((elF (decL 2) false) n (c :: b)).2.2.2 ≤ 64 := el_le (fun n c hn => decL_le 2 n c hn) hn
    have hrl := el_rest (rd := (decL 2)) (last := false) (n := n) (c := c) (t := b)
    rw [show rdF (elF (decL 2) false) (m + 1 + 1) n (c :: b) acc = (match ((elF (decL 2) false) n (c :: b)).2.2.1 with
      | 0 => rdF (elF (decL 2) false) (m + 1) ((elF (decL 2) false) n (c :: b)).2.2.2 ((elF (decL 2) false) n (c :: b)).2.1 (acc ++ [((elF (decL 2) false) n (c :: b)).1])
      | e + 1 => ([], e + 1, ((elF (decL 2) false) n (c :: b)).2.2.2)) from rfl]
    generalize (elF (decL 2) false) n (c :: b) = res at hA hle hrl ⊢
    obtain ⟨⟨i, e, y, s⟩, rest, er, n2⟩ := res
    dsimp only at hA hle hrl ⊢
    simp only [List.length_cons] at hrl hm hl
    have hC : ConOk Try.prog (oneC fEl [.ptr 0 0, byL (c :: b), iN 2] (LH2 r1 (celE acc) n) (.tuple [.agg (elD (.mk i e y s)), byL rest, iN er]) (LH2 r1 (celE acc) n2)) := oneC_ok hA (Nat.le_refl _) rfl rfl
    have hcall := oneC_at fEl [.ptr 0 0, byL (c :: b), iN 2] (LH2 r1 (celE acc) n) (.tuple [.agg (elD (.mk i e y s)), byL rest, iN er]) (LH2 r1 (celE acc) n2)
    cases er with
    | succ er => exact ⟨0, dv, GoesRK.last (zgmK_ok tab_ok mixed fun_ok hC (rd2e (oneC fEl [.ptr 0 0, byL (c :: b), iN 2] (LH2 r1 (celE acc) n) (.tuple [.agg (elD (.mk i e y s)), byL rest, iN (er + 1)]) (LH2 r1 (celE acc) n2)) r1 (celE acc) (by1 (c :: b)) n dv n2 (er + 1) i e (by1 y) (elR s) (by1 rest)) (.cons (flatIn_cons rfl hr1 (flatIn_nil _)) (.cons lt (.cons hcall (.cons (bne_iff_ne.2 (by omega)) .nil))))) (by intro h; cases h), fun h => (by cases h)⟩
    | zero =>
      have hfl : FlR (celE acc ++ elD (.mk i e y s)) := fun a ha => by
        rcases List.mem_append.1 ha with ha | ha
        · exact celE_flat acc a ha
        · exact elD_flat (.mk i e y s) a ha
      obtain ⟨k, dv', g, hq⟩ := rd_loop2 r1 hr1 m rest (by omega) n2 (acc ++ [.mk i e y s]) (sl4 4 (acc.length + 1)) hle (.inl (by rw [List.length_append]; rfl)) (by rw [List.length_append]; simp; omega)
      rw [celE_snoc] at g
      refine ⟨k + 1, dv', ?_, hq⟩
      rcases hd with rfl | ⟨rfl, rfl⟩
      · exact GoesRK.step (zgmK_ok tab_ok mixed fun_ok hC (rd2s (oneC fEl [.ptr 0 0, byL (c :: b), iN 2] (LH2 r1 (celE acc) n) (.tuple [.agg (elD (.mk i e y s)), byL rest, iN 0]) (LH2 r1 (celE acc) n2)) r1 (celE acc) (by1 (c :: b)) n acc.length n2 i e (by1 y) (elR s) (by1 rest)) (.cons (flatIn_cons rfl hr1 (flatIn_cons rfl hfl (flatIn_nil _))) (.cons lt (.cons hcall (.cons (app_elG (id := 4) (id2 := 6) (o := oEl 1 (celE acc)) (o2 := oEl 0 (elC i e (by1 y) (elR s))) rfl rfl rfl rfl (celE_length acc) rfl rfl rfl (by omega)) .nil))))) g
      · exact GoesRK.step (zgmK_ok tab_ok mixed fun_ok hC (rd2n (oneC fEl [.ptr 0 0, byL (c :: b), iN 2] (LH2 r1 (celE []) n) (.tuple [.agg (elD (.mk i e y s)), byL rest, iN 0]) (LH2 r1 (celE []) n2)) r1 (celE []) (by1 (c :: b)) n n2 i e (by1 y) (elR s) (by1 rest)) (.cons (flatIn_cons rfl hr1 (flatIn_cons rfl (elD_flat (.mk i e y s)) (flatIn_nil _))) (.cons lt (.cons hcall (.cons (by show builtinD tab _ .append _ tyEE = _; kernel_rfl) .nil))))) g
theorem rd_ans2 (r1 : List DV) (hr1 : FlR r1) (n : Nat) (hn : n ≤ 64) (b : List UInt8) (hb : b.length ≤ 2 ^ 29) : AnsK 4 Try.prog fRd [byL b, iN 2, fnE] (RH2 r1 n) (.tuple [elsD (decL 3 n b).1, iN (decL 3 n b).2.1]) (RH2 r1 (decL 3 n b).2.2) := by
  obtain ⟨k, dv, g, hq⟩ := rd_loop2 r1 hr1 b.length b (Nat.le_refl _) n [] .nil hn (.inr ⟨rfl, rfl⟩) (by simpa using hb)
  show AnsK _ _ _ _ _ (.tuple [elsD (rdF (elF (decL 2) false) (b.length + 1) n b []).1, iN (rdF (elF (decL 2) false) (b.length + 1) n b []).2.1]) (RH2 r1 (rdF (elF (decL 2) false) (b.length + 1) n b []).2.2)
  have herr := rdF_err (elF (decL 2) false) (b.length + 1) n b []
  generalize rdF (elF (decL 2) false) (b.length + 1) n b [] = res at g hq herr ⊢
  obtain ⟨l, er, n2⟩ := res
  have pad : SeenK 4 (rdS (by1 b) 2 .nil) (RH2 r1 n) (rdS (by1 b) 2 .nil) (LH2 r1 (celE []) n) := seenK_pad (K := 4) (n := 4) (l := [oE0, oE0, oEl 1 r1, oCt n]) (ls := []) (oEl 1 []) rfl
  have g := g.goes.pre pad
  cases er with
  | zero =>
    have hR := hq rfl
    have z := zansK_ok tab_ok mixed fun_ok noC_ok (rd2G noC r1 (celE l) (by1 b) n dv n2) (.cons g .nil)
    dsimp only at hR ⊢
    rcases hR with rfl | ⟨rfl, rfl⟩
    · exact z.melt (L := [0, 1, 2, 3]) (fl := [1]) rfl rfl (flatIn_cons rfl hr1 (flatIn_nil _)) (.frz _ _ (FrzL.tuple ⟨frz_el (k := 1) (by kernel_rfl) (by kernel_rfl) (by decide) rfl, FrzD.int' _ _, trivial⟩))
    · exact (z.melt (L := [0, 1, 2, 3]) (fl := [1]) rfl rfl (flatIn_cons rfl hr1 (flatIn_nil _)) (d' := .tuple [.nil, iN 0]) (.frz _ _ (FrzL.tuple ⟨.flat _ rfl, FrzD.int' _ _, trivial⟩))).seeD fun E w v => see_t2 (fun _ h => vr_nl h) v
  | succ er =>
    obtain rfl : l = [] := herr.resolve_left (by simp)
    have z := zansK_ok tab_ok mixed fun_ok noC_ok (rd2B noC r1 (by1 b) n n2 (er + 1)) (.cons g .nil)
    exact z.seeD fun E w v => see_t2 (fun _ h => vr_nl h) v
/-! ### depth 1 -/
theorem fl_ans1 (r : List DV) (hr : FlR r) (n : Nat) (hn : n ≤ 64) (i : UInt8) (c : List UInt8) (hc : c.length ≤ 2 ^ 29) :
    AnsK 3 Try.prog fFl [.ptr 0 0, i8 i, byL c, iN 1] (EH1 r n) (.tuple [.agg (elD (filF (decL 3) false n i c).1), iN (filF (decL 3) false n i c).2.1]) (EH1 r (filF (decL 3) false n i c).2.2) := by
  have hl := by1_length c
  have hx := cFx_xs (FH1 r n) i
  have hco := cFx_co (FH1 r n) i
  have sl1 : ∀ H e t, c = e :: t → aSl1 H (by1 c) (by1 t) := fun H e t h => by
    rw [h]
    exact slice_from (n := 1) (by rw [by1_length, List.length_cons]; omega)
  unfold filF
  cases h1 : decide (c.length > 1024 + exts i) with
  | true =>
    have q1 : decide (((by1 c).length : Int) > ((1024 + exts i : Nat) : Int)) = true := decide_eq_true (by have := of_decide_eq_true h1; omega)
    exact (zkpK_ok tab_ok mixed fun_ok cFx_ok (fl1e11 cFx r (by1 c) n i (exts i) (1024 + exts i)) (.cons (flatIn_cons rfl hr (flatIn_nil _)) (.cons hx (.cons (wx i) (.cons q1 .nil))))).seeD fun E w v => see_t2 (fun _ h => see_zE h) v
  | false =>
    have q1 : decide (((by1 c).length : Int) > ((1024 + exts i : Nat) : Int)) = false := decide_eq_false (by have := of_decide_eq_false h1; omega)
    dsimp only
    cases h2 : (nx i == 255) with
    | true =>
      cases c with
      | nil => exact (zkpK_ok tab_ok mixed fun_ok cFx_ok (fl1e12 cFx r (by1 []) n i (exts i) (1024 + exts i)) (.cons (flatIn_cons rfl hr (flatIn_nil _)) (.cons hx (.cons (wx i) (.cons q1 (.cons h2 (.cons rfl .nil))))))).seeD fun E w v => see_t2 (fun _ h => see_zE h) v
      | cons e t => exact (zkpK_ok tab_ok mixed fun_ok cFx_ok (fl1x cFx r (by1 (e :: t)) n i (exts i) (1024 + exts i) e (by1 t)) (.cons (flatIn_cons rfl hr (flatIn_nil _)) (.cons hx (.cons (wx i) (.cons q1 (.cons h2 (.cons (beq_false_of_ne (by rw [by1_length, List.length_cons]; omega)) (.cons h2 (.cons (idxOk_lt (k := 0) (by rw [by1_length, List.length_cons]; omega)) (.cons rfl (.cons (sl1 _ e t rfl) .nil))))))))))).seeD fun E w v => see_t2 (fun _ h => see_sub h) v
    | false =>
      dsimp only
      cases h3 : cont i with
      | false =>
        rw [h3] at hco
        exact (zkpK_ok tab_ok mixed fun_ok cFx_ok (fl1d cFx r (by1 c) n i (exts i) (1024 + exts i)) (.cons (flatIn_cons rfl hr (flatIn_nil _)) (.cons hx (.cons (wx i) (.cons q1 (.cons h2 (.cons h2 (.cons hco .nil)))))))).seeD fun E w v => see_t2 (fun _ h => see_sub h) v
      | true =>
        rw [h3] at hco
        have hA := rd_ans2 r hr n hn c hc
        have hle := decL_le 3 n c hn
        generalize decL 3 n c = res at hA hle ⊢
        obtain ⟨l, e, n2⟩ := res
        dsimp only at hA hle ⊢
        have hC : ConOk Try.prog (orK cFx (oneC fRd [byL c, iN 2, fnE] (RH2 r n) (.tuple [elsD l, iN e]) (RH2 r n2))) := orK_ok cFx_ok (oneC_ok hA (Nat.le_refl _) rfl rfl)
        have hcall := orK_right (C2 := oneC fRd [byL c, iN 2, fnE] (RH2 r n) (.tuple [elsD l, iN e]) (RH2 r n2)) cFx_rd (oneC_at fRd [byL c, iN 2, fnE] (RH2 r n) (.tuple [elsD l, iN e]) (RH2 r n2))
        cases e with
        | zero => exact (zkpK_ok tab_ok mixed fun_ok hC (fl1c (orK cFx (oneC fRd [byL c, iN 2, fnE] (RH2 r n) (.tuple [elsD l, iN 0]) (RH2 r n2))) r (by1 c) n i (exts i) (1024 + exts i) (elR l) n2) (.cons (flatIn_cons rfl hr (flatIn_nil _)) (.cons (orK_left hx) (.cons (wx i) (.cons q1 (.cons h2 (.cons h2 (.cons (orK_left hco) (.cons hcall .nil))))))))).seeD fun E w v => see_t2 (fun _ h => see_dat h) v
        | succ e => exact (zkpK_ok tab_ok mixed fun_ok hC (fl1e (orK cFx (oneC fRd [byL c, iN 2, fnE] (RH2 r n) (.tuple [elsD l, iN (e + 1)]) (RH2 r n2))) r (by1 c) n i (exts i) (1024 + exts i) (elR l) n2 (e + 1)) (.cons (flatIn_cons rfl hr (flatIn_nil _)) (.cons (orK_left hx) (.cons (wx i) (.cons q1 (.cons h2 (.cons h2 (.cons (orK_left hco) (.cons hcall (.cons (bne_iff_ne.2 (by omega)) .nil)))))))))).seeD fun E w v => see_t2 (fun _ h => see_zE h) v
theorem el_ans1 (r : List DV) (hr : FlR r) (n : Nat) (hn : n ≤ 64) (c : UInt8) (t : List UInt8) (hc : (c :: t).length ≤ 2 ^ 29) :
    AnsK 2 Try.prog fEl [.ptr 0 0, byL (c :: t), iN 1] (LH1 r n) (.tuple [.agg (elD (elF (decL 3) false n (c :: t)).1), byL (elF (decL 3) false n (c :: t)).2.1, iN (elF (decL 3) false n (c :: t)).2.2.1]) (LH1 r (elF (decL 3) false n (c :: t)).2.2.2) := by
  simp only [List.length_cons] at hc
  have ix1 : idxOk 0 (by1 (c :: t)).length = true := idxOk_lt (k := 0) (by rw [by1_length, List.length_cons]; omega)
  have sl1 : ∀ H, aSl1 H (by1 (c :: t)) (by1 t) := fun H => slice_from (n := 1) (by rw [by1_length, List.length_cons]; omega)
  have hwn : DV.int .i64 (IntKind.i64.wrap ((n : Int) + 1)) = iN (n + 1) := congrArg (DV.int .i64) (wrapI (n := n + 1) (by omega))
  unfold elF
  dsimp only
  cases h1 : decide (n = 64) with
  | true =>
    have q1 : ((n : Int) == 64) = true := by rw [of_decide_eq_true h1]; rfl
    exact (zkpK_ok tab_ok mixed fun_ok noC_ok (el1e4 noC r (by1 (c :: t)) n) (.cons (flatIn_cons rfl hr (flatIn_nil _)) (.cons q1 .nil))).seeD fun E w v => see_t3 v
  | false =>
    have h64 := of_decide_eq_false h1
    have q1 : ((n : Int) == 64) = false := beq_false_of_ne (by omega)
    dsimp only
    cases h2 : decide (c = 254) with
    | true =>
      have q2 : (nx c == 254) = true := by rw [of_decide_eq_true h2]; rfl
      exact (zkpK_ok tab_ok mixed fun_ok noC_ok (el1e12 noC r (by1 (c :: t)) n c) (.cons (flatIn_cons rfl hr (flatIn_nil _)) (.cons q1 (.cons hwn (.cons ix1 (.cons rfl (.cons q2 .nil))))))).seeD fun E w v => see_t3 v
    | false =>
      have q2 : (nx c == 254) = false := by
        have := nx_dec c 254
        rw [h2] at this
        exact this
      have hj := cJn_at (EH1 r (n + 1)) t (by omega)
      dsimp only
      cases h3 : jnB [] t with
      | inl e =>
        have he := jn_bad _ (Nat.le_refl _) h3
        rw [h3] at hj
        exact (zkpK_ok tab_ok mixed fun_ok cJn_ok (el1ej cJn r (by1 (c :: t)) n c (by1 t) e) (.cons (flatIn_cons rfl hr (flatIn_nil _)) (.cons q1 (.cons hwn (.cons ix1 (.cons rfl (.cons q2 (.cons (sl1 _) (.cons hj (.cons (bne_iff_ne.2 (by omega)) .nil)))))))))).seeD fun E w v => see_t3 v
      | inr x =>
        obtain ⟨a, rest⟩ := x
        have hal := jn_len _ (Nat.le_refl _) h3
        rw [h3] at hj
        simp only [List.length_nil] at hal
        have hA := fl_ans1 r hr (n + 1) (by omega) c a (by omega)
        dsimp only
        generalize filF (decL 3) false (n + 1) c a = res at hA ⊢
        obtain ⟨⟨i, e, d, s⟩, er, n2⟩ := res
        dsimp only at hA ⊢
        have hC : ConOk Try.prog (orK cJn (oneC fFl [.ptr 0 0, i8 c, byL a, iN 1] (EH1 r (n + 1)) (.tuple [.agg (elD (.mk i e d s)), iN er]) (EH1 r n2))) := orK_ok cJn_ok (oneC_ok hA (Nat.le_refl _) rfl rfl)
        have hcall := orK_right (C1 := cJn) (C2 := oneC fFl [.ptr 0 0, i8 c, byL a, iN 1] (EH1 r (n + 1)) (.tuple [.agg (elD (.mk i e d s)), iN er]) (EH1 r n2)) (lift_oth (eqC_other (by kernel_rfl))) (oneC_at fFl [.ptr 0 0, i8 c, byL a, iN 1] (EH1 r (n + 1)) (.tuple [.agg (elD (.mk i e d s)), iN er]) (EH1 r n2))
        exact zkpK_ok tab_ok mixed fun_ok hC (el1o (orK cJn (oneC fFl [.ptr 0 0, i8 c, byL a, iN 1] (EH1 r (n + 1)) (.tuple [.agg (elD (.mk i e d s)), iN er]) (EH1 r n2))) r (by1 (c :: t)) n c (by1 t) (by1 a) (by1 rest) (by1 d) (elR s) i e n2 er) (.cons (by exact (flatIn_cons rfl hr (flatIn_nil _))) (.cons q1 (.cons hwn (.cons ix1 (.cons rfl (.cons q2 (.cons (sl1 _) (.cons (orK_left hj) (.cons hcall .nil)))))))))
def rdX1 (res : List El × Nat × Nat) (dv : DV) : Ex × Slots × Hp := match res.2.1 with
  | 0 => (.exit 0, mkT 32 [(8, dv)], LH1 (celE res.1) res.2.2)
  | e + 1 => (.ret, mkT 32 [(6, .nil), (7, iN (e + 1))], RH1 res.2.2)
theorem rd_loop1 : ∀ (m : Nat) (b : List UInt8), b.length ≤ m → ∀ (n : Nat) (acc : List El) (dv : DV), n ≤ 64 → RowE 1 dv acc → acc.length + b.length ≤ 2 ^ 29 →
    ∃ k dv', GoesRK 1 Try.prog tab kRd rdL (k + 1) (rdS (by1 b) 1 dv) (LH1 (celE acc) n) (rdX1 (rdF (elF (decL 3) false) (m + 1) n b acc) dv').1 (rdX1 (rdF (elF (decL 3) false) (m + 1) n b acc) dv').2.1 (rdX1 (rdF (elF (decL 3) false) (m + 1) n b acc) dv').2.2 ∧ ((rdF (elF (decL 3) false) (m + 1) n b acc).2.1 = 0 → RowE 1 dv' (rdF (elF (decL 3) false) (m + 1) n b acc).1)
  | m, [], hm, n, acc, dv, hn, hd, hl => ⟨0, dv, GoesRK.last (zseeK_ok tab_ok mixed fun_ok noC_ok (rd1o noC (celE acc) (by1 []) n dv) (.cons rfl .nil)) (by intro h; cases h), fun _ => hd⟩
  | 0, c :: b, hm, _, _, _, _, _, _ => by simp at hm
  | m + 1, c :: b, hm, n, acc, dv, hn, hd, hl => by
    have lt : decide (((by1 (c :: b)).length : Int) > 0) = true := decide_eq_true (by rw [by1_length, List.length_cons]; omega)
    have hA := el_ans1 (celE acc) (celE_flat acc) n hn c b (by omega)
    have hle : ((elF (decL 3) false) n (c :: b)).2.2.2 ≤ 64 := el_le (fun n c hn => decL_le 3 n c hn) hn
    have hrl := el_rest (rd := (decL 3)) (last := false) (n := n) (c := c) (t := b)
    rw [show rdF (elF (decL 3) false) (m + 1 + 1) n (c :: b) acc = (match ((elF (decL 3) false) n (c :: b)).2.2.1 with
      | 0 => rdF (elF (decL 3) false) (m + 1) ((elF (decL 3) false) n (c :: b)).2.2.2 ((elF (decL 3) false) n (c :: b)).2.1 (acc ++ [((elF (decL 3) false) n (c :: b)).1])
      | e + 1 => ([], e + 1, ((elF (decL 3) false) n (c :: b)).2.2.2)) from rfl]
    generalize (elF (decL 3) false) n (c :: b) = res at hA hle hrl ⊢
    obtain ⟨⟨i, e, y, s⟩, rest, er, n2⟩ := res
    dsimp only at hA hle hrl ⊢
    simp only [List.length_cons] at hrl hm hl
    have hC : ConOk Try.prog (oneC fEl [.ptr 0 0, byL (c :: b), iN 1] (LH1 (celE acc) n) (.tuple [.agg (elD (.mk i e y s)), byL rest, iN er]) (LH1 (celE acc) n2)) := oneC_ok hA (Nat.le_refl _) rfl rfl
    have hcall := oneC_at fEl [.ptr 0 0, byL (c :: b), iN 1] (LH1 (celE acc) n) (.tuple [.agg (elD (.mk i e y s)), byL rest, iN er]) (LH1 (celE acc) n2)
    cases er with
    | succ er => exact ⟨0, dv, GoesRK.last (zgmK_ok tab_ok mixed fun_ok hC (rd1e (oneC fEl [.ptr 0 0, byL (c :: b), iN 1] (LH1 (celE acc) n) (.tuple [.agg (elD (.mk i e y s)), byL rest, iN (er + 1)]) (LH1 (celE acc) n2)) (celE acc) (by1 (c :: b)) n dv n2 (er + 1) i e (by1 y) (elR s) (by1 rest)) (.cons (flatIn_nil _) (.cons lt (.cons hcall (.cons (bne_iff_ne.2 (by omega)) .nil))))) (by intro h; cases h), fun h => (by cases h)⟩
    | zero =>
      have hfl : FlR (celE acc ++ elD (.mk i e y s)) := fun a ha => by
        rcases List.mem_append.1 ha with ha | ha
        · exact celE_flat acc a ha
        · exact elD_flat (.mk i e y s) a ha
      obtain ⟨k, dv', g, hq⟩ := rd_loop1 m rest (by omega) n2 (acc ++ [.mk i e y s]) (sl4 1 (acc.length + 1)) hle (.inl (by rw [List.length_append]; rfl)) (by rw [List.length_append]; simp; omega)
      rw [celE_snoc] at g
      refine ⟨k + 1, dv', ?_, hq⟩
      rcases hd with rfl | ⟨rfl, rfl⟩
      · exact GoesRK.step (zgmK_ok tab_ok mixed fun_ok hC (rd1s (oneC fEl [.ptr 0 0, byL (c :: b), iN 1] (LH1 (celE acc) n) (.tuple [.agg (elD (.mk i e y s)), byL rest, iN 0]) (LH1 (celE acc) n2)) (celE acc) (by1 (c :: b)) n acc.length n2 i e (by1 y) (elR s) (by1 rest)) (.cons (flatIn_cons rfl hfl (flatIn_nil _)) (.cons lt (.cons hcall (.cons (app_elG (id := 1) (id2 := 3) (o := oEl 1 (celE acc)) (o2 := oEl 0 (elC i e (by1 y) (elR s))) rfl rfl rfl rfl (celE_length acc) rfl rfl rfl (by omega)) .nil))))) g
      · exact GoesRK.step (zgmK_ok tab_ok mixed fun_ok hC (rd1n (oneC fEl [.ptr 0 0, byL (c :: b), iN 1] (LH1 (celE []) n) (.tuple [.agg (elD (.mk i e y s)), byL rest, iN 0]) (LH1 (celE []) n2)) (celE []) (by1 (c :: b)) n n2 i e (by1 y) (elR s) (by1 rest)) (.cons (flatIn_cons rfl (elD_flat (.mk i e y s)) (flatIn_nil _)) (.cons lt (.cons hcall (.cons (by show builtinD tab _ .append _ tyEE = _; kernel_rfl) .nil))))) g
theorem rd_ans1 (n : Nat) (hn : n ≤ 64) (b : List UInt8) (hb : b.length ≤ 2 ^ 29) : AnsK 1 Try.prog fRd [byL b, iN 1, fnE] (RH1 n) (.tuple [elsD (decL 4 n b).1, iN (decL 4 n b).2.1]) (RH1 (decL 4 n b).2.2) := by
  obtain ⟨k, dv, g, hq⟩ := rd_loop1 b.length b (Nat.le_refl _) n [] .nil hn (.inr ⟨rfl, rfl⟩) (by simpa using hb)
  show AnsK _ _ _ _ _ (.tuple [elsD (rdF (elF (decL 3) false) (b.length + 1) n b []).1, iN (rdF (elF (decL 3) false) (b.length + 1) n b []).2.1]) (RH1 (rdF (elF (decL 3) false) (b.length + 1) n b []).2.2)
  have herr := rdF_err (elF (decL 3) false) (b.length + 1) n b []
  generalize rdF (elF (decL 3) false) (b.length + 1) n b [] = res at g hq herr ⊢
  obtain ⟨l, er, n2⟩ := res
  have pad : SeenK 1 (rdS (by1 b) 1 .nil) (RH1 n) (rdS (by1 b) 1 .nil) (LH1 (celE []) n) := seenK_pad (K := 1) (n := 1) (l := [oCt n]) (ls := []) (oEl 1 []) rfl
  have g := g.goes.pre pad
  cases er with
  | zero =>
    have hR := hq rfl
    have z := zansK_ok tab_ok mixed fun_ok noC_ok (rd1G noC (celE l) (by1 b) n dv n2) (.cons g .nil)
    dsimp only at hR ⊢
    rcases hR with rfl | ⟨rfl, rfl⟩
    · exact z.melt (L := [0]) (fl := []) rfl rfl (flatIn_nil _) (.frz _ _ (FrzL.tuple ⟨frz_el (k := 1) (by kernel_rfl) (by kernel_rfl) (by decide) rfl, FrzD.int' _ _, trivial⟩))
    · exact (z.melt (L := [0]) (fl := []) rfl rfl (flatIn_nil _) (d' := .tuple [.nil, iN 0]) (.frz _ _ (FrzL.tuple ⟨.flat _ rfl, FrzD.int' _ _, trivial⟩))).seeD fun E w v => see_t2 (fun _ h => vr_nl h) v
  | succ er =>
    obtain rfl : l = [] := herr.resolve_left (by simp)
    have z := zansK_ok tab_ok mixed fun_ok noC_ok (rd1B noC (by1 b) n n2 (er + 1)) (.cons g .nil)
    exact z.seeD fun E w v => see_t2 (fun _ h => vr_nl h) v
end
end Go.Proofs.Ytejlbkhddehaiaa
