/- Decode: a contract; ElementBack over data. -/
import Derived.Test.YtkcldejfmmeoaaaFg
namespace Go.Proofs.Ytkcldejfmmeoaaa
open Go.RowKit

noncomputable section
abbrev fDe : FuncId := 23
set_option maxRecDepth 1000000 in
theorem de_run (C : ConF) (xs ls : List (List DV)) (e n : Nat) : zflat (zans Try.prog tab ftab C fDe [.list 1 xs] [(7, .h (.tuple [.list 4 ls, iN e]) (RH1 n) (some 0))]) = some (.tuple [.list 4 ls, iN e], (C fRd [.list 1 xs, iN 1, fnE] (RH1 0) = some (.tuple [.list 4 ls, iN e], RH1 n, some 0)) :: []) := by kernel_rfl
/-- what Decode answers -/
def deL (b : List UInt8) : List El := (decL 4 0 b).1
def deE (b : List UInt8) : Nat := (decL 4 0 b).2.1
def deD (b : List UInt8) : DV := .tuple [elsD (deL b), iN (deE b)]
abbrev Bm : Type := {b : List UInt8 // b.length ≤ 2 ^ 29}
theorem de_ans (x : Bm) : Ans Try.prog fDe [byL x.1] (deD x.1) ⟨0, [], []⟩ := by
  have hA := rd_ans1 0 (by decide) x.1 x.2
  exact zflat_ok tab_ok mixed fun_ok (oneC_ok hA (Nat.le_refl _) rfl rfl) (de_run (oneC fRd [byL x.1, iN 1, fnE] (RH1 0) (.tuple [elsD (decL 4 0 x.1).1, iN (decL 4 0 x.1).2.1]) (RH1 (decL 4 0 x.1).2.2)) (by1 x.1) (elR (decL 4 0 x.1).1) (decL 4 0 x.1).2.1 (decL 4 0 x.1).2.2) (.cons (oneC_at _ _ _ _ _) .nil)
def cDe : ConF := liftC (eqC fDe (fun x : Bm => [byL x.1]) fun x => (deD x.1, ⟨0, [], []⟩))
theorem cDe_ok : ConOk Try.prog cDe := liftC_ok (eqC_ok de_ans fun _ => rfl)
theorem cDe_at (hp : Hp) (b : List UInt8) (h : b.length ≤ 2 ^ 29) : cDe fDe [byL b] hp = some (deD b, hp, none) :=
  lift_at (A := fun x : Bm => [byL x.1]) (D := fun x => deD x.1) (fun x y hxy => by
    simp only [List.cons.injEq, and_true, byL, DV.list.injEq, true_and] at hxy
    rw [by1_inj hxy]) hp ⟨b, h⟩ rfl rfl
/-! ### What is not too great -/
theorem wgtL_dep {k : Nat} {r : Int → List El → Option Int} : ∀ {l : List El} {b c : Int}, (∀ {b c s}, r b s = some c → depA s ≤ k) → wgtL r b l = some c → depA l ≤ k + 1
  | [], b, c, _, _ => Nat.zero_le _
  | .mk i e d s :: l, b, c, hr, h => by
    unfold wgtL at h
    split at h
    · cases h
    · split at h
      · cases h
      · rename_i b3 h3
        have h1 := hr h3
        have h2 := wgtL_dep (l := l) hr h
        show max (depA s + 1) (depA l) ≤ k + 1
        omega
theorem wgt_dep : ∀ {k : Nat} {b c : Int} {l : List El}, wgt k b l = some c → depA l ≤ k
  | 0, b, c, [], _ => Nat.le_refl _
  | 0, b, c, _ :: _, h => by cases h
  | k + 1, b, c, l, h => by
    unfold wgt at h
    split at h
    · cases h
    · exact wgtL_dep (fun h => wgt_dep h) h
theorem dep_of {l : List El} (hg : grB l = false) : depA l ≤ 10 := by
  unfold grB at hg
  cases hw : wgt 10 20000 l with
  | none => rw [hw] at hg; cases hg
  | some c => exact wgt_dep hw
/-! ### Encode and Decode -/
theorem szR_of {l : List El} {d : Nat} (h : Good l 1 0 d) : (szR l).2 = 0 := by
  obtain ⟨z, hz⟩ := h.s
  unfold szR
  rw [h.f, h.v]
  dsimp only
  rw [hz]
theorem enD_ok {l : List El} (h : (szR l).2 = 0) : enD l = .tuple [byL (encA l), iN 0] := by
  unfold enD
  rw [h]
  rfl
theorem enD_no {l : List El} {e : Nat} (h : (szR l).2 = e + 1) : enD l = .tuple [.list 1 [], iN (e + 1)] := by
  unfold enD
  rw [h]
  rfl
theorem good_of {l : List El} (h : (szR l).2 = 0) : ∃ n, Good l 1 0 n := by
  obtain ⟨q1, q2, q3, q4⟩ := szR_zero h
  exact ⟨(vfA l 1 0).1, by rw [← q1], q2, _, q3⟩
theorem enc_len {l : List El} (h : (szR l).2 = 0) : (encA l).length ≤ 2 ^ 20 := by
  obtain ⟨q1, q2, q3, q4⟩ := szR_zero h
  have h1 := szA_le l q3
  have h2 := vf_len l (by decide) q1
  omega
/-- what Encode takes is decoded again -/
theorem de_en {l : List El} (h : (szR l).2 = 0) : deD (encA l) = .tuple [elsD l, iN 0] := by
  obtain ⟨q1, q2, q3, q4⟩ := szR_zero h
  unfold deD deL deE
  rw [dec_enc 4 (by decide) l 0 q1 q2 ⟨_, q3⟩]
/-- what Decode gives is encoded again -/
theorem en_de {b : List UInt8} (h : deE b = 0) : b = encA (deL b) ∧ (szR (deL b)).2 = 0 := by
  have hd : decL 4 0 b = (deL b, 0, (decL 4 0 b).2.2) := by
    unfold deE at h
    exact Prod.ext rfl (Prod.ext h rfl)
  obtain ⟨h1, h2⟩ := enc_dec 4 (by decide) 0 b _ _ (by decide) (fun h => by cases h) hd
  exact ⟨h1, szR_of h2⟩
theorem good_sm {l : List El} (h : (szR l).2 = 0) : SmL l ∧ depA l ≤ 2 ^ 39 := by
  obtain ⟨q1, q2, q3, q4⟩ := szR_zero h
  have := sm_goods l q2 ⟨_, q3⟩ 1 0 q1 (by decide) (by decide)
  exact ⟨this.1, by omega⟩
theorem de_none {b : List UInt8} {e : Nat} (h : deE b = e + 1) : deL b = [] := by
  have := rdF_err (elF (decL 3) (3 == 0)) (b.length + 1) 0 b []
  rcases this with h1 | h1
  · have h2 : deE b = 0 := h1
    omega
  · exact h1
/-! ### The law's paths -/
def cBk : ConF := orK cAl (orK cGr (orK cEn (orK cDe cSz)))
theorem cBk_ok : ConOk Try.prog cBk := orK_ok cAl_ok (orK_ok cGr_ok (orK_ok cEn_ok (orK_ok cDe_ok cSz_ok)))
theorem cBk_al : cBk fAl [] h00 = some (.bool true, h00, none) := orK_left rfl
theorem cBk_gr (hp : Hp) (l : ElA) : cBk fGr [elsD l.1] hp = some (.bool (grB l.1), hp, none) := orK_right rfl (orK_left (cGr_at hp l))
theorem cBk_en (hp : Hp) (l : List El) (h : SmL l ∧ depA l ≤ 2 ^ 39) : cBk fEn [elsD l] hp = some (enD l, hp, none) := orK_right rfl (orK_right (lift_oth (eqC_other (by kernel_rfl))) (orK_left (cEn_at hp l h)))
theorem cBk_de (hp : Hp) (b : List UInt8) (h : b.length ≤ 2 ^ 29) : cBk fDe [byL b] hp = some (deD b, hp, none) := orK_right rfl (orK_right (lift_oth (eqC_other (by kernel_rfl))) (orK_right (lift_oth (eqC_other (by kernel_rfl))) (orK_left (cDe_at hp b h))))
theorem cBk_sa {hp : Hp} {args : List DV} {r : DV × Hp × Mut} (h : cSz fSa args hp = some r) : cBk fSa args hp = some r := orK_right rfl (orK_right (lift_oth (eqC_other (by kernel_rfl))) (orK_right (lift_oth (eqC_other (by kernel_rfl))) (orK_right (lift_oth (eqC_other (by kernel_rfl))) h)))
abbrev fBk : FuncId := 5
section
variable (C : ConF)
abbrev aQ (f : FuncId) (args : List DV) (d : DV) : Prop := C f args h00 = some (d, h00, none)
set_option maxRecDepth 1000000 in
theorem bkG (xs bs : List (List DV)) : zflat (zans Try.prog tab ftab C fBk [.list 4 xs, .list 1 bs] [(14, .q (.bool true)), (16, .q (.bool true))]) = some (.bool true, aQ C fAl [] (.bool true) :: aQ C fGr [.list 4 xs] (.bool true) :: []) := by kernel_rfl
set_option maxRecDepth 1000000 in
theorem bkL (xs bs : List (List DV)) : zflat (zans Try.prog tab ftab C fBk [.list 4 xs, .list 1 bs] [(14, .q (.bool true)), (16, .q (.bool false)), (20, .b true)]) = some (.bool true, aQ C fAl [] (.bool true) :: aQ C fGr [.list 4 xs] (.bool false) :: (decide ((bs.length : Int) > 20000) = true) :: []) := by kernel_rfl
/-- the first half: what is encoded is decoded; or there is an error -/
def bkY (cs xs : List (List DV)) (ms : List (List DV)) (f : Nat) : Nat → Yath → Yath
  | 0, t => (29, .q (.tuple [.list 1 cs, iN 0])) :: (34, .q (.tuple [.list 4 xs, iN 0])) :: (45, .q (.bool true)) :: t
  | e + 1, t => (29, .q (.tuple [.list 1 [], iN (e + 1)])) :: (34, .q (.tuple [.list 4 ms, iN f])) :: (38, .b false) :: t
def bkP (cs xs : List (List DV)) (ms : List (List DV)) (f : Nat) : Nat → List Prop → List Prop
  | 0, t => aQ C fEn [.list 4 xs] (.tuple [.list 1 cs, iN 0]) :: aQ C fDe [.list 1 cs] (.tuple [.list 4 xs, iN 0]) :: aQ C fSa [.list 4 xs, .list 4 xs] (.bool true) :: t
  | e + 1, t => aQ C fEn [.list 4 xs] (.tuple [.list 1 [], iN (e + 1)]) :: aQ C fDe [.list 1 []] (.tuple [.list 4 ms, iN f]) :: ((((e + 1 : Nat) : Int) == 0) = false) :: t
abbrev bkT (bs : List (List DV)) (s : ByteArray) : List Prop := (convD tab h00 25 9 (.list 1 bs) = some (.str s, h00, none)) :: (convD tab h00 25 9 (.list 1 bs) = some (.str s, h00, none)) :: (eqBytes s.data.toList s.data.toList = true) :: []
abbrev bkN (xs bs : List (List DV)) (t : List Prop) : List Prop := aQ C fAl [] (.bool true) :: aQ C fGr [.list 4 xs] (.bool false) :: (decide ((bs.length : Int) > 20000) = false) :: t
set_option maxRecDepth 1000000 in
theorem bk1 (xs bs cs ms ns : List (List DV)) (f e : Nat) (s : ByteArray) : zflat (zans Try.prog tab ftab C fBk [.list 4 xs, .list 1 bs] ((14, .q (.bool true)) :: (16, .q (.bool false)) :: (20, .b false) :: bkY cs xs ms f e [(51, .q (.tuple [.list 4 ns, iN 0])), (64, .q (.tuple [.list 1 bs, iN 0])), (74, .h (.str s) h00 none), (76, .h (.str s) h00 none), (77, .b true)])) =
    some (.bool true, bkN C xs bs (bkP C cs xs ms f e (aQ C fDe [.list 1 bs] (.tuple [.list 4 ns, iN 0]) :: aQ C fEn [.list 4 ns] (.tuple [.list 1 bs, iN 0]) :: bkT bs s))) := by cases e <;> kernel_rfl
set_option maxRecDepth 1000000 in
theorem bk2 (xs bs cs ms : List (List DV)) (f e g : Nat) : zflat (zans Try.prog tab ftab C fBk [.list 4 xs, .list 1 bs] ((14, .q (.bool true)) :: (16, .q (.bool false)) :: (20, .b false) :: bkY cs xs ms f e [(51, .q (.tuple [.list 4 [], iN (g + 1)])), (55, .b true)])) =
    some (.bool true, bkN C xs bs (bkP C cs xs ms f e (aQ C fDe [.list 1 bs] (.tuple [.list 4 [], iN (g + 1)]) :: ((((g + 1 : Nat) : Int) != 0) = true) :: []))) := by cases e <;> kernel_rfl
end
theorem bk_all (x : ElA) (b : List UInt8) : Ans Try.prog fBk [elsD x.1, byL b] (.bool true) ⟨0, [], []⟩ := by
  have hg := cBk_gr h00 x
  obtain ⟨l, hl1, hl2⟩ := x
  have hlb := by1_length b
  cases hq : grB l with
  | true =>
    rw [hq] at hg
    exact zflat_ok tab_ok mixed fun_ok cBk_ok (bkG cBk (elR l) (by1 b)) (.cons cBk_al (.cons hg .nil))
  | false =>
    rw [hq] at hg
    by_cases hb : b.length > 20000
    · exact zflat_ok tab_ok mixed fun_ok cBk_ok (bkL cBk (elR l) (by1 b)) (.cons cBk_al (.cons hg (.cons (decide_eq_true (by omega)) .nil)))
    have n1 : decide (((by1 b).length : Int) > 20000) = false := decide_eq_false (by omega)
    obtain ⟨hs, _⟩ := small_of hl2 hq
    have hdep := dep_of hq
    have hen := cBk_en h00 l ⟨hs, by omega⟩
    have hde := cBk_de h00 b (by omega)
    have first : ∀ {t : List Prop}, AskedP t → AskedP (bkP cBk (by1 (encA l)) (elR l) (elR (deL [])) (deE []) (szR l).2 t) := fun ht => by
      cases he : (szR l).2 with
      | zero =>
        have h1 := cBk_de h00 (encA l) (by have := enc_len he; omega)
        rw [de_en he] at h1
        rw [enD_ok he] at hen
        have h2 := cBk_sa (cSz_at (hp := h00) hs hs (frz_list _ 4 _) (frz_list _ 4 _))
        rw [eqB_t rfl] at h2
        exact .cons hen (.cons h1 (.cons h2 ht))
      | succ e =>
        rw [enD_no he] at hen
        exact .cons hen (.cons (cBk_de h00 [] (by simp)) (.cons (beq_false_of_ne (by omega)) ht))
    cases hg0 : deE b with
    | zero =>
      obtain ⟨q1, q2⟩ := en_de hg0
      have hdd : deD b = .tuple [elsD (deL b), iN 0] := by unfold deD; rw [hg0]
      have he2 := cBk_en h00 (deL b) (good_sm q2)
      rw [enD_ok q2, ← q1] at he2
      rw [hdd] at hde
      exact zflat_ok tab_ok mixed fun_ok cBk_ok (bk1 cBk (elR l) (by1 b) (by1 (encA l)) (elR (deL [])) (elR (deL b)) (deE []) (szR l).2 ⟨b.toArray⟩) (.cons cBk_al (.cons hg (.cons n1 (first (.cons hde (.cons he2 (.cons (conv_str (.inl rfl)) (.cons (conv_str (.inl rfl)) (.cons (by rw [eqBytes_iff]; simp) .nil)))))))))
    | succ g =>
      have hdd : deD b = .tuple [elsD [], iN (g + 1)] := by unfold deD; rw [hg0, de_none hg0]
      rw [hdd] at hde
      exact zflat_ok tab_ok mixed fun_ok cBk_ok (bk2 cBk (elR l) (by1 b) (by1 (encA l)) (elR (deL [])) (deE []) (szR l).2 g) (.cons cBk_al (.cons hg (.cons n1 (first (.cons hde (.cons (bne_iff_ne.2 (by omega)) .nil))))))
end
end Go.Proofs.Ytkcldejfmmeoaaa
