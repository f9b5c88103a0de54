/- AggregateBack over data. -/
import Derived.Test.YtmpmhkjfpeagkaaYg
namespace Go.Proofs.Ytmpmhkjfpeagkaa
open Go.RowKit

noncomputable section
def cBa : ConF := orK cAl (orK cGk (orK cPa (orK cUn cSm)))
theorem cBa_ok : ConOk Try.prog cBa := orK_ok cAl_ok (orK_ok cGk_ok (orK_ok cPa_ok (orK_ok cUn_ok cSm_ok)))
theorem cBa_al (hp : Hp) : cBa fAl [] hp = some (.bool true, hp, none) := orK_left rfl
theorem cBa_gk (hp : Hp) (l : List Pk) (h : l.length < 2 ^ 63) : cBa fGk [pksD l] hp = some (.bool (gkB l), hp, none) := orK_right rfl (orK_left (cGk_at hp l h))
theorem cBa_pa (hp : Hp) (l : List Pk) : cBa fPa [pksD l] hp = some (paD l, hp, none) := orK_right rfl (orK_right (lift_oth (eqC_other (by kernel_rfl))) (orK_left (cPa_at hp l rfl)))
theorem cBa_un (hp : Hp) (b : List UInt8) (h : b.length < 2 ^ 30) : cBa fUn [byL b] hp = some (upD b, hp, none) := orK_right rfl (orK_right (lift_oth (eqC_other (by kernel_rfl))) (orK_right (lift_oth (eqC_other (by kernel_rfl))) (orK_left (cUn_at hp b h))))
theorem cBa_sm (hp : Hp) (l : List Pk) (h : l.length < 2 ^ 62) : cBa fSm [pksD l, pksD l] hp = some (.bool true, hp, none) := orK_right rfl (orK_right (lift_oth (eqC_other (by kernel_rfl))) (orK_right (lift_oth (eqC_other (by kernel_rfl))) (orK_right (lift_oth (eqC_other (by kernel_rfl))) (cSm_at hp l h))))
abbrev fBa : FuncId := 5
abbrev aB (f : FuncId) (vs : List DV) (d : DV) : Prop := cBa f vs h00 = some (d, h00, none)
section
variable (xs ys js us : List (List DV)) (e g : Nat) (s : ByteArray)
abbrev baA (v : Bool) (t : List Prop) : List Prop := aB fAl [] (.bool true) :: aB fGk [.list 13 xs] (.bool v) :: t
set_option maxRecDepth 1000000 in
theorem ba1 : zflat (zans Try.prog tab ftab cBa fBa [.list 13 xs, .list 1 ys] [(14, .q (.bool true)), (16, .q (.bool true))]) = some (.bool true, baA xs true []) := by kernel_rfl
set_option maxRecDepth 1000000 in
theorem ba2 : zflat (zans Try.prog tab ftab cBa fBa [.list 13 xs, .list 1 ys] [(14, .q (.bool true)), (16, .q (.bool false)), (20, .b true)]) = some (.bool true, baA xs false ((decide ((ys.length : Int) > 2400) = true) :: [])) := by kernel_rfl
abbrev baP (t : Yath) : Yath := (14, .q (.bool true)) :: (16, .q (.bool false)) :: (20, .b false) :: t
abbrev baQ (t : List Prop) : List Prop := baA xs false ((decide ((ys.length : Int) > 2400) = false) :: t)
abbrev baE (t : Yath) : Yath := (29, .q (.tuple [.list 1 [], iN e])) :: (34, .q (.tuple [.nil, iN 10])) :: (38, .b false) :: t
abbrev baE' (t : List Prop) : List Prop := aB fPa [.list 13 xs] (.tuple [.list 1 [], iN e]) :: aB fUn [.list 1 []] (.tuple [.nil, iN 10]) :: (((e : Int) == 0) = false) :: t
abbrev baO (t : Yath) : Yath := (29, .q (.tuple [.list 1 js, iN 0])) :: (34, .q (.tuple [.list 13 xs, iN 0])) :: (45, .q (.bool true)) :: t
abbrev baO' (t : List Prop) : List Prop := aB fPa [.list 13 xs] (.tuple [.list 1 js, iN 0]) :: aB fUn [.list 1 js] (.tuple [.list 13 xs, iN 0]) :: aB fSm [.list 13 xs, .list 13 xs] (.bool true) :: t
abbrev baX : Yath := (51, .q (.tuple [.nil, iN g])) :: (55, .b true) :: []
abbrev baX' : List Prop := aB fUn [.list 1 ys] (.tuple [.nil, iN g]) :: (((g : Int) != 0) = true) :: []
abbrev baY : Yath := (51, .q (.tuple [.list 13 us, iN 0])) :: (64, .q (.tuple [.list 1 ys, iN 0])) :: (74, .h (.str s) h00 none) :: (76, .h (.str s) h00 none) :: (77, .b true) :: []
abbrev baY' : List Prop := aB fUn [.list 1 ys] (.tuple [.list 13 us, iN 0]) :: aB fPa [.list 13 us] (.tuple [.list 1 ys, iN 0]) :: (convD tab h00 22 9 (.list 1 ys) = some (.str s, h00, none)) :: (convD tab h00 22 9 (.list 1 ys) = some (.str s, h00, none)) :: (eqBytes s.data.toList s.data.toList = true) :: []
set_option maxRecDepth 1000000 in
theorem baEX : zflat (zans Try.prog tab ftab cBa fBa [.list 13 xs, .list 1 ys] (baP (baE e (baX g)))) = some (.bool true, baQ xs ys (baE' xs e (baX' ys g))) := by kernel_rfl
set_option maxRecDepth 1000000 in
theorem baEY : zflat (zans Try.prog tab ftab cBa fBa [.list 13 xs, .list 1 ys] (baP (baE e (baY ys us s)))) = some (.bool true, baQ xs ys (baE' xs e (baY' ys us s))) := by kernel_rfl
set_option maxRecDepth 1000000 in
theorem baOX : zflat (zans Try.prog tab ftab cBa fBa [.list 13 xs, .list 1 ys] (baP (baO xs js (baX g)))) = some (.bool true, baQ xs ys (baO' xs js (baX' ys g))) := by kernel_rfl
set_option maxRecDepth 1000000 in
theorem baOY : zflat (zans Try.prog tab ftab cBa fBa [.list 13 xs, .list 1 ys] (baP (baO xs js (baY ys us s)))) = some (.bool true, baQ xs ys (baO' xs js (baY' ys us s))) := by kernel_rfl
end
theorem up_ne : ∀ {r : Nat} {b : List UInt8} {e : Nat}, up r b = .inl e → e ≠ 0
  | 0, _, _, h => by cases h; decide
  | r + 1, b, e, h => by
    unfold up at h
    cases hp : rp b with
    | inl e' =>
      rw [hp] at h
      cases h
      exact rp_ne hp
    | inr x =>
      obtain ⟨p, rest⟩ := x
      rw [hp] at h
      cases rest with
      | nil => cases h
      | cons c t =>
        dsimp only at h
        cases hz : rz (c :: t) (mis (b.length - (c :: t).length)) with
        | inl e' =>
          rw [hz] at h
          cases h
          exact rz_ne hz
        | inr b' =>
          rw [hz] at h
          dsimp only at h
          cases hu : up r b' with
          | inl e' =>
            rw [hu] at h
            cases h
            exact up_ne hu
          | inr l => rw [hu] at h; cases h
theorem un_ne {b : List UInt8} {e : Nat} (h : un b = .inl e) : e ≠ 0 := by
  unfold un at h
  split at h
  · cases h; decide
  · exact up_ne h
theorem ba_all (l : List Pk) (hl : l.length < 2 ^ 63) (b : List UInt8) : Ans Try.prog fBa [pksD l, byL b] (.bool true) ⟨0, [], []⟩ := by
  have al := cBa_al h00
  have gk := cBa_gk h00 l hl
  have pa := cBa_pa h00 l
  have hb := by1_length b
  cases hg : gkB l with
  | true =>
    rw [hg] at gk
    exact zflat_ok tab_ok mixed fun_ok cBa_ok (ba1 (pkR l) (by1 b)) (.cons al (.cons gk .nil))
  | false =>
  rw [hg] at gk
  by_cases hlong : b.length > 2400
  · exact zflat_ok tab_ok mixed fun_ok cBa_ok (ba2 (pkR l) (by1 b)) (.cons al (.cons gk (.cons (decide_eq_true (by omega)) .nil)))
  have z1 : decide (((by1 b).length : Int) > 2400) = false := decide_eq_false (by omega)
  have ub := cBa_un h00 b (by omega)
  have cv : convD tab h00 22 9 (.list 1 (by1 b)) = some (.str ⟨b.toArray⟩, h00, none) := conv_str (.inl rfl)
  unfold paD at pa
  cases he : paE l with
  | succ e =>
    rw [he] at pa
    have un0 : aB fUn [.list 1 []] (.tuple [.nil, iN 10]) := cBa_un h00 [] (by decide)
    have q1 : (((e + 1 : Nat) : Int) == 0) = false := beq_false_of_ne (by omega)
    unfold upD at ub
    cases hu : un b with
    | inl g =>
      rw [hu] at ub
      exact zflat_ok tab_ok mixed fun_ok cBa_ok (baEX (pkR l) (by1 b) (e + 1) g) (.cons al (.cons gk (.cons z1 (.cons pa (.cons un0 (.cons q1 (.cons ub (.cons (ne0 (un_ne hu)) .nil))))))))
    | inr us =>
      rw [hu] at ub
      obtain ⟨h1, h2, h3, h4⟩ := un_back hu
      have pu := cBa_pa h00 us
      unfold paD at pu
      rw [h1, h2] at pu
      exact zflat_ok tab_ok mixed fun_ok cBa_ok (baEY (pkR l) (by1 b) (pkR us) (e + 1) ⟨b.toArray⟩) (.cons al (.cons gk (.cons z1 (.cons pa (.cons un0 (.cons q1 (.cons ub (.cons pu (.cons cv (.cons cv (.cons (eq_true _) .nil)))))))))))
  | zero =>
    rw [he] at pa
    obtain ⟨k1, k2, k3⟩ := paE_zero he
    have uj := cBa_un h00 (jnP l) (by omega)
    unfold upD at uj
    rw [un_pack he] at uj
    have sm := cBa_sm h00 l (by have := k1.1; omega)
    unfold upD at ub
    cases hu : un b with
    | inl g =>
      rw [hu] at ub
      exact zflat_ok tab_ok mixed fun_ok cBa_ok (baOX (pkR l) (by1 b) (by1 (jnP l)) g) (.cons al (.cons gk (.cons z1 (.cons pa (.cons uj (.cons sm (.cons ub (.cons (ne0 (un_ne hu)) .nil))))))))
    | inr us =>
      rw [hu] at ub
      obtain ⟨h1, h2, h3, h4⟩ := un_back hu
      have pu := cBa_pa h00 us
      unfold paD at pu
      rw [h1, h2] at pu
      exact zflat_ok tab_ok mixed fun_ok cBa_ok (baOY (pkR l) (by1 b) (by1 (jnP l)) (pkR us) ⟨b.toArray⟩) (.cons al (.cons gk (.cons z1 (.cons pa (.cons uj (.cons sm (.cons ub (.cons pu (.cons cv (.cons cv (.cons (eq_true _) .nil)))))))))))
end
end Go.Proofs.Ytmpmhkjfpeagkaa
