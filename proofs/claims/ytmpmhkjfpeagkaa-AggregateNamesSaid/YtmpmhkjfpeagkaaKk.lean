/- AggregateWhole and AggregateFront over data. -/
import Derived.Test.YtmpmhkjfpeagkaaKj
namespace Go.Proofs.Ytmpmhkjfpeagkaa
open Go.RowKit

noncomputable section
/-! ### Rows of bytes of one's own -/
/-- a slice of one's own that begins its object -/
def SbO (e : TypeId) (hp : Hp) (d : DV) (cl : List DV) : Prop := ∃ id o, d = .sl id 0 1 cl.length cl.length ∧ hp.get id = some o ∧ (o.k = 0 ∨ o.k = 1 ∨ o.k = 3) ∧ o.t = e ∧ o.cs = cl
theorem SbO.push {e : TypeId} {hp : Hp} {d : DV} {cl : List DV} (h : SbO e hp d cl) (o : Ob) : SbO e (hp.push o) d cl := by
  obtain ⟨id, o', h0, h1, h2⟩ := h
  refine ⟨id, o', h0, ?_, h2⟩
  rw [Hp.get_push, if_neg (Nat.ne_of_lt (Hp.get_lt h1))]
  exact h1
/-- the caller's loops stay -/
theorem appO {e : TypeId} {j : TI} {z : DV} {zs : List DV} (hz : j.zero = z :: zs) (hs : j.size = 1) (hby : j.bytes ≤ 64) {hp : Hp} {d : DV} {cl news : List DV} (hd : SbO e hp d cl) {m : Nat} (hm : news.length = m) (hl : cl.length + m ≤ 2 ^ 40) :
    ∃ d' hp' mm, appH hp e j d m news = some (d', hp', mm) ∧ SbO e hp' d' (cl ++ news) ∧ hp'.ls = hp.ls := by
  obtain ⟨id, o, rfl, h1, h2, h3, h4⟩ := hd
  cases m with
  | zero =>
    obtain rfl : news = [] := List.eq_nil_of_length_eq_zero hm
    rw [List.append_nil]
    refine ⟨_, hp, none, ?_, ⟨id, o, rfl, h1, h2, h3, h4⟩, rfl⟩
    simp only [appH, hz, hs]
  | succ m =>
    have q0 : Nat.beq 1 0 = false := rfl
    have q1 : Nat.beq 1 1 = true := rfl
    have hle : (cl ++ news).length = cl.length + (m + 1) := by rw [List.length_append, hm]
    have hf := fitB_le2 (n := cl.length + (m + 1)) hl hby
    have hb : Nat.ble (cl.length + (m + 1)) cl.length = false := bleF (by omega)
    have he : Nat.ble (0 + cl.length * 1) o.cs.length = true := bleT (by rw [h4]; omega)
    have ht : (o.cs.drop 0).take (cl.length * 1) = cl := by rw [h4, List.drop_zero, Nat.mul_one, List.take_length]
    have hq : Nat.beq (0 + cl.length * 1) o.cs.length = true := beqT (by rw [h4]; omega)
    have hte : Nat.beq o.t e = true := beqT h3
    rcases h2 with h2 | h2 | h2
    · refine ⟨.sl hp.n 0 1 (cl.length + (m + 1)) (cl.length + (m + 1)), pushH hp 1 e ((o.cs.drop 0).take (cl.length * 1) ++ news), none, ?_, ⟨hp.n, _, by rw [hle], get_push_new _ _, .inr (.inl rfl), rfl, by rw [ht]⟩, rfl⟩
      simp only [appH, hz, hs, q0, q1, h1, hb, he, hf, h2]
    · refine ⟨.sl hp.n 0 1 (cl.length + (m + 1)) (cl.length + (m + 1)), (hp.put id ⟨2, o.r, o.t, o.cs⟩).push ⟨3, rootOf 1 o.r id, o.t, o.cs.drop 0 ++ news⟩, mmin (some (rootOf 1 o.r id)) (some id), ?_, ⟨hp.n, _, by rw [hle], get_push_new (hp.put id _) _, .inr (.inr rfl), h3, by simp [h4]⟩, rfl⟩
      simp only [appH, hz, hs, q0, q1, h1, hb, he, hf, h2, hq, hte]
    · refine ⟨.sl hp.n 0 1 (cl.length + (m + 1)) (cl.length + (m + 1)), (hp.put id ⟨2, o.r, o.t, o.cs⟩).push ⟨3, rootOf 3 o.r id, o.t, o.cs.drop 0 ++ news⟩, mmin (some (rootOf 3 o.r id)) (some id), ?_, ⟨hp.n, _, by rw [hle], get_push_new (hp.put id _) _, .inr (.inr rfl), h3, by simp [h4]⟩, rfl⟩
      simp only [appH, hz, hs, q0, q1, h1, hb, he, hf, h2, hq, hte]
theorem app_own {hp : Hp} {d x : DV} {bs cs : List UInt8} (h : SbO 5 hp d (celB bs)) (hx : contD hp 1 x = some (cs.length, celB cs)) (hl : bs.length + cs.length ≤ 2 ^ 40) : ∃ d' h' m, builtinD tab hp .append [d, x] tyBB = some (d', h', m) ∧ SbO 5 h' d' (celB (bs ++ cs)) ∧ h'.ls = hp.ls := by
  rw [app_tab, hx, celB_append]
  exact appO (j := u8TI) (z := .int .u8 0) (zs := []) rfl rfl (by decide) h (celB_length cs) (by rw [celB_length]; exact hl)
theorem SbO.frz {hp : Hp} {d : DV} {bs : List UInt8} (h : SbO 5 hp d (celB bs)) : FrzD [] hp d (byL bs) := by
  obtain ⟨id, o, rfl, h1, h2, h3, h4⟩ := h
  rw [celB_length]
  refine frzD_bytes rfl h1 (by rcases h2 with h | h | h <;> omega) fun i b hb => ?_
  rw [h4]
  exact celB_get hb
theorem AnsH.frzA {P : Program} {f : FuncId} {a b d : DV} {hp1 hp' : Hp} (h : Ans P f [b] d hp') (hl : hp1.ls = []) (hf : FrzD [] hp1 a b) : AnsH P f [a] hp1 d hp' := by
  have hm := melt_nil hl
  refine ⟨h.1, fun W0 S0 E w vs hs hv => ?_⟩
  obtain ⟨v, vs', rfl, k1, k2⟩ := hv.uncons
  rw [k2.unnil]
  refine (h.2 W0 S0 (meltE E [] hp1) w [v] (hs_melt hs hm) (.cons (mlt_ok hs (.frz _ _ hf) k1) (.nil _ _))).mono ?_
  rintro e w' ⟨E', v, rfl, hg, hh, hvr⟩
  exact ⟨E', v, rfl, (gon_melt hm E w).trans hg, hh, hvr⟩
/-! ### AggregateWhole -/
def cLw : ConF := orK cAl (orK cGp (orK cJf (orK cSn (orK cSa cSt))))
theorem cLw_ok : ConOk Try.prog cLw := orK_ok cAl_ok (orK_ok cGp_ok (orK_ok cJf_ok (orK_ok cSn_ok (orK_ok cSa_ok cSt_ok))))
theorem cLw_al (hp : Hp) : cLw fAl [] hp = some (.bool true, hp, none) := orK_left rfl
theorem cLw_gp (hp : Hp) (l : List (List UInt8)) (h : l.length < 2 ^ 63) : cLw fGp [fsD l] hp = some (.bool (gpB l), hp, none) := orK_right rfl (orK_left (cGp_at hp l h))
theorem cLw_jo (hp : Hp) (l : List (List UInt8)) : cLw fJo [fsD l] hp = some (joD l, hp, none) := orK_right rfl (orK_right (lift_oth (eqC_other (by kernel_rfl))) (orK_left (cJf_at hp l)))
theorem cLw_sn (hp : Hp) (b : List UInt8) (h : b.length < 2 ^ 30) : cLw fSn [byL b] hp = some (snD b, hp, none) := orK_right rfl (orK_right (lift_oth (eqC_other (by kernel_rfl))) (orK_right (lift_oth (eqC_other (by kernel_rfl))) (orK_left (cSn_at hp b h))))
theorem cLw_sa (hp : Hp) (l : List (List UInt8)) (h : l.length ≤ 256) : cLw fSa [fsD l, fsD l] hp = some (.bool true, hp, none) := orK_right rfl (orK_right (lift_oth (eqC_other (by kernel_rfl))) (orK_right (lift_oth (eqC_other (by kernel_rfl))) (orK_right (lift_oth (eqC_other (by kernel_rfl))) (orK_left (cSa_at hp l h)))))
theorem cLw_st (hp : Hp) (l : List (List UInt8)) (h : okPs l) : cLw fSt [fsD l] hp = some (.list 1 (bI (sts l l.length)), hp, none) := orK_right rfl (orK_right (lift_oth (eqC_other (by kernel_rfl))) (orK_right (lift_oth (eqC_other (by kernel_rfl))) (orK_right (lift_oth (eqC_other (by kernel_rfl))) (orK_right (lift_oth (eqC_other (by kernel_rfl))) (cSt_at hp l h)))))
abbrev fWh : FuncId := 6
abbrev lwA (xs : List (List DV)) (g : Bool) (t : List Prop) : List Prop := (cLw fAl [] h00 = some (.bool true, h00, none)) :: (cLw fGp [.list 1 xs] h00 = some (.bool g, h00, none)) :: t
set_option maxRecDepth 1000000 in
theorem wh1 (xs : List (List DV)) : zflat (zans Try.prog tab ftab cLw fWh [.list 1 xs] [(8, .q (.bool true)), (10, .q (.bool true))]) = some (.bool true, lwA xs true []) := by kernel_rfl
set_option maxRecDepth 1000000 in
theorem wh2 (xs : List (List DV)) (e : Nat) : zflat (zans Try.prog tab ftab cLw fWh [.list 1 xs] [(8, .q (.bool true)), (10, .q (.bool false)), (18, .q (.tuple [.list 1 [], iN e])), (22, .b true)]) = some (.bool true, lwA xs false ((cLw fJo [.list 1 xs] h00 = some (.tuple [.list 1 [], iN e], h00, none)) :: (((e : Int) != 0) = true) :: [])) := by kernel_rfl
set_option maxRecDepth 1000000 in
theorem wh3 (xs js : List (List DV)) : zflat (zans Try.prog tab ftab cLw fWh [.list 1 xs] [(8, .q (.bool true)), (10, .q (.bool false)), (18, .q (.tuple [.list 1 js, iN 0])), (31, .q (.tuple [.list 1 xs, iN 0])), (38, .q (.bool true))]) = some (.bool true, lwA xs false ((cLw fJo [.list 1 xs] h00 = some (.tuple [.list 1 js, iN 0], h00, none)) :: (cLw fSn [.list 1 js] h00 = some (.tuple [.list 1 xs, iN 0], h00, none)) :: (cLw fSa [.list 1 xs, .list 1 xs] h00 = some (.bool true, h00, none)) :: [])) := by kernel_rfl
theorem wh_all (l : List (List UInt8)) (hl : l.length < 2 ^ 63) : Ans Try.prog fWh [fsD l] (.bool true) ⟨0, [], []⟩ := by
  have al := cLw_al h00
  have gp := cLw_gp h00 l hl
  have jo := cLw_jo h00 l
  cases hg : gpB l with
  | true =>
    rw [hg] at gp
    exact zflat_ok tab_ok mixed fun_ok cLw_ok (wh1 (fs1 l)) (.cons al (.cons gp .nil))
  | false =>
    rw [hg] at gp
    unfold joD at jo
    cases he : joE l with
    | succ e =>
      rw [he] at jo
      exact zflat_ok tab_ok mixed fun_ok cLw_ok (wh2 (fs1 l) (e + 1)) (.cons al (.cons gp (.cons jo (.cons (bne_iff_ne.2 (by omega)) .nil))))
    | zero =>
      rw [he] at jo
      obtain ⟨h1, h2, h3⟩ := joE_zero he
      have sn := cLw_sn h00 (jn l) (by omega)
      unfold snD at sn
      rw [sc_all h1.2] at sn
      exact zflat_ok tab_ok mixed fun_ok cLw_ok (wh3 (fs1 l) (by1 (jn l))) (.cons al (.cons gp (.cons jo (.cons sn (.cons (cLw_sa h00 l (by have := h1.1; omega)) .nil)))))
end
end Go.Proofs.Ytmpmhkjfpeagkaa
