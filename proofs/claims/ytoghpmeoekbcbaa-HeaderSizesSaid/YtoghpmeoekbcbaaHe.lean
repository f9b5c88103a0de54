/- HeaderEnds, over the data of its arguments. -/
import Derived.Test.YtoghpmeoekbcbaaHb
import Derived.Test.YtoghpmeoekbcbaaCt
namespace Go.Proofs.Ytoghpmeoekbcbaa.headerEnds
open Go.RowKit

noncomputable section
def cAl : ConF := fixC 19 (.bool true)
set_option maxRecDepth 1000000 in
theorem alive_ans : zflat (zans Try.prog tab ftab cTb 19 [] []) = some (.bool true, []) := by kernel_rfl
theorem cAl_ok : ConOk Try.prog cAl := fixC_ok (zflat_ok tab_ok mixed fun_ok cTb_ok alive_ans .nil) rfl
def cEl : ConF := orK cAl (orK cEn cCk)
theorem cEl_ok : ConOk Try.prog cEl := orK_ok cAl_ok (orK_ok cEn_ok cCk_ok)
def adE (a b : Ad6) : Bool := (a.b0 == b.b0) && ((a.b1 == b.b1) && ((a.b2 == b.b2) && ((a.b3 == b.b3) && ((a.b4 == b.b4) && ((a.b5 == b.b5) && true)))))
theorem adE_refl (a : Ad6) : adE a a = true := by simp [adE]
def hd0 (to fr one _two : Ad6) : Hd := ⟨2, 0, true, false, false, false, false, false, false, 0, one, fr, to, noA, 0, 0, 0, 0, false, false⟩
def hd1 (to fr one two : Ad6) : Hd := ⟨2, 0, true, true, false, false, false, false, false, 0, two, one, to, fr, 0, 0, 0, 0, false, false⟩
def hd2 (to fr _one two : Ad6) : Hd := ⟨2, 0, false, true, false, false, false, false, false, 0, to, two, fr, noA, 0, 0, 0, 0, false, false⟩
def hd3 (to fr _one _two : Ad6) : Hd := ⟨2, 0, false, false, false, false, false, false, false, 0, to, fr, noA, noA, 0, 0, 0, 0, false, false⟩
def p1 (e0 n1 m1 m2 : Bool) : Yath := match e0, n1, m1, m2 with
  | false, _, _, _ => [(33, .b false)]
  | true, false, false, _ => [(33, .b true), (38, .b false), (49, .b false)]
  | true, false, true, false => [(33, .b true), (38, .b false), (49, .b true), (55, .b false)]
  | true, false, true, true => [(33, .b true), (38, .b false), (49, .b true), (55, .b true), (62, .b false)]
  | true, true, false, _ => [(33, .b true), (38, .b true), (44, .b false), (49, .b false)]
  | true, true, true, false => [(33, .b true), (38, .b true), (44, .b false), (49, .b true), (55, .b false)]
  | true, true, true, true => [(33, .b true), (38, .b true), (44, .b false), (49, .b true), (55, .b true), (62, .b false)]
def c1 (h : Hd) (e0 n1 m1 m2 : Bool) : List Prop := match e0, n1, m1, m2 with
  | false, _, _, _ => [(endE h == 0) = false]
  | true, false, false, _ => [(endE h == 0) = true, (!adE (endA h) h.a1) = false, (!adE (endB h) h.a2) = false]
  | true, false, true, false => [(endE h == 0) = true, (!adE (endA h) h.a1) = false, (!adE (endB h) h.a2) = true, (!adE (endB h) h.a3) = false]
  | true, false, true, true => [(endE h == 0) = true, (!adE (endA h) h.a1) = false, (!adE (endB h) h.a2) = true, (!adE (endB h) h.a3) = true, (!adE (endB h) h.a4) = false]
  | true, true, false, _ => [(endE h == 0) = true, (!adE (endA h) h.a1) = true, (!adE (endA h) h.a3) = false, (!adE (endB h) h.a2) = false]
  | true, true, true, false => [(endE h == 0) = true, (!adE (endA h) h.a1) = true, (!adE (endA h) h.a3) = false, (!adE (endB h) h.a2) = true, (!adE (endB h) h.a3) = false]
  | true, true, true, true => [(endE h == 0) = true, (!adE (endA h) h.a1) = true, (!adE (endA h) h.a3) = false, (!adE (endB h) h.a2) = true, (!adE (endB h) h.a3) = true, (!adE (endB h) h.a4) = false]
def p2 (z : Bool) : Yath := match z with
  | true => [(101, .b true), (105, .b false), (111, .b false), (114, .b false)]
  | false => [(101, .b false), (114, .b true), (123, .b false)]
def c2 (to fr : Ad6) (h : Hd) (z : Bool) : List Prop := match z with
  | true => [(endE h == 0) = true, (!adE (endA h) to) = false, (!adE (endB h) fr) = false, (endE h != 0) = false]
  | false => [(endE h == 0) = false, (endE h != 0) = true, (chk h != endE h) = false]
set_option maxRecDepth 1000000 in
theorem run (h : Hd) (to fr one two : Ad6) (e0 n1 m1 m2 z0 z1 z2 z3 : Bool) : zflat (zans Try.prog tab ftab cEl 9 [hdr h, .agg (acs to), .agg (acs fr), .agg (acs one), .agg (acs two)] (p1 e0 n1 m1 m2 ++ (p2 z0 ++ (p2 z1 ++ (p2 z2 ++ p2 z3))))) =
    some (.bool true, c1 h e0 n1 m1 m2 ++ (c2 to fr (hd0 to fr one two) z0 ++ (c2 to fr (hd1 to fr one two) z1 ++ (c2 to fr (hd2 to fr one two) z2 ++ c2 to fr (hd3 to fr one two) z3)))) := by
  cases e0
  · cases z0 <;> cases z1 <;> cases z2 <;> cases z3 <;> kernel_rfl
  · cases n1 <;> cases m1
    · cases z0 <;> cases z1 <;> cases z2 <;> cases z3 <;> kernel_rfl
    · cases m2 <;> cases z0 <;> cases z1 <;> cases z2 <;> cases z3 <;> kernel_rfl
    · cases z0 <;> cases z1 <;> cases z2 <;> cases z3 <;> kernel_rfl
    · cases m2 <;> cases z0 <;> cases z1 <;> cases z2 <;> cases z3 <;> kernel_rfl
theorem AskedP.app {a b : List Prop} (h : AskedP a) (k : AskedP b) : AskedP (a ++ b) := fun x hx => (List.mem_append.1 hx).elim (h x) (k x)
theorem ask1 (h : Hd) : ∃ e0 n1 m1 m2, AskedP (c1 h e0 n1 m1 m2) := by
  refine ⟨endE h == 0, !adE (endA h) h.a1, !adE (endB h) h.a2, !adE (endB h) h.a3, ?_⟩
  cases he : (endE h == 0) with
  | false => exact .cons he .nil
  | true =>
    have ho : okH h = true ∧ (h.kind == 1) = false := by
      unfold endE at he
      cases ho : okH h <;> cases hk : (h.kind == 1) <;> rw [ho, hk] at he <;> simp at he
      exact ⟨rfl, rfl⟩
    have hA : (!adE (endA h) h.a1) = true → (!adE (endA h) h.a3) = false := by
      unfold endA
      rw [ho.1, ho.2]
      cases h.f0
      · intro q
        simp [adE_refl] at q
      · intro _
        simp [adE_refl]
    have hB : (!adE (endB h) h.a2) = true → (!adE (endB h) h.a3) = true → (!adE (endB h) h.a4) = false := by
      unfold endB
      rw [ho.1, ho.2]
      cases h.f0 <;> cases h.f1 <;> intro q r <;> simp [adE_refl] at q r ⊢
    cases hn : (!adE (endA h) h.a1) with
    | false =>
      cases hm : (!adE (endB h) h.a2) with
      | false => exact .cons he (.cons hn (.cons hm .nil))
      | true =>
        cases hm2 : (!adE (endB h) h.a3) with
        | false => exact .cons he (.cons hn (.cons hm (.cons hm2 .nil)))
        | true => exact .cons he (.cons hn (.cons hm (.cons hm2 (.cons (hB hm hm2) .nil))))
    | true =>
      cases hm : (!adE (endB h) h.a2) with
      | false => exact .cons he (.cons hn (.cons (hA hn) (.cons hm .nil)))
      | true =>
        cases hm2 : (!adE (endB h) h.a3) with
        | false => exact .cons he (.cons hn (.cons (hA hn) (.cons hm (.cons hm2 .nil))))
        | true => exact .cons he (.cons hn (.cons (hA hn) (.cons hm (.cons hm2 (.cons (hB hm hm2) .nil)))))
theorem ask2 {to fr : Ad6} {h : Hd} (hk : (h.kind == 1) = false) (hA : cond h.f0 h.a3 h.a1 = to) (hB : cond h.f0 (cond h.f1 h.a4 h.a2) (cond h.f1 h.a3 h.a2) = fr) : AskedP (c2 to fr h (okH h)) := by
  cases ho : okH h with
  | true =>
    have eA : endA h = to := by unfold endA; rw [ho, hk]; exact hA
    have eB : endB h = fr := by unfold endB; rw [ho, hk]; exact hB
    have eE : endE h = 0 := by unfold endE; rw [ho, hk]; rfl
    exact .cons (by rw [eE]; rfl) (.cons (by rw [eA, adE_refl]; rfl) (.cons (by rw [eB, adE_refl]; rfl) (.cons (by rw [eE]; rfl) .nil)))
  | false =>
    have eE : endE h = 8 := by unfold endE; rw [ho]; rfl
    have eC : chk h = 8 := by unfold chk; rw [ho]; rfl
    exact .cons (by rw [eE]; rfl) (.cons (by rw [eE]; rfl) (.cons (by rw [eE, eC]; rfl) .nil))
theorem askA (to fr one two : Ad6) : AskedP (c2 to fr (hd0 to fr one two) (okH (hd0 to fr one two))) := ask2 (h := hd0 to fr one two) (by kernel_rfl) (by kernel_rfl) (by kernel_rfl)
theorem askB (to fr one two : Ad6) : AskedP (c2 to fr (hd1 to fr one two) (okH (hd1 to fr one two))) := ask2 (h := hd1 to fr one two) (by kernel_rfl) (by kernel_rfl) (by kernel_rfl)
theorem askC (to fr one two : Ad6) : AskedP (c2 to fr (hd2 to fr one two) (okH (hd2 to fr one two))) := ask2 (h := hd2 to fr one two) (by kernel_rfl) (by kernel_rfl) (by kernel_rfl)
theorem askD (to fr one two : Ad6) : AskedP (c2 to fr (hd3 to fr one two) (okH (hd3 to fr one two))) := ask2 (h := hd3 to fr one two) (by kernel_rfl) (by kernel_rfl) (by kernel_rfl)
theorem all (h : Hd) (to fr one two : Ad6) : Ans Try.prog 9 [hdr h, .agg (acs to), .agg (acs fr), .agg (acs one), .agg (acs two)] (.bool true) ⟨0, [], []⟩ := by
  obtain ⟨e0, n1, m1, m2, ha⟩ := ask1 h
  exact zflat_ok tab_ok mixed fun_ok cEl_ok (run h to fr one two e0 n1 m1 m2 (okH (hd0 to fr one two)) (okH (hd1 to fr one two)) (okH (hd2 to fr one two)) (okH (hd3 to fr one two)))
    (AskedP.app ha (AskedP.app (askA to fr one two) (AskedP.app (askB to fr one two) (AskedP.app (askC to fr one two) (askD to fr one two)))))
end
end Go.Proofs.Ytoghpmeoekbcbaa.headerEnds
