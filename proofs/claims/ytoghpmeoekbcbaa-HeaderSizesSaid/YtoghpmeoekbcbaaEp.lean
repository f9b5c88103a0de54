/- Encode's contract. -/
import Derived.Test.YtoghpmeoekbcbaaEo
namespace Go.Proofs.Ytoghpmeoekbcbaa
open Go.RowKit

noncomputable section
def b8 (x : Int) : UInt8 := UInt8.ofNat x.toNat
abbrev Rg (x : Int) : Prop := 0 ≤ x ∧ x < 256
theorem i8_b8 {x : Int} (h : Rg x) : i8 (b8 x) = .int .u8 x := by
  unfold i8 b8
  rw [UInt8.toNat_ofNat_of_lt' (show x.toNat < 256 by omega), Int.toNat_of_nonneg h.1]
theorem wrap_rg (x : Int) : Rg (IntKind.u8.wrap x) := by
  unfold Rg IntKind.wrap
  simp [IntKind.signed, IntKind.bits]
  omega
theorem bit_rg (a b : Int) : Rg (bitD .or .u8 a b) := wrap_rg _
structure HdOk (h : Hd) : Prop where
  a1 : ∀ x ∈ adI h.a1, Rg x
  a2 : ∀ x ∈ adI h.a2, Rg x
  a3 : ∀ x ∈ adI h.a3, Rg x
  a4 : ∀ x ∈ adI h.a4, Rg x
theorem numI_rg (n : Int) : ∀ x ∈ numI n, Rg x := by
  intro x hx
  simp only [numI, List.mem_cons, List.not_mem_nil, or_false] at hx
  rcases hx with rfl | rfl <;> exact wrap_rg _
theorem hbI_rg {h : Hd} (ho : HdOk h) (l : Lay) : ∀ x ∈ hbI h l, Rg x := by
  intro x hx
  unfold hbI at hx
  simp only [List.mem_append, List.mem_cons, List.not_mem_nil, or_false] at hx
  rcases hx with (rfl | rfl) | hx | hx | hx | hx | hx | hx
  · exact bit_rg _ _
  · exact wrap_rg _
  · exact numI_rg _ x hx
  · exact ho.a1 x hx
  · split at hx
    · exact ho.a2 x hx
    · cases hx
  · split at hx
    · rcases List.mem_append.1 hx with hx | hx
      · exact ho.a3 x hx
      · exact numI_rg _ x hx
    · cases hx
  · split at hx
    · exact ho.a4 x hx
    · cases hx
  · split at hx
    · exact numI_rg _ x hx
    · cases hx
/-- the header's bytes -/
def hbB (h : Hd) (l : Lay) : List UInt8 := (hbI h l).map b8
theorem hbC_eq {h : Hd} (ho : HdOk h) (l : Lay) : hbC h l = celB (hbB h l) := by
  unfold hbC hbB celB
  rw [List.map_map]
  exact List.map_congr_left fun x hx => (i8_b8 (hbI_rg ho l x hx)).symm
theorem hbB_length {l : Lay} (h : Hd) (hg : goodL l = true) : ((hbB h l).length : Int) = szL l := by
  obtain ⟨fl, bd, hl⟩ := good_cases hg
  rcases hl with rfl | rfl | rfl | rfl | rfl | rfl <;> rfl
theorem szL_le {l : Lay} (hg : goodL l = true) : 0 ≤ szL l ∧ szL l ≤ 100 := by
  obtain ⟨fl, bd, hl⟩ := good_cases hg
  rcases hl with rfl | rfl | rfl | rfl | rfl | rfl <;> (constructor <;> simp [szL])
def okF (h : Hd) (bs : List UInt8) : Bool := okH h && ((layOf h).1.body || decide (bs.length = 0))
/-- what Encode answers -/
def encB (h : Hd) (bs : List UInt8) : DV × Hp := match okF h bs with
  | false => (.tuple [.nil, .int .i64 8], ⟨0, [], []⟩)
  | true => match decide (bs.length > 2304) with
    | true => (.tuple [.nil, .int .i64 11], ⟨0, [], []⟩)
    | false => (.tuple [.sl 0 0 1 (withL (hbB h (layOf h).1 ++ bs)).length (withL (hbB h (layOf h).1 ++ bs)).length, .int .i64 0], ownH 5 1 (celB (withL (hbB h (layOf h).1 ++ bs))))
theorem lift_com_other {f0 f : FuncId} {g : List DV → Option DV} {args : List DV} {hp : Hp} (h : Nat.beq f f0 = false) : liftC (comC f0 g) f args hp = none := by
  unfold liftC
  split
  · unfold comC
    rw [h]
    rfl
  · rfl
theorem cE_app {hp : Hp} {d : DV} (b : Bs) (h : frz1 hp d (byL b.1)) : cE 14 [d] hp = some (.sl (hp.n + 0) 0 1 (withL b.1).length (withL b.1).length, layH hp (ownH 5 1 (celB (withL b.1))), none) :=
  orK_right (lift_com_other (by kernel_rfl)) (orK_right (lift_com_other (by kernel_rfl)) (orK_right (lift_com_other (by kernel_rfl)) (cApp_at b h)))
theorem askApp {a b : List Prop} (h : AskedP a) (k : AskedP b) : AskedP (a ++ b) := fun x hx => (List.mem_append.1 hx).elim (h x) (k x)
theorem enc_ans (h : Hd) (ho : HdOk h) (b : Bs) : Ans Try.prog 11 [frm h (byL b.1)] (encB h b.1).1 (encB h b.1).2 := by
  obtain ⟨bs, hbs⟩ := b
  have hlen := by1_length bs
  have hg := lay_good h
  unfold encB okF okH
  cases hl : layOf h with
  | mk l k =>
  rw [hl] at hg
  cases k with
  | false => exact zflat_ok tab_ok mixed fun_ok cE_ok (enc_no h l (by1 bs)) (.cons (by rw [hl]) .nil)
  | true =>
  have hg : goodL l = true := hg rfl
  simp only [Bool.true_and]
  cases hv : vld h l with
  | false => exact zflat_ok tab_ok mixed fun_ok cE_ok (enc_bad h l (by1 bs) hg) (.cons (by rw [hl]) (.cons hv .nil))
  | true =>
  simp only [Bool.true_and]
  -- the body
  have hvf : ∀ e : Bool, (l.body = false → ((((by1 bs).length : Int) == 0) : Bool) = e) → AskedP (vfC h l (by1 bs) l.body e) := by
    intro e he
    cases hb : l.body with
    | true => exact .cons hv .nil
    | false => exact .cons hv (.cons (he hb) .nil)
  cases hbd : (l.body || decide (bs.length = 0)) with
  | false =>
    rw [Bool.or_eq_false_iff] at hbd
    have hne : ((((by1 bs).length : Int) == 0) : Bool) = false := by
      have := of_decide_eq_false hbd.2
      exact beq_false_of_ne (by omega)
    refine zflat_ok tab_ok mixed fun_ok cE_ok (enc_body h l (by1 bs) hg hbd.1) (.cons (by rw [hl]) ?_)
    exact .cons hv (.cons hne .nil)
  | true =>
  have hz : l.body = false → ((((by1 bs).length : Int) == 0) : Bool) = true := fun hb => by
    rw [hb, Bool.false_or, decide_eq_true_eq] at hbd
    exact beq_iff_eq.2 (by omega)
  have hvt := hvf true hz
  simp only
  cases hlo : decide (bs.length > 2304) with
  | true =>
    have := of_decide_eq_true hlo
    refine zflat_ok tab_ok mixed fun_ok cE_ok (enc_long h l (by1 bs) hg) (.cons (by rw [hl]) ?_)
    intro p hp
    rcases List.mem_append.1 hp with hp | hp
    · exact hvt p hp
    · rw [List.mem_singleton] at hp
      subst hp
      exact decide_eq_true (by omega)
  | false =>
    have hlo := of_decide_eq_false hlo
    obtain ⟨z0, z1⟩ := szL_le hg
    have hhl := hbB_length h hg
    obtain ⟨s3, l3⟩ := put_Sb3 h l (by1 bs) hg
    rw [hbC_eq ho] at s3
    obtain ⟨d1, h1, m1, e1, s1, l1, hm⟩ := app_own3 (cs := bs) s3 (contD_list _ bs) (by omega)
    have happ := cE_app (hp := h1) (d := d1) ⟨hbB h l ++ bs, by rw [List.length_append]; omega⟩ s1.sh.frz
    have hls : (layH h1 (ownH 5 1 (celB (withL (hbB h l ++ bs))))).ls = [] := l1.trans l3
    show Ans Try.prog 11 [frm h (byL bs)] (.tuple [.sl 0 0 1 (withL (hbB h l ++ bs)).length (withL (hbB h l ++ bs)).length, .int .i64 0]) (ownH 5 1 (celB (withL (hbB h l ++ bs))))
    refine AnsH.see (zans_ok tab_ok mixed fun_ok cE_ok (enc_run h l (by1 bs) (szL l + bs.length).toNat d1 (.sl (h1.n + 0) 0 1 (withL (hbB h l ++ bs)).length (withL (hbB h l ++ bs)).length) h1 _ m1 hm hg) (.cons (by rw [hl]) ?_)) (seenV_forget (id := h1.n + 0) (o := ⟨1, 0, 5, celB (withL (hbB h l ++ bs))⟩) ?_ ?_ hls ?_)
    · refine askApp hvt ?_
      refine .cons (decide_eq_false (by omega)) (.cons ?_ (.cons ?_ (.cons rfl (.cons e1 (.cons happ .nil)))))
      · have e : szL l + ((by1 bs).length : Int) = ((szL l + bs.length).toNat : Int) := by omega
        rw [e]
        exact congrArg (DV.int .i64) (wrapI (by omega))
      · rw [Bool.and_eq_true, Bool.and_eq_true]
        exact ⟨⟨rfl, decide_eq_true (by omega)⟩, by rw [Int.toNat_natCast]; exact fitB_le2 (by omega) (by decide)⟩
    · rw [layH_get rfl, if_neg (by omega)]
      simp
      rfl
    · intro x hx
      simp only [celB, List.mem_map] at hx
      obtain ⟨c, _, rfl⟩ := hx
      rfl
    · simp only [ren3, rens, ren2, ren1, ren0, posN, beqT]
theorem rdH_hcs (h : Hd) : rdH (hcs h) = some h := by kernel_rfl
theorem hcs_inj {h k : Hd} (e : hcs h = hcs k) : h = k := by
  have h1 := rdH_hcs h
  rw [e, rdH_hcs k] at h1
  exact (Option.some.inj h1).symm
theorem frm_inj {h k : Hd} {d e : DV} (q : frm h d = frm k e) : h = k ∧ d = e := by
  simp only [frm, DV.agg.injEq] at q
  have hl : (hcs h).length = (hcs k).length := rfl
  obtain ⟨q1, q2⟩ := List.append_inj q hl
  exact ⟨hcs_inj q1, by simpa using q2⟩
abbrev Fr' : Type := {x : Hd × Bs // HdOk x.1}
def AEn (x : Fr') : List DV := [frm x.1.1 (byL x.1.2.1)]
theorem fine_enc (h : Hd) (bs : List UInt8) : Fine (encB h bs).1 (encB h bs).2 := by
  unfold encB
  split
  · exact ⟨rfl, fun id o h => by simp [Hp.get_eq] at h, rfl⟩
  · split
    · exact ⟨rfl, fun id o h => by simp [Hp.get_eq] at h, rfl⟩
    · exact ⟨rfl, plain_own _ _ _, rfl⟩
def cEnc : ConF := conC 11 AEn fun x => encB x.1.1 x.1.2.1
theorem cEnc_ok : ConOk Try.prog cEnc := conC_ok (fun x => enc_ans x.1.1 x.2 x.1.2) fun _ => fine_enc _ _
theorem cEnc_at {hp : Hp} (h : Hd) (ho : HdOk h) (b : Bs) : cEnc 11 [frm h (byL b.1)] hp = some (sh3 hp.n (encB h b.1).1, layH hp (encB h b.1).2, none) :=
  conC_at (f0 := 11) (A := AEn) (B := fun x => encB x.1.1 x.1.2.1) (fun x y hxy => by
    simp only [AEn, List.cons.injEq, and_true] at hxy
    obtain ⟨e1, e2⟩ := frm_inj hxy
    rw [e1, byL_inj e2]) ⟨(h, b), ho⟩ ⟨⟨rfl, rfl⟩, trivial⟩
end
end Go.Proofs.Ytoghpmeoekbcbaa
