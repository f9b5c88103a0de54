/- Encode, as a contract: the header's bytes. -/
import Derived.Test.YtcllanmickbkpaaHA1
import Derived.Test.YtcllanmickbkpaaNB
namespace Go.Proofs.Ytcllanmickbkpaa
open Go.RowKit

noncomputable section
def cE : ConF := orK cLy (orK cVa (orK cBt cApp))
theorem cE_ok : ConOk Try.prog cE := orK_ok cLy_ok (orK_ok cVa_ok (orK_ok cBt_ok cApp_ok))
def encH (h : Hd) (l : Lay) (xs : List (List DV)) : Hp := ⟨3, [⟨1, 0, 5, []⟩, ⟨0, 0, 65, lcs l⟩, ⟨0, 0, 28, hcs h ++ [.list 1 xs]⟩], []⟩
def putR (h : Hd) (l : Lay) (xs : List (List DV)) : Option (DV × Hp × Mut) := callE tab ftab cE (exec tab ftab cE 900) 29 [.sl 2 0 1 0 0, hdr h, lyD l] (encH h l xs)
def putH (h : Hd) (l : Lay) (xs : List (List DV)) : Hp := match putR h l xs with
  | some (_, hp, _) => hp
  | none => ⟨0, [], []⟩
def putD (h : Hd) (l : Lay) (xs : List (List DV)) : DV := match putR h l xs with
  | some (d, _, _) => d
  | none => .any
def numI (n : Int) : List Int := [IntKind.u8.wrap n, IntKind.u8.wrap (shrD .i64 n 8)]
def flagsI (h : Hd) : Int := bitD .or .i64 (bitD .or .i64 (bitD .or .i64 (bitD .or .i64 (bitD .or .i64 (bitD .or .i64 (cond h.f0 1 0) (cond h.f1 2 0)) (cond h.f2 4 0)) (cond h.f3 8 0)) (cond h.f4 16 0)) (cond h.f5 32 0)) (cond h.f6 64 0)
def seqI (h : Hd) : Int := bitD .or .i64 h.frag (shlD .i64 h.seq 4)
def tidI (h : Hd) : Int := bitD .or .i64 (bitD .or .i64 (bitD .or .i64 h.tid (cond h.eos 16 0)) (shlD .i64 (IntKind.i64.wrap h.ack) 5)) (cond h.ams 128 0)
def adI (a : Ad6) : List Int := [a.b0, a.b1, a.b2, a.b3, a.b4, a.b5]
def hbI (h : Hd) (l : Lay) : List Int := [bitD .or .u8 (shlD .u8 h.kind 2) (shlD .u8 h.sub 4), IntKind.u8.wrap (flagsI h)] ++ (numI h.dur ++ (adI h.a1 ++ ((match decide (l.addrs > 1) with | true => adI h.a2 | false => []) ++ ((match decide (l.addrs > 2) with | true => adI h.a3 ++ numI (seqI h) | false => []) ++
  ((match decide (l.addrs > 3) with | true => adI h.a4 | false => []) ++ (match l.traffic with | true => numI (tidI h) | false => []))))))
def hbC (h : Hd) (l : Lay) : List DV := (hbI h l).map fun n => .int .u8 n
def okPut (h : Hd) (l : Lay) (xs : List (List DV)) : Option (Nat × Nat × List DV) := match putD h l xs with
  | .sl id 0 1 n c => match Nat.beq n c, (putH h l xs).get id, (putH h l xs).ls with
    | true, some ⟨3, 2, t, cs⟩, [] => match Nat.ble 2 id with
      | true => some (n, t, cs)
      | false => none
    | _, _, _ => none
  | _ => none
set_option maxRecDepth 1000000 in
theorem put_ok (h : Hd) (l : Lay) (xs : List (List DV)) (hg : goodL l = true) : okPut h l xs = some ((hbC h l).length, 5, hbC h l) := by
  obtain ⟨fl, bd, hl⟩ := good_cases hg
  rcases hl with rfl | rfl | rfl | rfl | rfl | rfl <;> kernel_rfl
/-- a row of one's own that has grown, from object 2 on -/
def Sb3 (hp : Hp) (d : DV) (cl : List DV) : Prop := ∃ id o, d = .sl id 0 1 cl.length cl.length ∧ hp.get id = some o ∧ o.k = 3 ∧ o.r = 2 ∧ 2 ≤ id ∧ o.t = 5 ∧ o.cs = cl
theorem put_Sb3 (h : Hd) (l : Lay) (xs : List (List DV)) (hg : goodL l = true) : Sb3 (putH h l xs) (putD h l xs) (hbC h l) ∧ (putH h l xs).ls = [] := by
  have := put_ok h l xs hg
  unfold okPut at this
  split at this
  · rename_i id n c hd
    split at this
    · rename_i t cs hn ho hls
      split at this
      · rename_i hle
        cases this
        have := Nat.eq_of_beq_eq_true hn
        subst this
        rw [hd]
        exact ⟨⟨id, _, rfl, ho, rfl, rfl, Nat.le_of_ble_eq_true hle, rfl, rfl⟩, hls⟩
      · cases this
    · cases this
  · cases this
theorem app_own3 {hp : Hp} {d x : DV} {bs cs : List UInt8} (h : Sb3 hp d (celB bs)) (hx : contD hp 1 x = some (cs.length, celB cs)) (hl : bs.length + cs.length ≤ 2 ^ 40) : ∃ d' h' m, builtinD tab hp .append [d, x] tyB = some (d', h', m) ∧ SbO 5 h' d' (celB (bs ++ cs)) ∧ h'.ls = hp.ls ∧ (m = none ∨ m = some 2) := by
  obtain ⟨id, o, rfl, h1, h2, h3, h4, h5, h6⟩ := h
  rw [app_tab, hx, celB_append]
  cases cs with
  | nil =>
    refine ⟨.sl id 0 1 (celB bs).length (celB bs).length, hp, none, rfl, ?_, rfl, .inl rfl⟩
    exact ⟨id, o, by simp [celB], h1, .inr (.inr h2), h5, by rw [h6]; simp [celB]⟩
  | cons b cs =>
    have hle : (celB bs ++ celB (b :: cs)).length = (celB bs).length + (cs.length + 1) := by simp [celB]
    have hl' : (celB bs).length + (cs.length + 1) ≤ 2 ^ 40 := by rw [celB_length]; simpa using hl
    have hf := fitB_le2 (n := (celB bs).length + (cs.length + 1)) (b := 1) hl' (by decide)
    have hb : Nat.ble ((celB bs).length + (cs.length + 1)) (celB bs).length = false := bleF (by omega)
    have he : Nat.ble (0 + (celB bs).length * 1) o.cs.length = true := bleT (by rw [h6]; omega)
    have hq : Nat.beq (0 + (celB bs).length * 1) o.cs.length = true := beqT (by rw [h6]; omega)
    have hte : Nat.beq o.t 5 = true := beqT h5
    have hr : rootOf 3 o.r id = 2 := by
      rw [h3]
      simp only [rootOf, bleT h4]
    have hmm : mmin (some 2) (some id) = some 2 := by simp only [mmin, bleT h4]
    refine ⟨.sl hp.n 0 1 ((celB bs).length + (cs.length + 1)) ((celB bs).length + (cs.length + 1)), (hp.put id ⟨2, o.r, o.t, o.cs⟩).push ⟨3, 2, o.t, o.cs.drop 0 ++ celB (b :: cs)⟩, some 2, ?_, ⟨hp.n, _, by rw [hle], get_push_new (hp.put id _) _, .inr (.inr rfl), h5, by simp [h6]⟩, rfl, .inr rfl⟩
    show appH hp 5 u8TI (.sl id 0 1 (celB bs).length (celB bs).length) (cs.length + 1) (celB (b :: cs)) = _
    have q1 : Nat.beq 1 1 = true := rfl
    simp only [appH, q1, h1, hb, he, hf, h2, hq, hte, hr, hmm]
end
end Go.Proofs.Ytcllanmickbkpaa
/- Encode, as a contract. -/
namespace Go.Proofs.Ytcllanmickbkpaa
open Go.RowKit

noncomputable section
abbrev frm (h : Hd) (d : DV) : DV := .agg (hcs h ++ [d])
def encH0 (h : Hd) (l : Lay) (xs : List (List DV)) : Hp := ⟨2, [⟨0, 0, 65, lcs l⟩, ⟨0, 0, 28, hcs h ++ [.list 1 xs]⟩], []⟩
set_option maxRecDepth 1000000 in
theorem enc_no (h : Hd) (l : Lay) (xs : List (List DV)) : zflat (zans Try.prog tab ftab cE 9 [frm h (.list 1 xs)] [(10, .w (layA (l, false)))]) = some (.tuple [.nil, .int .i64 8], [layA (layOf h) = layA (l, false)]) := by kernel_rfl
set_option maxRecDepth 1000000 in
theorem enc_bad (h : Hd) (l : Lay) (xs : List (List DV)) (hg : goodL l = true) : zflat (zans Try.prog tab ftab cE 9 [frm h (.list 1 xs)] [(10, .w (layA (l, true))), (18, .c [(9, .b false)])]) = some (.tuple [.nil, .int .i64 8], [layA (layOf h) = layA (l, true), vld h l = false]) := by
  obtain ⟨fl, bd, hl⟩ := good_cases hg
  rcases hl with rfl | rfl | rfl | rfl | rfl | rfl <;> kernel_rfl
/-- the frame has a body although it may have none -/
def vfP (bd e : Bool) : Yath := match bd with
  | true => [(9, .b true)]
  | false => [(9, .b true), (16, .b e)]
def vfC (h : Hd) (l : Lay) (xs : List (List DV)) (bd e : Bool) : List Prop := match bd with
  | true => [vld h l = true]
  | false => [vld h l = true, ((xs.length : Int) == 0) = e]
set_option maxRecDepth 1000000 in
theorem enc_body (h : Hd) (l : Lay) (xs : List (List DV)) (hg : goodL l = true) (hb : l.body = false) : zflat (zans Try.prog tab ftab cE 9 [frm h (.list 1 xs)] [(10, .w (layA (l, true))), (18, .c (vfP false false))]) = some (.tuple [.nil, .int .i64 8], (layA (layOf h) = layA (l, true)) :: vfC h l xs false false) := by
  obtain ⟨fl, bd, hl⟩ := good_cases hg
  rcases hl with rfl | rfl | rfl | rfl | rfl | rfl <;> (cases bd <;> first | (cases hb; done) | kernel_rfl)
set_option maxRecDepth 1000000 in
theorem enc_long (h : Hd) (l : Lay) (xs : List (List DV)) (hg : goodL l = true) : zflat (zans Try.prog tab ftab cE 9 [frm h (.list 1 xs)] [(10, .w (layA (l, true))), (18, .c (vfP l.body true)), (24, .b true)]) = some (.tuple [.nil, .int .i64 11], (layA (layOf h) = layA (l, true)) :: (vfC h l xs l.body true ++ [decide ((xs.length : Int) > 2304) = true])) := by
  obtain ⟨fl, bd, hl⟩ := good_cases hg
  rcases hl with rfl | rfl | rfl | rfl | rfl | rfl <;> cases bd <;> kernel_rfl
set_option maxRecDepth 1000000 in
theorem enc_run (h : Hd) (l : Lay) (xs : List (List DV)) (N : Nat) (d1 d2 : DV) (h1 h2 : Hp) (m1 : Mut) (hm : m1 = none ∨ m1 = some 2) (hg : goodL l = true) : zans Try.prog tab ftab cE 9 [frm h (.list 1 xs)] [(10, .w (layA (l, true))), (18, .c (vfP l.body true)), (24, .b false), (30, .w (iN N)), (31, .h (.sl 2 0 1 0 0) (encH h l xs) none), (39, .h d1 h1 m1), (40, .r d2 h2)] =
    some (.tuple [d2, .int .i64 0], h2, (layA (layOf h) = layA (l, true)) :: (vfC h l xs l.body true ++ [decide ((xs.length : Int) > 2304) = false, DV.int .i64 (IntKind.i64.wrap (szL l + (xs.length : Int))) = iN N,
      (decide ((0 : Int) ≤ 0) && decide ((0 : Int) ≤ (N : Int)) && fitB ((N : Int).toNat) 1) = true, mkRow (encH0 h l xs) 5 1 [.int .u8 0] ((0 : Int).toNat) ((N : Int).toNat) = (.sl 2 0 1 0 0, encH h l xs, none),
      builtinD tab (putH h l xs) .append [putD h l xs, .list 1 xs] tyB = some (d1, h1, m1), cE 28 [d1] h1 = some (d2, h2, none)])) := by
  obtain ⟨fl, bd, hl⟩ := good_cases hg
  rcases hm with rfl | rfl <;> rcases hl with rfl | rfl | rfl | rfl | rfl | rfl <;> cases bd <;> kernel_rfl
end
end Go.Proofs.Ytcllanmickbkpaa
/- Encode's contract. -/
namespace Go.Proofs.Ytcllanmickbkpaa
open Go.RowKit

noncomputable section
def b8 (x : Int) : UInt8 := UInt8.ofNat x.toNat
abbrev Rg (x : Int) : Prop := 0 ≤ x ∧ x < 256
theorem i8_b8 {x : Int} (h : Rg x) : i8 (b8 x) = .int .u8 x := by
  unfold i8 b8
  rw [UInt8.toNat_ofNat_of_lt' (show x.toNat < 256 by omega), Int.toNat_of_nonneg h.1]
theorem wrap_rg (x : Int) : Rg (IntKind.u8.wrap x) := by
  unfold Rg IntKind.wrap
  simp [IntKind.signed, IntKind.bits]
  omega
theorem bit_rg (a b : Int) : Rg (bitD .or .u8 a b) := wrap_rg _
structure HdOk (h : Hd) : Prop where
  a1 : ∀ x ∈ adI h.a1, Rg x
  a2 : ∀ x ∈ adI h.a2, Rg x
  a3 : ∀ x ∈ adI h.a3, Rg x
  a4 : ∀ x ∈ adI h.a4, Rg x
  ack : Rg h.ack
theorem numI_rg (n : Int) : ∀ x ∈ numI n, Rg x := by
  intro x hx
  simp only [numI, List.mem_cons, List.not_mem_nil, or_false] at hx
  rcases hx with rfl | rfl <;> exact wrap_rg _
theorem hbI_rg {h : Hd} (ho : HdOk h) (l : Lay) : ∀ x ∈ hbI h l, Rg x := by
  intro x hx
  unfold hbI at hx
  simp only [List.mem_append, List.mem_cons, List.not_mem_nil, or_false] at hx
  rcases hx with (rfl | rfl) | hx | hx | hx | hx | hx | hx
  · exact bit_rg _ _
  · exact wrap_rg _
  · exact numI_rg _ x hx
  · exact ho.a1 x hx
  · split at hx
    · exact ho.a2 x hx
    · cases hx
  · split at hx
    · rcases List.mem_append.1 hx with hx | hx
      · exact ho.a3 x hx
      · exact numI_rg _ x hx
    · cases hx
  · split at hx
    · exact ho.a4 x hx
    · cases hx
  · split at hx
    · exact numI_rg _ x hx
    · cases hx
/-- the header's bytes -/
def hbB (h : Hd) (l : Lay) : List UInt8 := (hbI h l).map b8
theorem hbC_eq {h : Hd} (ho : HdOk h) (l : Lay) : hbC h l = celB (hbB h l) := by
  unfold hbC hbB celB
  rw [List.map_map]
  exact List.map_congr_left fun x hx => (i8_b8 (hbI_rg ho l x hx)).symm
theorem hbB_length {l : Lay} (h : Hd) (hg : goodL l = true) : ((hbB h l).length : Int) = szL l := by
  obtain ⟨fl, bd, hl⟩ := good_cases hg
  rcases hl with rfl | rfl | rfl | rfl | rfl | rfl <;> rfl
theorem szL_le {l : Lay} (hg : goodL l = true) : 0 ≤ szL l ∧ szL l ≤ 100 := by
  obtain ⟨fl, bd, hl⟩ := good_cases hg
  rcases hl with rfl | rfl | rfl | rfl | rfl | rfl <;> (constructor <;> simp [szL])
def okF (h : Hd) (bs : List UInt8) : Bool := okH h && ((layOf h).1.body || decide (bs.length = 0))
/-- what Encode answers -/
def encB (h : Hd) (bs : List UInt8) : DV × Hp := match okF h bs with
  | false => (.tuple [.nil, .int .i64 8], ⟨0, [], []⟩)
  | true => match decide (bs.length > 2304) with
    | true => (.tuple [.nil, .int .i64 11], ⟨0, [], []⟩)
    | false => (.tuple [.sl 0 0 1 (withL (hbB h (layOf h).1 ++ bs)).length (withL (hbB h (layOf h).1 ++ bs)).length, .int .i64 0], ownH 5 1 (celB (withL (hbB h (layOf h).1 ++ bs))))
theorem lift_com_other {f0 f : FuncId} {g : List DV → Option DV} {args : List DV} {hp : Hp} (h : Nat.beq f f0 = false) : liftC (comC f0 g) f args hp = none := by
  unfold liftC
  split
  · unfold comC
    rw [h]
    rfl
  · rfl
theorem cE_app {hp : Hp} {d : DV} (b : Bs) (h : frz1 hp d (byL b.1)) : cE 28 [d] hp = some (.sl (hp.n + 0) 0 1 (withL b.1).length (withL b.1).length, layH hp (ownH 5 1 (celB (withL b.1))), none) :=
  orK_right (lift_com_other (by kernel_rfl)) (orK_right (lift_com_other (by kernel_rfl)) (orK_right (lift_com_other (by kernel_rfl)) (cApp_at b h)))
theorem askApp {a b : List Prop} (h : AskedP a) (k : AskedP b) : AskedP (a ++ b) := fun x hx => (List.mem_append.1 hx).elim (h x) (k x)
theorem enc_ans (h : Hd) (ho : HdOk h) (b : Bs) : Ans Try.prog 9 [frm h (byL b.1)] (encB h b.1).1 (encB h b.1).2 := by
  obtain ⟨bs, hbs⟩ := b
  have hlen := by1_length bs
  have hg := lay_good h
  unfold encB okF okH
  cases hl : layOf h with
  | mk l k =>
  rw [hl] at hg
  cases k with
  | false => exact zflat_ok tab_ok mixed fun_ok cE_ok (enc_no h l (by1 bs)) (.cons (by rw [hl]) .nil)
  | true =>
  have hg : goodL l = true := hg rfl
  simp only [Bool.true_and]
  cases hv : vld h l with
  | false => exact zflat_ok tab_ok mixed fun_ok cE_ok (enc_bad h l (by1 bs) hg) (.cons (by rw [hl]) (.cons hv .nil))
  | true =>
  simp only [Bool.true_and]
  -- the body
  have hvf : ∀ e : Bool, (l.body = false → ((((by1 bs).length : Int) == 0) : Bool) = e) → AskedP (vfC h l (by1 bs) l.body e) := by
    intro e he
    cases hb : l.body with
    | true => exact .cons hv .nil
    | false => exact .cons hv (.cons (he hb) .nil)
  cases hbd : (l.body || decide (bs.length = 0)) with
  | false =>
    rw [Bool.or_eq_false_iff] at hbd
    have hne : ((((by1 bs).length : Int) == 0) : Bool) = false := by
      have := of_decide_eq_false hbd.2
      exact beq_false_of_ne (by omega)
    refine zflat_ok tab_ok mixed fun_ok cE_ok (enc_body h l (by1 bs) hg hbd.1) (.cons (by rw [hl]) ?_)
    exact .cons hv (.cons hne .nil)
  | true =>
  have hz : l.body = false → ((((by1 bs).length : Int) == 0) : Bool) = true := fun hb => by
    rw [hb, Bool.false_or, decide_eq_true_eq] at hbd
    exact beq_iff_eq.2 (by omega)
  have hvt := hvf true hz
  simp only
  cases hlo : decide (bs.length > 2304) with
  | true =>
    have := of_decide_eq_true hlo
    refine zflat_ok tab_ok mixed fun_ok cE_ok (enc_long h l (by1 bs) hg) (.cons (by rw [hl]) ?_)
    intro p hp
    rcases List.mem_append.1 hp with hp | hp
    · exact hvt p hp
    · rw [List.mem_singleton] at hp
      subst hp
      exact decide_eq_true (by omega)
  | false =>
    have hlo := of_decide_eq_false hlo
    obtain ⟨z0, z1⟩ := szL_le hg
    have hhl := hbB_length h hg
    obtain ⟨s3, l3⟩ := put_Sb3 h l (by1 bs) hg
    rw [hbC_eq ho] at s3
    obtain ⟨d1, h1, m1, e1, s1, l1, hm⟩ := app_own3 (cs := bs) s3 (contD_list _ bs) (by omega)
    have happ := cE_app (hp := h1) (d := d1) ⟨hbB h l ++ bs, by rw [List.length_append]; omega⟩ s1.sh.frz
    have hls : (layH h1 (ownH 5 1 (celB (withL (hbB h l ++ bs))))).ls = [] := l1.trans l3
    show Ans Try.prog 9 [frm h (byL bs)] (.tuple [.sl 0 0 1 (withL (hbB h l ++ bs)).length (withL (hbB h l ++ bs)).length, .int .i64 0]) (ownH 5 1 (celB (withL (hbB h l ++ bs))))
    refine AnsH.see (zans_ok tab_ok mixed fun_ok cE_ok (enc_run h l (by1 bs) (szL l + bs.length).toNat d1 (.sl (h1.n + 0) 0 1 (withL (hbB h l ++ bs)).length (withL (hbB h l ++ bs)).length) h1 _ m1 hm hg) (.cons (by rw [hl]) ?_)) (seenV_forget (id := h1.n + 0) (o := ⟨1, 0, 5, celB (withL (hbB h l ++ bs))⟩) ?_ ?_ hls ?_)
    · refine askApp hvt ?_
      refine .cons (decide_eq_false (by omega)) (.cons ?_ (.cons ?_ (.cons rfl (.cons e1 (.cons happ .nil)))))
      · have e : szL l + ((by1 bs).length : Int) = ((szL l + bs.length).toNat : Int) := by omega
        rw [e]
        exact congrArg (DV.int .i64) (wrapI (by omega))
      · rw [Bool.and_eq_true, Bool.and_eq_true]
        exact ⟨⟨rfl, decide_eq_true (by omega)⟩, by rw [Int.toNat_natCast]; exact fitB_le2 (by omega) (by decide)⟩
    · rw [layH_get rfl, if_neg (by omega)]
      simp
      rfl
    · intro x hx
      simp only [celB, List.mem_map] at hx
      obtain ⟨c, _, rfl⟩ := hx
      rfl
    · simp only [ren3, rens, ren2, ren1, ren0, posN, beqT]
theorem rdH_hcs (h : Hd) : rdH (hcs h) = some h := by kernel_rfl
theorem hcs_inj {h k : Hd} (e : hcs h = hcs k) : h = k := by
  have h1 := rdH_hcs h
  rw [e, rdH_hcs k] at h1
  exact (Option.some.inj h1).symm
theorem frm_inj {h k : Hd} {d e : DV} (q : frm h d = frm k e) : h = k ∧ d = e := by
  simp only [frm, DV.agg.injEq] at q
  have hl : (hcs h).length = (hcs k).length := rfl
  obtain ⟨q1, q2⟩ := List.append_inj q hl
  exact ⟨hcs_inj q1, by simpa using q2⟩
abbrev Fr' : Type := {x : Hd × Bs // HdOk x.1}
def AEn (x : Fr') : List DV := [frm x.1.1 (byL x.1.2.1)]
theorem fine_enc (h : Hd) (bs : List UInt8) : Fine (encB h bs).1 (encB h bs).2 := by
  unfold encB
  split
  · exact ⟨rfl, fun id o h => by simp [Hp.get_eq] at h, rfl⟩
  · split
    · exact ⟨rfl, fun id o h => by simp [Hp.get_eq] at h, rfl⟩
    · exact ⟨rfl, plain_own _ _ _, rfl⟩
def cEnc : ConF := conC 9 AEn fun x => encB x.1.1 x.1.2.1
theorem cEnc_ok : ConOk Try.prog cEnc := conC_ok (fun x => enc_ans x.1.1 x.2 x.1.2) fun _ => fine_enc _ _
theorem cEnc_at {hp : Hp} (h : Hd) (ho : HdOk h) (b : Bs) : cEnc 9 [frm h (byL b.1)] hp = some (sh3 hp.n (encB h b.1).1, layH hp (encB h b.1).2, none) :=
  conC_at (f0 := 9) (A := AEn) (B := fun x => encB x.1.1 x.1.2.1) (fun x y hxy => by
    simp only [AEn, List.cons.injEq, and_true] at hxy
    obtain ⟨e1, e2⟩ := frm_inj hxy
    rw [e1, byL_inj e2]) ⟨(h, b), ho⟩ ⟨⟨rfl, rfl⟩, trivial⟩
end
end Go.Proofs.Ytcllanmickbkpaa
