/- Headers as data, and the small functions that are asked about them. -/
import Derived.Test.YtoghpmeoekbcbaaCt
namespace Go.Proofs.Ytoghpmeoekbcbaa
open Go.RowKit

noncomputable section
structure Ad6 where
  b0 : Int
  b1 : Int
  b2 : Int
  b3 : Int
  b4 : Int
  b5 : Int
structure Hd where
  kind : Int
  sub : Int
  f0 : Bool
  f1 : Bool
  f2 : Bool
  f3 : Bool
  f4 : Bool
  f5 : Bool
  f6 : Bool
  dur : Int
  a1 : Ad6
  a2 : Ad6
  a3 : Ad6
  a4 : Ad6
  seq : Int
  frag : Int
  tid : Int
  ack : Int
  ams : Bool
  eos : Bool
def hcs (h : Hd) : List DV := [.int .u8 h.kind, .int .u8 h.sub, .bool h.f0, .bool h.f1, .bool h.f2, .bool h.f3, .bool h.f4, .bool h.f5, .bool h.f6, .int .i64 h.dur, .int .u8 h.a1.b0, .int .u8 h.a1.b1, .int .u8 h.a1.b2, .int .u8 h.a1.b3, .int .u8 h.a1.b4, .int .u8 h.a1.b5, .int .u8 h.a2.b0, .int .u8 h.a2.b1, .int .u8 h.a2.b2, .int .u8 h.a2.b3, .int .u8 h.a2.b4, .int .u8 h.a2.b5, .int .u8 h.a3.b0, .int .u8 h.a3.b1, .int .u8 h.a3.b2, .int .u8 h.a3.b3, .int .u8 h.a3.b4, .int .u8 h.a3.b5, .int .u8 h.a4.b0, .int .u8 h.a4.b1, .int .u8 h.a4.b2, .int .u8 h.a4.b3, .int .u8 h.a4.b4, .int .u8 h.a4.b5, .int .i64 h.seq, .int .i64 h.frag, .int .i64 h.tid, .int .u8 h.ack, .bool h.ams, .bool h.eos]
abbrev hdr (h : Hd) : DV := .agg (hcs h)
structure Lay where
  flags : Int
  addrs : Int
  traffic : Bool
  body : Bool
def lcs (l : Lay) : List DV := [.int .i64 l.flags, .int .i64 l.addrs, .bool l.traffic, .bool l.body]
abbrev lyD (l : Lay) : DV := .agg (lcs l)
def kI {α : Type} (k : IntKind) (l : List DV) (f : Int → List DV → Option α) : Option α := match l with
  | .int k' n :: r => match decide (k' = k) with
    | true => f n r
    | false => none
  | _ => none
def kB {α : Type} (l : List DV) (f : Bool → List DV → Option α) : Option α := match l with
  | .bool b :: r => f b r
  | _ => none
theorem kI_some {α : Type} {k : IntKind} {l : List DV} {f : Int → List DV → Option α} {x : α} (h : kI k l f = some x) : ∃ n r, l = .int k n :: r ∧ f n r = some x := by
  unfold kI at h
  split at h
  · split at h
    · rename_i hk
      rw [decide_eq_true_eq] at hk
      subst hk
      exact ⟨_, _, rfl, h⟩
    · cases h
  · cases h
theorem kB_some {α : Type} {l : List DV} {f : Bool → List DV → Option α} {x : α} (h : kB l f = some x) : ∃ n r, l = .bool n :: r ∧ f n r = some x := by
  unfold kB at h
  split at h
  · exact ⟨_, _, rfl, h⟩
  · cases h
def rdH (l : List DV) : Option Hd := kI .u8 l fun kind l => kI .u8 l fun sub l => kB l fun f0 l => kB l fun f1 l => kB l fun f2 l => kB l fun f3 l => kB l fun f4 l => kB l fun f5 l => kB l fun f6 l => kI .i64 l fun dur l => kI .u8 l fun a1b0 l => kI .u8 l fun a1b1 l => kI .u8 l fun a1b2 l => kI .u8 l fun a1b3 l => kI .u8 l fun a1b4 l => kI .u8 l fun a1b5 l => kI .u8 l fun a2b0 l => kI .u8 l fun a2b1 l => kI .u8 l fun a2b2 l => kI .u8 l fun a2b3 l => kI .u8 l fun a2b4 l => kI .u8 l fun a2b5 l => kI .u8 l fun a3b0 l => kI .u8 l fun a3b1 l => kI .u8 l fun a3b2 l => kI .u8 l fun a3b3 l => kI .u8 l fun a3b4 l => kI .u8 l fun a3b5 l => kI .u8 l fun a4b0 l => kI .u8 l fun a4b1 l => kI .u8 l fun a4b2 l => kI .u8 l fun a4b3 l => kI .u8 l fun a4b4 l => kI .u8 l fun a4b5 l => kI .i64 l fun seq l => kI .i64 l fun frag l => kI .i64 l fun tid l => kI .u8 l fun ack l => kB l fun ams l => kB l fun eos l => match l with
  | [] => some ⟨kind, sub, f0, f1, f2, f3, f4, f5, f6, dur, ⟨a1b0, a1b1, a1b2, a1b3, a1b4, a1b5⟩, ⟨a2b0, a2b1, a2b2, a2b3, a2b4, a2b5⟩, ⟨a3b0, a3b1, a3b2, a3b3, a3b4, a3b5⟩, ⟨a4b0, a4b1, a4b2, a4b3, a4b4, a4b5⟩, seq, frag, tid, ack, ams, eos⟩
  | _ => none
theorem rdH_some {l : List DV} {h : Hd} (hh : rdH l = some h) : l = hcs h := by
  unfold rdH at hh
  obtain ⟨_, _, rfl, hh0⟩ := kI_some hh
  obtain ⟨_, _, rfl, hh1⟩ := kI_some hh0
  obtain ⟨_, _, rfl, hh2⟩ := kB_some hh1
  obtain ⟨_, _, rfl, hh3⟩ := kB_some hh2
  obtain ⟨_, _, rfl, hh4⟩ := kB_some hh3
  obtain ⟨_, _, rfl, hh5⟩ := kB_some hh4
  obtain ⟨_, _, rfl, hh6⟩ := kB_some hh5
  obtain ⟨_, _, rfl, hh7⟩ := kB_some hh6
  obtain ⟨_, _, rfl, hh8⟩ := kB_some hh7
  obtain ⟨_, _, rfl, hh9⟩ := kI_some hh8
  obtain ⟨_, _, rfl, hh10⟩ := kI_some hh9
  obtain ⟨_, _, rfl, hh11⟩ := kI_some hh10
  obtain ⟨_, _, rfl, hh12⟩ := kI_some hh11
  obtain ⟨_, _, rfl, hh13⟩ := kI_some hh12
  obtain ⟨_, _, rfl, hh14⟩ := kI_some hh13
  obtain ⟨_, _, rfl, hh15⟩ := kI_some hh14
  obtain ⟨_, _, rfl, hh16⟩ := kI_some hh15
  obtain ⟨_, _, rfl, hh17⟩ := kI_some hh16
  obtain ⟨_, _, rfl, hh18⟩ := kI_some hh17
  obtain ⟨_, _, rfl, hh19⟩ := kI_some hh18
  obtain ⟨_, _, rfl, hh20⟩ := kI_some hh19
  obtain ⟨_, _, rfl, hh21⟩ := kI_some hh20
  obtain ⟨_, _, rfl, hh22⟩ := kI_some hh21
  obtain ⟨_, _, rfl, hh23⟩ := kI_some hh22
  obtain ⟨_, _, rfl, hh24⟩ := kI_some hh23
  obtain ⟨_, _, rfl, hh25⟩ := kI_some hh24
  obtain ⟨_, _, rfl, hh26⟩ := kI_some hh25
  obtain ⟨_, _, rfl, hh27⟩ := kI_some hh26
  obtain ⟨_, _, rfl, hh28⟩ := kI_some hh27
  obtain ⟨_, _, rfl, hh29⟩ := kI_some hh28
  obtain ⟨_, _, rfl, hh30⟩ := kI_some hh29
  obtain ⟨_, _, rfl, hh31⟩ := kI_some hh30
  obtain ⟨_, _, rfl, hh32⟩ := kI_some hh31
  obtain ⟨_, _, rfl, hh33⟩ := kI_some hh32
  obtain ⟨_, _, rfl, hh34⟩ := kI_some hh33
  obtain ⟨_, _, rfl, hh35⟩ := kI_some hh34
  obtain ⟨_, _, rfl, hh36⟩ := kI_some hh35
  obtain ⟨_, _, rfl, hh37⟩ := kI_some hh36
  obtain ⟨_, _, rfl, hh38⟩ := kB_some hh37
  obtain ⟨_, _, rfl, hh39⟩ := kB_some hh38
  split at hh39
  · cases hh39
    rfl
  · cases hh39
def rdL (l : List DV) : Option Lay := kI .i64 l fun fl l => kI .i64 l fun ad l => kB l fun tr l => kB l fun bd l => match l with
  | [] => some ⟨fl, ad, tr, bd⟩
  | _ => none
theorem rdL_some {l : List DV} {h : Lay} (hh : rdL l = some h) : l = lcs h := by
  unfold rdL at hh
  obtain ⟨_, _, rfl, hh0⟩ := kI_some hh
  obtain ⟨_, _, rfl, hh1⟩ := kI_some hh0
  obtain ⟨_, _, rfl, hh2⟩ := kB_some hh1
  obtain ⟨_, _, rfl, hh3⟩ := kB_some hh2
  split at hh3
  · cases hh3
    rfl
  · cases hh3
def gH (f : Hd → DV) : List DV → Option DV
  | [.agg cs] => match rdH cs with
    | some h => some (f h)
    | none => none
  | _ => none
theorem gH_some {f : Hd → DV} {args : List DV} {d : DV} (hh : gH f args = some d) : ∃ h, args = [hdr h] ∧ d = f h := by
  unfold gH at hh
  split at hh
  · split at hh
    · rename_i hr
      cases hh
      exact ⟨_, by rw [rdH_some hr], rfl⟩
    · cases hh
  · cases hh
def goodL (l : Lay) : Bool := match decide (l.addrs = 1), decide (l.addrs = 2), decide (l.addrs = 3), decide (l.addrs = 4), l.traffic with
  | true, _, _, _, false => true
  | _, true, _, _, false => true
  | _, _, true, _, _ => true
  | _, _, _, true, _ => true
  | _, _, _, _, _ => false
def gHL (p : Lay → Bool) (f : Hd → Lay → DV) : List DV → Option DV
  | [.agg cs, .agg ls] => match rdH cs, rdL ls with
    | some h, some l => match p l with
      | true => some (f h l)
      | false => none
    | _, _ => none
  | _ => none
theorem gHL_some {p : Lay → Bool} {f : Hd → Lay → DV} {args : List DV} {d : DV} (hh : gHL p f args = some d) : ∃ h l, args = [hdr h, lyD l] ∧ d = f h l ∧ p l = true := by
  unfold gHL at hh
  split at hh
  · split at hh
    · rename_i hr hl
      split at hh
      · rename_i hp
        cases hh
        exact ⟨_, _, by rw [rdH_some hr, rdL_some hl], rfl, hp⟩
      · cases hh
    · cases hh
  · cases hh
theorem good_cases {l : Lay} (h : goodL l = true) : ∃ fl bd, l = ⟨fl, 1, false, bd⟩ ∨ l = ⟨fl, 2, false, bd⟩ ∨ l = ⟨fl, 3, false, bd⟩ ∨ l = ⟨fl, 3, true, bd⟩ ∨ l = ⟨fl, 4, false, bd⟩ ∨ l = ⟨fl, 4, true, bd⟩ := by
  obtain ⟨fl, ad, tr, bd⟩ := l
  refine ⟨fl, bd, ?_⟩
  unfold goodL at h
  by_cases h1 : ad = 1
  · subst h1
    cases tr
    · exact .inl rfl
    · simp at h
  by_cases h2 : ad = 2
  · subst h2
    cases tr
    · exact .inr (.inl rfl)
    · simp at h
  by_cases h3 : ad = 3
  · subst h3
    cases tr
    · exact .inr (.inr (.inl rfl))
    · exact .inr (.inr (.inr (.inl rfl)))
  by_cases h4 : ad = 4
  · subst h4
    cases tr
    · exact .inr (.inr (.inr (.inr (.inl rfl))))
    · exact .inr (.inr (.inr (.inr (.inr rfl))))
  simp [h1, h2, h3, h4] at h
/-! ### bits, within -/
def gBt : List DV → Option DV
  | [.bool b, .int .i64 v] => some (.int .i64 (cond b v 0))
  | _ => none
def gWi : List DV → Option DV
  | [.int .i64 n, .int .i64 m] => some (.bool (decide (n ≥ 0) && decide (n ≤ m)))
  | _ => none
theorem bits_ans (b : Bool) (v : Int) : Ans Try.prog 59 [.bool b, .int .i64 v] (.int .i64 (cond b v 0)) ⟨0, [], []⟩ := by
  have h : zflat (zans Try.prog tab ftab noC 59 [.bool b, .int .i64 v] []) = some (.int .i64 (cond b v 0), []) := by cases b <;> kernel_rfl
  exact zflat_ok tab_ok mixed fun_ok noC_ok h .nil
theorem within_ans (n m : Int) : Ans Try.prog 76 [.int .i64 n, .int .i64 m] (.bool (decide (n ≥ 0) && decide (n ≤ m))) ⟨0, [], []⟩ := by
  have h1 : zflat (zans Try.prog tab ftab noC 76 [.int .i64 n, .int .i64 m] [(7, .b true)]) = some (.bool (decide (n ≤ m)), [decide (n ≥ 0) = true]) := by kernel_rfl
  have h2 : zflat (zans Try.prog tab ftab noC 76 [.int .i64 n, .int .i64 m] [(7, .b false)]) = some (.bool false, [decide (n ≥ 0) = false]) := by kernel_rfl
  cases h : decide (n ≥ 0) with
  | true => exact zflat_ok tab_ok mixed fun_ok noC_ok h1 (.cons h .nil)
  | false => exact zflat_ok tab_ok mixed fun_ok noC_ok h2 (.cons h .nil)
theorem gBt_ok (args : List DV) (d : DV) (h : gBt args = some d) : Ans Try.prog 59 args d ⟨0, [], []⟩ := by
  unfold gBt at h
  split at h
  · cases h
    exact bits_ans _ _
  · cases h
theorem gWi_ok (args : List DV) (d : DV) (h : gWi args = some d) : Ans Try.prog 76 args d ⟨0, [], []⟩ := by
  unfold gWi at h
  split at h
  · cases h
    exact within_ans _ _
  · cases h
def cBt : ConF := liftC (comC 59 gBt)
theorem cBt_ok : ConOk Try.prog cBt := liftC_ok (comC_ok gBt_ok)
def cWi : ConF := liftC (comC 76 gWi)
theorem cWi_ok : ConOk Try.prog cWi := liftC_ok (comC_ok gWi_ok)
def cB2 : ConF := orK cBt cWi
theorem cB2_ok : ConOk Try.prog cB2 := orK_ok cBt_ok cWi_ok
/-! ### inRange, wrongPart, used -/
def wi (n m : Int) : Bool := decide (n ≥ 0) && decide (n ≤ m)
def inR (h : Hd) : Bool := wi h.dur 32767 && (wi h.seq 4095 && (wi h.frag 15 && (wi h.tid 7 && wi (IntKind.i64.wrap h.ack) 2)))
set_option maxRecDepth 1000000 in
theorem inR_ans (h : Hd) : Ans Try.prog 66 [hdr h] (.bool (inR h)) ⟨0, [], []⟩ := by
  have r0 : zflat (zans Try.prog tab ftab cB2 66 [hdr h] [(6, .b false)]) = some (.bool false, [wi h.dur 32767 = false]) := by kernel_rfl
  have r1 : zflat (zans Try.prog tab ftab cB2 66 [hdr h] [(6, .b true), (11, .b false)]) = some (.bool false, [wi h.dur 32767 = true, wi h.seq 4095 = false]) := by kernel_rfl
  have r2 : zflat (zans Try.prog tab ftab cB2 66 [hdr h] [(6, .b true), (11, .b true), (16, .b false)]) = some (.bool false, [wi h.dur 32767 = true, wi h.seq 4095 = true, wi h.frag 15 = false]) := by kernel_rfl
  have r3 : zflat (zans Try.prog tab ftab cB2 66 [hdr h] [(6, .b true), (11, .b true), (16, .b true), (21, .b false)]) = some (.bool false, [wi h.dur 32767 = true, wi h.seq 4095 = true, wi h.frag 15 = true, wi h.tid 7 = false]) := by kernel_rfl
  have r4 : zflat (zans Try.prog tab ftab cB2 66 [hdr h] [(6, .b true), (11, .b true), (16, .b true), (21, .b true)]) = some (.bool (wi (IntKind.i64.wrap h.ack) 2), [wi h.dur 32767 = true, wi h.seq 4095 = true, wi h.frag 15 = true, wi h.tid 7 = true]) := by kernel_rfl
  unfold inR
  cases h0 : wi h.dur 32767 with
  | false => exact zflat_ok tab_ok mixed fun_ok cB2_ok r0 (.cons h0 .nil)
  | true =>
  cases h1 : wi h.seq 4095 with
  | false => exact zflat_ok tab_ok mixed fun_ok cB2_ok r1 (.cons h0 (.cons h1 .nil))
  | true =>
  cases h2 : wi h.frag 15 with
  | false => exact zflat_ok tab_ok mixed fun_ok cB2_ok r2 (.cons h0 (.cons h1 (.cons h2 .nil)))
  | true =>
  cases h3 : wi h.tid 7 with
  | false => exact zflat_ok tab_ok mixed fun_ok cB2_ok r3 (.cons h0 (.cons h1 (.cons h2 (.cons h3 .nil))))
  | true => exact zflat_ok tab_ok mixed fun_ok cB2_ok r4 (.cons h0 (.cons h1 (.cons h2 (.cons h3 .nil))))
def grp (a : Ad6) : Bool := bitD .and .u8 a.b0 1 != 0
def wrg (h : Hd) (l : Lay) : Bool := grp h.a1 && (h.f2 || (h.frag != 0)) || (!l.body && (h.f2 || (h.frag != 0) || h.f6 || h.ams))
set_option maxRecDepth 1000000 in
theorem wrg_run (h : Hd) (l : Lay) (fr g : Bool) : zflat (zans Try.prog tab ftab noC 68 [hdr h, lyD l] [(12, .b fr), (16, .b g)]) =
    some (.bool (g && fr || (!l.body && (fr || h.f6 || h.ams))), [(h.f2 || (h.frag != 0)) = fr, grp h.a1 = g]) := by
  obtain ⟨fl, ad, tr, bd⟩ := l
  obtain ⟨kind, sub, f0, f1, f2, f3, f4, f5, f6, dur, a1, a2, a3, a4, seq, frag, tid, ack, ams, eos⟩ := h
  cases f2 <;> cases bd <;> cases f6 <;> cases ams <;> cases fr <;> cases g <;> kernel_rfl
theorem wrg_ans (h : Hd) (l : Lay) : Ans Try.prog 68 [hdr h, lyD l] (.bool (wrg h l)) ⟨0, [], []⟩ :=
  zflat_ok tab_ok mixed fun_ok noC_ok (wrg_run h l _ _) (.cons rfl (.cons rfl .nil))
def cIn : ConF := liftC (comC 66 (gH fun h => .bool (inR h)))
theorem cIn_ok : ConOk Try.prog cIn := liftC_ok (comC_ok fun args d hh => by
  obtain ⟨h, rfl, rfl⟩ := gH_some hh
  exact inR_ans h)
def cWr : ConF := liftC (comC 68 (gHL (fun _ => true) fun h l => .bool (wrg h l)))
theorem cWr_ok : ConOk Try.prog cWr := liftC_ok (comC_ok fun args d hh => by
  obtain ⟨h, l, rfl, rfl, _⟩ := gHL_some hh
  exact wrg_ans h l)
def usD (h : Hd) (l : Lay) : DV := match zans Try.prog tab ftab cBt 65 [hdr h, lyD l] [] with
  | some (d, _, _) => d
  | none => .any
def eqU (h : Hd) (l : Lay) : Bool := match eqD tab 20 25 (hdr h) (usD h l) with
  | some b => b
  | none => false
def vld (h : Hd) (l : Lay) : Bool := eqU h l && (inR h && (!grp h.a2 && !wrg h l))
end
end Go.Proofs.Ytoghpmeoekbcbaa
