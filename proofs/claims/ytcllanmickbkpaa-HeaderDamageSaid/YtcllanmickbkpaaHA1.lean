/- Headers as data, and the small functions that are asked about them. -/
import Derived.Test.YtcllanmickbkpaaCt
namespace Go.Proofs.Ytcllanmickbkpaa
open Go.RowKit

noncomputable section
structure Ad6 where
  b0 : Int
  b1 : Int
  b2 : Int
  b3 : Int
  b4 : Int
  b5 : Int
structure Hd where
  kind : Int
  sub : Int
  f0 : Bool
  f1 : Bool
  f2 : Bool
  f3 : Bool
  f4 : Bool
  f5 : Bool
  f6 : Bool
  dur : Int
  a1 : Ad6
  a2 : Ad6
  a3 : Ad6
  a4 : Ad6
  seq : Int
  frag : Int
  tid : Int
  ack : Int
  ams : Bool
  eos : Bool
def hcs (h : Hd) : List DV := [.int .u8 h.kind, .int .u8 h.sub, .bool h.f0, .bool h.f1, .bool h.f2, .bool h.f3, .bool h.f4, .bool h.f5, .bool h.f6, .int .i64 h.dur, .int .u8 h.a1.b0, .int .u8 h.a1.b1, .int .u8 h.a1.b2, .int .u8 h.a1.b3, .int .u8 h.a1.b4, .int .u8 h.a1.b5, .int .u8 h.a2.b0, .int .u8 h.a2.b1, .int .u8 h.a2.b2, .int .u8 h.a2.b3, .int .u8 h.a2.b4, .int .u8 h.a2.b5, .int .u8 h.a3.b0, .int .u8 h.a3.b1, .int .u8 h.a3.b2, .int .u8 h.a3.b3, .int .u8 h.a3.b4, .int .u8 h.a3.b5, .int .u8 h.a4.b0, .int .u8 h.a4.b1, .int .u8 h.a4.b2, .int .u8 h.a4.b3, .int .u8 h.a4.b4, .int .u8 h.a4.b5, .int .i64 h.seq, .int .i64 h.frag, .int .i64 h.tid, .int .u8 h.ack, .bool h.ams, .bool h.eos]
abbrev hdr (h : Hd) : DV := .agg (hcs h)
structure Lay where
  flags : Int
  addrs : Int
  traffic : Bool
  body : Bool
def lcs (l : Lay) : List DV := [.int .i64 l.flags, .int .i64 l.addrs, .bool l.traffic, .bool l.body]
abbrev lyD (l : Lay) : DV := .agg (lcs l)
def kI {α : Type} (k : IntKind) (l : List DV) (f : Int → List DV → Option α) : Option α := match l with
  | .int k' n :: r => match decide (k' = k) with
    | true => f n r
    | false => none
  | _ => none
def kB {α : Type} (l : List DV) (f : Bool → List DV → Option α) : Option α := match l with
  | .bool b :: r => f b r
  | _ => none
theorem kI_some {α : Type} {k : IntKind} {l : List DV} {f : Int → List DV → Option α} {x : α} (h : kI k l f = some x) : ∃ n r, l = .int k n :: r ∧ f n r = some x := by
  unfold kI at h
  split at h
  · split at h
    · rename_i hk
      rw [decide_eq_true_eq] at hk
      subst hk
      exact ⟨_, _, rfl, h⟩
    · cases h
  · cases h
theorem kB_some {α : Type} {l : List DV} {f : Bool → List DV → Option α} {x : α} (h : kB l f = some x) : ∃ n r, l = .bool n :: r ∧ f n r = some x := by
  unfold kB at h
  split at h
  · exact ⟨_, _, rfl, h⟩
  · cases h
def rdH (l : List DV) : Option Hd := kI .u8 l fun kind l => kI .u8 l fun sub l => kB l fun f0 l => kB l fun f1 l => kB l fun f2 l => kB l fun f3 l => kB l fun f4 l => kB l fun f5 l => kB l fun f6 l => kI .i64 l fun dur l => kI .u8 l fun a1b0 l => kI .u8 l fun a1b1 l => kI .u8 l fun a1b2 l => kI .u8 l fun a1b3 l => kI .u8 l fun a1b4 l => kI .u8 l fun a1b5 l => kI .u8 l fun a2b0 l => kI .u8 l fun a2b1 l => kI .u8 l fun a2b2 l => kI .u8 l fun a2b3 l => kI .u8 l fun a2b4 l => kI .u8 l fun a2b5 l => kI .u8 l fun a3b0 l => kI .u8 l fun a3b1 l => kI .u8 l fun a3b2 l => kI .u8 l fun a3b3 l => kI .u8 l fun a3b4 l => kI .u8 l fun a3b5 l => kI .u8 l fun a4b0 l => kI .u8 l fun a4b1 l => kI .u8 l fun a4b2 l => kI .u8 l fun a4b3 l => kI .u8 l fun a4b4 l => kI .u8 l fun a4b5 l => kI .i64 l fun seq l => kI .i64 l fun frag l => kI .i64 l fun tid l => kI .u8 l fun ack l => kB l fun ams l => kB l fun eos l => match l with
  | [] => some ⟨kind, sub, f0, f1, f2, f3, f4, f5, f6, dur, ⟨a1b0, a1b1, a1b2, a1b3, a1b4, a1b5⟩, ⟨a2b0, a2b1, a2b2, a2b3, a2b4, a2b5⟩, ⟨a3b0, a3b1, a3b2, a3b3, a3b4, a3b5⟩, ⟨a4b0, a4b1, a4b2, a4b3, a4b4, a4b5⟩, seq, frag, tid, ack, ams, eos⟩
  | _ => none
theorem rdH_some {l : List DV} {h : Hd} (hh : rdH l = some h) : l = hcs h := by
  unfold rdH at hh
  obtain ⟨_, _, rfl, hh0⟩ := kI_some hh
  obtain ⟨_, _, rfl, hh1⟩ := kI_some hh0
  obtain ⟨_, _, rfl, hh2⟩ := kB_some hh1
  obtain ⟨_, _, rfl, hh3⟩ := kB_some hh2
  obtain ⟨_, _, rfl, hh4⟩ := kB_some hh3
  obtain ⟨_, _, rfl, hh5⟩ := kB_some hh4
  obtain ⟨_, _, rfl, hh6⟩ := kB_some hh5
  obtain ⟨_, _, rfl, hh7⟩ := kB_some hh6
  obtain ⟨_, _, rfl, hh8⟩ := kB_some hh7
  obtain ⟨_, _, rfl, hh9⟩ := kI_some hh8
  obtain ⟨_, _, rfl, hh10⟩ := kI_some hh9
  obtain ⟨_, _, rfl, hh11⟩ := kI_some hh10
  obtain ⟨_, _, rfl, hh12⟩ := kI_some hh11
  obtain ⟨_, _, rfl, hh13⟩ := kI_some hh12
  obtain ⟨_, _, rfl, hh14⟩ := kI_some hh13
  obtain ⟨_, _, rfl, hh15⟩ := kI_some hh14
  obtain ⟨_, _, rfl, hh16⟩ := kI_some hh15
  obtain ⟨_, _, rfl, hh17⟩ := kI_some hh16
  obtain ⟨_, _, rfl, hh18⟩ := kI_some hh17
  obtain ⟨_, _, rfl, hh19⟩ := kI_some hh18
  obtain ⟨_, _, rfl, hh20⟩ := kI_some hh19
  obtain ⟨_, _, rfl, hh21⟩ := kI_some hh20
  obtain ⟨_, _, rfl, hh22⟩ := kI_some hh21
  obtain ⟨_, _, rfl, hh23⟩ := kI_some hh22
  obtain ⟨_, _, rfl, hh24⟩ := kI_some hh23
  obtain ⟨_, _, rfl, hh25⟩ := kI_some hh24
  obtain ⟨_, _, rfl, hh26⟩ := kI_some hh25
  obtain ⟨_, _, rfl, hh27⟩ := kI_some hh26
  obtain ⟨_, _, rfl, hh28⟩ := kI_some hh27
  obtain ⟨_, _, rfl, hh29⟩ := kI_some hh28
  obtain ⟨_, _, rfl, hh30⟩ := kI_some hh29
  obtain ⟨_, _, rfl, hh31⟩ := kI_some hh30
  obtain ⟨_, _, rfl, hh32⟩ := kI_some hh31
  obtain ⟨_, _, rfl, hh33⟩ := kI_some hh32
  obtain ⟨_, _, rfl, hh34⟩ := kI_some hh33
  obtain ⟨_, _, rfl, hh35⟩ := kI_some hh34
  obtain ⟨_, _, rfl, hh36⟩ := kI_some hh35
  obtain ⟨_, _, rfl, hh37⟩ := kI_some hh36
  obtain ⟨_, _, rfl, hh38⟩ := kB_some hh37
  obtain ⟨_, _, rfl, hh39⟩ := kB_some hh38
  split at hh39
  · cases hh39
    rfl
  · cases hh39
def rdL (l : List DV) : Option Lay := kI .i64 l fun fl l => kI .i64 l fun ad l => kB l fun tr l => kB l fun bd l => match l with
  | [] => some ⟨fl, ad, tr, bd⟩
  | _ => none
theorem rdL_some {l : List DV} {h : Lay} (hh : rdL l = some h) : l = lcs h := by
  unfold rdL at hh
  obtain ⟨_, _, rfl, hh0⟩ := kI_some hh
  obtain ⟨_, _, rfl, hh1⟩ := kI_some hh0
  obtain ⟨_, _, rfl, hh2⟩ := kB_some hh1
  obtain ⟨_, _, rfl, hh3⟩ := kB_some hh2
  split at hh3
  · cases hh3
    rfl
  · cases hh3
def gH (f : Hd → DV) : List DV → Option DV
  | [.agg cs] => match rdH cs with
    | some h => some (f h)
    | none => none
  | _ => none
theorem gH_some {f : Hd → DV} {args : List DV} {d : DV} (hh : gH f args = some d) : ∃ h, args = [hdr h] ∧ d = f h := by
  unfold gH at hh
  split at hh
  · split at hh
    · rename_i hr
      cases hh
      exact ⟨_, by rw [rdH_some hr], rfl⟩
    · cases hh
  · cases hh
def goodL (l : Lay) : Bool := match decide (l.addrs = 1), decide (l.addrs = 2), decide (l.addrs = 3), decide (l.addrs = 4), l.traffic with
  | true, _, _, _, false => true
  | _, true, _, _, false => true
  | _, _, true, _, _ => true
  | _, _, _, true, _ => true
  | _, _, _, _, _ => false
def gHL (p : Lay → Bool) (f : Hd → Lay → DV) : List DV → Option DV
  | [.agg cs, .agg ls] => match rdH cs, rdL ls with
    | some h, some l => match p l with
      | true => some (f h l)
      | false => none
    | _, _ => none
  | _ => none
theorem gHL_some {p : Lay → Bool} {f : Hd → Lay → DV} {args : List DV} {d : DV} (hh : gHL p f args = some d) : ∃ h l, args = [hdr h, lyD l] ∧ d = f h l ∧ p l = true := by
  unfold gHL at hh
  split at hh
  · split at hh
    · rename_i hr hl
      split at hh
      · rename_i hp
        cases hh
        exact ⟨_, _, by rw [rdH_some hr, rdL_some hl], rfl, hp⟩
      · cases hh
    · cases hh
  · cases hh
theorem good_cases {l : Lay} (h : goodL l = true) : ∃ fl bd, l = ⟨fl, 1, false, bd⟩ ∨ l = ⟨fl, 2, false, bd⟩ ∨ l = ⟨fl, 3, false, bd⟩ ∨ l = ⟨fl, 3, true, bd⟩ ∨ l = ⟨fl, 4, false, bd⟩ ∨ l = ⟨fl, 4, true, bd⟩ := by
  obtain ⟨fl, ad, tr, bd⟩ := l
  refine ⟨fl, bd, ?_⟩
  unfold goodL at h
  by_cases h1 : ad = 1
  · subst h1
    cases tr
    · exact .inl rfl
    · simp at h
  by_cases h2 : ad = 2
  · subst h2
    cases tr
    · exact .inr (.inl rfl)
    · simp at h
  by_cases h3 : ad = 3
  · subst h3
    cases tr
    · exact .inr (.inr (.inl rfl))
    · exact .inr (.inr (.inr (.inl rfl)))
  by_cases h4 : ad = 4
  · subst h4
    cases tr
    · exact .inr (.inr (.inr (.inr (.inl rfl))))
    · exact .inr (.inr (.inr (.inr (.inr rfl))))
  simp [h1, h2, h3, h4] at h
/-! ### bits, within -/
def gBt : List DV → Option DV
  | [.bool b, .int .i64 v] => some (.int .i64 (cond b v 0))
  | _ => none
def gWi : List DV → Option DV
  | [.int .i64 n, .int .i64 m] => some (.bool (decide (n ≥ 0) && decide (n ≤ m)))
  | _ => none
theorem bits_ans (b : Bool) (v : Int) : Ans Try.prog 55 [.bool b, .int .i64 v] (.int .i64 (cond b v 0)) ⟨0, [], []⟩ := by
  have h : zflat (zans Try.prog tab ftab noC 55 [.bool b, .int .i64 v] []) = some (.int .i64 (cond b v 0), []) := by cases b <;> kernel_rfl
  exact zflat_ok tab_ok mixed fun_ok noC_ok h .nil
theorem within_ans (n m : Int) : Ans Try.prog 73 [.int .i64 n, .int .i64 m] (.bool (decide (n ≥ 0) && decide (n ≤ m))) ⟨0, [], []⟩ := by
  have h1 : zflat (zans Try.prog tab ftab noC 73 [.int .i64 n, .int .i64 m] [(7, .b true)]) = some (.bool (decide (n ≤ m)), [decide (n ≥ 0) = true]) := by kernel_rfl
  have h2 : zflat (zans Try.prog tab ftab noC 73 [.int .i64 n, .int .i64 m] [(7, .b false)]) = some (.bool false, [decide (n ≥ 0) = false]) := by kernel_rfl
  cases h : decide (n ≥ 0) with
  | true => exact zflat_ok tab_ok mixed fun_ok noC_ok h1 (.cons h .nil)
  | false => exact zflat_ok tab_ok mixed fun_ok noC_ok h2 (.cons h .nil)
theorem gBt_ok (args : List DV) (d : DV) (h : gBt args = some d) : Ans Try.prog 55 args d ⟨0, [], []⟩ := by
  unfold gBt at h
  split at h
  · cases h
    exact bits_ans _ _
  · cases h
theorem gWi_ok (args : List DV) (d : DV) (h : gWi args = some d) : Ans Try.prog 73 args d ⟨0, [], []⟩ := by
  unfold gWi at h
  split at h
  · cases h
    exact within_ans _ _
  · cases h
def cBt : ConF := liftC (comC 55 gBt)
theorem cBt_ok : ConOk Try.prog cBt := liftC_ok (comC_ok gBt_ok)
def cWi : ConF := liftC (comC 73 gWi)
theorem cWi_ok : ConOk Try.prog cWi := liftC_ok (comC_ok gWi_ok)
def cB2 : ConF := orK cBt cWi
theorem cB2_ok : ConOk Try.prog cB2 := orK_ok cBt_ok cWi_ok
/-! ### inRange, wrongPart, used -/
def wi (n m : Int) : Bool := decide (n ≥ 0) && decide (n ≤ m)
def inR (h : Hd) : Bool := wi h.dur 32767 && (wi h.seq 4095 && (wi h.frag 15 && (wi h.tid 7 && wi (IntKind.i64.wrap h.ack) 2)))
set_option maxRecDepth 1000000 in
theorem inR_ans (h : Hd) : Ans Try.prog 63 [hdr h] (.bool (inR h)) ⟨0, [], []⟩ := by
  have r0 : zflat (zans Try.prog tab ftab cB2 63 [hdr h] [(6, .b false)]) = some (.bool false, [wi h.dur 32767 = false]) := by kernel_rfl
  have r1 : zflat (zans Try.prog tab ftab cB2 63 [hdr h] [(6, .b true), (11, .b false)]) = some (.bool false, [wi h.dur 32767 = true, wi h.seq 4095 = false]) := by kernel_rfl
  have r2 : zflat (zans Try.prog tab ftab cB2 63 [hdr h] [(6, .b true), (11, .b true), (16, .b false)]) = some (.bool false, [wi h.dur 32767 = true, wi h.seq 4095 = true, wi h.frag 15 = false]) := by kernel_rfl
  have r3 : zflat (zans Try.prog tab ftab cB2 63 [hdr h] [(6, .b true), (11, .b true), (16, .b true), (21, .b false)]) = some (.bool false, [wi h.dur 32767 = true, wi h.seq 4095 = true, wi h.frag 15 = true, wi h.tid 7 = false]) := by kernel_rfl
  have r4 : zflat (zans Try.prog tab ftab cB2 63 [hdr h] [(6, .b true), (11, .b true), (16, .b true), (21, .b true)]) = some (.bool (wi (IntKind.i64.wrap h.ack) 2), [wi h.dur 32767 = true, wi h.seq 4095 = true, wi h.frag 15 = true, wi h.tid 7 = true]) := by kernel_rfl
  unfold inR
  cases h0 : wi h.dur 32767 with
  | false => exact zflat_ok tab_ok mixed fun_ok cB2_ok r0 (.cons h0 .nil)
  | true =>
  cases h1 : wi h.seq 4095 with
  | false => exact zflat_ok tab_ok mixed fun_ok cB2_ok r1 (.cons h0 (.cons h1 .nil))
  | true =>
  cases h2 : wi h.frag 15 with
  | false => exact zflat_ok tab_ok mixed fun_ok cB2_ok r2 (.cons h0 (.cons h1 (.cons h2 .nil)))
  | true =>
  cases h3 : wi h.tid 7 with
  | false => exact zflat_ok tab_ok mixed fun_ok cB2_ok r3 (.cons h0 (.cons h1 (.cons h2 (.cons h3 .nil))))
  | true => exact zflat_ok tab_ok mixed fun_ok cB2_ok r4 (.cons h0 (.cons h1 (.cons h2 (.cons h3 .nil))))
def grp (a : Ad6) : Bool := bitD .and .u8 a.b0 1 != 0
def wrg (h : Hd) (l : Lay) : Bool := grp h.a1 && (h.f2 || (h.frag != 0)) || (!l.body && (h.f2 || (h.frag != 0) || h.f6 || h.ams))
set_option maxRecDepth 1000000 in
theorem wrg_run (h : Hd) (l : Lay) (fr g : Bool) : zflat (zans Try.prog tab ftab noC 65 [hdr h, lyD l] [(12, .b fr), (16, .b g)]) =
    some (.bool (g && fr || (!l.body && (fr || h.f6 || h.ams))), [(h.f2 || (h.frag != 0)) = fr, grp h.a1 = g]) := by
  obtain ⟨fl, ad, tr, bd⟩ := l
  obtain ⟨kind, sub, f0, f1, f2, f3, f4, f5, f6, dur, a1, a2, a3, a4, seq, frag, tid, ack, ams, eos⟩ := h
  cases f2 <;> cases bd <;> cases f6 <;> cases ams <;> cases fr <;> cases g <;> kernel_rfl
theorem wrg_ans (h : Hd) (l : Lay) : Ans Try.prog 65 [hdr h, lyD l] (.bool (wrg h l)) ⟨0, [], []⟩ :=
  zflat_ok tab_ok mixed fun_ok noC_ok (wrg_run h l _ _) (.cons rfl (.cons rfl .nil))
def cIn : ConF := liftC (comC 63 (gH fun h => .bool (inR h)))
theorem cIn_ok : ConOk Try.prog cIn := liftC_ok (comC_ok fun args d hh => by
  obtain ⟨h, rfl, rfl⟩ := gH_some hh
  exact inR_ans h)
def cWr : ConF := liftC (comC 65 (gHL (fun _ => true) fun h l => .bool (wrg h l)))
theorem cWr_ok : ConOk Try.prog cWr := liftC_ok (comC_ok fun args d hh => by
  obtain ⟨h, l, rfl, rfl, _⟩ := gHL_some hh
  exact wrg_ans h l)
def usD (h : Hd) (l : Lay) : DV := match zans Try.prog tab ftab cBt 62 [hdr h, lyD l] [] with
  | some (d, _, _) => d
  | none => .any
def eqU (h : Hd) (l : Lay) : Bool := match eqD tab 20 25 (hdr h) (usD h l) with
  | some b => b
  | none => false
def vld (h : Hd) (l : Lay) : Bool := eqU h l && (inR h && (!grp h.a2 && !wrg h l))
end
end Go.Proofs.Ytcllanmickbkpaa
/- What a header's frame uses, whether a header is valid, its size, its ends: contracts. -/
namespace Go.Proofs.Ytcllanmickbkpaa
open Go.RowKit

noncomputable section
def cV1 : ConF := orK cBt (orK cIn cWr)
theorem cV1_ok : ConOk Try.prog cV1 := orK_ok cBt_ok (orK_ok cIn_ok cWr_ok)
set_option maxRecDepth 1000000 in
theorem vld_ans (h : Hd) (l : Lay) (hg : goodL l = true) : Ans Try.prog 34 [hdr h, lyD l] (.bool (vld h l)) ⟨0, [], []⟩ := by
  have r0 : zflat (zans Try.prog tab ftab cV1 34 [hdr h, lyD l] [(10, .b false)]) = some (.bool false, [eqU h l = false]) := by
    obtain ⟨fl, bd, hl⟩ := good_cases hg
    rcases hl with rfl | rfl | rfl | rfl | rfl | rfl <;> kernel_rfl
  have r1 : zflat (zans Try.prog tab ftab cV1 34 [hdr h, lyD l] [(10, .b true), (14, .b false)]) = some (.bool false, [eqU h l = true, inR h = false]) := by
    obtain ⟨fl, bd, hl⟩ := good_cases hg
    rcases hl with rfl | rfl | rfl | rfl | rfl | rfl <;> kernel_rfl
  have r2 : zflat (zans Try.prog tab ftab cV1 34 [hdr h, lyD l] [(10, .b true), (14, .b true), (20, .b false)]) = some (.bool false, [eqU h l = true, inR h = true, (!grp h.a2) = false]) := by
    obtain ⟨fl, bd, hl⟩ := good_cases hg
    rcases hl with rfl | rfl | rfl | rfl | rfl | rfl <;> kernel_rfl
  have r3 : zflat (zans Try.prog tab ftab cV1 34 [hdr h, lyD l] [(10, .b true), (14, .b true), (20, .b true)]) = some (.bool (!wrg h l), [eqU h l = true, inR h = true, (!grp h.a2) = true]) := by
    obtain ⟨fl, bd, hl⟩ := good_cases hg
    rcases hl with rfl | rfl | rfl | rfl | rfl | rfl <;> kernel_rfl
  unfold vld
  cases h0 : eqU h l with
  | false => exact zflat_ok tab_ok mixed fun_ok cV1_ok r0 (.cons h0 .nil)
  | true =>
  cases h1 : inR h with
  | false => exact zflat_ok tab_ok mixed fun_ok cV1_ok r1 (.cons h0 (.cons h1 .nil))
  | true =>
  cases h2 : (!grp h.a2) with
  | false => exact zflat_ok tab_ok mixed fun_ok cV1_ok r2 (.cons h0 (.cons h1 (.cons h2 .nil)))
  | true => exact zflat_ok tab_ok mixed fun_ok cV1_ok r3 (.cons h0 (.cons h1 (.cons h2 .nil)))
def cVa : ConF := liftC (comC 34 (gHL goodL fun h l => .bool (vld h l)))
theorem cVa_ok : ConOk Try.prog cVa := liftC_ok (comC_ok fun args d hh => by
  obtain ⟨h, l, rfl, rfl, hg⟩ := gHL_some hh
  exact vld_ans h l hg)
/-! ### layoutOf -/
def layOf (h : Hd) : Lay × Bool :=
  if h.kind = 0 then (⟨124, 3, false, true⟩, decide (h.sub ∈ [(0 : Int), (1 : Int), (2 : Int), (3 : Int), (4 : Int), (5 : Int), (8 : Int), (10 : Int), (11 : Int), (12 : Int), (13 : Int)]))
  else if h.kind = 1 then (if h.sub = 12 ∨ h.sub = 13 then (⟨48, 1, false, false⟩, true) else if h.sub = 11 ∨ h.sub = 10 then (⟨48, 2, false, false⟩, true) else if h.sub = 8 ∨ h.sub = 9 then (⟨48, 2, false, true⟩, true) else (⟨0, 0, false, false⟩, false))
  else if h.kind = 2 then (if h.sub = 0 then (⟨127, cond (h.f0 && h.f1) 4 3, false, true⟩, true) else if h.sub = 4 then (⟨127, cond (h.f0 && h.f1) 4 3, false, false⟩, true) else if h.sub = 8 then (⟨127, cond (h.f0 && h.f1) 4 3, true, true⟩, true) else if h.sub = 12 then (⟨127, cond (h.f0 && h.f1) 4 3, true, false⟩, true) else (⟨0, 0, false, false⟩, false))
  else (⟨0, 0, false, false⟩, false)
abbrev layA (p : Lay × Bool) : DV := .tuple [lyD p.1, .bool p.2]
set_option maxRecDepth 1000000 in
theorem lay_0_0 (f0 : Bool) (f1 : Bool) (f2 : Bool) (f3 : Bool) (f4 : Bool) (f5 : Bool) (f6 : Bool) (dur : Int) (a1 : Ad6) (a2 : Ad6) (a3 : Ad6) (a4 : Ad6) (seq : Int) (frag : Int) (tid : Int) (ack : Int) (ams : Bool) (eos : Bool) : zflat (zans Try.prog tab ftab noC 25 [hdr ⟨0, 0, f0, f1, f2, f3, f4, f5, f6, dur, a1, a2, a3, a4, seq, frag, tid, ack, ams, eos⟩] []) = some (layA (layOf ⟨0, 0, f0, f1, f2, f3, f4, f5, f6, dur, a1, a2, a3, a4, seq, frag, tid, ack, ams, eos⟩), []) := by kernel_rfl
set_option maxRecDepth 1000000 in
theorem lay_0_1 (f0 : Bool) (f1 : Bool) (f2 : Bool) (f3 : Bool) (f4 : Bool) (f5 : Bool) (f6 : Bool) (dur : Int) (a1 : Ad6) (a2 : Ad6) (a3 : Ad6) (a4 : Ad6) (seq : Int) (frag : Int) (tid : Int) (ack : Int) (ams : Bool) (eos : Bool) : zflat (zans Try.prog tab ftab noC 25 [hdr ⟨0, 1, f0, f1, f2, f3, f4, f5, f6, dur, a1, a2, a3, a4, seq, frag, tid, ack, ams, eos⟩] []) = some (layA (layOf ⟨0, 1, f0, f1, f2, f3, f4, f5, f6, dur, a1, a2, a3, a4, seq, frag, tid, ack, ams, eos⟩), []) := by kernel_rfl
set_option maxRecDepth 1000000 in
theorem lay_0_2 (f0 : Bool) (f1 : Bool) (f2 : Bool) (f3 : Bool) (f4 : Bool) (f5 : Bool) (f6 : Bool) (dur : Int) (a1 : Ad6) (a2 : Ad6) (a3 : Ad6) (a4 : Ad6) (seq : Int) (frag : Int) (tid : Int) (ack : Int) (ams : Bool) (eos : Bool) : zflat (zans Try.prog tab ftab noC 25 [hdr ⟨0, 2, f0, f1, f2, f3, f4, f5, f6, dur, a1, a2, a3, a4, seq, frag, tid, ack, ams, eos⟩] []) = some (layA (layOf ⟨0, 2, f0, f1, f2, f3, f4, f5, f6, dur, a1, a2, a3, a4, seq, frag, tid, ack, ams, eos⟩), []) := by kernel_rfl
set_option maxRecDepth 1000000 in
theorem lay_0_3 (f0 : Bool) (f1 : Bool) (f2 : Bool) (f3 : Bool) (f4 : Bool) (f5 : Bool) (f6 : Bool) (dur : Int) (a1 : Ad6) (a2 : Ad6) (a3 : Ad6) (a4 : Ad6) (seq : Int) (frag : Int) (tid : Int) (ack : Int) (ams : Bool) (eos : Bool) : zflat (zans Try.prog tab ftab noC 25 [hdr ⟨0, 3, f0, f1, f2, f3, f4, f5, f6, dur, a1, a2, a3, a4, seq, frag, tid, ack, ams, eos⟩] []) = some (layA (layOf ⟨0, 3, f0, f1, f2, f3, f4, f5, f6, dur, a1, a2, a3, a4, seq, frag, tid, ack, ams, eos⟩), []) := by kernel_rfl
set_option maxRecDepth 1000000 in
theorem lay_0_4 (f0 : Bool) (f1 : Bool) (f2 : Bool) (f3 : Bool) (f4 : Bool) (f5 : Bool) (f6 : Bool) (dur : Int) (a1 : Ad6) (a2 : Ad6) (a3 : Ad6) (a4 : Ad6) (seq : Int) (frag : Int) (tid : Int) (ack : Int) (ams : Bool) (eos : Bool) : zflat (zans Try.prog tab ftab noC 25 [hdr ⟨0, 4, f0, f1, f2, f3, f4, f5, f6, dur, a1, a2, a3, a4, seq, frag, tid, ack, ams, eos⟩] []) = some (layA (layOf ⟨0, 4, f0, f1, f2, f3, f4, f5, f6, dur, a1, a2, a3, a4, seq, frag, tid, ack, ams, eos⟩), []) := by kernel_rfl
set_option maxRecDepth 1000000 in
theorem lay_0_5 (f0 : Bool) (f1 : Bool) (f2 : Bool) (f3 : Bool) (f4 : Bool) (f5 : Bool) (f6 : Bool) (dur : Int) (a1 : Ad6) (a2 : Ad6) (a3 : Ad6) (a4 : Ad6) (seq : Int) (frag : Int) (tid : Int) (ack : Int) (ams : Bool) (eos : Bool) : zflat (zans Try.prog tab ftab noC 25 [hdr ⟨0, 5, f0, f1, f2, f3, f4, f5, f6, dur, a1, a2, a3, a4, seq, frag, tid, ack, ams, eos⟩] []) = some (layA (layOf ⟨0, 5, f0, f1, f2, f3, f4, f5, f6, dur, a1, a2, a3, a4, seq, frag, tid, ack, ams, eos⟩), []) := by kernel_rfl
set_option maxRecDepth 1000000 in
theorem lay_0_8 (f0 : Bool) (f1 : Bool) (f2 : Bool) (f3 : Bool) (f4 : Bool) (f5 : Bool) (f6 : Bool) (dur : Int) (a1 : Ad6) (a2 : Ad6) (a3 : Ad6) (a4 : Ad6) (seq : Int) (frag : Int) (tid : Int) (ack : Int) (ams : Bool) (eos : Bool) : zflat (zans Try.prog tab ftab noC 25 [hdr ⟨0, 8, f0, f1, f2, f3, f4, f5, f6, dur, a1, a2, a3, a4, seq, frag, tid, ack, ams, eos⟩] []) = some (layA (layOf ⟨0, 8, f0, f1, f2, f3, f4, f5, f6, dur, a1, a2, a3, a4, seq, frag, tid, ack, ams, eos⟩), []) := by kernel_rfl
set_option maxRecDepth 1000000 in
theorem lay_0_10 (f0 : Bool) (f1 : Bool) (f2 : Bool) (f3 : Bool) (f4 : Bool) (f5 : Bool) (f6 : Bool) (dur : Int) (a1 : Ad6) (a2 : Ad6) (a3 : Ad6) (a4 : Ad6) (seq : Int) (frag : Int) (tid : Int) (ack : Int) (ams : Bool) (eos : Bool) : zflat (zans Try.prog tab ftab noC 25 [hdr ⟨0, 10, f0, f1, f2, f3, f4, f5, f6, dur, a1, a2, a3, a4, seq, frag, tid, ack, ams, eos⟩] []) = some (layA (layOf ⟨0, 10, f0, f1, f2, f3, f4, f5, f6, dur, a1, a2, a3, a4, seq, frag, tid, ack, ams, eos⟩), []) := by kernel_rfl
set_option maxRecDepth 1000000 in
theorem lay_0_11 (f0 : Bool) (f1 : Bool) (f2 : Bool) (f3 : Bool) (f4 : Bool) (f5 : Bool) (f6 : Bool) (dur : Int) (a1 : Ad6) (a2 : Ad6) (a3 : Ad6) (a4 : Ad6) (seq : Int) (frag : Int) (tid : Int) (ack : Int) (ams : Bool) (eos : Bool) : zflat (zans Try.prog tab ftab noC 25 [hdr ⟨0, 11, f0, f1, f2, f3, f4, f5, f6, dur, a1, a2, a3, a4, seq, frag, tid, ack, ams, eos⟩] []) = some (layA (layOf ⟨0, 11, f0, f1, f2, f3, f4, f5, f6, dur, a1, a2, a3, a4, seq, frag, tid, ack, ams, eos⟩), []) := by kernel_rfl
set_option maxRecDepth 1000000 in
theorem lay_0_12 (f0 : Bool) (f1 : Bool) (f2 : Bool) (f3 : Bool) (f4 : Bool) (f5 : Bool) (f6 : Bool) (dur : Int) (a1 : Ad6) (a2 : Ad6) (a3 : Ad6) (a4 : Ad6) (seq : Int) (frag : Int) (tid : Int) (ack : Int) (ams : Bool) (eos : Bool) : zflat (zans Try.prog tab ftab noC 25 [hdr ⟨0, 12, f0, f1, f2, f3, f4, f5, f6, dur, a1, a2, a3, a4, seq, frag, tid, ack, ams, eos⟩] []) = some (layA (layOf ⟨0, 12, f0, f1, f2, f3, f4, f5, f6, dur, a1, a2, a3, a4, seq, frag, tid, ack, ams, eos⟩), []) := by kernel_rfl
set_option maxRecDepth 1000000 in
theorem lay_0_13 (f0 : Bool) (f1 : Bool) (f2 : Bool) (f3 : Bool) (f4 : Bool) (f5 : Bool) (f6 : Bool) (dur : Int) (a1 : Ad6) (a2 : Ad6) (a3 : Ad6) (a4 : Ad6) (seq : Int) (frag : Int) (tid : Int) (ack : Int) (ams : Bool) (eos : Bool) : zflat (zans Try.prog tab ftab noC 25 [hdr ⟨0, 13, f0, f1, f2, f3, f4, f5, f6, dur, a1, a2, a3, a4, seq, frag, tid, ack, ams, eos⟩] []) = some (layA (layOf ⟨0, 13, f0, f1, f2, f3, f4, f5, f6, dur, a1, a2, a3, a4, seq, frag, tid, ack, ams, eos⟩), []) := by kernel_rfl
set_option maxRecDepth 1000000 in
theorem lay_1_12 (f0 : Bool) (f1 : Bool) (f2 : Bool) (f3 : Bool) (f4 : Bool) (f5 : Bool) (f6 : Bool) (dur : Int) (a1 : Ad6) (a2 : Ad6) (a3 : Ad6) (a4 : Ad6) (seq : Int) (frag : Int) (tid : Int) (ack : Int) (ams : Bool) (eos : Bool) : zflat (zans Try.prog tab ftab noC 25 [hdr ⟨1, 12, f0, f1, f2, f3, f4, f5, f6, dur, a1, a2, a3, a4, seq, frag, tid, ack, ams, eos⟩] []) = some (layA (layOf ⟨1, 12, f0, f1, f2, f3, f4, f5, f6, dur, a1, a2, a3, a4, seq, frag, tid, ack, ams, eos⟩), []) := by kernel_rfl
set_option maxRecDepth 1000000 in
theorem lay_1_13 (f0 : Bool) (f1 : Bool) (f2 : Bool) (f3 : Bool) (f4 : Bool) (f5 : Bool) (f6 : Bool) (dur : Int) (a1 : Ad6) (a2 : Ad6) (a3 : Ad6) (a4 : Ad6) (seq : Int) (frag : Int) (tid : Int) (ack : Int) (ams : Bool) (eos : Bool) : zflat (zans Try.prog tab ftab noC 25 [hdr ⟨1, 13, f0, f1, f2, f3, f4, f5, f6, dur, a1, a2, a3, a4, seq, frag, tid, ack, ams, eos⟩] []) = some (layA (layOf ⟨1, 13, f0, f1, f2, f3, f4, f5, f6, dur, a1, a2, a3, a4, seq, frag, tid, ack, ams, eos⟩), []) := by kernel_rfl
set_option maxRecDepth 1000000 in
theorem lay_1_11 (f0 : Bool) (f1 : Bool) (f2 : Bool) (f3 : Bool) (f4 : Bool) (f5 : Bool) (f6 : Bool) (dur : Int) (a1 : Ad6) (a2 : Ad6) (a3 : Ad6) (a4 : Ad6) (seq : Int) (frag : Int) (tid : Int) (ack : Int) (ams : Bool) (eos : Bool) : zflat (zans Try.prog tab ftab noC 25 [hdr ⟨1, 11, f0, f1, f2, f3, f4, f5, f6, dur, a1, a2, a3, a4, seq, frag, tid, ack, ams, eos⟩] []) = some (layA (layOf ⟨1, 11, f0, f1, f2, f3, f4, f5, f6, dur, a1, a2, a3, a4, seq, frag, tid, ack, ams, eos⟩), []) := by kernel_rfl
set_option maxRecDepth 1000000 in
theorem lay_1_10 (f0 : Bool) (f1 : Bool) (f2 : Bool) (f3 : Bool) (f4 : Bool) (f5 : Bool) (f6 : Bool) (dur : Int) (a1 : Ad6) (a2 : Ad6) (a3 : Ad6) (a4 : Ad6) (seq : Int) (frag : Int) (tid : Int) (ack : Int) (ams : Bool) (eos : Bool) : zflat (zans Try.prog tab ftab noC 25 [hdr ⟨1, 10, f0, f1, f2, f3, f4, f5, f6, dur, a1, a2, a3, a4, seq, frag, tid, ack, ams, eos⟩] []) = some (layA (layOf ⟨1, 10, f0, f1, f2, f3, f4, f5, f6, dur, a1, a2, a3, a4, seq, frag, tid, ack, ams, eos⟩), []) := by kernel_rfl
set_option maxRecDepth 1000000 in
theorem lay_1_8 (f0 : Bool) (f1 : Bool) (f2 : Bool) (f3 : Bool) (f4 : Bool) (f5 : Bool) (f6 : Bool) (dur : Int) (a1 : Ad6) (a2 : Ad6) (a3 : Ad6) (a4 : Ad6) (seq : Int) (frag : Int) (tid : Int) (ack : Int) (ams : Bool) (eos : Bool) : zflat (zans Try.prog tab ftab noC 25 [hdr ⟨1, 8, f0, f1, f2, f3, f4, f5, f6, dur, a1, a2, a3, a4, seq, frag, tid, ack, ams, eos⟩] []) = some (layA (layOf ⟨1, 8, f0, f1, f2, f3, f4, f5, f6, dur, a1, a2, a3, a4, seq, frag, tid, ack, ams, eos⟩), []) := by kernel_rfl
set_option maxRecDepth 1000000 in
theorem lay_1_9 (f0 : Bool) (f1 : Bool) (f2 : Bool) (f3 : Bool) (f4 : Bool) (f5 : Bool) (f6 : Bool) (dur : Int) (a1 : Ad6) (a2 : Ad6) (a3 : Ad6) (a4 : Ad6) (seq : Int) (frag : Int) (tid : Int) (ack : Int) (ams : Bool) (eos : Bool) : zflat (zans Try.prog tab ftab noC 25 [hdr ⟨1, 9, f0, f1, f2, f3, f4, f5, f6, dur, a1, a2, a3, a4, seq, frag, tid, ack, ams, eos⟩] []) = some (layA (layOf ⟨1, 9, f0, f1, f2, f3, f4, f5, f6, dur, a1, a2, a3, a4, seq, frag, tid, ack, ams, eos⟩), []) := by kernel_rfl
set_option maxRecDepth 1000000 in
theorem lay_2_0 (f0 : Bool) (f1 : Bool) (f2 : Bool) (f3 : Bool) (f4 : Bool) (f5 : Bool) (f6 : Bool) (dur : Int) (a1 : Ad6) (a2 : Ad6) (a3 : Ad6) (a4 : Ad6) (seq : Int) (frag : Int) (tid : Int) (ack : Int) (ams : Bool) (eos : Bool) : zflat (zans Try.prog tab ftab noC 25 [hdr ⟨2, 0, f0, f1, f2, f3, f4, f5, f6, dur, a1, a2, a3, a4, seq, frag, tid, ack, ams, eos⟩] []) = some (layA (layOf ⟨2, 0, f0, f1, f2, f3, f4, f5, f6, dur, a1, a2, a3, a4, seq, frag, tid, ack, ams, eos⟩), []) := by cases f0 <;> cases f1 <;> kernel_rfl
set_option maxRecDepth 1000000 in
theorem lay_2_4 (f0 : Bool) (f1 : Bool) (f2 : Bool) (f3 : Bool) (f4 : Bool) (f5 : Bool) (f6 : Bool) (dur : Int) (a1 : Ad6) (a2 : Ad6) (a3 : Ad6) (a4 : Ad6) (seq : Int) (frag : Int) (tid : Int) (ack : Int) (ams : Bool) (eos : Bool) : zflat (zans Try.prog tab ftab noC 25 [hdr ⟨2, 4, f0, f1, f2, f3, f4, f5, f6, dur, a1, a2, a3, a4, seq, frag, tid, ack, ams, eos⟩] []) = some (layA (layOf ⟨2, 4, f0, f1, f2, f3, f4, f5, f6, dur, a1, a2, a3, a4, seq, frag, tid, ack, ams, eos⟩), []) := by cases f0 <;> cases f1 <;> kernel_rfl
set_option maxRecDepth 1000000 in
theorem lay_2_8 (f0 : Bool) (f1 : Bool) (f2 : Bool) (f3 : Bool) (f4 : Bool) (f5 : Bool) (f6 : Bool) (dur : Int) (a1 : Ad6) (a2 : Ad6) (a3 : Ad6) (a4 : Ad6) (seq : Int) (frag : Int) (tid : Int) (ack : Int) (ams : Bool) (eos : Bool) : zflat (zans Try.prog tab ftab noC 25 [hdr ⟨2, 8, f0, f1, f2, f3, f4, f5, f6, dur, a1, a2, a3, a4, seq, frag, tid, ack, ams, eos⟩] []) = some (layA (layOf ⟨2, 8, f0, f1, f2, f3, f4, f5, f6, dur, a1, a2, a3, a4, seq, frag, tid, ack, ams, eos⟩), []) := by cases f0 <;> cases f1 <;> kernel_rfl
set_option maxRecDepth 1000000 in
theorem lay_2_12 (f0 : Bool) (f1 : Bool) (f2 : Bool) (f3 : Bool) (f4 : Bool) (f5 : Bool) (f6 : Bool) (dur : Int) (a1 : Ad6) (a2 : Ad6) (a3 : Ad6) (a4 : Ad6) (seq : Int) (frag : Int) (tid : Int) (ack : Int) (ams : Bool) (eos : Bool) : zflat (zans Try.prog tab ftab noC 25 [hdr ⟨2, 12, f0, f1, f2, f3, f4, f5, f6, dur, a1, a2, a3, a4, seq, frag, tid, ack, ams, eos⟩] []) = some (layA (layOf ⟨2, 12, f0, f1, f2, f3, f4, f5, f6, dur, a1, a2, a3, a4, seq, frag, tid, ack, ams, eos⟩), []) := by cases f0 <;> cases f1 <;> kernel_rfl
set_option maxRecDepth 1000000 in
theorem lay_0_o (sub : Int) (f0 : Bool) (f1 : Bool) (f2 : Bool) (f3 : Bool) (f4 : Bool) (f5 : Bool) (f6 : Bool) (dur : Int) (a1 : Ad6) (a2 : Ad6) (a3 : Ad6) (a4 : Ad6) (seq : Int) (frag : Int) (tid : Int) (ack : Int) (ams : Bool) (eos : Bool) : zflat (zans Try.prog tab ftab noC 25 [hdr ⟨0, sub, f0, f1, f2, f3, f4, f5, f6, dur, a1, a2, a3, a4, seq, frag, tid, ack, ams, eos⟩] [(11, .c [(5, .b false), (6, .b false), (7, .b false), (8, .b false), (9, .b false), (10, .b false), (11, .b false), (12, .b false), (13, .b false), (14, .b false), (15, .b false)])]) = some (layA (⟨124, 3, false, true⟩, false), [(sub == 0) = false, (sub == 1) = false, (sub == 2) = false, (sub == 3) = false, (sub == 4) = false, (sub == 5) = false, (sub == 8) = false, (sub == 10) = false, (sub == 11) = false, (sub == 12) = false, (sub == 13) = false]) := by kernel_rfl
set_option maxRecDepth 1000000 in
theorem lay_1_o (sub : Int) (f0 : Bool) (f1 : Bool) (f2 : Bool) (f3 : Bool) (f4 : Bool) (f5 : Bool) (f6 : Bool) (dur : Int) (a1 : Ad6) (a2 : Ad6) (a3 : Ad6) (a4 : Ad6) (seq : Int) (frag : Int) (tid : Int) (ack : Int) (ams : Bool) (eos : Bool) : zflat (zans Try.prog tab ftab noC 25 [hdr ⟨1, sub, f0, f1, f2, f3, f4, f5, f6, dur, a1, a2, a3, a4, seq, frag, tid, ack, ams, eos⟩] [(16, .c [(6, .b false), (7, .b false), (10, .b false), (11, .b false), (14, .b false), (15, .b false)])]) = some (layA (⟨0, 0, false, false⟩, false), [(sub == 12) = false, (sub == 13) = false, (sub == 11) = false, (sub == 10) = false, (sub == 8) = false, (sub == 9) = false]) := by kernel_rfl
set_option maxRecDepth 1000000 in
theorem lay_2_o (sub : Int) (f0 : Bool) (f1 : Bool) (f2 : Bool) (f3 : Bool) (f4 : Bool) (f5 : Bool) (f6 : Bool) (dur : Int) (a1 : Ad6) (a2 : Ad6) (a3 : Ad6) (a4 : Ad6) (seq : Int) (frag : Int) (tid : Int) (ack : Int) (ams : Bool) (eos : Bool) : zflat (zans Try.prog tab ftab noC 25 [hdr ⟨2, sub, f0, f1, f2, f3, f4, f5, f6, dur, a1, a2, a3, a4, seq, frag, tid, ack, ams, eos⟩] [(22, .c [(17, .b false), (20, .b false), (22, .b false), (26, .b false)])]) = some (layA (⟨0, 0, false, false⟩, false), [(sub == 0) = false, (sub == 4) = false, (sub == 8) = false, (sub == 12) = false]) := by cases f0 <;> cases f1 <;> kernel_rfl
set_option maxRecDepth 1000000 in
theorem lay_o (h : Hd) : zflat (zans Try.prog tab ftab noC 25 [hdr h] [(7, .b false), (13, .b false), (20, .b false)]) = some (layA (⟨0, 0, false, false⟩, false), [(h.kind == 0) = false, (h.kind == 1) = false, (h.kind == 2) = false]) := by kernel_rfl
theorem ne_beq {a b : Int} (h : a ≠ b) : (a == b) = false := beq_false_of_ne h
theorem lay_ans (h : Hd) : Ans Try.prog 25 [hdr h] (layA (layOf h)) ⟨0, [], []⟩ := by
  obtain ⟨kind, sub, f0, f1, f2, f3, f4, f5, f6, dur, a1, a2, a3, a4, seq, frag, tid, ack, ams, eos⟩ := h
  have go : ∀ {d : DV} {args : List DV} {p : Yath} {cs : List Prop}, zflat (zans Try.prog tab ftab noC 25 args p) = some (d, cs) → AskedP cs → Ans Try.prog 25 args d ⟨0, [], []⟩ := fun h hc => zflat_ok tab_ok mixed fun_ok noC_ok h hc
  by_cases k0 : kind = 0
  · subst k0
    by_cases s0 : sub = 0
    · subst s0
      exact go (lay_0_0 f0 f1 f2 f3 f4 f5 f6 dur a1 a2 a3 a4 seq frag tid ack ams eos) .nil
    by_cases s1 : sub = 1
    · subst s1
      exact go (lay_0_1 f0 f1 f2 f3 f4 f5 f6 dur a1 a2 a3 a4 seq frag tid ack ams eos) .nil
    by_cases s2 : sub = 2
    · subst s2
      exact go (lay_0_2 f0 f1 f2 f3 f4 f5 f6 dur a1 a2 a3 a4 seq frag tid ack ams eos) .nil
    by_cases s3 : sub = 3
    · subst s3
      exact go (lay_0_3 f0 f1 f2 f3 f4 f5 f6 dur a1 a2 a3 a4 seq frag tid ack ams eos) .nil
    by_cases s4 : sub = 4
    · subst s4
      exact go (lay_0_4 f0 f1 f2 f3 f4 f5 f6 dur a1 a2 a3 a4 seq frag tid ack ams eos) .nil
    by_cases s5 : sub = 5
    · subst s5
      exact go (lay_0_5 f0 f1 f2 f3 f4 f5 f6 dur a1 a2 a3 a4 seq frag tid ack ams eos) .nil
    by_cases s8 : sub = 8
    · subst s8
      exact go (lay_0_8 f0 f1 f2 f3 f4 f5 f6 dur a1 a2 a3 a4 seq frag tid ack ams eos) .nil
    by_cases s10 : sub = 10
    · subst s10
      exact go (lay_0_10 f0 f1 f2 f3 f4 f5 f6 dur a1 a2 a3 a4 seq frag tid ack ams eos) .nil
    by_cases s11 : sub = 11
    · subst s11
      exact go (lay_0_11 f0 f1 f2 f3 f4 f5 f6 dur a1 a2 a3 a4 seq frag tid ack ams eos) .nil
    by_cases s12 : sub = 12
    · subst s12
      exact go (lay_0_12 f0 f1 f2 f3 f4 f5 f6 dur a1 a2 a3 a4 seq frag tid ack ams eos) .nil
    by_cases s13 : sub = 13
    · subst s13
      exact go (lay_0_13 f0 f1 f2 f3 f4 f5 f6 dur a1 a2 a3 a4 seq frag tid ack ams eos) .nil
    have e : layOf ⟨0, sub, f0, f1, f2, f3, f4, f5, f6, dur, a1, a2, a3, a4, seq, frag, tid, ack, ams, eos⟩ = (⟨124, 3, false, true⟩, false) := by simp [layOf, s0, s1, s2, s3, s4, s5, s8, s10, s11, s12, s13]
    rw [e]
    exact go (lay_0_o sub f0 f1 f2 f3 f4 f5 f6 dur a1 a2 a3 a4 seq frag tid ack ams eos) (.cons (ne_beq s0) (.cons (ne_beq s1) (.cons (ne_beq s2) (.cons (ne_beq s3) (.cons (ne_beq s4) (.cons (ne_beq s5) (.cons (ne_beq s8) (.cons (ne_beq s10) (.cons (ne_beq s11) (.cons (ne_beq s12) (.cons (ne_beq s13) .nil)))))))))))
  by_cases k1 : kind = 1
  · subst k1
    by_cases s12 : sub = 12
    · subst s12
      exact go (lay_1_12 f0 f1 f2 f3 f4 f5 f6 dur a1 a2 a3 a4 seq frag tid ack ams eos) .nil
    by_cases s13 : sub = 13
    · subst s13
      exact go (lay_1_13 f0 f1 f2 f3 f4 f5 f6 dur a1 a2 a3 a4 seq frag tid ack ams eos) .nil
    by_cases s11 : sub = 11
    · subst s11
      exact go (lay_1_11 f0 f1 f2 f3 f4 f5 f6 dur a1 a2 a3 a4 seq frag tid ack ams eos) .nil
    by_cases s10 : sub = 10
    · subst s10
      exact go (lay_1_10 f0 f1 f2 f3 f4 f5 f6 dur a1 a2 a3 a4 seq frag tid ack ams eos) .nil
    by_cases s8 : sub = 8
    · subst s8
      exact go (lay_1_8 f0 f1 f2 f3 f4 f5 f6 dur a1 a2 a3 a4 seq frag tid ack ams eos) .nil
    by_cases s9 : sub = 9
    · subst s9
      exact go (lay_1_9 f0 f1 f2 f3 f4 f5 f6 dur a1 a2 a3 a4 seq frag tid ack ams eos) .nil
    have e : layOf ⟨1, sub, f0, f1, f2, f3, f4, f5, f6, dur, a1, a2, a3, a4, seq, frag, tid, ack, ams, eos⟩ = (⟨0, 0, false, false⟩, false) := by simp [layOf, s12, s13, s11, s10, s8, s9]
    rw [e]
    exact go (lay_1_o sub f0 f1 f2 f3 f4 f5 f6 dur a1 a2 a3 a4 seq frag tid ack ams eos) (.cons (ne_beq s12) (.cons (ne_beq s13) (.cons (ne_beq s11) (.cons (ne_beq s10) (.cons (ne_beq s8) (.cons (ne_beq s9) .nil))))))
  by_cases k2 : kind = 2
  · subst k2
    by_cases s0 : sub = 0
    · subst s0
      exact go (lay_2_0 f0 f1 f2 f3 f4 f5 f6 dur a1 a2 a3 a4 seq frag tid ack ams eos) .nil
    by_cases s4 : sub = 4
    · subst s4
      exact go (lay_2_4 f0 f1 f2 f3 f4 f5 f6 dur a1 a2 a3 a4 seq frag tid ack ams eos) .nil
    by_cases s8 : sub = 8
    · subst s8
      exact go (lay_2_8 f0 f1 f2 f3 f4 f5 f6 dur a1 a2 a3 a4 seq frag tid ack ams eos) .nil
    by_cases s12 : sub = 12
    · subst s12
      exact go (lay_2_12 f0 f1 f2 f3 f4 f5 f6 dur a1 a2 a3 a4 seq frag tid ack ams eos) .nil
    have e : layOf ⟨2, sub, f0, f1, f2, f3, f4, f5, f6, dur, a1, a2, a3, a4, seq, frag, tid, ack, ams, eos⟩ = (⟨0, 0, false, false⟩, false) := by simp [layOf, s0, s4, s8, s12]
    rw [e]
    exact go (lay_2_o sub f0 f1 f2 f3 f4 f5 f6 dur a1 a2 a3 a4 seq frag tid ack ams eos) (.cons (ne_beq s0) (.cons (ne_beq s4) (.cons (ne_beq s8) (.cons (ne_beq s12) .nil))))
  have e : layOf ⟨kind, sub, f0, f1, f2, f3, f4, f5, f6, dur, a1, a2, a3, a4, seq, frag, tid, ack, ams, eos⟩ = (⟨0, 0, false, false⟩, false) := by simp [layOf, k0, k1, k2]
  rw [e]
  exact go (lay_o ⟨kind, sub, f0, f1, f2, f3, f4, f5, f6, dur, a1, a2, a3, a4, seq, frag, tid, ack, ams, eos⟩) (.cons (ne_beq k0) (.cons (ne_beq k1) (.cons (ne_beq k2) .nil)))
theorem lay_good (h : Hd) (hk : (layOf h).2 = true) : goodL (layOf h).1 = true := by
  unfold layOf at hk ⊢
  split
  · rfl
  · split
    · split
      · rfl
      · split
        · rfl
        · split
          · rfl
          · simp_all
    · split
      · cases h.f0 <;> cases h.f1 <;> (repeat' (split; rfl)) <;> simp_all
      · simp_all
def cLy : ConF := liftC (comC 25 (gH fun h => layA (layOf h)))
theorem cLy_ok : ConOk Try.prog cLy := liftC_ok (comC_ok fun args d hh => by
  obtain ⟨h, rfl, rfl⟩ := gH_some hh
  exact lay_ans h)
/-! ### Size, Check, Ends -/
def cS1 : ConF := orK cLy cVa
theorem cS1_ok : ConOk Try.prog cS1 := orK_ok cLy_ok cVa_ok
def szL (l : Lay) : Int := 4 + l.addrs * 6 + cond (decide (l.addrs > 2)) 2 0 + cond l.traffic 2 0
def okH (h : Hd) : Bool := (layOf h).2 && vld h (layOf h).1
def chk (h : Hd) : Int := cond (okH h) 0 8
def siz (h : Hd) : Int := cond (okH h) (szL (layOf h).1) 0
abbrev sizD (h : Hd) : DV := .tuple [.int .i64 (siz h), .int .i64 (chk h)]
set_option maxRecDepth 1000000 in
theorem siz_ans (h : Hd) : Ans Try.prog 11 [hdr h] (sizD h) ⟨0, [], []⟩ := by
  have r0 : ∀ l, zflat (zans Try.prog tab ftab cS1 11 [hdr h] [(8, .w (layA (l, false)))]) = some (.tuple [.int .i64 0, .int .i64 8], [layA (layOf h) = layA (l, false)]) := fun l => by kernel_rfl
  have r1 : ∀ l, goodL l = true → zflat (zans Try.prog tab ftab cS1 11 [hdr h] [(8, .w (layA (l, true))), (18, .b true)]) = some (.tuple [.int .i64 0, .int .i64 8], [layA (layOf h) = layA (l, true), (!vld h l) = true]) := fun l hg => by
    obtain ⟨fl, bd, hl⟩ := good_cases hg
    rcases hl with rfl | rfl | rfl | rfl | rfl | rfl <;> kernel_rfl
  have r2 : ∀ l, goodL l = true → zflat (zans Try.prog tab ftab cS1 11 [hdr h] [(8, .w (layA (l, true))), (18, .b false)]) = some (.tuple [.int .i64 (szL l), .int .i64 0], [layA (layOf h) = layA (l, true), (!vld h l) = false]) := fun l hg => by
    obtain ⟨fl, bd, hl⟩ := good_cases hg
    rcases hl with rfl | rfl | rfl | rfl | rfl | rfl <;> kernel_rfl
  unfold sizD siz chk okH
  have hg := lay_good h
  cases hl : layOf h with
  | mk l k =>
  rw [hl] at hg
  cases k with
  | false => exact zflat_ok tab_ok mixed fun_ok cS1_ok (r0 l) (.cons (by rw [hl]) .nil)
  | true =>
  simp only [Bool.true_and]
  cases hv : vld h l with
  | false => exact zflat_ok tab_ok mixed fun_ok cS1_ok (r1 l (hg rfl)) (.cons (by rw [hl]) (.cons (by rw [hv]; rfl) .nil))
  | true => exact zflat_ok tab_ok mixed fun_ok cS1_ok (r2 l (hg rfl)) (.cons (by rw [hl]) (.cons (by rw [hv]; rfl) .nil))
def cSz : ConF := liftC (comC 11 (gH sizD))
theorem cSz_ok : ConOk Try.prog cSz := liftC_ok (comC_ok fun args d hh => by
  obtain ⟨h, rfl, rfl⟩ := gH_some hh
  exact siz_ans h)
set_option maxRecDepth 1000000 in
theorem chk_run (h : Hd) : zflat (zans Try.prog tab ftab cSz 18 [hdr h] []) = some (.int .i64 (chk h), []) := by kernel_rfl
def cCk : ConF := liftC (comC 18 (gH fun h => .int .i64 (chk h)))
theorem cCk_ok : ConOk Try.prog cCk := liftC_ok (comC_ok fun args d hh => by
  obtain ⟨h, rfl, rfl⟩ := gH_some hh
  exact zflat_ok tab_ok mixed fun_ok cSz_ok (chk_run h) .nil)
def acs (a : Ad6) : List DV := [.int .u8 a.b0, .int .u8 a.b1, .int .u8 a.b2, .int .u8 a.b3, .int .u8 a.b4, .int .u8 a.b5]
def noA : Ad6 := ⟨0, 0, 0, 0, 0, 0⟩
def endE (h : Hd) : Int := cond (okH h) (cond (h.kind == 1) 2 0) 8
def endA (h : Hd) : Ad6 := cond (okH h && !(h.kind == 1)) (cond h.f0 h.a3 h.a1) noA
def endB (h : Hd) : Ad6 := cond (okH h && !(h.kind == 1)) (cond h.f0 (cond h.f1 h.a4 h.a2) (cond h.f1 h.a3 h.a2)) noA
abbrev endsD (h : Hd) : DV := .tuple [.agg (acs (endA h)), .agg (acs (endB h)), .int .i64 (endE h)]
set_option maxRecDepth 1000000 in
theorem ends_run (h : Hd) : zflat (zans Try.prog tab ftab cCk 13 [hdr h] [(9, .b true)]) = some (.tuple [.agg (acs noA), .agg (acs noA), .int .i64 (chk h)], [(chk h != 0) = true]) := by kernel_rfl
set_option maxRecDepth 1000000 in
theorem ends_run1 (h : Hd) : zflat (zans Try.prog tab ftab cCk 13 [hdr h] [(9, .b false), (16, .b true)]) = some (.tuple [.agg (acs noA), .agg (acs noA), .int .i64 2], [(chk h != 0) = false, (h.kind == 1) = true]) := by kernel_rfl
set_option maxRecDepth 1000000 in
theorem ends_run2 (h : Hd) : zflat (zans Try.prog tab ftab cCk 13 [hdr h] [(9, .b false), (16, .b false)]) = some (.tuple [.agg (acs (cond h.f0 h.a3 h.a1)), .agg (acs (cond h.f0 (cond h.f1 h.a4 h.a2) (cond h.f1 h.a3 h.a2))), .int .i64 0], [(chk h != 0) = false, (h.kind == 1) = false]) := by
  obtain ⟨kind, sub, f0, f1, f2, f3, f4, f5, f6, dur, a1, a2, a3, a4, seq, frag, tid, ack, ams, eos⟩ := h
  cases f0 <;> cases f1 <;> kernel_rfl
theorem ends_ans (h : Hd) : Ans Try.prog 13 [hdr h] (endsD h) ⟨0, [], []⟩ := by
  unfold endsD endE endA endB
  cases ho : okH h with
  | false =>
    have e : chk h = 8 := by unfold chk; rw [ho]; rfl
    have := zflat_ok tab_ok mixed fun_ok cCk_ok (ends_run h) (.cons (by rw [e]; rfl) .nil)
    rw [e] at this
    exact this
  | true =>
    have e : (chk h != 0) = false := by unfold chk; rw [ho]; rfl
    cases hk : (h.kind == 1) with
    | true => exact zflat_ok tab_ok mixed fun_ok cCk_ok (ends_run1 h) (.cons e (.cons hk .nil))
    | false => exact zflat_ok tab_ok mixed fun_ok cCk_ok (ends_run2 h) (.cons e (.cons hk .nil))
def cEn : ConF := liftC (comC 13 (gH endsD))
theorem cEn_ok : ConOk Try.prog cEn := liftC_ok (comC_ok fun args d hh => by
  obtain ⟨h, rfl, rfl⟩ := gH_some hh
  exact ends_ans h)
end
end Go.Proofs.Ytcllanmickbkpaa
