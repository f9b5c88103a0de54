/- What a header's frame uses, whether a header is valid, its size, its ends: contracts. -/
import Derived.Test.YtoghpmeoekbcbaaHa
namespace Go.Proofs.Ytoghpmeoekbcbaa
open Go.RowKit

noncomputable section
def cV1 : ConF := orK cBt (orK cIn cWr)
theorem cV1_ok : ConOk Try.prog cV1 := orK_ok cBt_ok (orK_ok cIn_ok cWr_ok)
set_option maxRecDepth 1000000 in
theorem vld_ans (h : Hd) (l : Lay) (hg : goodL l = true) : Ans Try.prog 40 [hdr h, lyD l] (.bool (vld h l)) ⟨0, [], []⟩ := by
  have r0 : zflat (zans Try.prog tab ftab cV1 40 [hdr h, lyD l] [(10, .b false)]) = some (.bool false, [eqU h l = false]) := by
    obtain ⟨fl, bd, hl⟩ := good_cases hg
    rcases hl with rfl | rfl | rfl | rfl | rfl | rfl <;> kernel_rfl
  have r1 : zflat (zans Try.prog tab ftab cV1 40 [hdr h, lyD l] [(10, .b true), (14, .b false)]) = some (.bool false, [eqU h l = true, inR h = false]) := by
    obtain ⟨fl, bd, hl⟩ := good_cases hg
    rcases hl with rfl | rfl | rfl | rfl | rfl | rfl <;> kernel_rfl
  have r2 : zflat (zans Try.prog tab ftab cV1 40 [hdr h, lyD l] [(10, .b true), (14, .b true), (20, .b false)]) = some (.bool false, [eqU h l = true, inR h = true, (!grp h.a2) = false]) := by
    obtain ⟨fl, bd, hl⟩ := good_cases hg
    rcases hl with rfl | rfl | rfl | rfl | rfl | rfl <;> kernel_rfl
  have r3 : zflat (zans Try.prog tab ftab cV1 40 [hdr h, lyD l] [(10, .b true), (14, .b true), (20, .b true)]) = some (.bool (!wrg h l), [eqU h l = true, inR h = true, (!grp h.a2) = true]) := by
    obtain ⟨fl, bd, hl⟩ := good_cases hg
    rcases hl with rfl | rfl | rfl | rfl | rfl | rfl <;> kernel_rfl
  unfold vld
  cases h0 : eqU h l with
  | false => exact zflat_ok tab_ok mixed fun_ok cV1_ok r0 (.cons h0 .nil)
  | true =>
  cases h1 : inR h with
  | false => exact zflat_ok tab_ok mixed fun_ok cV1_ok r1 (.cons h0 (.cons h1 .nil))
  | true =>
  cases h2 : (!grp h.a2) with
  | false => exact zflat_ok tab_ok mixed fun_ok cV1_ok r2 (.cons h0 (.cons h1 (.cons h2 .nil)))
  | true => exact zflat_ok tab_ok mixed fun_ok cV1_ok r3 (.cons h0 (.cons h1 (.cons h2 .nil)))
def cVa : ConF := liftC (comC 40 (gHL goodL fun h l => .bool (vld h l)))
theorem cVa_ok : ConOk Try.prog cVa := liftC_ok (comC_ok fun args d hh => by
  obtain ⟨h, l, rfl, rfl, hg⟩ := gHL_some hh
  exact vld_ans h l hg)
/-! ### layoutOf -/
def layOf (h : Hd) : Lay × Bool :=
  if h.kind = 0 then (⟨124, 3, false, true⟩, decide (h.sub ∈ [(0 : Int), (1 : Int), (2 : Int), (3 : Int), (4 : Int), (5 : Int), (8 : Int), (10 : Int), (11 : Int), (12 : Int), (13 : Int)]))
  else if h.kind = 1 then (if h.sub = 12 ∨ h.sub = 13 then (⟨48, 1, false, false⟩, true) else if h.sub = 11 ∨ h.sub = 10 then (⟨48, 2, false, false⟩, true) else if h.sub = 8 ∨ h.sub = 9 then (⟨48, 2, false, true⟩, true) else (⟨0, 0, false, false⟩, false))
  else if h.kind = 2 then (if h.sub = 0 then (⟨127, cond (h.f0 && h.f1) 4 3, false, true⟩, true) else if h.sub = 4 then (⟨127, cond (h.f0 && h.f1) 4 3, false, false⟩, true) else if h.sub = 8 then (⟨127, cond (h.f0 && h.f1) 4 3, true, true⟩, true) else if h.sub = 12 then (⟨127, cond (h.f0 && h.f1) 4 3, true, false⟩, true) else (⟨0, 0, false, false⟩, false))
  else (⟨0, 0, false, false⟩, false)
abbrev layA (p : Lay × Bool) : DV := .tuple [lyD p.1, .bool p.2]
set_option maxRecDepth 1000000 in
theorem lay_0_0 (f0 : Bool) (f1 : Bool) (f2 : Bool) (f3 : Bool) (f4 : Bool) (f5 : Bool) (f6 : Bool) (dur : Int) (a1 : Ad6) (a2 : Ad6) (a3 : Ad6) (a4 : Ad6) (seq : Int) (frag : Int) (tid : Int) (ack : Int) (ams : Bool) (eos : Bool) : zflat (zans Try.prog tab ftab noC 31 [hdr ⟨0, 0, f0, f1, f2, f3, f4, f5, f6, dur, a1, a2, a3, a4, seq, frag, tid, ack, ams, eos⟩] []) = some (layA (layOf ⟨0, 0, f0, f1, f2, f3, f4, f5, f6, dur, a1, a2, a3, a4, seq, frag, tid, ack, ams, eos⟩), []) := by kernel_rfl
set_option maxRecDepth 1000000 in
theorem lay_0_1 (f0 : Bool) (f1 : Bool) (f2 : Bool) (f3 : Bool) (f4 : Bool) (f5 : Bool) (f6 : Bool) (dur : Int) (a1 : Ad6) (a2 : Ad6) (a3 : Ad6) (a4 : Ad6) (seq : Int) (frag : Int) (tid : Int) (ack : Int) (ams : Bool) (eos : Bool) : zflat (zans Try.prog tab ftab noC 31 [hdr ⟨0, 1, f0, f1, f2, f3, f4, f5, f6, dur, a1, a2, a3, a4, seq, frag, tid, ack, ams, eos⟩] []) = some (layA (layOf ⟨0, 1, f0, f1, f2, f3, f4, f5, f6, dur, a1, a2, a3, a4, seq, frag, tid, ack, ams, eos⟩), []) := by kernel_rfl
set_option maxRecDepth 1000000 in
theorem lay_0_2 (f0 : Bool) (f1 : Bool) (f2 : Bool) (f3 : Bool) (f4 : Bool) (f5 : Bool) (f6 : Bool) (dur : Int) (a1 : Ad6) (a2 : Ad6) (a3 : Ad6) (a4 : Ad6) (seq : Int) (frag : Int) (tid : Int) (ack : Int) (ams : Bool) (eos : Bool) : zflat (zans Try.prog tab ftab noC 31 [hdr ⟨0, 2, f0, f1, f2, f3, f4, f5, f6, dur, a1, a2, a3, a4, seq, frag, tid, ack, ams, eos⟩] []) = some (layA (layOf ⟨0, 2, f0, f1, f2, f3, f4, f5, f6, dur, a1, a2, a3, a4, seq, frag, tid, ack, ams, eos⟩), []) := by kernel_rfl
set_option maxRecDepth 1000000 in
theorem lay_0_3 (f0 : Bool) (f1 : Bool) (f2 : Bool) (f3 : Bool) (f4 : Bool) (f5 : Bool) (f6 : Bool) (dur : Int) (a1 : Ad6) (a2 : Ad6) (a3 : Ad6) (a4 : Ad6) (seq : Int) (frag : Int) (tid : Int) (ack : Int) (ams : Bool) (eos : Bool) : zflat (zans Try.prog tab ftab noC 31 [hdr ⟨0, 3, f0, f1, f2, f3, f4, f5, f6, dur, a1, a2, a3, a4, seq, frag, tid, ack, ams, eos⟩] []) = some (layA (layOf ⟨0, 3, f0, f1, f2, f3, f4, f5, f6, dur, a1, a2, a3, a4, seq, frag, tid, ack, ams, eos⟩), []) := by kernel_rfl
set_option maxRecDepth 1000000 in
theorem lay_0_4 (f0 : Bool) (f1 : Bool) (f2 : Bool) (f3 : Bool) (f4 : Bool) (f5 : Bool) (f6 : Bool) (dur : Int) (a1 : Ad6) (a2 : Ad6) (a3 : Ad6) (a4 : Ad6) (seq : Int) (frag : Int) (tid : Int) (ack : Int) (ams : Bool) (eos : Bool) : zflat (zans Try.prog tab ftab noC 31 [hdr ⟨0, 4, f0, f1, f2, f3, f4, f5, f6, dur, a1, a2, a3, a4, seq, frag, tid, ack, ams, eos⟩] []) = some (layA (layOf ⟨0, 4, f0, f1, f2, f3, f4, f5, f6, dur, a1, a2, a3, a4, seq, frag, tid, ack, ams, eos⟩), []) := by kernel_rfl
set_option maxRecDepth 1000000 in
theorem lay_0_5 (f0 : Bool) (f1 : Bool) (f2 : Bool) (f3 : Bool) (f4 : Bool) (f5 : Bool) (f6 : Bool) (dur : Int) (a1 : Ad6) (a2 : Ad6) (a3 : Ad6) (a4 : Ad6) (seq : Int) (frag : Int) (tid : Int) (ack : Int) (ams : Bool) (eos : Bool) : zflat (zans Try.prog tab ftab noC 31 [hdr ⟨0, 5, f0, f1, f2, f3, f4, f5, f6, dur, a1, a2, a3, a4, seq, frag, tid, ack, ams, eos⟩] []) = some (layA (layOf ⟨0, 5, f0, f1, f2, f3, f4, f5, f6, dur, a1, a2, a3, a4, seq, frag, tid, ack, ams, eos⟩), []) := by kernel_rfl
set_option maxRecDepth 1000000 in
theorem lay_0_8 (f0 : Bool) (f1 : Bool) (f2 : Bool) (f3 : Bool) (f4 : Bool) (f5 : Bool) (f6 : Bool) (dur : Int) (a1 : Ad6) (a2 : Ad6) (a3 : Ad6) (a4 : Ad6) (seq : Int) (frag : Int) (tid : Int) (ack : Int) (ams : Bool) (eos : Bool) : zflat (zans Try.prog tab ftab noC 31 [hdr ⟨0, 8, f0, f1, f2, f3, f4, f5, f6, dur, a1, a2, a3, a4, seq, frag, tid, ack, ams, eos⟩] []) = some (layA (layOf ⟨0, 8, f0, f1, f2, f3, f4, f5, f6, dur, a1, a2, a3, a4, seq, frag, tid, ack, ams, eos⟩), []) := by kernel_rfl
set_option maxRecDepth 1000000 in
theorem lay_0_10 (f0 : Bool) (f1 : Bool) (f2 : Bool) (f3 : Bool) (f4 : Bool) (f5 : Bool) (f6 : Bool) (dur : Int) (a1 : Ad6) (a2 : Ad6) (a3 : Ad6) (a4 : Ad6) (seq : Int) (frag : Int) (tid : Int) (ack : Int) (ams : Bool) (eos : Bool) : zflat (zans Try.prog tab ftab noC 31 [hdr ⟨0, 10, f0, f1, f2, f3, f4, f5, f6, dur, a1, a2, a3, a4, seq, frag, tid, ack, ams, eos⟩] []) = some (layA (layOf ⟨0, 10, f0, f1, f2, f3, f4, f5, f6, dur, a1, a2, a3, a4, seq, frag, tid, ack, ams, eos⟩), []) := by kernel_rfl
set_option maxRecDepth 1000000 in
theorem lay_0_11 (f0 : Bool) (f1 : Bool) (f2 : Bool) (f3 : Bool) (f4 : Bool) (f5 : Bool) (f6 : Bool) (dur : Int) (a1 : Ad6) (a2 : Ad6) (a3 : Ad6) (a4 : Ad6) (seq : Int) (frag : Int) (tid : Int) (ack : Int) (ams : Bool) (eos : Bool) : zflat (zans Try.prog tab ftab noC 31 [hdr ⟨0, 11, f0, f1, f2, f3, f4, f5, f6, dur, a1, a2, a3, a4, seq, frag, tid, ack, ams, eos⟩] []) = some (layA (layOf ⟨0, 11, f0, f1, f2, f3, f4, f5, f6, dur, a1, a2, a3, a4, seq, frag, tid, ack, ams, eos⟩), []) := by kernel_rfl
set_option maxRecDepth 1000000 in
theorem lay_0_12 (f0 : Bool) (f1 : Bool) (f2 : Bool) (f3 : Bool) (f4 : Bool) (f5 : Bool) (f6 : Bool) (dur : Int) (a1 : Ad6) (a2 : Ad6) (a3 : Ad6) (a4 : Ad6) (seq : Int) (frag : Int) (tid : Int) (ack : Int) (ams : Bool) (eos : Bool) : zflat (zans Try.prog tab ftab noC 31 [hdr ⟨0, 12, f0, f1, f2, f3, f4, f5, f6, dur, a1, a2, a3, a4, seq, frag, tid, ack, ams, eos⟩] []) = some (layA (layOf ⟨0, 12, f0, f1, f2, f3, f4, f5, f6, dur, a1, a2, a3, a4, seq, frag, tid, ack, ams, eos⟩), []) := by kernel_rfl
set_option maxRecDepth 1000000 in
theorem lay_0_13 (f0 : Bool) (f1 : Bool) (f2 : Bool) (f3 : Bool) (f4 : Bool) (f5 : Bool) (f6 : Bool) (dur : Int) (a1 : Ad6) (a2 : Ad6) (a3 : Ad6) (a4 : Ad6) (seq : Int) (frag : Int) (tid : Int) (ack : Int) (ams : Bool) (eos : Bool) : zflat (zans Try.prog tab ftab noC 31 [hdr ⟨0, 13, f0, f1, f2, f3, f4, f5, f6, dur, a1, a2, a3, a4, seq, frag, tid, ack, ams, eos⟩] []) = some (layA (layOf ⟨0, 13, f0, f1, f2, f3, f4, f5, f6, dur, a1, a2, a3, a4, seq, frag, tid, ack, ams, eos⟩), []) := by kernel_rfl
set_option maxRecDepth 1000000 in
theorem lay_1_12 (f0 : Bool) (f1 : Bool) (f2 : Bool) (f3 : Bool) (f4 : Bool) (f5 : Bool) (f6 : Bool) (dur : Int) (a1 : Ad6) (a2 : Ad6) (a3 : Ad6) (a4 : Ad6) (seq : Int) (frag : Int) (tid : Int) (ack : Int) (ams : Bool) (eos : Bool) : zflat (zans Try.prog tab ftab noC 31 [hdr ⟨1, 12, f0, f1, f2, f3, f4, f5, f6, dur, a1, a2, a3, a4, seq, frag, tid, ack, ams, eos⟩] []) = some (layA (layOf ⟨1, 12, f0, f1, f2, f3, f4, f5, f6, dur, a1, a2, a3, a4, seq, frag, tid, ack, ams, eos⟩), []) := by kernel_rfl
set_option maxRecDepth 1000000 in
theorem lay_1_13 (f0 : Bool) (f1 : Bool) (f2 : Bool) (f3 : Bool) (f4 : Bool) (f5 : Bool) (f6 : Bool) (dur : Int) (a1 : Ad6) (a2 : Ad6) (a3 : Ad6) (a4 : Ad6) (seq : Int) (frag : Int) (tid : Int) (ack : Int) (ams : Bool) (eos : Bool) : zflat (zans Try.prog tab ftab noC 31 [hdr ⟨1, 13, f0, f1, f2, f3, f4, f5, f6, dur, a1, a2, a3, a4, seq, frag, tid, ack, ams, eos⟩] []) = some (layA (layOf ⟨1, 13, f0, f1, f2, f3, f4, f5, f6, dur, a1, a2, a3, a4, seq, frag, tid, ack, ams, eos⟩), []) := by kernel_rfl
set_option maxRecDepth 1000000 in
theorem lay_1_11 (f0 : Bool) (f1 : Bool) (f2 : Bool) (f3 : Bool) (f4 : Bool) (f5 : Bool) (f6 : Bool) (dur : Int) (a1 : Ad6) (a2 : Ad6) (a3 : Ad6) (a4 : Ad6) (seq : Int) (frag : Int) (tid : Int) (ack : Int) (ams : Bool) (eos : Bool) : zflat (zans Try.prog tab ftab noC 31 [hdr ⟨1, 11, f0, f1, f2, f3, f4, f5, f6, dur, a1, a2, a3, a4, seq, frag, tid, ack, ams, eos⟩] []) = some (layA (layOf ⟨1, 11, f0, f1, f2, f3, f4, f5, f6, dur, a1, a2, a3, a4, seq, frag, tid, ack, ams, eos⟩), []) := by kernel_rfl
set_option maxRecDepth 1000000 in
theorem lay_1_10 (f0 : Bool) (f1 : Bool) (f2 : Bool) (f3 : Bool) (f4 : Bool) (f5 : Bool) (f6 : Bool) (dur : Int) (a1 : Ad6) (a2 : Ad6) (a3 : Ad6) (a4 : Ad6) (seq : Int) (frag : Int) (tid : Int) (ack : Int) (ams : Bool) (eos : Bool) : zflat (zans Try.prog tab ftab noC 31 [hdr ⟨1, 10, f0, f1, f2, f3, f4, f5, f6, dur, a1, a2, a3, a4, seq, frag, tid, ack, ams, eos⟩] []) = some (layA (layOf ⟨1, 10, f0, f1, f2, f3, f4, f5, f6, dur, a1, a2, a3, a4, seq, frag, tid, ack, ams, eos⟩), []) := by kernel_rfl
set_option maxRecDepth 1000000 in
theorem lay_1_8 (f0 : Bool) (f1 : Bool) (f2 : Bool) (f3 : Bool) (f4 : Bool) (f5 : Bool) (f6 : Bool) (dur : Int) (a1 : Ad6) (a2 : Ad6) (a3 : Ad6) (a4 : Ad6) (seq : Int) (frag : Int) (tid : Int) (ack : Int) (ams : Bool) (eos : Bool) : zflat (zans Try.prog tab ftab noC 31 [hdr ⟨1, 8, f0, f1, f2, f3, f4, f5, f6, dur, a1, a2, a3, a4, seq, frag, tid, ack, ams, eos⟩] []) = some (layA (layOf ⟨1, 8, f0, f1, f2, f3, f4, f5, f6, dur, a1, a2, a3, a4, seq, frag, tid, ack, ams, eos⟩), []) := by kernel_rfl
set_option maxRecDepth 1000000 in
theorem lay_1_9 (f0 : Bool) (f1 : Bool) (f2 : Bool) (f3 : Bool) (f4 : Bool) (f5 : Bool) (f6 : Bool) (dur : Int) (a1 : Ad6) (a2 : Ad6) (a3 : Ad6) (a4 : Ad6) (seq : Int) (frag : Int) (tid : Int) (ack : Int) (ams : Bool) (eos : Bool) : zflat (zans Try.prog tab ftab noC 31 [hdr ⟨1, 9, f0, f1, f2, f3, f4, f5, f6, dur, a1, a2, a3, a4, seq, frag, tid, ack, ams, eos⟩] []) = some (layA (layOf ⟨1, 9, f0, f1, f2, f3, f4, f5, f6, dur, a1, a2, a3, a4, seq, frag, tid, ack, ams, eos⟩), []) := by kernel_rfl
set_option maxRecDepth 1000000 in
theorem lay_2_0 (f0 : Bool) (f1 : Bool) (f2 : Bool) (f3 : Bool) (f4 : Bool) (f5 : Bool) (f6 : Bool) (dur : Int) (a1 : Ad6) (a2 : Ad6) (a3 : Ad6) (a4 : Ad6) (seq : Int) (frag : Int) (tid : Int) (ack : Int) (ams : Bool) (eos : Bool) : zflat (zans Try.prog tab ftab noC 31 [hdr ⟨2, 0, f0, f1, f2, f3, f4, f5, f6, dur, a1, a2, a3, a4, seq, frag, tid, ack, ams, eos⟩] []) = some (layA (layOf ⟨2, 0, f0, f1, f2, f3, f4, f5, f6, dur, a1, a2, a3, a4, seq, frag, tid, ack, ams, eos⟩), []) := by cases f0 <;> cases f1 <;> kernel_rfl
set_option maxRecDepth 1000000 in
theorem lay_2_4 (f0 : Bool) (f1 : Bool) (f2 : Bool) (f3 : Bool) (f4 : Bool) (f5 : Bool) (f6 : Bool) (dur : Int) (a1 : Ad6) (a2 : Ad6) (a3 : Ad6) (a4 : Ad6) (seq : Int) (frag : Int) (tid : Int) (ack : Int) (ams : Bool) (eos : Bool) : zflat (zans Try.prog tab ftab noC 31 [hdr ⟨2, 4, f0, f1, f2, f3, f4, f5, f6, dur, a1, a2, a3, a4, seq, frag, tid, ack, ams, eos⟩] []) = some (layA (layOf ⟨2, 4, f0, f1, f2, f3, f4, f5, f6, dur, a1, a2, a3, a4, seq, frag, tid, ack, ams, eos⟩), []) := by cases f0 <;> cases f1 <;> kernel_rfl
set_option maxRecDepth 1000000 in
theorem lay_2_8 (f0 : Bool) (f1 : Bool) (f2 : Bool) (f3 : Bool) (f4 : Bool) (f5 : Bool) (f6 : Bool) (dur : Int) (a1 : Ad6) (a2 : Ad6) (a3 : Ad6) (a4 : Ad6) (seq : Int) (frag : Int) (tid : Int) (ack : Int) (ams : Bool) (eos : Bool) : zflat (zans Try.prog tab ftab noC 31 [hdr ⟨2, 8, f0, f1, f2, f3, f4, f5, f6, dur, a1, a2, a3, a4, seq, frag, tid, ack, ams, eos⟩] []) = some (layA (layOf ⟨2, 8, f0, f1, f2, f3, f4, f5, f6, dur, a1, a2, a3, a4, seq, frag, tid, ack, ams, eos⟩), []) := by cases f0 <;> cases f1 <;> kernel_rfl
set_option maxRecDepth 1000000 in
theorem lay_2_12 (f0 : Bool) (f1 : Bool) (f2 : Bool) (f3 : Bool) (f4 : Bool) (f5 : Bool) (f6 : Bool) (dur : Int) (a1 : Ad6) (a2 : Ad6) (a3 : Ad6) (a4 : Ad6) (seq : Int) (frag : Int) (tid : Int) (ack : Int) (ams : Bool) (eos : Bool) : zflat (zans Try.prog tab ftab noC 31 [hdr ⟨2, 12, f0, f1, f2, f3, f4, f5, f6, dur, a1, a2, a3, a4, seq, frag, tid, ack, ams, eos⟩] []) = some (layA (layOf ⟨2, 12, f0, f1, f2, f3, f4, f5, f6, dur, a1, a2, a3, a4, seq, frag, tid, ack, ams, eos⟩), []) := by cases f0 <;> cases f1 <;> kernel_rfl
set_option maxRecDepth 1000000 in
theorem lay_0_o (sub : Int) (f0 : Bool) (f1 : Bool) (f2 : Bool) (f3 : Bool) (f4 : Bool) (f5 : Bool) (f6 : Bool) (dur : Int) (a1 : Ad6) (a2 : Ad6) (a3 : Ad6) (a4 : Ad6) (seq : Int) (frag : Int) (tid : Int) (ack : Int) (ams : Bool) (eos : Bool) : zflat (zans Try.prog tab ftab noC 31 [hdr ⟨0, sub, f0, f1, f2, f3, f4, f5, f6, dur, a1, a2, a3, a4, seq, frag, tid, ack, ams, eos⟩] [(11, .c [(5, .b false), (6, .b false), (7, .b false), (8, .b false), (9, .b false), (10, .b false), (11, .b false), (12, .b false), (13, .b false), (14, .b false), (15, .b false)])]) = some (layA (⟨124, 3, false, true⟩, false), [(sub == 0) = false, (sub == 1) = false, (sub == 2) = false, (sub == 3) = false, (sub == 4) = false, (sub == 5) = false, (sub == 8) = false, (sub == 10) = false, (sub == 11) = false, (sub == 12) = false, (sub == 13) = false]) := by kernel_rfl
set_option maxRecDepth 1000000 in
theorem lay_1_o (sub : Int) (f0 : Bool) (f1 : Bool) (f2 : Bool) (f3 : Bool) (f4 : Bool) (f5 : Bool) (f6 : Bool) (dur : Int) (a1 : Ad6) (a2 : Ad6) (a3 : Ad6) (a4 : Ad6) (seq : Int) (frag : Int) (tid : Int) (ack : Int) (ams : Bool) (eos : Bool) : zflat (zans Try.prog tab ftab noC 31 [hdr ⟨1, sub, f0, f1, f2, f3, f4, f5, f6, dur, a1, a2, a3, a4, seq, frag, tid, ack, ams, eos⟩] [(16, .c [(6, .b false), (7, .b false), (10, .b false), (11, .b false), (14, .b false), (15, .b false)])]) = some (layA (⟨0, 0, false, false⟩, false), [(sub == 12) = false, (sub == 13) = false, (sub == 11) = false, (sub == 10) = false, (sub == 8) = false, (sub == 9) = false]) := by kernel_rfl
set_option maxRecDepth 1000000 in
theorem lay_2_o (sub : Int) (f0 : Bool) (f1 : Bool) (f2 : Bool) (f3 : Bool) (f4 : Bool) (f5 : Bool) (f6 : Bool) (dur : Int) (a1 : Ad6) (a2 : Ad6) (a3 : Ad6) (a4 : Ad6) (seq : Int) (frag : Int) (tid : Int) (ack : Int) (ams : Bool) (eos : Bool) : zflat (zans Try.prog tab ftab noC 31 [hdr ⟨2, sub, f0, f1, f2, f3, f4, f5, f6, dur, a1, a2, a3, a4, seq, frag, tid, ack, ams, eos⟩] [(22, .c [(17, .b false), (20, .b false), (22, .b false), (26, .b false)])]) = some (layA (⟨0, 0, false, false⟩, false), [(sub == 0) = false, (sub == 4) = false, (sub == 8) = false, (sub == 12) = false]) := by cases f0 <;> cases f1 <;> kernel_rfl
set_option maxRecDepth 1000000 in
theorem lay_o (h : Hd) : zflat (zans Try.prog tab ftab noC 31 [hdr h] [(7, .b false), (13, .b false), (20, .b false)]) = some (layA (⟨0, 0, false, false⟩, false), [(h.kind == 0) = false, (h.kind == 1) = false, (h.kind == 2) = false]) := by kernel_rfl
theorem ne_beq {a b : Int} (h : a ≠ b) : (a == b) = false := beq_false_of_ne h
theorem lay_ans (h : Hd) : Ans Try.prog 31 [hdr h] (layA (layOf h)) ⟨0, [], []⟩ := by
  obtain ⟨kind, sub, f0, f1, f2, f3, f4, f5, f6, dur, a1, a2, a3, a4, seq, frag, tid, ack, ams, eos⟩ := h
  have go : ∀ {d : DV} {args : List DV} {p : Yath} {cs : List Prop}, zflat (zans Try.prog tab ftab noC 31 args p) = some (d, cs) → AskedP cs → Ans Try.prog 31 args d ⟨0, [], []⟩ := fun h hc => zflat_ok tab_ok mixed fun_ok noC_ok h hc
  by_cases k0 : kind = 0
  · subst k0
    by_cases s0 : sub = 0
    · subst s0
      exact go (lay_0_0 f0 f1 f2 f3 f4 f5 f6 dur a1 a2 a3 a4 seq frag tid ack ams eos) .nil
    by_cases s1 : sub = 1
    · subst s1
      exact go (lay_0_1 f0 f1 f2 f3 f4 f5 f6 dur a1 a2 a3 a4 seq frag tid ack ams eos) .nil
    by_cases s2 : sub = 2
    · subst s2
      exact go (lay_0_2 f0 f1 f2 f3 f4 f5 f6 dur a1 a2 a3 a4 seq frag tid ack ams eos) .nil
    by_cases s3 : sub = 3
    · subst s3
      exact go (lay_0_3 f0 f1 f2 f3 f4 f5 f6 dur a1 a2 a3 a4 seq frag tid ack ams eos) .nil
    by_cases s4 : sub = 4
    · subst s4
      exact go (lay_0_4 f0 f1 f2 f3 f4 f5 f6 dur a1 a2 a3 a4 seq frag tid ack ams eos) .nil
    by_cases s5 : sub = 5
    · subst s5
      exact go (lay_0_5 f0 f1 f2 f3 f4 f5 f6 dur a1 a2 a3 a4 seq frag tid ack ams eos) .nil
    by_cases s8 : sub = 8
    · subst s8
      exact go (lay_0_8 f0 f1 f2 f3 f4 f5 f6 dur a1 a2 a3 a4 seq frag tid ack ams eos) .nil
    by_cases s10 : sub = 10
    · subst s10
      exact go (lay_0_10 f0 f1 f2 f3 f4 f5 f6 dur a1 a2 a3 a4 seq frag tid ack ams eos) .nil
    by_cases s11 : sub = 11
    · subst s11
      exact go (lay_0_11 f0 f1 f2 f3 f4 f5 f6 dur a1 a2 a3 a4 seq frag tid ack ams eos) .nil
    by_cases s12 : sub = 12
    · subst s12
      exact go (lay_0_12 f0 f1 f2 f3 f4 f5 f6 dur a1 a2 a3 a4 seq frag tid ack ams eos) .nil
    by_cases s13 : sub = 13
    · subst s13
      exact go (lay_0_13 f0 f1 f2 f3 f4 f5 f6 dur a1 a2 a3 a4 seq frag tid ack ams eos) .nil
    have e : layOf ⟨0, sub, f0, f1, f2, f3, f4, f5, f6, dur, a1, a2, a3, a4, seq, frag, tid, ack, ams, eos⟩ = (⟨124, 3, false, true⟩, false) := by simp [layOf, s0, s1, s2, s3, s4, s5, s8, s10, s11, s12, s13]
    rw [e]
    exact go (lay_0_o sub f0 f1 f2 f3 f4 f5 f6 dur a1 a2 a3 a4 seq frag tid ack ams eos) (.cons (ne_beq s0) (.cons (ne_beq s1) (.cons (ne_beq s2) (.cons (ne_beq s3) (.cons (ne_beq s4) (.cons (ne_beq s5) (.cons (ne_beq s8) (.cons (ne_beq s10) (.cons (ne_beq s11) (.cons (ne_beq s12) (.cons (ne_beq s13) .nil)))))))))))
  by_cases k1 : kind = 1
  · subst k1
    by_cases s12 : sub = 12
    · subst s12
      exact go (lay_1_12 f0 f1 f2 f3 f4 f5 f6 dur a1 a2 a3 a4 seq frag tid ack ams eos) .nil
    by_cases s13 : sub = 13
    · subst s13
      exact go (lay_1_13 f0 f1 f2 f3 f4 f5 f6 dur a1 a2 a3 a4 seq frag tid ack ams eos) .nil
    by_cases s11 : sub = 11
    · subst s11
      exact go (lay_1_11 f0 f1 f2 f3 f4 f5 f6 dur a1 a2 a3 a4 seq frag tid ack ams eos) .nil
    by_cases s10 : sub = 10
    · subst s10
      exact go (lay_1_10 f0 f1 f2 f3 f4 f5 f6 dur a1 a2 a3 a4 seq frag tid ack ams eos) .nil
    by_cases s8 : sub = 8
    · subst s8
      exact go (lay_1_8 f0 f1 f2 f3 f4 f5 f6 dur a1 a2 a3 a4 seq frag tid ack ams eos) .nil
    by_cases s9 : sub = 9
    · subst s9
      exact go (lay_1_9 f0 f1 f2 f3 f4 f5 f6 dur a1 a2 a3 a4 seq frag tid ack ams eos) .nil
    have e : layOf ⟨1, sub, f0, f1, f2, f3, f4, f5, f6, dur, a1, a2, a3, a4, seq, frag, tid, ack, ams, eos⟩ = (⟨0, 0, false, false⟩, false) := by simp [layOf, s12, s13, s11, s10, s8, s9]
    rw [e]
    exact go (lay_1_o sub f0 f1 f2 f3 f4 f5 f6 dur a1 a2 a3 a4 seq frag tid ack ams eos) (.cons (ne_beq s12) (.cons (ne_beq s13) (.cons (ne_beq s11) (.cons (ne_beq s10) (.cons (ne_beq s8) (.cons (ne_beq s9) .nil))))))
  by_cases k2 : kind = 2
  · subst k2
    by_cases s0 : sub = 0
    · subst s0
      exact go (lay_2_0 f0 f1 f2 f3 f4 f5 f6 dur a1 a2 a3 a4 seq frag tid ack ams eos) .nil
    by_cases s4 : sub = 4
    · subst s4
      exact go (lay_2_4 f0 f1 f2 f3 f4 f5 f6 dur a1 a2 a3 a4 seq frag tid ack ams eos) .nil
    by_cases s8 : sub = 8
    · subst s8
      exact go (lay_2_8 f0 f1 f2 f3 f4 f5 f6 dur a1 a2 a3 a4 seq frag tid ack ams eos) .nil
    by_cases s12 : sub = 12
    · subst s12
      exact go (lay_2_12 f0 f1 f2 f3 f4 f5 f6 dur a1 a2 a3 a4 seq frag tid ack ams eos) .nil
    have e : layOf ⟨2, sub, f0, f1, f2, f3, f4, f5, f6, dur, a1, a2, a3, a4, seq, frag, tid, ack, ams, eos⟩ = (⟨0, 0, false, false⟩, false) := by simp [layOf, s0, s4, s8, s12]
    rw [e]
    exact go (lay_2_o sub f0 f1 f2 f3 f4 f5 f6 dur a1 a2 a3 a4 seq frag tid ack ams eos) (.cons (ne_beq s0) (.cons (ne_beq s4) (.cons (ne_beq s8) (.cons (ne_beq s12) .nil))))
  have e : layOf ⟨kind, sub, f0, f1, f2, f3, f4, f5, f6, dur, a1, a2, a3, a4, seq, frag, tid, ack, ams, eos⟩ = (⟨0, 0, false, false⟩, false) := by simp [layOf, k0, k1, k2]
  rw [e]
  exact go (lay_o ⟨kind, sub, f0, f1, f2, f3, f4, f5, f6, dur, a1, a2, a3, a4, seq, frag, tid, ack, ams, eos⟩) (.cons (ne_beq k0) (.cons (ne_beq k1) (.cons (ne_beq k2) .nil)))
theorem lay_good (h : Hd) (hk : (layOf h).2 = true) : goodL (layOf h).1 = true := by
  unfold layOf at hk ⊢
  split
  · rfl
  · split
    · split
      · rfl
      · split
        · rfl
        · split
          · rfl
          · simp_all
    · split
      · cases h.f0 <;> cases h.f1 <;> (repeat' (split; rfl)) <;> simp_all
      · simp_all
def cLy : ConF := liftC (comC 31 (gH fun h => layA (layOf h)))
theorem cLy_ok : ConOk Try.prog cLy := liftC_ok (comC_ok fun args d hh => by
  obtain ⟨h, rfl, rfl⟩ := gH_some hh
  exact lay_ans h)
/-! ### Size, Check, Ends -/
def cS1 : ConF := orK cLy cVa
theorem cS1_ok : ConOk Try.prog cS1 := orK_ok cLy_ok cVa_ok
def szL (l : Lay) : Int := 4 + l.addrs * 6 + cond (decide (l.addrs > 2)) 2 0 + cond l.traffic 2 0
def okH (h : Hd) : Bool := (layOf h).2 && vld h (layOf h).1
def chk (h : Hd) : Int := cond (okH h) 0 8
def siz (h : Hd) : Int := cond (okH h) (szL (layOf h).1) 0
abbrev sizD (h : Hd) : DV := .tuple [.int .i64 (siz h), .int .i64 (chk h)]
set_option maxRecDepth 1000000 in
theorem siz_ans (h : Hd) : Ans Try.prog 18 [hdr h] (sizD h) ⟨0, [], []⟩ := by
  have r0 : ∀ l, zflat (zans Try.prog tab ftab cS1 18 [hdr h] [(8, .w (layA (l, false)))]) = some (.tuple [.int .i64 0, .int .i64 8], [layA (layOf h) = layA (l, false)]) := fun l => by kernel_rfl
  have r1 : ∀ l, goodL l = true → zflat (zans Try.prog tab ftab cS1 18 [hdr h] [(8, .w (layA (l, true))), (18, .b true)]) = some (.tuple [.int .i64 0, .int .i64 8], [layA (layOf h) = layA (l, true), (!vld h l) = true]) := fun l hg => by
    obtain ⟨fl, bd, hl⟩ := good_cases hg
    rcases hl with rfl | rfl | rfl | rfl | rfl | rfl <;> kernel_rfl
  have r2 : ∀ l, goodL l = true → zflat (zans Try.prog tab ftab cS1 18 [hdr h] [(8, .w (layA (l, true))), (18, .b false)]) = some (.tuple [.int .i64 (szL l), .int .i64 0], [layA (layOf h) = layA (l, true), (!vld h l) = false]) := fun l hg => by
    obtain ⟨fl, bd, hl⟩ := good_cases hg
    rcases hl with rfl | rfl | rfl | rfl | rfl | rfl <;> kernel_rfl
  unfold sizD siz chk okH
  have hg := lay_good h
  cases hl : layOf h with
  | mk l k =>
  rw [hl] at hg
  cases k with
  | false => exact zflat_ok tab_ok mixed fun_ok cS1_ok (r0 l) (.cons (by rw [hl]) .nil)
  | true =>
  simp only [Bool.true_and]
  cases hv : vld h l with
  | false => exact zflat_ok tab_ok mixed fun_ok cS1_ok (r1 l (hg rfl)) (.cons (by rw [hl]) (.cons (by rw [hv]; rfl) .nil))
  | true => exact zflat_ok tab_ok mixed fun_ok cS1_ok (r2 l (hg rfl)) (.cons (by rw [hl]) (.cons (by rw [hv]; rfl) .nil))
def cSz : ConF := liftC (comC 18 (gH sizD))
theorem cSz_ok : ConOk Try.prog cSz := liftC_ok (comC_ok fun args d hh => by
  obtain ⟨h, rfl, rfl⟩ := gH_some hh
  exact siz_ans h)
set_option maxRecDepth 1000000 in
theorem chk_run (h : Hd) : zflat (zans Try.prog tab ftab cSz 12 [hdr h] []) = some (.int .i64 (chk h), []) := by kernel_rfl
def cCk : ConF := liftC (comC 12 (gH fun h => .int .i64 (chk h)))
theorem cCk_ok : ConOk Try.prog cCk := liftC_ok (comC_ok fun args d hh => by
  obtain ⟨h, rfl, rfl⟩ := gH_some hh
  exact zflat_ok tab_ok mixed fun_ok cSz_ok (chk_run h) .nil)
def acs (a : Ad6) : List DV := [.int .u8 a.b0, .int .u8 a.b1, .int .u8 a.b2, .int .u8 a.b3, .int .u8 a.b4, .int .u8 a.b5]
def noA : Ad6 := ⟨0, 0, 0, 0, 0, 0⟩
def endE (h : Hd) : Int := cond (okH h) (cond (h.kind == 1) 2 0) 8
def endA (h : Hd) : Ad6 := cond (okH h && !(h.kind == 1)) (cond h.f0 h.a3 h.a1) noA
def endB (h : Hd) : Ad6 := cond (okH h && !(h.kind == 1)) (cond h.f0 (cond h.f1 h.a4 h.a2) (cond h.f1 h.a3 h.a2)) noA
abbrev endsD (h : Hd) : DV := .tuple [.agg (acs (endA h)), .agg (acs (endB h)), .int .i64 (endE h)]
set_option maxRecDepth 1000000 in
theorem ends_run (h : Hd) : zflat (zans Try.prog tab ftab cCk 16 [hdr h] [(9, .b true)]) = some (.tuple [.agg (acs noA), .agg (acs noA), .int .i64 (chk h)], [(chk h != 0) = true]) := by kernel_rfl
set_option maxRecDepth 1000000 in
theorem ends_run1 (h : Hd) : zflat (zans Try.prog tab ftab cCk 16 [hdr h] [(9, .b false), (16, .b true)]) = some (.tuple [.agg (acs noA), .agg (acs noA), .int .i64 2], [(chk h != 0) = false, (h.kind == 1) = true]) := by kernel_rfl
set_option maxRecDepth 1000000 in
theorem ends_run2 (h : Hd) : zflat (zans Try.prog tab ftab cCk 16 [hdr h] [(9, .b false), (16, .b false)]) = some (.tuple [.agg (acs (cond h.f0 h.a3 h.a1)), .agg (acs (cond h.f0 (cond h.f1 h.a4 h.a2) (cond h.f1 h.a3 h.a2))), .int .i64 0], [(chk h != 0) = false, (h.kind == 1) = false]) := by
  obtain ⟨kind, sub, f0, f1, f2, f3, f4, f5, f6, dur, a1, a2, a3, a4, seq, frag, tid, ack, ams, eos⟩ := h
  cases f0 <;> cases f1 <;> kernel_rfl
theorem ends_ans (h : Hd) : Ans Try.prog 16 [hdr h] (endsD h) ⟨0, [], []⟩ := by
  unfold endsD endE endA endB
  cases ho : okH h with
  | false =>
    have e : chk h = 8 := by unfold chk; rw [ho]; rfl
    have := zflat_ok tab_ok mixed fun_ok cCk_ok (ends_run h) (.cons (by rw [e]; rfl) .nil)
    rw [e] at this
    exact this
  | true =>
    have e : (chk h != 0) = false := by unfold chk; rw [ho]; rfl
    cases hk : (h.kind == 1) with
    | true => exact zflat_ok tab_ok mixed fun_ok cCk_ok (ends_run1 h) (.cons e (.cons hk .nil))
    | false => exact zflat_ok tab_ok mixed fun_ok cCk_ok (ends_run2 h) (.cons e (.cons hk .nil))
def cEn : ConF := liftC (comC 16 (gH endsD))
theorem cEn_ok : ConOk Try.prog cEn := liftC_ok (comC_ok fun args d hh => by
  obtain ⟨h, rfl, rfl⟩ := gH_some hh
  exact ends_ans h)
end
end Go.Proofs.Ytoghpmeoekbcbaa
