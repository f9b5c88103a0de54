/- Encode, as a contract. -/
import Derived.Test.YtoghpmeoekbcbaaEn
namespace Go.Proofs.Ytoghpmeoekbcbaa
open Go.RowKit

noncomputable section
abbrev frm (h : Hd) (d : DV) : DV := .agg (hcs h ++ [d])
def encH0 (h : Hd) (l : Lay) (xs : List (List DV)) : Hp := ⟨2, [⟨0, 0, 72, lcs l⟩, ⟨0, 0, 28, hcs h ++ [.list 1 xs]⟩], []⟩
set_option maxRecDepth 1000000 in
theorem enc_no (h : Hd) (l : Lay) (xs : List (List DV)) : zflat (zans Try.prog tab ftab cE 11 [frm h (.list 1 xs)] [(10, .w (layA (l, false)))]) = some (.tuple [.nil, .int .i64 8], [layA (layOf h) = layA (l, false)]) := by kernel_rfl
set_option maxRecDepth 1000000 in
theorem enc_bad (h : Hd) (l : Lay) (xs : List (List DV)) (hg : goodL l = true) : zflat (zans Try.prog tab ftab cE 11 [frm h (.list 1 xs)] [(10, .w (layA (l, true))), (18, .c [(9, .b false)])]) = some (.tuple [.nil, .int .i64 8], [layA (layOf h) = layA (l, true), vld h l = false]) := by
  obtain ⟨fl, bd, hl⟩ := good_cases hg
  rcases hl with rfl | rfl | rfl | rfl | rfl | rfl <;> kernel_rfl
/-- the frame has a body although it may have none -/
def vfP (bd e : Bool) : Yath := match bd with
  | true => [(9, .b true)]
  | false => [(9, .b true), (16, .b e)]
def vfC (h : Hd) (l : Lay) (xs : List (List DV)) (bd e : Bool) : List Prop := match bd with
  | true => [vld h l = true]
  | false => [vld h l = true, ((xs.length : Int) == 0) = e]
set_option maxRecDepth 1000000 in
theorem enc_body (h : Hd) (l : Lay) (xs : List (List DV)) (hg : goodL l = true) (hb : l.body = false) : zflat (zans Try.prog tab ftab cE 11 [frm h (.list 1 xs)] [(10, .w (layA (l, true))), (18, .c (vfP false false))]) = some (.tuple [.nil, .int .i64 8], (layA (layOf h) = layA (l, true)) :: vfC h l xs false false) := by
  obtain ⟨fl, bd, hl⟩ := good_cases hg
  rcases hl with rfl | rfl | rfl | rfl | rfl | rfl <;> (cases bd <;> first | (cases hb; done) | kernel_rfl)
set_option maxRecDepth 1000000 in
theorem enc_long (h : Hd) (l : Lay) (xs : List (List DV)) (hg : goodL l = true) : zflat (zans Try.prog tab ftab cE 11 [frm h (.list 1 xs)] [(10, .w (layA (l, true))), (18, .c (vfP l.body true)), (24, .b true)]) = some (.tuple [.nil, .int .i64 11], (layA (layOf h) = layA (l, true)) :: (vfC h l xs l.body true ++ [decide ((xs.length : Int) > 2304) = true])) := by
  obtain ⟨fl, bd, hl⟩ := good_cases hg
  rcases hl with rfl | rfl | rfl | rfl | rfl | rfl <;> cases bd <;> kernel_rfl
set_option maxRecDepth 1000000 in
theorem enc_run (h : Hd) (l : Lay) (xs : List (List DV)) (N : Nat) (d1 d2 : DV) (h1 h2 : Hp) (m1 : Mut) (hm : m1 = none ∨ m1 = some 2) (hg : goodL l = true) : zans Try.prog tab ftab cE 11 [frm h (.list 1 xs)] [(10, .w (layA (l, true))), (18, .c (vfP l.body true)), (24, .b false), (30, .w (iN N)), (31, .h (.sl 2 0 1 0 0) (encH h l xs) none), (39, .h d1 h1 m1), (40, .r d2 h2)] =
    some (.tuple [d2, .int .i64 0], h2, (layA (layOf h) = layA (l, true)) :: (vfC h l xs l.body true ++ [decide ((xs.length : Int) > 2304) = false, DV.int .i64 (IntKind.i64.wrap (szL l + (xs.length : Int))) = iN N,
      (decide ((0 : Int) ≤ 0) && decide ((0 : Int) ≤ (N : Int)) && fitB ((N : Int).toNat) 1) = true, mkRow (encH0 h l xs) 5 1 [.int .u8 0] ((0 : Int).toNat) ((N : Int).toNat) = (.sl 2 0 1 0 0, encH h l xs, none),
      builtinD tab (putH h l xs) .append [putD h l xs, .list 1 xs] tyB = some (d1, h1, m1), cE 14 [d1] h1 = some (d2, h2, none)])) := by
  obtain ⟨fl, bd, hl⟩ := good_cases hg
  rcases hm with rfl | rfl <;> rcases hl with rfl | rfl | rfl | rfl | rfl | rfl <;> cases bd <;> kernel_rfl
end
end Go.Proofs.Ytoghpmeoekbcbaa
