/- Verify and Verify8 undo Append and Append8, and what they accept is the rest with its check: the statement returns true. No conditions. -/
import Derived.Test.YtmdomipnjlhmeabCw
import Derived.Test.YtmdomipnjlhmeabLw
import Derived.WalkKit
import Derived.ProofKit
import Derived.OpenShut
import Derived.ShutString
import Derived.ChangeOld
import Derived.Below
namespace Go.Proofs.Ytmdomipnjlhmeab.checkBack
open Go.ChangeShapes Go.WideShapes Go.ChangeAt Go.RowKit

theorem own : ownKnob Try.prog.godebug = none := by kernel_rfl
theorem laidOut : laidOutB Try.prog = true := by kernel_rfl

noncomputable section
def cBk : CallF := orK cAl3 (orK cApp (orK cApp8 (orK cVerL cVerS)))
theorem cBk_ok : CallOk Try.prog cBk := orK_ok cAl3_ok (orK_ok cApp_ok (orK_ok cApp8_ok (orK_ok cVerL_ok cVerS_ok)))
set_option maxRecDepth 1000000 in
theorem great (xs : List (List DV)) : zflat (zans Try.prog tab ftab cBk 14 [.list 1 xs] [(14, .b true)]) = some (.bool true, [decide ((xs.length : Int) > 3000) = true]) := by
  kernel_rfl
set_option maxRecDepth 1000000 in
theorem run00 (xs : List (List DV)) (d1 d2 d3 d4 d5 d6 _d7 _d8 : DV) (h1 h2 h3 h4 h5 h6 _h7 _h8 : Hp) (s1 s2 s3 s4 _s5 _s6 _s7 _s8 : ByteArray) (z5 z6 : Int) : zflat (zans Try.prog tab ftab cBk 14 [.list 1 xs] [(14, .b false), (22, .r d1 h1), (23, .r (.tuple [d2, .int .i64 0]) h2), (28, .r d3 h3), (29, .r (.tuple [d4, .int .i64 0]) h4), (34, .r (.tuple [d5, .int .i64 z5]) h5), (39, .r (.tuple [d6, .int .i64 z6]) h6), (49, .h (.str s1) h6 none), (51, .h (.str s2) h6 none), (52, .b true), (60, .h (.str s3) h6 none), (62, .h (.str s4) h6 none), (63, .b true), (67, .b true), (79, .b true)]) = some (.bool true, [decide ((xs.length : Int) > 3000) = false,
    cBk 39 [.list 1 xs] ⟨0, []⟩ = some (d1, h1, none),
    cBk 28 [d1] h1 = some (.tuple [d2, .int .i64 0], h2, none),
    cBk 40 [.list 1 xs] h2 = some (d3, h3, none),
    cBk 29 [d3] h3 = some (.tuple [d4, .int .i64 0], h4, none),
    cBk 28 [.list 1 xs] h4 = some (.tuple [d5, .int .i64 z5], h5, none),
    cBk 29 [.list 1 xs] h5 = some (.tuple [d6, .int .i64 z6], h6, none),
    convD tab h6 45 9 d2 = some (.str s1, h6, none),
    convD tab h6 45 9 (.list 1 xs) = some (.str s2, h6, none),
    eqBytes s1.data.toList s2.data.toList = true,
    convD tab h6 45 9 d4 = some (.str s3, h6, none),
    convD tab h6 45 9 (.list 1 xs) = some (.str s4, h6, none),
    eqBytes s3.data.toList s4.data.toList = true,
    (z5 != 0) = true,
    (z6 != 0) = true]) := by
  kernel_rfl
set_option maxRecDepth 1000000 in
theorem run01 (xs : List (List DV)) (d1 d2 d3 d4 d5 d6 _d7 d8 : DV) (h1 h2 h3 h4 h5 h6 _h7 h8 : Hp) (s1 s2 s3 s4 _s5 _s6 s7 s8 : ByteArray) (z5 _z6 : Int) : zflat (zans Try.prog tab ftab cBk 14 [.list 1 xs] [(14, .b false), (22, .r d1 h1), (23, .r (.tuple [d2, .int .i64 0]) h2), (28, .r d3 h3), (29, .r (.tuple [d4, .int .i64 0]) h4), (34, .r (.tuple [d5, .int .i64 z5]) h5), (39, .r (.tuple [d6, .int .i64 0]) h6), (49, .h (.str s1) h6 none), (51, .h (.str s2) h6 none), (52, .b true), (60, .h (.str s3) h6 none), (62, .h (.str s4) h6 none), (63, .b true), (67, .b true), (82, .r d8 h8), (83, .h (.str s7) h8 none), (85, .h (.str s8) h8 none), (86, .b true)]) = some (.bool true, [decide ((xs.length : Int) > 3000) = false,
    cBk 39 [.list 1 xs] ⟨0, []⟩ = some (d1, h1, none),
    cBk 28 [d1] h1 = some (.tuple [d2, .int .i64 0], h2, none),
    cBk 40 [.list 1 xs] h2 = some (d3, h3, none),
    cBk 29 [d3] h3 = some (.tuple [d4, .int .i64 0], h4, none),
    cBk 28 [.list 1 xs] h4 = some (.tuple [d5, .int .i64 z5], h5, none),
    cBk 29 [.list 1 xs] h5 = some (.tuple [d6, .int .i64 0], h6, none),
    convD tab h6 45 9 d2 = some (.str s1, h6, none),
    convD tab h6 45 9 (.list 1 xs) = some (.str s2, h6, none),
    eqBytes s1.data.toList s2.data.toList = true,
    convD tab h6 45 9 d4 = some (.str s3, h6, none),
    convD tab h6 45 9 (.list 1 xs) = some (.str s4, h6, none),
    eqBytes s3.data.toList s4.data.toList = true,
    (z5 != 0) = true,
    cBk 40 [d6] h6 = some (d8, h8, none),
    convD tab h8 45 9 d8 = some (.str s7, h8, none),
    convD tab h8 45 9 (.list 1 xs) = some (.str s8, h8, none),
    eqBytes s7.data.toList s8.data.toList = true]) := by
  kernel_rfl
set_option maxRecDepth 1000000 in
theorem run10 (xs : List (List DV)) (d1 d2 d3 d4 d5 d6 d7 _d8 : DV) (h1 h2 h3 h4 h5 h6 h7 _h8 : Hp) (s1 s2 s3 s4 s5 s6 _s7 _s8 : ByteArray) (_z5 z6 : Int) : zflat (zans Try.prog tab ftab cBk 14 [.list 1 xs] [(14, .b false), (22, .r d1 h1), (23, .r (.tuple [d2, .int .i64 0]) h2), (28, .r d3 h3), (29, .r (.tuple [d4, .int .i64 0]) h4), (34, .r (.tuple [d5, .int .i64 0]) h5), (39, .r (.tuple [d6, .int .i64 z6]) h6), (49, .h (.str s1) h6 none), (51, .h (.str s2) h6 none), (52, .b true), (60, .h (.str s3) h6 none), (62, .h (.str s4) h6 none), (63, .b true), (70, .r d7 h7), (71, .h (.str s5) h7 none), (73, .h (.str s6) h7 none), (74, .b true), (79, .b true)]) = some (.bool true, [decide ((xs.length : Int) > 3000) = false,
    cBk 39 [.list 1 xs] ⟨0, []⟩ = some (d1, h1, none),
    cBk 28 [d1] h1 = some (.tuple [d2, .int .i64 0], h2, none),
    cBk 40 [.list 1 xs] h2 = some (d3, h3, none),
    cBk 29 [d3] h3 = some (.tuple [d4, .int .i64 0], h4, none),
    cBk 28 [.list 1 xs] h4 = some (.tuple [d5, .int .i64 0], h5, none),
    cBk 29 [.list 1 xs] h5 = some (.tuple [d6, .int .i64 z6], h6, none),
    convD tab h6 45 9 d2 = some (.str s1, h6, none),
    convD tab h6 45 9 (.list 1 xs) = some (.str s2, h6, none),
    eqBytes s1.data.toList s2.data.toList = true,
    convD tab h6 45 9 d4 = some (.str s3, h6, none),
    convD tab h6 45 9 (.list 1 xs) = some (.str s4, h6, none),
    eqBytes s3.data.toList s4.data.toList = true,
    cBk 39 [d5] h6 = some (d7, h7, none),
    convD tab h7 45 9 d7 = some (.str s5, h7, none),
    convD tab h7 45 9 (.list 1 xs) = some (.str s6, h7, none),
    eqBytes s5.data.toList s6.data.toList = true,
    (z6 != 0) = true]) := by
  kernel_rfl
set_option maxRecDepth 1000000 in
theorem run11 (xs : List (List DV)) (d1 d2 d3 d4 d5 d6 d7 d8 : DV) (h1 h2 h3 h4 h5 h6 h7 h8 : Hp) (s1 s2 s3 s4 s5 s6 s7 s8 : ByteArray) (_z5 _z6 : Int) : zflat (zans Try.prog tab ftab cBk 14 [.list 1 xs] [(14, .b false), (22, .r d1 h1), (23, .r (.tuple [d2, .int .i64 0]) h2), (28, .r d3 h3), (29, .r (.tuple [d4, .int .i64 0]) h4), (34, .r (.tuple [d5, .int .i64 0]) h5), (39, .r (.tuple [d6, .int .i64 0]) h6), (49, .h (.str s1) h6 none), (51, .h (.str s2) h6 none), (52, .b true), (60, .h (.str s3) h6 none), (62, .h (.str s4) h6 none), (63, .b true), (70, .r d7 h7), (71, .h (.str s5) h7 none), (73, .h (.str s6) h7 none), (74, .b true), (82, .r d8 h8), (83, .h (.str s7) h8 none), (85, .h (.str s8) h8 none), (86, .b true)]) = some (.bool true, [decide ((xs.length : Int) > 3000) = false,
    cBk 39 [.list 1 xs] ⟨0, []⟩ = some (d1, h1, none),
    cBk 28 [d1] h1 = some (.tuple [d2, .int .i64 0], h2, none),
    cBk 40 [.list 1 xs] h2 = some (d3, h3, none),
    cBk 29 [d3] h3 = some (.tuple [d4, .int .i64 0], h4, none),
    cBk 28 [.list 1 xs] h4 = some (.tuple [d5, .int .i64 0], h5, none),
    cBk 29 [.list 1 xs] h5 = some (.tuple [d6, .int .i64 0], h6, none),
    convD tab h6 45 9 d2 = some (.str s1, h6, none),
    convD tab h6 45 9 (.list 1 xs) = some (.str s2, h6, none),
    eqBytes s1.data.toList s2.data.toList = true,
    convD tab h6 45 9 d4 = some (.str s3, h6, none),
    convD tab h6 45 9 (.list 1 xs) = some (.str s4, h6, none),
    eqBytes s3.data.toList s4.data.toList = true,
    cBk 39 [d5] h6 = some (d7, h7, none),
    convD tab h7 45 9 d7 = some (.str s5, h7, none),
    convD tab h7 45 9 (.list 1 xs) = some (.str s6, h7, none),
    eqBytes s5.data.toList s6.data.toList = true,
    cBk 40 [d6] h7 = some (d8, h8, none),
    convD tab h8 45 9 d8 = some (.str s7, h8, none),
    convD tab h8 45 9 (.list 1 xs) = some (.str s8, h8, none),
    eqBytes s7.data.toList s8.data.toList = true]) := by
  kernel_rfl
theorem at_app {hp : Hp} {d : DV} (b : Bs) (h : frz1 hp d (byL b.1)) : cBk 39 [d] hp = some (.sl (hp.n + 0) 0 1 (withL b.1).length (withL b.1).length, layH hp (oneH (celB (withL b.1))), none) :=
  orK_right (fixC_other (by kernel_rfl)) (orK_left (cApp_at b h))
theorem at_app8 {hp : Hp} {d : DV} (b : Bs) (h : frz1 hp d (byL b.1)) : cBk 40 [d] hp = some (.sl (hp.n + 0) 0 1 (withS b.1).length (withS b.1).length, layH hp (oneH (celB (withS b.1))), none) :=
  orK_right (fixC_other (by kernel_rfl)) (orK_right (conC_other (by kernel_rfl)) (orK_left (cApp8_at b h)))
theorem at_ver {hp : Hp} {d x : DV} {y : Hp} (b : Bs) (h : frz1 hp d (byL b.1)) (hv : verL b.1 = (x, y)) : cBk 28 [d] hp = some (sh3 hp.n x, layH hp y, none) := by
  have := cVerL_at (hp := hp) b h
  rw [hv] at this
  exact orK_right (fixC_other (by kernel_rfl)) (orK_right (conC_other (by kernel_rfl)) (orK_right (conC_other (by kernel_rfl)) (orK_left this)))
theorem at_ver8 {hp : Hp} {d x : DV} {y : Hp} (b : Bs) (h : frz1 hp d (byL b.1)) (hv : verS b.1 = (x, y)) : cBk 29 [d] hp = some (sh3 hp.n x, layH hp y, none) := by
  have := cVerS_at (hp := hp) b h
  rw [hv] at this
  exact orK_right (fixC_other (by kernel_rfl)) (orK_right (conC_other (by kernel_rfl)) (orK_right (conC_other (by kernel_rfl)) (orK_right (conC_other (by kernel_rfl)) this)))
theorem withL_length (bs : List UInt8) : (withL bs).length = bs.length + 4 := by rw [withL, List.length_append]; rfl
theorem withS_length (bs : List UInt8) : (withS bs).length = bs.length + 1 := by rw [withS, List.length_append]; rfl
theorem take_withL (bs : List UInt8) : (withL bs).take bs.length = bs := List.take_left' rfl
theorem take_withS (bs : List UInt8) : (withS bs).take bs.length = bs := List.take_left' rfl
theorem verL_with (bs : List UInt8) : verL (withL bs) = (.tuple [.sl 0 0 1 bs.length bs.length, .int .i64 0], oneH (celB (withL bs))) := by
  have h : (withL bs).length - 4 = bs.length := by rw [withL_length]; omega
  rw [verL, h, take_withL, if_neg (by rw [withL_length]; omega), if_pos rfl]
theorem verS_with (bs : List UInt8) : verS (withS bs) = (.tuple [.sl 0 0 1 bs.length bs.length, .int .i64 0], oneH (celB (withS bs))) := by
  have h : (withS bs).length - 1 = bs.length := by rw [withS_length]; omega
  rw [verS, h, take_withS, if_neg (by rw [withS_length]; omega), if_pos rfl]
theorem sh_lay {hp hp' : Hp} (hl : hp'.l.length = hp'.n) {d : DV} {bs : List UInt8} (h : Sh hp d bs) : Sh (layH hp hp') d bs := by
  rcases h with rfl | ⟨id, off, o, c, rfl, h1, h2⟩
  · exact .inl rfl
  · exact .inr ⟨id, off, o, c, rfl, by rw [layH_get hl, if_pos (Hp.get_lt h1)]; exact h1, h2⟩
theorem sh_pre {hp : Hp} {bs cs : List UInt8} {n : Nat} (hb : cs.take n = bs) (hn : bs.length = n) (c : Nat) : Sh (layH hp (oneH (celB cs))) (.sl (hp.n + 0) 0 1 n c) bs := by
  subst hn
  refine .inr ⟨_, 0, ⟨0, 0, 5, celB cs⟩, c, rfl, by rw [layH_get rfl, if_neg (by omega)]; simp; rfl, fun i b hi => celB_get ?_⟩
  rw [← hb, List.getElem?_take] at hi
  split at hi
  · exact hi
  · cases hi
theorem frz_byL (hp : Hp) (b : List UInt8) : frz1 hp (byL b) (byL b) := ⟨rfl, rfl⟩
theorem eqT {a b : List UInt8} (h : a = b) : eqBytes a b = true := by rw [eqBytes_iff]; exact decide_eq_true h
theorem all (b : List UInt8) : Ans Try.prog 14 [byL b] (.bool true) ⟨0, []⟩ := by
  by_cases hb : b.length > 3000
  · exact zflat_ok tab_ok mixed fun_ok cBk_ok (great (by1 b)) (.cons (decide_eq_true (by rw [by1_length]; omega)) .nil)
  have n0 : decide (((by1 b).length : Int) > 3000) = false := decide_eq_false (by rw [by1_length]; omega)
  have lL : (withL b).length < 2 ^ 30 := by rw [withL_length]; omega
  have lS : (withS b).length < 2 ^ 30 := by rw [withS_length]; omega
  have q1 := at_app (hp := ⟨0, []⟩) (d := byL b) ⟨b, by omega⟩ ⟨rfl, rfl⟩
  have S1 := sh_new ⟨0, []⟩ (withL b) (withL b).length
  generalize layH ⟨0, []⟩ (oneH (celB (withL b))) = h1 at q1 S1
  generalize DV.sl ((⟨0, []⟩ : Hp).n + 0) 0 1 (withL b).length (withL b).length = d1 at q1 S1
  have q2 := at_ver ⟨withL b, lL⟩ S1.frz (verL_with b)
  have S2 := sh_pre (hp := h1) (take_withL b) rfl b.length
  change cBk _ _ _ = some (DV.tuple [.sl (h1.n + 0) 0 1 b.length b.length, .int .i64 0], _, _) at q2
  generalize layH h1 (oneH (celB (withL b))) = h2 at q2 S2
  generalize DV.sl (h1.n + 0) 0 1 b.length b.length = d2 at q2 S2
  have q3 := at_app8 (hp := h2) (d := byL b) ⟨b, by omega⟩ ⟨rfl, rfl⟩
  have S3 := sh_new h2 (withS b) (withS b).length
  have S2' := sh_lay (hp' := oneH (celB (withS b))) rfl S2
  generalize layH h2 (oneH (celB (withS b))) = h3 at q3 S3 S2'
  generalize DV.sl (h2.n + 0) 0 1 (withS b).length (withS b).length = d3 at q3 S3
  have q4 := at_ver8 ⟨withS b, lS⟩ S3.frz (verS_with b)
  have S4 := sh_pre (hp := h3) (take_withS b) rfl b.length
  have S24 := sh_lay (hp' := oneH (celB (withS b))) rfl S2'
  change cBk _ _ _ = some (DV.tuple [.sl (h3.n + 0) 0 1 b.length b.length, .int .i64 0], _, _) at q4
  generalize layH h3 (oneH (celB (withS b))) = h4 at q4 S4 S24
  generalize DV.sl (h3.n + 0) 0 1 b.length b.length = d4 at q4 S4
  -- the two that verify the bytes themselves
  have c5 : ∃ d5 z5 h5, cBk 28 [byL b] h4 = some (.tuple [d5, .int .i64 z5], h5, none) ∧ Sh h5 d2 b ∧ Sh h5 d4 b ∧ ((z5 = 0 ∧ ∃ g, Sh h5 d5 g ∧ withL g = b) ∨ (z5 != 0) = true) := by
    by_cases k1 : b.length < 4
    · exact ⟨_, _, _, at_ver (d := byL b) ⟨b, by omega⟩ (frz_byL _ _) (by rw [verL, if_pos k1]), sh_lay rfl S24, sh_lay rfl S4, .inr rfl⟩
    by_cases k2 : withL (b.take (b.length - 4)) = b
    · exact ⟨_, _, _, at_ver (d := byL b) ⟨b, by omega⟩ (frz_byL _ _) (by rw [verL, if_neg k1, if_pos k2]), sh_lay rfl S24, sh_lay rfl S4, .inl ⟨rfl, b.take (b.length - 4), sh_pre rfl (by rw [List.length_take]; omega) _, k2⟩⟩
    · exact ⟨_, _, _, at_ver (d := byL b) ⟨b, by omega⟩ (frz_byL _ _) (by rw [verL, if_neg k1, if_neg k2]), sh_lay rfl S24, sh_lay rfl S4, .inr rfl⟩
  obtain ⟨d5, z5, h5, q5, S25, S45, c5⟩ := c5
  have c6 : ∃ d6 z6 h6, cBk 29 [byL b] h5 = some (.tuple [d6, .int .i64 z6], h6, none) ∧ Sh h6 d2 b ∧ Sh h6 d4 b ∧ (∀ g, Sh h5 d5 g → Sh h6 d5 g) ∧ ((z6 = 0 ∧ ∃ g, Sh h6 d6 g ∧ withS g = b) ∨ (z6 != 0) = true) := by
    by_cases k1 : b.length < 1
    · exact ⟨_, _, _, at_ver8 (d := byL b) ⟨b, by omega⟩ (frz_byL _ _) (by rw [verS, if_pos k1]), sh_lay rfl S25, sh_lay rfl S45, fun g hg => sh_lay rfl hg, .inr rfl⟩
    by_cases k2 : withS (b.take (b.length - 1)) = b
    · exact ⟨_, _, _, at_ver8 (d := byL b) ⟨b, by omega⟩ (frz_byL _ _) (by rw [verS, if_neg k1, if_pos k2]), sh_lay rfl S25, sh_lay rfl S45, fun g hg => sh_lay rfl hg, .inl ⟨rfl, b.take (b.length - 1), sh_pre rfl (by rw [List.length_take]; omega) _, k2⟩⟩
    · exact ⟨_, _, _, at_ver8 (d := byL b) ⟨b, by omega⟩ (frz_byL _ _) (by rw [verS, if_neg k1, if_neg k2]), sh_lay rfl S25, sh_lay rfl S45, fun g hg => sh_lay rfl hg, .inr rfl⟩
  obtain ⟨d6, z6, h6, q6, S26, S46, up, c6⟩ := c6
  have str : ∀ h : Hp, convD tab h 45 9 (.list 1 (by1 b)) = some (.str ⟨b.toArray⟩, h, none) := fun h => conv_str (bs := b) (.inl rfl)
  have eqb : eqBytes (⟨b.toArray⟩ : ByteArray).data.toList (⟨b.toArray⟩ : ByteArray).data.toList = true := eqT rfl
  have small : ∀ g, withL g = b → g.length < 2 ^ 30 := fun g hg => by rw [← hg, withL_length] at hb; omega
  have small8 : ∀ g, withS g = b → g.length < 2 ^ 30 := fun g hg => by rw [← hg, withS_length] at hb; omega
  rcases c5 with ⟨rfl, g5, S5, w5⟩ | hz5
  · have q7 := at_app ⟨g5, small g5 w5⟩ (up g5 S5).frz
    have S7 := sh_new h6 (withL g5) (withL g5).length
    simp only [w5] at q7 S7
    rcases c6 with ⟨rfl, g6, S6, w6⟩ | hz6
    · have S6' := sh_lay (hp' := oneH (celB b)) rfl S6
      generalize layH h6 (oneH (celB b)) = h7 at q7 S7 S6'
      have q8 := at_app8 ⟨g6, small8 g6 w6⟩ S6'.frz
      have S8 := sh_new h7 (withS g6) (withS g6).length
      simp only [w6] at q8 S8
      exact zflat_ok tab_ok mixed fun_ok cBk_ok (run11 (by1 b) d1 d2 d3 d4 d5 d6 _ _ h1 h2 h3 h4 h5 h6 h7 _ ⟨b.toArray⟩ ⟨b.toArray⟩ ⟨b.toArray⟩ ⟨b.toArray⟩ ⟨b.toArray⟩ ⟨b.toArray⟩ ⟨b.toArray⟩ ⟨b.toArray⟩ 0 0)
        (.cons n0 (.cons q1 (.cons q2 (.cons q3 (.cons q4 (.cons q5 (.cons q6 (.cons (conv_str S26) (.cons (str _) (.cons eqb (.cons (conv_str S46) (.cons (str _) (.cons eqb (.cons q7 (.cons (conv_str S7) (.cons (str _) (.cons eqb (.cons q8 (.cons (conv_str S8) (.cons (str _) (.cons eqb .nil)))))))))))))))))))))
    · exact zflat_ok tab_ok mixed fun_ok cBk_ok (run10 (by1 b) d1 d2 d3 d4 d5 d6 _ .nil h1 h2 h3 h4 h5 h6 _ h6 ⟨b.toArray⟩ ⟨b.toArray⟩ ⟨b.toArray⟩ ⟨b.toArray⟩ ⟨b.toArray⟩ ⟨b.toArray⟩ ⟨b.toArray⟩ ⟨b.toArray⟩ 0 z6)
        (.cons n0 (.cons q1 (.cons q2 (.cons q3 (.cons q4 (.cons q5 (.cons q6 (.cons (conv_str S26) (.cons (str _) (.cons eqb (.cons (conv_str S46) (.cons (str _) (.cons eqb (.cons q7 (.cons (conv_str S7) (.cons (str _) (.cons eqb (.cons hz6 .nil))))))))))))))))))
  · rcases c6 with ⟨rfl, g6, S6, w6⟩ | hz6
    · have q8 := at_app8 ⟨g6, small8 g6 w6⟩ S6.frz
      have S8 := sh_new h6 (withS g6) (withS g6).length
      simp only [w6] at q8 S8
      exact zflat_ok tab_ok mixed fun_ok cBk_ok (run01 (by1 b) d1 d2 d3 d4 d5 d6 .nil _ h1 h2 h3 h4 h5 h6 h6 _ ⟨b.toArray⟩ ⟨b.toArray⟩ ⟨b.toArray⟩ ⟨b.toArray⟩ ⟨b.toArray⟩ ⟨b.toArray⟩ ⟨b.toArray⟩ ⟨b.toArray⟩ z5 0)
        (.cons n0 (.cons q1 (.cons q2 (.cons q3 (.cons q4 (.cons q5 (.cons q6 (.cons (conv_str S26) (.cons (str _) (.cons eqb (.cons (conv_str S46) (.cons (str _) (.cons eqb (.cons hz5 (.cons q8 (.cons (conv_str S8) (.cons (str _) (.cons eqb .nil))))))))))))))))))
    · exact zflat_ok tab_ok mixed fun_ok cBk_ok (run00 (by1 b) d1 d2 d3 d4 d5 d6 .nil .nil h1 h2 h3 h4 h5 h6 h6 h6 ⟨b.toArray⟩ ⟨b.toArray⟩ ⟨b.toArray⟩ ⟨b.toArray⟩ ⟨b.toArray⟩ ⟨b.toArray⟩ ⟨b.toArray⟩ ⟨b.toArray⟩ z5 z6)
        (.cons n0 (.cons q1 (.cons q2 (.cons q3 (.cons q4 (.cons q5 (.cons q6 (.cons (conv_str S26) (.cons (str _) (.cons eqb (.cons (conv_str S46) (.cons (str _) (.cons eqb (.cons hz5 (.cons hz6 .nil)))))))))))))))
end

set_option maxRecDepth 100000 in
set_option maxHeartbeats 8000000 in
theorem walk (w : World) (A0 : Option Addr) (n0 c0 : Nat) (a0 : _) (r0 : (Ty.slice (Ty.nat .u8)).rep w (· < w.heap.size) a0 [.slice A0 n0 c0]) :
    Calls Try.prog 14 #[.slice A0 n0 c0] w fun e w' => e = .returned (.bool true) ∧ Below w.heap.size w w' := by
  obtain ⟨b, vb⟩ := vr_bytes r0
  exact law_ok (all b) (.cons vb (.nil _ _))

set_option maxRecDepth 100000 in
theorem lifted (os : Os) (started : os.Started) (H : Type) (enc : TypeId × Value → H) :
    ReturnsInHanded {} Try.checked os 14 .any (Rows.checkBackSpec.pre6 enc Try.prog Try.f14 Rows.checkBackRow.domain false) (Rows.checkBackSpec.post enc Try.prog Try.f14 false true false false) := by
  refine returnsInHanded_of_change (C := Try.checked) own started (by kernel_rfl) Try.func14
    (ChangeSpec.witness6 (enc := enc) (C := Try.checked) false ⟨#[], #[.slice none 0 0], []⟩ 8 (by kernel_rfl) (by kernel_rfl) (by kernel_rfl) (by kernel_rfl)) ?_
  intro W base args ds gs before hval0 hW hcnd _
  have hval : ∀ (j : Nat) t v, Try.f14.params[j]? = some t → args[j]? = some v → Value.okWide Try.prog W .any base t v := hval0
  have hW' := hW
  obtain ⟨p, q, hA0, hV, rfl, hfz, hnd⟩ := hW
  have hA : DataW.TrodAll enc Try.prog W 0 (fun _ => true) true Try.f14.params.toList args.toList ds p := hA0
  rw [Try.params14] at hA hval
  obtain ⟨v0, vs0, d0, ds0, p0, q0, hargs, rfl, rfl, h0, r0'⟩ := trodAll_cons hA
  obtain ⟨rfl, rfl, rfl⟩ := trodAll_nil r0'
  obtain rfl : args = #[v0] := by cases args; simp_all
  obtain ⟨rfl, rfl⟩ := trodVars_none hV
  have k0 := h0
  have lt0 : ∀ x ∈ p0, x.block < W.heap.size := by obtain ⟨m, hm⟩ := k0; exact DataW.trod_lt m _ _ _ hm
  obtain ⟨A0, n0, c0, rfl⟩ := okWide_slice Try.underlying45 (hval 0 45 v0 rfl rfl)
  obtain ⟨fu0, hf0⟩ := h0
  obtain ⟨a0, ra0⟩ := (opensBytes).2 hf0
  clear hA0 hval0
  refine (walk W A0 n0 c0 a0 (by simpa [Value.cells] using ra0)).mono fun e W' ⟨he, bel⟩ => ?_
  subst he
  exact ⟨_, rfl, _, _, _, [], _, [], hW', trodAll_mk1 (shut_bool Try.underlying4 _), (trodAll_cons_mk (Below.trod laidOut (by kernel_rfl) (of_decide_eq_true (by kernel_rfl)) k0 bel lt0) trodAll_mk0), rfl, bel.frame _, fun h => by cases h⟩

theorem over : Rows.checkBackRow.holds Try.pinned (OpenSpec.ofChange Rows.checkBackSpec) :=
  OpenClaim.holds_of_wide 14 Try.f14 rfl rfl rfl rfl rfl rfl rfl ⟨rfl, rfl, rfl, rfl, rfl⟩ rfl rfl rfl rfl rfl (by kernel_rfl) Try.func14 (by kernel_rfl)
    (of_decide_eq_true (by kernel_rfl)) (by unfold Func.isWrapper; first | (rw [if_pos (by decide +kernel)]; kernel_rfl) | (rw [if_neg (by decide +kernel)]; exact ⟨rfl, rfl⟩))
    (fun os started H enc _ => lifted os started H enc)

theorem proved : Rows.CheckBackSaid :=
  over
end Go.Proofs.Ytmdomipnjlhmeab.checkBack
