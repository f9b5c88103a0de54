/- The parts of a content are put: a range over a function with a loop. -/
import Derived.Test.YtejlbkhddehaiaaEx
namespace Go.Proofs.Ytejlbkhddehaiaa
open Go.RowKit

noncomputable section
abbrev fPu : FuncId := 101
abbrev fPp : FuncId := 138
abbrev fCn2 : FuncId := 125
abbrev kPp : List (Nat × Nat) := ksF ftab fPp
abbrev ppL : Code := loopAt (bodyOf ftab fPp) 0
abbrev kPu : List (Nat × Nat) := ksF ftab fPu
abbrev oB8 (k r : Nat) (cl : List DV) : Ob := ⟨k, r, 5, cl⟩
abbrev oBy (d : DV) : Ob := ⟨0, 0, 37, [d]⟩
abbrev puS (xs : List (List DV)) (j : Nat) : Slots := mkT 33 [(2, .ptr 0 0), (7, .ptr 3 0), (9, .list 4 xs), (10, .int .i64 (xs.length : Int)), (11, iN j), (19, .fn fPp [] [.ptr 4 0])]
def rngOf1 (c : Code) : Code := match c with
  | .loop a => a
  | _ => .skip
abbrev puL : Code := loopAt (bodyOf ftab fPu) 0
def puR (xs : List (List DV)) (j st : Nat) (pe : Option Code) : LS := ⟨5, 33, kPu, puS xs j, [20], rngA puL, rngB puL, st, pe⟩
abbrev puO (cs : List (List DV)) (tag : UInt8) (el cl : List DV) (d : DV) : List Ob := [oPl, oBy (.list 1 cs), oB8 0 0 [i8 tag], oEl 0 el, oB8 1 0 cl, oBy d]
abbrev puH (xs : List (List DV)) (j : Nat) (cs : List (List DV)) (tag : UInt8) (el cl : List DV) (d : DV) : Hp := ⟨6, puO cs tag el cl d, [puR xs j 0 none]⟩
abbrev slN (id n : Nat) : DV := .sl id 0 1 n n
/-! ### a yield: the heaps on its way -/
section
variable (xs : List (List DV)) (j : Nat) (cs : List (List DV)) (tag k : UInt8) (el cl : List DV) (n : Nat)
abbrev yS0 : Hp := ⟨7, oB8 0 0 [i8 tag, i8 k] :: puO cs tag el cl (slN 1 n), [puR xs j 1 none]⟩
abbrev yS1 (d : DV) : Hp := ⟨8, [oB8 3 1 (cl ++ [i8 tag, i8 k]), oB8 0 0 [i8 tag, i8 k], oPl, oBy (.list 1 cs), oB8 0 0 [i8 tag], oEl 0 el, oB8 2 0 cl, oBy d], [puR xs j 1 none]⟩
abbrev yS2 (pc : List DV) (d : DV) (tg : UInt8) (st : Nat) : Hp := ⟨9, [oB8 3 1 ((cl ++ [i8 tag, i8 k]) ++ pc), oB8 2 1 (cl ++ [i8 tag, i8 k]), oB8 0 0 [i8 tag, i8 k], oPl, oBy (.list 1 cs), oB8 0 0 [i8 tg], oEl 0 el, oB8 2 0 cl, oBy d], [puR xs j st none]⟩
abbrev yS3 (d : DV) (tg : UInt8) (st : Nat) : Hp := ⟨8, [oB8 3 1 (cl ++ [i8 tag, i8 k]), oB8 0 0 [i8 tag, i8 k], oPl, oBy (.list 1 cs), oB8 0 0 [i8 tg], oEl 0 el, oB8 2 0 cl, oBy d], [puR xs j st none]⟩
abbrev yN0 : Hp := ⟨7, oB8 0 0 [i8 tag, i8 k] :: puO cs tag el [] .nil, [puR xs j 1 none]⟩
abbrev yN1 (d : DV) : Hp := ⟨8, [oB8 1 0 [i8 tag, i8 k], oB8 0 0 [i8 tag, i8 k], oPl, oBy (.list 1 cs), oB8 0 0 [i8 tag], oEl 0 el, oB8 1 0 [], oBy d], [puR xs j 1 none]⟩
abbrev yN2 (pc : List DV) (d : DV) (tg : UInt8) (st : Nat) : Hp := ⟨9, [oB8 3 7 ([i8 tag, i8 k] ++ pc), oB8 2 0 [i8 tag, i8 k], oB8 0 0 [i8 tag, i8 k], oPl, oBy (.list 1 cs), oB8 0 0 [i8 tg], oEl 0 el, oB8 1 0 [], oBy d], [puR xs j st none]⟩
abbrev yN3 (d : DV) (tg : UInt8) (st : Nat) : Hp := ⟨8, [oB8 1 0 [i8 tag, i8 k], oB8 0 0 [i8 tag, i8 k], oPl, oBy (.list 1 cs), oB8 0 0 [i8 tg], oEl 0 el, oB8 1 0 [], oBy d], [puR xs j st none]⟩
end
abbrev ppS (zs : List (List DV)) : Slots := mkT 18 [(0, .yld 5), (3, .list 1 zs)]
abbrev aU8 (ps : List (List DV)) (k : UInt8) : Prop := DV.int .u8 (IntKind.u8.wrap (ps.length : Int)) = i8 k
abbrev aAp (h : Hp) (x y d : DV) (h' : Hp) (m : Mut) : Prop := builtinD tab h .append [x, y] tyBB = some (d, h', m)
section
variable (C : ConF)
abbrev ppQ (H : Hp) (zs ps _rs : List (List DV)) (t : List Prop) : List Prop := (decide ((zs.length : Int) ≥ 255) = true) :: (sliceD tab H bTI (.list 1 zs) none (some (.int .i64 255)) none = some (.list 1 ps)) :: t
abbrev ppZ (H : Hp) (zs rs : List (List DV)) : List Prop := (sliceD tab H bTI (.list 1 zs) (some (.int .i64 255)) none none = some (.list 1 rs)) :: []
abbrev ySy (xs : List (List DV)) (j : Nat) (cs : List (List DV)) (tag k : UInt8) (el cl : List DV) (n p : Nat) (pc : List DV) : Yath := [(25, .w (i8 k)), (27, .h (slN 7 (n + 2)) (yS1 xs j cs tag k el cl (slN 1 n)) (some 1)), (30, .h (slN 8 p) (yS2 xs j cs tag k el cl pc (slN 7 (n + 2)) tag 1) (some 1))]
abbrev ySp (xs : List (List DV)) (j : Nat) (cs : List (List DV)) (tag k : UInt8) (el cl : List DV) (n p : Nat) (ps : List (List DV)) (pc : List DV) (t : List Prop) : List Prop := aU8 ps k :: aAp (yS0 xs j cs tag k el cl n) (slN 1 n) (slN 6 2) (slN 7 (n + 2)) (yS1 xs j cs tag k el cl (slN 1 n)) (some 1) :: aAp (yS1 xs j cs tag k el cl (slN 7 (n + 2))) (slN 7 (n + 2)) (.list 1 ps) (slN 8 p) (yS2 xs j cs tag k el cl pc (slN 7 (n + 2)) tag 1) (some 1) :: t
abbrev yNy (xs : List (List DV)) (j : Nat) (cs : List (List DV)) (tag k : UInt8) (el : List DV) (p : Nat) (pc : List DV) : Yath := [(25, .w (i8 k)), (27, .h (slN 7 2) (yN1 xs j cs tag k el .nil) none), (30, .h (slN 8 p) (yN2 xs j cs tag k el pc (slN 7 2) tag 1) (some 7))]
abbrev yNp (xs : List (List DV)) (j : Nat) (cs : List (List DV)) (tag k : UInt8) (el : List DV) (p : Nat) (ps : List (List DV)) (pc : List DV) (t : List Prop) : List Prop := aU8 ps k :: aAp (yN0 xs j cs tag k el) .nil (slN 6 2) (slN 7 2) (yN1 xs j cs tag k el .nil) none :: aAp (yN1 xs j cs tag k el (slN 7 2)) (slN 7 2) (.list 1 ps) (slN 8 p) (yN2 xs j cs tag k el pc (slN 7 2) tag 1) (some 7) :: t
set_option maxRecDepth 1000000 in
theorem ppS1 (xs : List (List DV)) (j : Nat) (cs : List (List DV)) (tag k : UInt8) (el cl pc : List DV) (n p : Nat) (zs ps rs : List (List DV)) (hel : ∃ i e ys ss, el = elC i e ys ss) : zgm [0, 8, 2, 3, 4, 5] [8] (zsee Try.prog tab ftab C kPp [0, 3] ppL (ppS zs) (puH xs j cs tag el cl (slN 1 n)) [(7, .b true), (10, .n (.list 1 ps)), (11, .c (ySy xs j cs tag k el cl n p pc)), (14, .n (.list 1 rs))]) =
    some (.normal, ppS rs, puH xs j cs 254 el ((cl ++ [i8 tag, i8 k]) ++ pc) (slN 1 p), FlatIn [8] (yS2 xs j cs tag k el cl pc (slN 8 p) 254 0) :: ppQ (puH xs j cs tag el cl (slN 1 n)) zs ps rs (ySp xs j cs tag k el cl n p ps pc (ppZ (yS2 xs j cs tag k el cl pc (slN 8 p) 254 0) zs rs))) := by
  obtain ⟨i, e, ys, ss, rfl⟩ := hel
  kernel_rfl
set_option maxRecDepth 1000000 in
theorem ppN1 (xs : List (List DV)) (j : Nat) (cs : List (List DV)) (tag k : UInt8) (el pc : List DV) (p : Nat) (zs ps rs : List (List DV)) (hel : ∃ i e ys ss, el = elC i e ys ss) : zgm [0, 8, 2, 3, 4, 5] [8] (zsee Try.prog tab ftab C kPp [0, 3] ppL (ppS zs) (puH xs j cs tag el [] .nil) [(7, .b true), (10, .n (.list 1 ps)), (11, .c (yNy xs j cs tag k el p pc)), (14, .n (.list 1 rs))]) =
    some (.normal, ppS rs, puH xs j cs 254 el ([i8 tag, i8 k] ++ pc) (slN 1 p), FlatIn [8] (yN2 xs j cs tag k el pc (slN 8 p) 254 0) :: ppQ (puH xs j cs tag el [] .nil) zs ps rs (yNp xs j cs tag k el p ps pc (ppZ (yN2 xs j cs tag k el pc (slN 8 p) 254 0) zs rs))) := by
  obtain ⟨i, e, ys, ss, rfl⟩ := hel
  kernel_rfl
set_option maxRecDepth 1000000 in
theorem ppO (xs : List (List DV)) (j : Nat) (cs : List (List DV)) (tag : UInt8) (el cl : List DV) (d : DV) (zs : List (List DV)) : zsee Try.prog tab ftab C kPp [0, 3] ppL (ppS zs) (puH xs j cs tag el cl d) [(7, .b false)] =
    some (.exit 0, ppS zs, puH xs j cs tag el cl d, (decide ((zs.length : Int) ≥ 255) = false) :: []) := by kernel_rfl
abbrev ppG (xs : List (List DV)) (j : Nat) (cs : List (List DV)) (tag0 : UInt8) (el cl0 : List DV) (d0 : DV) (zs : List (List DV)) (H : Hp) : Prop := Goes Try.prog tab kPp (.loop ppL) (ppS cs) (puH xs j cs tag0 el cl0 d0) (.exit 0) (ppS zs) H
set_option maxRecDepth 1000000 in
theorem ppS2 (xs : List (List DV)) (j : Nat) (cs : List (List DV)) (tag0 tag k : UInt8) (el cl0 cl pc : List DV) (d0 : DV) (n p : Nat) (zs : List (List DV)) (hel : ∃ i e ys ss, el = elC i e ys ss) : zkpH [0, 8, 2, 3, 4, 5] [8] (zansH Try.prog tab ftab C fPp [.yld 5, .ptr 4 0] (puH xs j cs tag0 el cl0 d0) [(0, .l [0, 3] (.exit 0) (ppS zs) (puH xs j cs tag el cl (slN 1 n))), (17, .c (ySy xs j cs tag k el cl n p pc))]) =
    some (one [], puH xs j cs 254 el ((cl ++ [i8 tag, i8 k]) ++ pc) (slN 1 p), FlatIn [8] (yS2 xs j cs tag k el cl pc (slN 8 p) 254 0) :: ppG xs j cs tag0 el cl0 d0 zs (puH xs j cs tag el cl (slN 1 n)) :: ySp xs j cs tag k el cl n p zs pc []) := by
  obtain ⟨i, e, ys, ss, rfl⟩ := hel
  kernel_rfl
set_option maxRecDepth 1000000 in
theorem ppS3 (xs : List (List DV)) (j : Nat) (cs : List (List DV)) (tag0 tag : UInt8) (el cl0 cl : List DV) (d0 : DV) (n : Nat) (hel : ∃ i e ys ss, el = elC i e ys ss) : zkpH [0, 7, 2, 3, 4, 5] [7] (zansH Try.prog tab ftab C fPp [.yld 5, .ptr 4 0] (puH xs j cs tag0 el cl0 d0) [(0, .l [0, 3] (.exit 0) (ppS []) (puH xs j cs tag el cl (slN 1 n))), (17, .c [(27, .h (slN 7 (n + 2)) (yS1 xs j cs tag 0 el cl (slN 1 n)) (some 1))])]) =
    some (one [], puH xs j cs 254 el (cl ++ [i8 tag, i8 0]) (slN 1 (n + 2)), FlatIn [7] (yS3 xs j cs tag 0 el cl (slN 7 (n + 2)) 254 0) :: ppG xs j cs tag0 el cl0 d0 [] (puH xs j cs tag el cl (slN 1 n)) :: aAp (yS0 xs j cs tag 0 el cl n) (slN 1 n) (slN 6 2) (slN 7 (n + 2)) (yS1 xs j cs tag 0 el cl (slN 1 n)) (some 1) :: []) := by
  obtain ⟨i, e, ys, ss, rfl⟩ := hel
  kernel_rfl
set_option maxRecDepth 1000000 in
theorem ppN2 (xs : List (List DV)) (j : Nat) (cs : List (List DV)) (tag0 tag k : UInt8) (el cl0 pc : List DV) (d0 : DV) (p : Nat) (zs : List (List DV)) (hel : ∃ i e ys ss, el = elC i e ys ss) : zkpH [0, 8, 2, 3, 4, 5] [8] (zansH Try.prog tab ftab C fPp [.yld 5, .ptr 4 0] (puH xs j cs tag0 el cl0 d0) [(0, .l [0, 3] (.exit 0) (ppS zs) (puH xs j cs tag el [] .nil)), (17, .c (yNy xs j cs tag k el p pc))]) =
    some (one [], puH xs j cs 254 el ([i8 tag, i8 k] ++ pc) (slN 1 p), FlatIn [8] (yN2 xs j cs tag k el pc (slN 8 p) 254 0) :: ppG xs j cs tag0 el cl0 d0 zs (puH xs j cs tag el [] .nil) :: yNp xs j cs tag k el p zs pc []) := by
  obtain ⟨i, e, ys, ss, rfl⟩ := hel
  kernel_rfl
set_option maxRecDepth 1000000 in
theorem ppN3 (xs : List (List DV)) (j : Nat) (cs : List (List DV)) (tag0 tag : UInt8) (el cl0 : List DV) (d0 : DV) (hel : ∃ i e ys ss, el = elC i e ys ss) : zkpH [0, 7, 2, 3, 4, 5] [7] (zansH Try.prog tab ftab C fPp [.yld 5, .ptr 4 0] (puH xs j cs tag0 el cl0 d0) [(0, .l [0, 3] (.exit 0) (ppS []) (puH xs j cs tag el [] .nil)), (17, .c [(27, .h (slN 7 2) (yN1 xs j cs tag 0 el .nil) none)])]) =
    some (one [], puH xs j cs 254 el [i8 tag, i8 0] (slN 1 2), FlatIn [7] (yN3 xs j cs tag 0 el (slN 7 2) 254 0) :: ppG xs j cs tag0 el cl0 d0 [] (puH xs j cs tag el [] .nil) :: aAp (yN0 xs j cs tag 0 el) .nil (slN 6 2) (slN 7 2) (yN1 xs j cs tag 0 el .nil) none :: []) := by
  obtain ⟨i, e, ys, ss, rfl⟩ := hel
  kernel_rfl
end
end
end Go.Proofs.Ytejlbkhddehaiaa
