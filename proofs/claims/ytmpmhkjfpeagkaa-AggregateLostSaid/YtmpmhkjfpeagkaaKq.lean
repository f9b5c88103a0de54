/- AggregateLost, along its paths. -/
import Derived.Test.YtmpmhkjfpeagkaaKp
namespace Go.Proofs.Ytmpmhkjfpeagkaa
open Go.RowKit

noncomputable section
def cLt : ConF := orK cLo cAt
theorem cLt_ok : ConOk Try.prog cLt := orK_ok cLo_ok cAt_ok
theorem cLt_l {f : FuncId} {args : List DV} {hp : Hp} {r : DV × Hp × Mut} (h : cLo f args hp = some r) : cLt f args hp = some r := orK_left h
theorem orK_none {C1 C2 : ConF} {f : FuncId} {args : List DV} {hp : Hp} (h1 : C1 f args hp = none) (h2 : C2 f args hp = none) : orK C1 C2 f args hp = none := by
  unfold orK
  rw [h1]
  exact h2
theorem cLo_no (args : List DV) (hp : Hp) : cLo fAt args hp = none := by
  refine (orK_none rfl (orK_none (lift_oth (eqC_other (by kernel_rfl))) (orK_none (conC_other (by kernel_rfl)) (orK_none (lift_oth (eqC_other (by kernel_rfl))) (orK_none (lift_oth (eqC_other (by kernel_rfl))) (lift_oth (eqC_other (by kernel_rfl))))))))
theorem cLt_at (hp : Hp) (l : List UInt8) (i : Nat) (h : i + 4 ≤ l.length ∧ l.length < 2 ^ 30) : cLt fAt [byL l, iN i] hp = some (.tuple [iN (annN (l.drop i)), .bool (decide (ann (l.drop i) ≠ 0))], hp, none) := orK_right (cLo_no _ _) (cAt_at hp l i h)
abbrev fLo : FuncId := 9
abbrev kLo : List (Nat × Nat) := ksF ftab fLo
abbrev loL : Code := loopAt (bodyOf ftab fLo) 0
abbrev loS (xs js : List (List DV)) (k en c i : Nat) : Slots := mkT 117 [(0, .list 1 xs), (7, .bool true), (8, .list 1 js), (10, iN k), (12, iN en), (13, iN c), (14, iN i)]
abbrev loE (xs js : List (List DV)) (k c : Nat) : Slots := mkT 117 [(0, .list 1 xs), (7, .bool true), (8, .list 1 js), (10, iN k), (13, iN c)]
abbrev loR : Slots := mkT 117 [(6, .bool true)]
abbrev loV : List Nat := [0, 7, 8, 10, 12, 13, 14]
section
variable (xs js : List (List DV)) (k en c i i4 v : Nat)
set_option maxRecDepth 1000000 in
theorem lr1 : zsee Try.prog tab ftab cLt kLo loV loL (loS xs js k en c i) h00 [(71, .b true), (74, .w (iN i4)), (77, .b true), (84, .q (.tuple [iN v, .bool false])), (90, .w (iN (c + 1))), (80, .w (iN i4))] =
    some (.normal, loS xs js k en (c + 1) i4, h00, (decide ((i : Int) < (en : Int)) = true) :: (DV.int .i64 (IntKind.i64.wrap ((i : Int) + 4)) = iN i4) :: (decide ((i4 : Int) ≤ (js.length : Int)) = true) :: (cLt fAt [.list 1 js, iN i] h00 = some (.tuple [iN v, .bool false], h00, none)) :: (DV.int .i64 (IntKind.i64.wrap ((c : Int) + 1)) = iN (c + 1)) :: (DV.int .i64 (IntKind.i64.wrap ((i : Int) + 4)) = iN i4) :: []) := by kernel_rfl
set_option maxRecDepth 1000000 in
theorem lrF : zsee Try.prog tab ftab cLt kLo [6] loL (loS xs js k en c i) h00 [(71, .b true), (74, .w (iN i4)), (77, .b true), (84, .q (.tuple [iN v, .bool true]))] =
    some (.ret, loR, h00, (decide ((i : Int) < (en : Int)) = true) :: (DV.int .i64 (IntKind.i64.wrap ((i : Int) + 4)) = iN i4) :: (decide ((i4 : Int) ≤ (js.length : Int)) = true) :: (cLt fAt [.list 1 js, iN i] h00 = some (.tuple [iN v, .bool true], h00, none)) :: []) := by kernel_rfl
set_option maxRecDepth 1000000 in
theorem lrX : zsee Try.prog tab ftab cLt kLo [0, 7, 8, 10, 13] loL (loS xs js k en c i) h00 [(71, .b true), (74, .w (iN i4)), (77, .b false)] =
    some (.exit 0, loE xs js k c, h00, (decide ((i : Int) < (en : Int)) = true) :: (DV.int .i64 (IntKind.i64.wrap ((i : Int) + 4)) = iN i4) :: (decide ((i4 : Int) ≤ (js.length : Int)) = false) :: []) := by kernel_rfl
set_option maxRecDepth 1000000 in
theorem lrO : zsee Try.prog tab ftab cLt kLo [0, 7, 8, 10, 13] loL (loS xs js k en c i) h00 [(71, .b false)] = some (.exit 0, loE xs js k c, h00, (decide ((i : Int) < (en : Int)) = false) :: []) := by kernel_rfl
end
abbrev oB (x0 x1 x2 x3 : UInt8) : Ob := ⟨0, 0, 57, [i8 x0, i8 x1, i8 x2, i8 x3]⟩
abbrev hb1 (x0 x1 x2 x3 : UInt8) : Hp := ⟨1, [oB x0 x1 x2 x3], []⟩
abbrev hb2 (cl : List DV) (x0 x1 x2 x3 : UInt8) : Hp := ⟨2, [oR 1 cl, oB x0 x1 x2 x3], []⟩
abbrev lg (xs : List (List DV)) (d : DV) (x0 x1 x2 x3 : UInt8) : List DV := [.list 1 xs, d, .agg [i8 x0, i8 x1, i8 x2, i8 x3]]
abbrev ltA (xs : List (List DV)) (hp : Hp) (g : Bool) (t : List Prop) : List Prop := (cLt fAl [] hp = some (.bool true, hp, none)) :: (cLt fGp [.list 1 xs] hp = some (.bool g, hp, none)) :: t
section
variable (xs js is ps as0 bs qs : List (List DV)) (z : Int) (a e n k s s4 en c c' k1 n1 n2 : Nat) (x0 x1 x2 x3 : UInt8) (cl cl' al bl : List DV)
set_option maxRecDepth 1000000 in
theorem lo1 : zflat (zans Try.prog tab ftab cLt fLo (lg xs (.int .i64 z) x0 x1 x2 x3) [(20, .q (.bool true)), (22, .q (.bool true))]) = some (.bool true, ltA xs (hb1 x0 x1 x2 x3) true []) := by kernel_rfl
set_option maxRecDepth 1000000 in
theorem lo2 : zflat (zans Try.prog tab ftab cLt fLo (lg xs (.int .i64 z) x0 x1 x2 x3) [(20, .q (.bool true)), (22, .q (.bool false)), (25, .b true)]) = some (.bool true, ltA xs (hb1 x0 x1 x2 x3) false ((decide (z < 0) = true) :: [])) := by kernel_rfl
set_option maxRecDepth 1000000 in
theorem lo3 : zflat (zans Try.prog tab ftab cLt fLo (lg xs (.int .i64 z) x0 x1 x2 x3) [(20, .q (.bool true)), (22, .q (.bool false)), (25, .b false), (34, .q (.tuple [.nil, iN e])), (38, .b true)]) = some (.bool true, ltA xs (hb1 x0 x1 x2 x3) false ((decide (z < 0) = false) :: (cLt fJo [.list 1 xs] (hb1 x0 x1 x2 x3) = some (.tuple [.nil, iN e], hb1 x0 x1 x2 x3, none)) :: (((e : Int) != 0) = true) :: [])) := by kernel_rfl
abbrev lsl : Slots := mkT 117 [(0, .list 1 xs), (7, .bool true), (8, .list 1 js), (10, iN k), (11, iN s), (12, iN en)]
abbrev loQ (t : Yath) : Yath := (20, .q (.bool true)) :: (22, .q (.bool false)) :: (25, .b false) :: (34, .r (.tuple [.sl 1 0 1 n n, iN 0]) (hb2 cl x0 x1 x2 x3)) :: (43, .n (iN k)) :: (45, .q (.list 1 is)) :: (47, .n (.fptr [iN s])) :: (50, .w (iN s4)) :: (53, .n (.fptr [.list 1 ps])) :: (56, .w (iN en)) :: (60, .b false) ::
  (64, .w (iN s4)) :: (65, .n (.sl 1 s 1 4 c')) :: (67, .h (iN 4) (hb2 cl' x0 x1 x2 x3) (some 1)) :: (13, .s [0, 7, 8, 10, 11, 12] (lsl xs js k s en) h00) :: t
abbrev loA2 (t : List Prop) : List Prop := ltA xs (hb1 x0 x1 x2 x3) false ((decide ((a : Int) < 0) = false) :: (cLt fJo [.list 1 xs] (hb1 x0 x1 x2 x3) = some (.tuple [.sl 1 0 1 n n, iN 0], hb2 cl x0 x1 x2 x3, none)) :: (binD tab .rem 3 (iN a) (.int .i64 (xs.length : Int)) = some (iN k)) :: (cLt fSt [.list 1 xs] (hb2 cl x0 x1 x2 x3) = some (.list 1 is, hb2 cl x0 x1 x2 x3, none)) ::
  (idxOk (k : Int) is.length = true) :: (nth is ((k : Int).toNat) = some [iN s]) :: (DV.int .i64 (IntKind.i64.wrap ((s : Int) + 4)) = iN s4) :: (idxOk (k : Int) xs.length = true) :: (nth xs ((k : Int).toNat) = some [.list 1 ps]) :: (DV.int .i64 (IntKind.i64.wrap ((s4 : Int) + (ps.length : Int))) = iN en) :: (decide ((n : Int) < (en : Int)) = false) ::
  (DV.int .i64 (IntKind.i64.wrap ((s : Int) + 4)) = iN s4) :: (sliceD tab (hb2 cl x0 x1 x2 x3) bTI (.sl 1 0 1 n n) (some (iN s)) (some (iN s4)) none = some (.sl 1 s 1 4 c')) :: (builtinD tab (hb2 cl x0 x1 x2 x3) .copy [.sl 1 s 1 4 c', .sl 0 0 1 4 4] tyBB = some (iN 4, hb2 cl' x0 x1 x2 x3, some 1)) ::
  (Seen (mkT 117 [(0, .list 1 xs), (7, .bool true), (8, .sl 1 0 1 n n), (10, iN k), (11, iN s), (12, iN en)]) (hb2 cl' x0 x1 x2 x3) (lsl xs js k s en) h00) :: t)
set_option maxRecDepth 1000000 in
theorem lo4 : zflat (zans Try.prog tab ftab cLt fLo (lg xs (iN a) x0 x1 x2 x3) (loQ xs js is ps n k s s4 en c' x0 x1 x2 x3 cl cl' [(0, .l loV .ret loR h00)])) = some (.bool true, loA2 xs js is ps a n k s s4 en c' x0 x1 x2 x3 cl cl' ((Goes Try.prog tab kLo (.loop loL) (loS xs js k en 0 s) h00 .ret loR h00) :: [])) := by kernel_rfl
abbrev hw0 : Hp := ⟨1, [oRw 0 0 []], []⟩
abbrev hw1 : Hp := ⟨2, [oRw 1 0 al, oRw 0 0 []], []⟩
abbrev hw2 : Hp := ⟨3, [oRw 3 1 (al ++ bl), oRw 2 0 al, oRw 0 0 []], []⟩
abbrev loW (d : DV) : Slots := mkT 117 [(7, .bool true), (8, .list 1 js), (13, iN c), (17, d)]
abbrev loT : Yath := (22, .s [7, 8, 13, 17] (loW js c (.list 1 qs)) h00) :: (103, .q (.tuple [.list 1 qs, iN c])) :: (110, .q (.bool true)) :: (115, .b true) :: []
abbrev loG (t : List Prop) : List Prop := loA2 xs js is ps a n k s s4 en c' x0 x1 x2 x3 cl cl' ((Goes Try.prog tab kLo (.loop loL) (loS xs js k en 0 s) h00 (.exit 0) (loE xs js k c) h00) :: (sliceD tab hw0 rTI (.list 1 xs) none (some (iN k)) none = some (.list 1 as0)) :: t)
abbrev loU (d : DV) (h : Hp) : List Prop := (Seen (loW js c d) h (loW js c (.list 1 qs)) h00) :: (cLt fSn [.list 1 js] h00 = some (.tuple [.list 1 qs, iN c], h00, none)) :: (cLt fSa [.list 1 qs, .list 1 qs] h00 = some (.bool true, h00, none)) :: (((c : Int) == (c : Int)) = true) :: []
set_option maxRecDepth 1000000 in
theorem lo5 : zflat (zans Try.prog tab ftab cLt fLo (lg xs (iN a) x0 x1 x2 x3) (loQ xs js is ps n k s s4 en c' x0 x1 x2 x3 cl cl' ((0, .l loV (.exit 0) (loE xs js k c) h00) :: (94, .n (.list 1 as0)) :: (95, .h (.sl 1 0 1 n1 n1) (hw1 al) none) :: (98, .w (iN k1)) :: (99, .n (.list 1 bs)) :: (100, .h (.sl 2 0 1 n2 n2) (hw2 al bl) (some 1)) :: loT js qs c))) =
    some (.bool true, loG xs js is ps as0 a n k s s4 en c c' x0 x1 x2 x3 cl cl' ((builtinD tab hw0 .append [.sl 0 0 1 0 0, .list 1 as0] tyF = some (.sl 1 0 1 n1 n1, hw1 al, none)) :: (DV.int .i64 (IntKind.i64.wrap ((k : Int) + 1)) = iN k1) :: (sliceD tab (hw1 al) rTI (.list 1 xs) (some (iN k1)) none none = some (.list 1 bs)) :: (builtinD tab (hw1 al) .append [.sl 1 0 1 n1 n1, .list 1 bs] tyF = some (.sl 2 0 1 n2 n2, hw2 al bl, some 1)) :: loU js qs c (.sl 2 0 1 n2 n2) (hw2 al bl))) := by kernel_rfl
set_option maxRecDepth 1000000 in
theorem lo6 : zflat (zans Try.prog tab ftab cLt fLo (lg xs (iN a) x0 x1 x2 x3) (loQ xs js is ps n k s s4 en c' x0 x1 x2 x3 cl cl' ((0, .l loV (.exit 0) (loE xs js k c) h00) :: (94, .n (.list 1 [])) :: (98, .w (iN k1)) :: (99, .n (.list 1 bs)) :: (100, .h (.sl 1 0 1 n2 n2) (hw1 bl) none) :: loT js qs c))) =
    some (.bool true, loG xs js is ps [] a n k s s4 en c c' x0 x1 x2 x3 cl cl' ((DV.int .i64 (IntKind.i64.wrap ((k : Int) + 1)) = iN k1) :: (sliceD tab hw0 rTI (.list 1 xs) (some (iN k1)) none none = some (.list 1 bs)) :: (builtinD tab hw0 .append [.sl 0 0 1 0 0, .list 1 bs] tyF = some (.sl 1 0 1 n2 n2, hw1 bl, none)) :: loU js qs c (.sl 1 0 1 n2 n2) (hw1 bl))) := by kernel_rfl
set_option maxRecDepth 1000000 in
theorem lo7 : zflat (zans Try.prog tab ftab cLt fLo (lg xs (iN a) x0 x1 x2 x3) (loQ xs js is ps n k s s4 en c' x0 x1 x2 x3 cl cl' ((0, .l loV (.exit 0) (loE xs js k c) h00) :: (94, .n (.list 1 as0)) :: (95, .h (.sl 1 0 1 n1 n1) (hw1 al) none) :: (98, .w (iN k1)) :: (99, .n (.list 1 [])) :: loT js qs c))) =
    some (.bool true, loG xs js is ps as0 a n k s s4 en c c' x0 x1 x2 x3 cl cl' ((builtinD tab hw0 .append [.sl 0 0 1 0 0, .list 1 as0] tyF = some (.sl 1 0 1 n1 n1, hw1 al, none)) :: (DV.int .i64 (IntKind.i64.wrap ((k : Int) + 1)) = iN k1) :: (sliceD tab (hw1 al) rTI (.list 1 xs) (some (iN k1)) none none = some (.list 1 [])) :: loU js qs c (.sl 1 0 1 n1 n1) (hw1 al))) := by kernel_rfl
set_option maxRecDepth 1000000 in
theorem lo8 : zflat (zans Try.prog tab ftab cLt fLo (lg xs (iN a) x0 x1 x2 x3) (loQ xs js is ps n k s s4 en c' x0 x1 x2 x3 cl cl' ((0, .l loV (.exit 0) (loE xs js k c) h00) :: (94, .n (.list 1 [])) :: (98, .w (iN k1)) :: (99, .n (.list 1 [])) :: loT js qs c))) =
    some (.bool true, loG xs js is ps [] a n k s s4 en c c' x0 x1 x2 x3 cl cl' ((DV.int .i64 (IntKind.i64.wrap ((k : Int) + 1)) = iN k1) :: (sliceD tab hw0 rTI (.list 1 xs) (some (iN k1)) none none = some (.list 1 [])) :: loU js qs c (.sl 0 0 1 0 0) hw0)) := by kernel_rfl
end
end
end Go.Proofs.Ytmpmhkjfpeagkaa
