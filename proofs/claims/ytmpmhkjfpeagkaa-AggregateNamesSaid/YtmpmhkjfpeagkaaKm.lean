/- AggregateDamage, along its paths. -/
import Derived.Test.YtmpmhkjfpeagkaaKl
namespace Go.Proofs.Ytmpmhkjfpeagkaa
open Go.RowKit

noncomputable section
def cLo : ConF := orK cAl (orK cGp (orK cJo (orK cSn (orK cSa cSt))))
theorem cLo_ok : ConOk Try.prog cLo := orK_ok cAl_ok (orK_ok cGp_ok (orK_ok cJo_ok (orK_ok cSn_ok (orK_ok cSa_ok cSt_ok))))
theorem cLo_al (hp : Hp) : cLo fAl [] hp = some (.bool true, hp, none) := orK_left rfl
theorem cLo_gp (hp : Hp) (l : List (List UInt8)) (h : l.length < 2 ^ 63) : cLo fGp [fsD l] hp = some (.bool (gpB l), hp, none) := orK_right rfl (orK_left (cGp_at hp l h))
theorem cLo_jo (hp : Hp) (l : List (List UInt8)) : cLo fJo [fsD l] hp = some (sh3 hp.n (joB l).1, layH hp (joB l).2, none) := orK_right rfl (orK_right (lift_oth (eqC_other (by kernel_rfl))) (orK_left (cJo_at hp l)))
theorem cLo_sn (hp : Hp) (b : List UInt8) (h : b.length < 2 ^ 30) : cLo fSn [byL b] hp = some (snD b, hp, none) := orK_right rfl (orK_right (lift_oth (eqC_other (by kernel_rfl))) (orK_right (conC_other (by kernel_rfl)) (orK_left (cSn_at hp b h))))
theorem cLo_sa (hp : Hp) (l : List (List UInt8)) (h : l.length ≤ 256) : cLo fSa [fsD l, fsD l] hp = some (.bool true, hp, none) := orK_right rfl (orK_right (lift_oth (eqC_other (by kernel_rfl))) (orK_right (conC_other (by kernel_rfl)) (orK_right (lift_oth (eqC_other (by kernel_rfl))) (orK_left (cSa_at hp l h)))))
theorem cLo_st (hp : Hp) (l : List (List UInt8)) (h : okPs l) : cLo fSt [fsD l] hp = some (.list 1 (bI (sts l l.length)), hp, none) := orK_right rfl (orK_right (lift_oth (eqC_other (by kernel_rfl))) (orK_right (conC_other (by kernel_rfl)) (orK_right (lift_oth (eqC_other (by kernel_rfl))) (orK_right (lift_oth (eqC_other (by kernel_rfl))) (cSt_at hp l h)))))
abbrev loA (xs : List (List DV)) (hp : Hp) (g : Bool) (t : List Prop) : List Prop := (cLo fAl [] hp = some (.bool true, hp, none)) :: (cLo fGp [.list 1 xs] hp = some (.bool g, hp, none)) :: t
abbrev fDa : FuncId := 7
abbrev kDa : List (Nat × Nat) := ksF ftab fDa
abbrev daL : Code := loopAt (bodyOf ftab fDa) 0
abbrev daG (xs us ws : List (List DV)) (d : DV) : List DV := [.list 1 xs, d, .list 1 us, .list 1 ws]
section
variable (xs us ws : List (List DV)) (z : Int) (a e : Nat)
set_option maxRecDepth 1000000 in
theorem da1 : zflat (zans Try.prog tab ftab cLo fDa (daG xs us ws (.int .i64 z)) [(20, .q (.bool true)), (22, .q (.bool true))]) = some (.bool true, loA xs h00 true []) := by kernel_rfl
set_option maxRecDepth 1000000 in
theorem da2 : zflat (zans Try.prog tab ftab cLo fDa (daG xs us ws (.int .i64 z)) [(20, .q (.bool true)), (22, .q (.bool false)), (25, .b true)]) = some (.bool true, loA xs h00 false ((decide (z < 0) = true) :: [])) := by kernel_rfl
set_option maxRecDepth 1000000 in
theorem da3 : zflat (zans Try.prog tab ftab cLo fDa (daG xs us ws (.int .i64 z)) [(20, .q (.bool true)), (22, .q (.bool false)), (25, .b false), (30, .b true)]) = some (.bool true, loA xs h00 false ((decide (z < 0) = false) :: (decide ((us.length : Int) > 200) = true) :: [])) := by kernel_rfl
set_option maxRecDepth 1000000 in
theorem da4 : zflat (zans Try.prog tab ftab cLo fDa (daG xs us ws (.int .i64 z)) [(20, .q (.bool true)), (22, .q (.bool false)), (25, .b false), (30, .b false), (35, .b true)]) = some (.bool true, loA xs h00 false ((decide (z < 0) = false) :: (decide ((us.length : Int) > 200) = false) :: (((ws.length : Int) == 0) = true) :: [])) := by kernel_rfl
abbrev daA (t : List Prop) : List Prop := loA xs h00 false ((decide (z < 0) = false) :: (decide ((us.length : Int) > 200) = false) :: (((ws.length : Int) == 0) = false) :: t)
set_option maxRecDepth 1000000 in
theorem da5 : zflat (zans Try.prog tab ftab cLo fDa (daG xs us ws (.int .i64 z)) [(20, .q (.bool true)), (22, .q (.bool false)), (25, .b false), (30, .b false), (35, .b false), (44, .q (.tuple [.nil, iN e])), (48, .b true)]) = some (.bool true, daA xs us ws z ((cLo fJo [.list 1 xs] h00 = some (.tuple [.nil, iN e], h00, none)) :: (((e : Int) != 0) = true) :: [])) := by kernel_rfl
end
abbrev oRw (k r : Nat) (cl : List DV) : Ob := ⟨k, r, 22, cl⟩
abbrev hD1 (cl : List DV) : Hp := ⟨2, [oR 0 [], oR 1 cl], []⟩
abbrev hD2 (cl pl : List DV) : Hp := ⟨3, [oR 1 pl, oR 0 [], oR 1 cl], []⟩
abbrev hD3 (cl pl : List DV) : Hp := ⟨4, [oRw 0 0 [], oR 1 pl, oR 0 [], oR 1 cl], []⟩
abbrev hD4 (cl pl rl : List DV) : Hp := ⟨5, [oRw 1 0 rl, oRw 0 0 [], oR 1 pl, oR 0 [], oR 1 cl], []⟩
abbrev daV : List Nat := [0, 2, 3, 9, 10, 12, 13, 14, 15]
abbrev daS (xs us ws : List (List DV)) (n k m st i : Nat) : Slots := mkT 131 [(0, .list 1 xs), (2, .list 1 us), (3, .list 1 ws), (9, .bool true), (10, .sl 0 0 1 n n), (12, iN k), (13, .sl 2 0 1 m m), (14, iN st), (15, iN i)]
abbrev daE (xs : List (List DV)) (n k m : Nat) : Slots := mkT 131 [(0, .list 1 xs), (9, .bool true), (10, .sl 0 0 1 n n), (12, iN k), (13, .sl 2 0 1 m m)]
abbrev remI (a b c : Nat) : Prop := binD tab .rem 3 (iN a) (iN b) = some (iN c)
set_option maxRecDepth 1000000 in
theorem da6 (xs us ws : List (List DV)) (n k m st i v j g p : Nat) (c : UInt8) (cl pl cl' pl' : List DV) : zsee Try.prog tab ftab cLo kDa daV daL (daS xs us ws n k m st i) (hD2 cl pl) [(76, .b true), (81, .n (.fptr [.int .u16 (v : Int)])), (83, .w (iN v)), (86, .n (iN j)), (93, .n (iN g)), (94, .n (.fptr [i8 c])), (96, .n (.ptr 2 j)), (65535, .h (.tuple []) (hD2 cl pl') (some 2)), (100, .w (iN p)), (105, .n (iN g)), (106, .n (.fptr [i8 c])), (108, .n (.ptr 0 p)), (65535, .h (.tuple []) (hD2 cl' pl') (some 0)), (78, .w (iN (i + 1)))] =
    some (.normal, daS xs us ws n k m st (i + 1), hD2 cl' pl', (decide ((i : Int) < (us.length : Int)) = true) :: (idxOk (i : Int) us.length = true) :: (nth us ((i : Int).toNat) = some [.int .u16 (v : Int)]) :: (DV.int .i64 (IntKind.i64.wrap (v : Int)) = iN v) :: remI v m j ::
      (binD tab .rem 3 (iN i) (.int .i64 (ws.length : Int)) = some (iN g)) :: (idxOk (g : Int) ws.length = true) :: (nth ws ((g : Int).toNat) = some [i8 c]) :: (idxOk (j : Int) m = true) :: (DV.ptr 2 (0 + ((j : Int).toNat) * 1) = .ptr 2 j) :: (storeH (hD2 cl pl) 2 j [i8 c] = some (hD2 cl pl', some 2)) ::
      (DV.int .i64 (IntKind.i64.wrap ((st : Int) + (j : Int))) = iN p) :: (binD tab .rem 3 (iN i) (.int .i64 (ws.length : Int)) = some (iN g)) :: (idxOk (g : Int) ws.length = true) :: (nth ws ((g : Int).toNat) = some [i8 c]) :: (idxOk (p : Int) n = true) :: (DV.ptr 0 (0 + ((p : Int).toNat) * 1) = .ptr 0 p) :: (storeH (hD2 cl pl') 0 p [i8 c] = some (hD2 cl' pl', some 0)) ::
      (DV.int .i64 (IntKind.i64.wrap ((i : Int) + 1)) = iN (i + 1)) :: []) := by kernel_rfl
set_option maxRecDepth 1000000 in
theorem daO (xs us ws : List (List DV)) (n k m st i : Nat) (h : Hp) : zsee Try.prog tab ftab cLo kDa [0, 9, 10, 12, 13] daL (daS xs us ws n k m st i) h [(76, .b false)] = some (.exit 0, daE xs n k m, h, (decide ((i : Int) < (us.length : Int)) = false) :: []) := by kernel_rfl
set_option maxRecDepth 1000000 in
theorem da7 (xs us ws is ps js qs : List (List DV)) (a n k m s st q N : Nat) (cl pl cl' pl' rl rl' : List DV) : zflat (zans Try.prog tab ftab cLo fDa (daG xs us ws (iN a)) [(20, .q (.bool true)), (22, .q (.bool false)), (25, .b false), (30, .b false), (35, .b false), (44, .r (.tuple [.sl 0 0 1 n n, iN 0]) (J0 cl)), (53, .n (iN k)),
      (57, .n (.fptr [.list 1 ps])), (59, .h (.sl 2 0 1 m m) (hD2 cl pl) none), (61, .q (.list 1 is)), (63, .n (.fptr [iN s])), (65, .w (iN st)), (71, .w (iN q)), (72, .b false), (0, .l daV (.exit 0) (daE xs n k m) (hD2 cl' pl')), (111, .h (.sl 4 0 1 N N) (hD4 cl' pl' rl) none), (115, .n (.ptr 4 k)), (65535, .h (.tuple []) (hD4 cl' pl' rl') (some 4)),
      (20, .s [9, 10, 17] (mkT 131 [(9, .bool true), (10, .list 1 js), (17, .list 1 qs)]) h00), (118, .q (.tuple [.list 1 qs, iN 0])), (125, .q (.bool true))]) =
    some (.bool true, daA xs us ws (a : Int) ((cLo fJo [.list 1 xs] h00 = some (.tuple [.sl 0 0 1 n n, iN 0], J0 cl, none)) :: (binD tab .rem 3 (iN a) (.int .i64 (xs.length : Int)) = some (iN k)) :: (idxOk (k : Int) xs.length = true) :: (nth xs ((k : Int).toNat) = some [.list 1 ps]) ::
      (builtinD tab (hD1 cl) .append [.sl 1 0 1 0 0, .list 1 ps] tyBB = some (.sl 2 0 1 m m, hD2 cl pl, none)) :: (cLo fSt [.list 1 xs] (hD2 cl pl) = some (.list 1 is, hD2 cl pl, none)) :: (idxOk (k : Int) is.length = true) :: (nth is ((k : Int).toNat) = some [iN s]) :: (DV.int .i64 (IntKind.i64.wrap ((s : Int) + 4)) = iN st) ::
      (DV.int .i64 (IntKind.i64.wrap ((st : Int) + (m : Int))) = iN q) :: (decide ((n : Int) < (q : Int)) = false) :: (Goes Try.prog tab kDa (.loop daL) (daS xs us ws n k m st 0) (hD2 cl pl) (.exit 0) (daE xs n k m) (hD2 cl' pl')) ::
      (builtinD tab (hD3 cl' pl') .append [.sl 3 0 1 0 0, .list 1 xs] tyF = some (.sl 4 0 1 N N, hD4 cl' pl' rl, none)) :: (idxOk (k : Int) N = true) :: (DV.ptr 4 (0 + ((k : Int).toNat) * 1) = .ptr 4 k) :: (storeH (hD4 cl' pl' rl) 4 k [.sl 2 0 1 m m] = some (hD4 cl' pl' rl', some 4)) ::
      (Seen (mkT 131 [(9, .bool true), (10, .sl 0 0 1 n n), (17, .sl 4 0 1 N N)]) (hD4 cl' pl' rl') (mkT 131 [(9, .bool true), (10, .list 1 js), (17, .list 1 qs)]) h00) :: (cLo fSn [.list 1 js] h00 = some (.tuple [.list 1 qs, iN 0], h00, none)) :: (cLo fSa [.list 1 qs, .list 1 qs] h00 = some (.bool true, h00, none)) :: [])) := by kernel_rfl
end
end Go.Proofs.Ytmpmhkjfpeagkaa
