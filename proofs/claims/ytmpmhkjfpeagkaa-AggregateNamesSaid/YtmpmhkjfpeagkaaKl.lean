/- AggregateFront over data. -/
import Derived.Test.YtmpmhkjfpeagkaaKk
namespace Go.Proofs.Ytmpmhkjfpeagkaa
open Go.RowKit

noncomputable section
abbrev fFr : FuncId := 8
abbrev kFr : List (Nat × Nat) := ksF ftab fFr
abbrev frL : Code := loopAt (bodyOf ftab fFr) 0
abbrev frS (xs ts js is : List (List DV)) (a w : Nat) : Slots := mkT 95 [(0, .list 1 xs), (1, iN a), (2, .list 1 ts), (7, .bool true), (8, .list 1 js), (10, .list 1 is), (11, iN w)]
abbrev frE (xs ts js : List (List DV)) (a w : Nat) : Slots := mkT 95 [(0, .list 1 xs), (1, iN a), (2, .list 1 ts), (7, .bool true), (8, .list 1 js), (11, iN w)]
abbrev frV : List Nat := [0, 1, 2, 7, 8, 10, 11]
abbrev frA (xs ys is : List (List DV)) (w s q : Nat) (t : List Prop) : List Prop := (decide ((w : Int) < (xs.length : Int)) = true) :: (idxOk (w : Int) is.length = true) :: (nth is ((w : Int).toNat) = some [iN s]) :: (idxOk (w : Int) xs.length = true) :: (nth xs ((w : Int).toNat) = some [.list 1 ys]) :: (DV.int .i64 (IntKind.i64.wrap (IntKind.i64.wrap ((s : Int) + 4) + (ys.length : Int))) = iN q) :: t
section
variable (xs ts js is ys : List (List DV)) (a w s q : Nat)
set_option maxRecDepth 1000000 in
theorem fr1 : zsee Try.prog tab ftab cLw kFr frV frL (frS xs ts js is a w) h00 [(50, .b true), (54, .n (.fptr [iN s])), (59, .n (.fptr [.list 1 ys])), (62, .w (iN q)), (64, .b true), (67, .w (iN (w + 1)))] =
    some (.normal, frS xs ts js is a (w + 1), h00, frA xs ys is w s q ((decide ((q : Int) ≤ (a : Int)) = true) :: (DV.int .i64 (IntKind.i64.wrap ((w : Int) + 1)) = iN (w + 1)) :: [])) := by kernel_rfl
set_option maxRecDepth 1000000 in
theorem frX : zsee Try.prog tab ftab cLw kFr [0, 1, 2, 7, 8, 11] frL (frS xs ts js is a w) h00 [(50, .b true), (54, .n (.fptr [iN s])), (59, .n (.fptr [.list 1 ys])), (62, .w (iN q)), (64, .b false)] =
    some (.exit 0, frE xs ts js a w, h00, frA xs ys is w s q ((decide ((q : Int) ≤ (a : Int)) = false) :: [])) := by kernel_rfl
set_option maxRecDepth 1000000 in
theorem frO : zsee Try.prog tab ftab cLw kFr [0, 1, 2, 7, 8, 11] frL (frS xs ts js is a w) h00 [(50, .b false)] = some (.exit 0, frE xs ts js a w, h00, (decide ((w : Int) < (xs.length : Int)) = false) :: []) := by kernel_rfl
end
abbrev frG (xs ts : List (List DV)) (d : DV) : List DV := [.list 1 xs, d, .list 1 ts]
section
variable (xs ts js is ps zs us : List (List DV)) (z : Int) (a w e n : Nat)
set_option maxRecDepth 1000000 in
theorem fg1 : zflat (zans Try.prog tab ftab cLw fFr (frG xs ts (.int .i64 z)) [(14, .q (.bool true)), (16, .q (.bool true))]) = some (.bool true, lwA xs true []) := by kernel_rfl
set_option maxRecDepth 1000000 in
theorem fg2 : zflat (zans Try.prog tab ftab cLw fFr (frG xs ts (.int .i64 z)) [(14, .q (.bool true)), (16, .q (.bool false)), (19, .b true)]) = some (.bool true, lwA xs false ((decide (z < 0) = true) :: [])) := by kernel_rfl
set_option maxRecDepth 1000000 in
theorem fg3 : zflat (zans Try.prog tab ftab cLw fFr (frG xs ts (iN a)) [(14, .q (.bool true)), (16, .q (.bool false)), (19, .b false), (24, .b true)]) = some (.bool true, lwA xs false ((decide ((a : Int) < 0) = false) :: (decide ((ts.length : Int) > 2000) = true) :: [])) := by kernel_rfl
abbrev fgA (t : List Prop) : List Prop := lwA xs false ((decide ((a : Int) < 0) = false) :: (decide ((ts.length : Int) > 2000) = false) :: t)
set_option maxRecDepth 1000000 in
theorem fg4 : zflat (zans Try.prog tab ftab cLw fFr (frG xs ts (iN a)) [(14, .q (.bool true)), (16, .q (.bool false)), (19, .b false), (24, .b false), (33, .q (.tuple [.list 1 [], iN e])), (37, .b true)]) = some (.bool true, fgA xs ts a ((cLw fJo [.list 1 xs] h00 = some (.tuple [.list 1 [], iN e], h00, none)) :: (((e : Int) != 0) = true) :: [])) := by kernel_rfl
abbrev fgJ (t : List Prop) : List Prop := fgA xs ts a ((cLw fJo [.list 1 xs] h00 = some (.tuple [.list 1 js, iN 0], h00, none)) :: t)
set_option maxRecDepth 1000000 in
theorem fg5 : zflat (zans Try.prog tab ftab cLw fFr (frG xs ts (iN a)) [(14, .q (.bool true)), (16, .q (.bool false)), (19, .b false), (24, .b false), (33, .q (.tuple [.list 1 js, iN 0])), (42, .b true)]) = some (.bool true, fgJ xs ts js a ((decide ((a : Int) > (js.length : Int)) = true) :: [])) := by kernel_rfl
end
abbrev hZ : Hp := ⟨1, [oR 0 []], []⟩
abbrev rTI : TI := ⟨.slice 22, 1, 24, [.nil], true⟩
set_option maxRecDepth 1000000 in
theorem fg6 (xs ts js is ps zs us : List (List DV)) (a w k : Nat) (d1 d2 : DV) (h1 h2 : Hp) (m1 m2 : Mut) : zflat (zans Try.prog tab ftab cLw fFr (frG xs ts (iN a)) [(14, .q (.bool true)), (16, .q (.bool false)), (19, .b false), (24, .b false), (33, .q (.tuple [.list 1 js, iN 0])), (42, .b false), (46, .q (.list 1 is)), (0, .l frV (.exit 0) (frE xs ts js a w) h00),
      (60011, .t 7 [0, 7, 11] (.tuple [.list 1 zs, iN k]) h00), (72, .n (.list 1 ps)), (73, .h d1 h1 m1), (75, .h d2 h2 m2), (84, .b true), (89, .n (.list 1 us)), (92, .n (.list 1 us)), (93, .q (.bool true))]) =
    some (.bool true, fgJ xs ts js a ((decide ((a : Int) > (js.length : Int)) = false) :: (cLw fSt [.list 1 xs] h00 = some (.list 1 is, h00, none)) :: (Goes Try.prog tab kFr (.loop frL) (frS xs ts js is a 0) h00 (.exit 0) (frE xs ts js a w) h00) ::
      (sliceD tab hZ bTI (.list 1 js) none (some (iN a)) none = some (.list 1 ps)) :: (builtinD tab hZ .append [.sl 0 0 1 0 0, .list 1 ps] tyBB = some (d1, h1, m1)) :: (builtinD tab h1 .append [d1, .list 1 ts] tyBB = some (d2, h2, m2)) :: (AnsH Try.prog fSn [d2] h2 (.tuple [.list 1 zs, iN k]) h00) ::
      (decide ((zs.length : Int) ≥ (w : Int)) = true) :: (sliceD tab h00 rTI (.list 1 zs) none (some (iN w)) none = some (.list 1 us)) :: (sliceD tab h00 rTI (.list 1 xs) none (some (iN w)) none = some (.list 1 us)) :: (cLw fSa [.list 1 us, .list 1 us] h00 = some (.bool true, h00, none)) :: [])) := by kernel_rfl
theorem tab_b : tab 22 = some bTI := by kernel_rfl
theorem slice_toR {hp : Hp} {xs : List (List DV)} {n : Nat} (hn : n ≤ xs.length) : sliceD tab hp rTI (.list 1 xs) none (some (iN n)) none = some (.list 1 (xs.take n)) := by
  have e1 : decide ((0 : Int) ≤ (n : Int)) = true := decide_eq_true (by omega)
  have b1 : Nat.ble 0 n = true := bleT (Nat.zero_le _)
  have b2 : Nat.ble n xs.length = true := bleT hn
  simp only [sliceD, tab_b, optI, iN, e1, Int.toNat_natCast, b1, b2, Bool.and_self, show Nat.beq 1 1 = true from rfl, List.drop_zero, Nat.sub_zero]
theorem fs1_take (l : List (List UInt8)) (n : Nat) : (fs1 l).take n = fs1 (l.take n) := by simp [fs1, List.map_take]
/-- the pieces before w end before a -/
def ends (l : List (List UInt8)) (a w : Nat) : Prop := ∀ p, l[w - 1]? = some p → w ≠ 0 → stA (l.take (w - 1)) + 4 + p.length ≤ a
theorem fr_loop {l : List (List UInt8)} (hl : okPs l) (ts js : List (List DV)) (a : Nat) : ∀ (r pre : List (List UInt8)), l = pre ++ r → ends l a pre.length →
    ∃ m w, GoesR Try.prog tab kFr frL (m + 1) (frS (fs1 l) ts js (bI (sts l l.length)) a pre.length) h00 (.exit 0) (frE (fs1 l) ts js a w) h00 ∧ w ≤ l.length ∧ ends l a w
  | [], pre, e, hp => by
    have hn := fs1_length l
    have hlen : pre.length = l.length := by rw [e]; simp
    exact ⟨0, pre.length, GoesR.last (zsee_ok tab_ok mixed fun_ok cLw_ok (frO (fs1 l) ts js (bI (sts l l.length)) a pre.length) (.cons (decide_eq_false (by omega)) .nil)) (by intro h; cases h), by omega, hp⟩
  | p :: r, pre, e, hp => by
    have hn := fs1_length l
    have hlen : l.length = pre.length + (1 + r.length) := by rw [e]; simp; omega
    have hj : l[pre.length]? = some p := by rw [e]; simp
    have h64 := hl.1
    have hpl := (hl.2 p (List.mem_of_getElem? hj)).2
    have hsm := stA_small hl pre.length
    have q1 : decide ((pre.length : Int) < ((fs1 l).length : Int)) = true := decide_eq_true (by omega)
    have q2 : idxOk (pre.length : Int) (bI (sts l l.length)).length = true := idxOk_lt (by rw [bI_length, sts_length]; omega)
    have q3 := bI_nth (sts_at l (show pre.length < l.length by omega))
    have q4 : idxOk (pre.length : Int) (fs1 l).length = true := idxOk_lt (by omega)
    have q5 := fs1_nth hj
    have q6 : DV.int .i64 (IntKind.i64.wrap (IntKind.i64.wrap ((stA (l.take pre.length) : Int) + 4) + ((by1 p).length : Int))) = iN (stA (l.take pre.length) + 4 + p.length) := by
      rw [by1_length]
      exact congrArg (DV.int .i64) (wrN (by omega) (by rw [wrN (n := stA (l.take pre.length) + 4) (by omega) (by omega)]; omega))
    by_cases hle : stA (l.take pre.length) + 4 + p.length ≤ a
    · have hp' : ends l a (pre ++ [p]).length := by
        rw [List.length_append, List.length_singleton]
        intro q hq _
        rw [Nat.add_sub_cancel, hj] at hq
        cases hq
        rw [Nat.add_sub_cancel]
        exact hle
      obtain ⟨m, w, g, h1, h2⟩ := fr_loop hl ts js a r (pre ++ [p]) (by rw [e]; simp) hp'
      rw [List.length_append, List.length_singleton] at g
      exact ⟨m + 1, w, GoesR.step (zsee_ok tab_ok mixed fun_ok cLw_ok (fr1 (fs1 l) ts js (bI (sts l l.length)) (by1 p) a pre.length _ _) (.cons q1 (.cons q2 (.cons q3 (.cons q4 (.cons q5 (.cons q6 (.cons (decide_eq_true (by omega)) (.cons (congrArg (DV.int .i64) (wrapI (n := pre.length + 1) (by omega))) .nil))))))))) g, h1, h2⟩
    · exact ⟨0, pre.length, GoesR.last (zsee_ok tab_ok mixed fun_ok cLw_ok (frX (fs1 l) ts js (bI (sts l l.length)) (by1 p) a pre.length _ _) (.cons q1 (.cons q2 (.cons q3 (.cons q4 (.cons q5 (.cons q6 (.cons (decide_eq_false (by omega)) .nil)))))))) (by intro h; cases h), by omega, hp⟩
theorem sbO_Z : SbO 5 hZ (.sl 0 0 1 0 0) (celB []) := ⟨0, _, rfl, rfl, .inl rfl, rfl, rfl⟩
theorem fr_all (l : List (List UInt8)) (hl : l.length < 2 ^ 63) (z : Int) (t : List UInt8) : Ans Try.prog fFr [fsD l, .int .i64 z, byL t] (.bool true) ⟨0, [], []⟩ := by
  have al := cLw_al h00
  have gp := cLw_gp h00 l hl
  have jo := cLw_jo h00 l
  have ht := by1_length t
  cases hg : gpB l with
  | true =>
    rw [hg] at gp
    exact zflat_ok tab_ok mixed fun_ok cLw_ok (fg1 (fs1 l) (by1 t) z) (.cons al (.cons gp .nil))
  | false =>
  rw [hg] at gp
  by_cases hz : z < 0
  · exact zflat_ok tab_ok mixed fun_ok cLw_ok (fg2 (fs1 l) (by1 t) z) (.cons al (.cons gp (.cons (decide_eq_true hz) .nil)))
  obtain ⟨a, rfl⟩ : ∃ a : Nat, z = a := ⟨z.toNat, by omega⟩
  have z0 : decide ((a : Int) < 0) = false := decide_eq_false hz
  by_cases hlong : t.length > 2000
  · exact zflat_ok tab_ok mixed fun_ok cLw_ok (fg3 (fs1 l) (by1 t) a) (.cons al (.cons gp (.cons z0 (.cons (decide_eq_true (by omega)) .nil))))
  have z1 : decide (((by1 t).length : Int) > 2000) = false := decide_eq_false (by omega)
  unfold joD at jo
  cases he : joE l with
  | succ e =>
    rw [he] at jo
    exact zflat_ok tab_ok mixed fun_ok cLw_ok (fg4 (fs1 l) (by1 t) a (e + 1)) (.cons al (.cons gp (.cons z0 (.cons z1 (.cons jo (.cons (bne_iff_ne.2 (by omega)) .nil))))))
  | zero =>
  rw [he] at jo
  obtain ⟨h1, h2, h3⟩ := joE_zero he
  have hjl := by1_length (jn l)
  by_cases ha : a > (jn l).length
  · exact zflat_ok tab_ok mixed fun_ok cLw_ok (fg5 (fs1 l) (by1 t) (by1 (jn l)) a) (.cons al (.cons gp (.cons z0 (.cons z1 (.cons jo (.cons (decide_eq_true (by omega)) .nil))))))
  obtain ⟨m, w, g, hw, hends⟩ := fr_loop h1 (by1 t) (by1 (jn l)) a l [] rfl (fun p _ h => absurd rfl h)
  obtain ⟨X, hX⟩ := jn_front h1.2 hw hends t
  have hta : ((jn l).take a).length ≤ 65535 := by rw [List.length_take]; omega
  obtain ⟨d1, p1, m1, e1, s1, l1⟩ := app_own (cs := (jn l).take a) sbO_Z (contD_list _ _) (by simp only [List.length_nil]; omega)
  rw [List.nil_append] at s1
  obtain ⟨d2, p2, m2, e2, s2, l2⟩ := app_own (cs := t) s1 (contD_list _ _) (by omega)
  have hB : ((jn l).take a ++ t).length < 2 ^ 30 := by rw [List.length_append]; omega
  have hA := AnsH.frzA (sn_ans ⟨(jn l).take a ++ t, hB⟩) (by rw [l2, l1]) s2.frz
  have hus : (fs1 (sc ((jn l).take a ++ t)).1).take w = fs1 (l.take w) := by
    rw [hX, fs1_take, List.take_append_of_le_length (by rw [List.length_take]; omega), List.take_take, Nat.min_self]
  have hzl : w ≤ (fs1 (sc ((jn l).take a ++ t)).1).length := by rw [fs1_length, hX, List.length_append, List.length_take]; omega
  have hn := fs1_length l
  refine zflat_ok tab_ok mixed fun_ok cLw_ok (fg6 (fs1 l) (by1 t) (by1 (jn l)) (bI (sts l l.length)) (by1 ((jn l).take a)) (fs1 (sc ((jn l).take a ++ t)).1) (fs1 (l.take w)) a w (sc ((jn l).take a ++ t)).2 d1 d2 p1 p2 m1 m2)
    (.cons al (.cons gp (.cons z0 (.cons z1 (.cons jo (.cons (decide_eq_false (by omega)) (.cons (cLw_st h00 l h1) (.cons g.goes (.cons (by rw [slice_to (by omega), by1_take]) (.cons e1 (.cons e2 (.cons hA (.cons (decide_eq_true (by omega)) (.cons (by rw [slice_toR hzl, hus]) (.cons (by rw [slice_toR (by omega), fs1_take]) (.cons (cLw_sa h00 (l.take w) (by rw [List.length_take]; have := h1.1; omega)) .nil))))))))))))))))
end
end Go.Proofs.Ytmpmhkjfpeagkaa
