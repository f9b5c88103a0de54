/- OctetFields, over the data of its arguments. -/
import Derived.Test.YtioglkmdapghhaaSv
namespace Go.Proofs.Ytioglkmdapghhaa
open Go.RowKit

noncomputable section
def cF : ConF := orK cAl (orK cJo (orK cSp cSa))
theorem cF_ok : ConOk Try.prog cF := orK_ok cAl_ok (orK_ok cJo_ok (orK_ok cSp_ok cSa_ok))
theorem al_other {f : FuncId} {args : List DV} {hp : Hp} (h : Nat.beq f fAl = false) : cAl f args hp = none := by
  unfold cAl fixC
  rw [h]
theorem cF_jo (hp : Hp) (fs : List (List UInt8)) : cF fJo [fsD fs] hp = some (joD fs, hp, none) := orK_right (al_other (by kernel_rfl)) (orK_left (cJo_at hp fs))
theorem cF_sp (hp : Hp) (b : Bs) : cF fSp [byL b.1] hp = some (spD b, hp, none) := orK_right (al_other (by kernel_rfl)) (orK_right (lift_oth (eqC_other (by kernel_rfl))) (orK_left (cSp_at hp b)))
theorem cF_sa (hp : Hp) (fs : List (List UInt8)) (h : fs.length ≤ 256) : cF fSa [fsD fs, fsD fs] hp = some (.bool true, hp, none) :=
  orK_right (al_other (by kernel_rfl)) (orK_right (lift_oth (eqC_other (by kernel_rfl))) (orK_right (lift_oth (eqC_other (by kernel_rfl))) (cSa_at hp fs h)))
/-! ### The law's paths -/
abbrev fFi : FuncId := 4
abbrev kFi : List (Nat × Nat) := ksF ftab fFi
abbrev fiL : Code := loopAt (bodyOf ftab fFi) 0
abbrev fiS (xs ys : List (List DV)) (s : Int) (k : Nat) : Slots := mkT 95 [(0, .list 1 xs), (1, .list 1 ys), (5, .bool true), (6, .int .i64 s), (7, iN k)]
abbrev fiE (xs ys : List (List DV)) (s : Int) : Slots := mkT 95 [(0, .list 1 xs), (1, .list 1 ys), (5, .bool true), (6, .int .i64 s)]
set_option maxRecDepth 1000000 in
theorem fi1 (xs ys zs : List (List DV)) (s s' : Int) (k : Nat) : zsee Try.prog tab ftab noC kFi [0, 1, 5, 6, 7] fiL (fiS xs ys s k) h00 [(32, .b true), (38, .n (.fptr [.list 1 zs])), (41, .w (.int .i64 s')), (34, .w (iN (k + 1)))] =
    some (.normal, fiS xs ys s' (k + 1), h00, (decide ((k : Int) < (xs.length : Int)) = true) :: (idxOk (k : Int) xs.length = true) :: (nth xs ((k : Int).toNat) = some [.list 1 zs]) :: (DV.int .i64 (IntKind.i64.wrap (s + (zs.length : Int))) = .int .i64 s') :: (DV.int .i64 (IntKind.i64.wrap ((k : Int) + 1)) = iN (k + 1)) :: []) := by kernel_rfl
set_option maxRecDepth 1000000 in
theorem fiO (xs ys : List (List DV)) (s : Int) (k : Nat) : zsee Try.prog tab ftab noC kFi [0, 1, 5, 6] fiL (fiS xs ys s k) h00 [(32, .b false)] = some (.exit 0, fiE xs ys s, h00, (decide ((k : Int) < (xs.length : Int)) = false) :: []) := by kernel_rfl
set_option maxRecDepth 1000000 in
theorem fi_far1 (xs ys : List (List DV)) : zflat (zans Try.prog tab ftab cF fFi [.list 1 xs, .list 1 ys] [(19, .b true)]) = some (.bool true, (decide ((xs.length : Int) > 256) = true) :: []) := by kernel_rfl
set_option maxRecDepth 1000000 in
theorem fi_far2 (xs ys : List (List DV)) : zflat (zans Try.prog tab ftab cF fFi [.list 1 xs, .list 1 ys] [(19, .b false), (22, .c [(5, .b true)])]) = some (.bool true, (decide ((xs.length : Int) > 256) = false) :: (decide ((ys.length : Int) > 70000) = true) :: []) := by kernel_rfl
abbrev fiG (xs ys : List (List DV)) (s : Int) : Prop := Goes Try.prog tab kFi (.loop fiL) (fiS xs ys 0 0) h00 (.exit 0) (fiE xs ys s) h00
set_option maxRecDepth 1000000 in
theorem fi_far3 (xs ys : List (List DV)) (s : Int) : zflat (zans Try.prog tab ftab cF fFi [.list 1 xs, .list 1 ys] [(19, .b false), (22, .c [(5, .b false)]), (0, .l [0, 1, 5, 6, 7] (.exit 0) (fiE xs ys s) h00), (43, .b true)]) =
    some (.bool true, (decide ((xs.length : Int) > 256) = false) :: (decide ((ys.length : Int) > 70000) = false) :: (fiG xs ys s) :: (decide (s > 70000) = true) :: []) := by kernel_rfl
/-- what is joined, split; or can't be joined -/
def fpA (g : Bool) (xs js : List (List DV)) : Yath := match g with
  | true => [(47, .q (.tuple [.list 1 js, .int .i64 0])), (52, .q (.tuple [.list 1 xs, .int .i64 0])), (63, .q (.bool true))]
  | false => [(47, .q (.tuple [.list 1 [], .int .i64 11])), (52, .q (.tuple [.list 1 [], .int .i64 0]))]
def faA (g : Bool) (xs js : List (List DV)) (t : List Prop) : List Prop := match g with
  | true => (cF fJo [.list 1 xs] h00 = some (.tuple [.list 1 js, .int .i64 0], h00, none)) :: (cF fSp [.list 1 js] h00 = some (.tuple [.list 1 xs, .int .i64 0], h00, none)) :: (cF fSa [.list 1 xs, .list 1 xs] h00 = some (.bool true, h00, none)) :: t
  | false => (cF fJo [.list 1 xs] h00 = some (.tuple [.list 1 [], .int .i64 11], h00, none)) :: (cF fSp [.list 1 []] h00 = some (.tuple [.list 1 [], .int .i64 0], h00, none)) :: t
/-- what is split, joined; or can't be split -/
def fpB (o : Bool) (ys gs : List (List DV)) (e : Int) (s : ByteArray) : Yath := match o with
  | true => [(69, .q (.tuple [.list 1 gs, .int .i64 0])), (82, .q (.tuple [.list 1 ys, .int .i64 0])), (93, .c [(6, .h (.str s) h00 none), (8, .h (.str s) h00 none), (9, .b true)])]
  | false => [(69, .q (.tuple [.list 1 [], .int .i64 e])), (73, .b true)]
def faB (o : Bool) (ys gs : List (List DV)) (e : Int) (s : ByteArray) : List Prop := match o with
  | true => (cF fSp [.list 1 ys] h00 = some (.tuple [.list 1 gs, .int .i64 0], h00, none)) :: (cF fJo [.list 1 gs] h00 = some (.tuple [.list 1 ys, .int .i64 0], h00, none)) :: (convD tab h00 22 9 (.list 1 ys) = some (.str s, h00, none)) :: (convD tab h00 22 9 (.list 1 ys) = some (.str s, h00, none)) :: (eqBytes s.data.toList s.data.toList = true) :: []
  | false => (cF fSp [.list 1 ys] h00 = some (.tuple [.list 1 [], .int .i64 e], h00, none)) :: ((e != 0) = true) :: []
set_option maxRecDepth 1000000 in
theorem fi_run (xs ys js gs : List (List DV)) (s e : Int) (g o : Bool) (c : ByteArray) : zflat (zans Try.prog tab ftab cF fFi [.list 1 xs, .list 1 ys] ((19, .b false) :: (22, .c [(5, .b false)]) :: (0, .l [0, 1, 5, 6, 7] (.exit 0) (fiE xs ys s) h00) :: (43, .b false) :: (fpA g xs js ++ fpB o ys gs e c))) =
    some (.bool true, (decide ((xs.length : Int) > 256) = false) :: (decide ((ys.length : Int) > 70000) = false) :: (fiG xs ys s) :: (decide (s > 70000) = false) :: faA g xs js (faB o ys gs e c)) := by
  cases g <;> cases o <;> kernel_rfl
/-! ### What is asked -/
/-- the sum, as it is computed -/
def sumK (fs : List (List UInt8)) : Nat → Int
  | 0 => 0
  | k + 1 => IntKind.i64.wrap (sumK fs k + ((fs.getD k []).length : Int))
theorem fi_loop (fs : List (List UInt8)) (ys : List (List DV)) (hn : fs.length ≤ 256) : fiG (fs1 fs) ys (sumK fs fs.length) := by
  have hl := fs1_length fs
  refine Goes.loop (P := Try.prog) (T := tab) (ks := kFi) (x := fiL) fs.length (fun k => fiS (fs1 fs) ys (sumK fs k) k) (fun _ => h00) (e := .exit 0) (s1 := fiE (fs1 fs) ys (sumK fs fs.length)) (h1 := h00) (fun k hk => ?_) ?_ (by intro h; cases h)
  · obtain ⟨f, hf⟩ : ∃ f, fs[k]? = some f := ⟨_, List.getElem?_eq_getElem hk⟩
    refine zsee_ok tab_ok mixed fun_ok noC_ok (fi1 (fs1 fs) ys (by1 f) (sumK fs k) (sumK fs (k + 1)) k) (.cons (decide_eq_true (by omega)) (.cons (idxOk_lt (by omega)) (.cons (fs1_nth hf) (.cons (congrArg (DV.int .i64) ?_) (.cons (congrArg (DV.int .i64) (wrapI (n := k + 1) (by omega))) .nil)))))
    show _ = IntKind.i64.wrap (sumK fs k + ((fs.getD k []).length : Int))
    rw [by1_length, List.getD_eq_getElem?_getD, hf]
    rfl
  · exact zsee_ok tab_ok mixed fun_ok noC_ok (fiO (fs1 fs) ys (sumK fs fs.length) fs.length) (.cons (decide_eq_false (by omega)) .nil)
theorem joD_ok {fs : List (List UInt8)} (h : ∀ f ∈ fs, f.length ≤ 65535) (hn : fs.length ≤ 256) : joD fs = .tuple [byL (joinB fs), .int .i64 0] := by
  unfold joD
  rw [decide_eq_false (show ¬ fs.length > 256 by omega)]
  have : longF fs = false := by
    cases hl : longF fs with
    | false => rfl
    | true =>
      obtain ⟨j, f, h1, h2, _⟩ := first_long hl
      have := h f (List.mem_of_getElem? h1)
      omega
  rw [this]
theorem joD_long {fs : List (List UInt8)} (h : longF fs = true) (hn : fs.length ≤ 256) : joD fs = .tuple [.list 1 [], .int .i64 11] := by
  unfold joD
  rw [decide_eq_false (show ¬ fs.length > 256 by omega), h]
theorem fi_all (fs : List (List UInt8)) (b : List UInt8) : Ans Try.prog fFi [fsD fs, byL b] (.bool true) ⟨0, [], []⟩ := by
  have hl := fs1_length fs
  have lb := by1_length b
  by_cases hn : fs.length > 256
  · exact zflat_ok tab_ok mixed fun_ok cF_ok (fi_far1 (fs1 fs) (by1 b)) (.cons (decide_eq_true (by omega)) .nil)
  have n1 : decide (((fs1 fs).length : Int) > 256) = false := decide_eq_false (by omega)
  by_cases hb : b.length > 70000
  · exact zflat_ok tab_ok mixed fun_ok cF_ok (fi_far2 (fs1 fs) (by1 b)) (.cons n1 (.cons (decide_eq_true (by omega)) .nil))
  have n2 : decide (((by1 b).length : Int) > 70000) = false := decide_eq_false (by omega)
  have hlp := fi_loop fs (by1 b) (by omega)
  generalize sumK fs fs.length = s at hlp
  by_cases hs : s > 70000
  · exact zflat_ok tab_ok mixed fun_ok cF_ok (fi_far3 (fs1 fs) (by1 b) s) (.cons n1 (.cons n2 (.cons hlp (.cons (decide_eq_true hs) .nil))))
  have n3 : decide (s > 70000) = false := decide_eq_false hs
  -- the second half
  have two : ∃ o gs e c, AskedP (faB o (by1 b) gs e c) := by
    have hbL : b.length < 2 ^ 30 := by omega
    have k := cF_sp h00 ⟨b, hbL⟩
    by_cases hj : joinB (spFs ⟨b, hbL⟩) = b
    · obtain ⟨e1, q1, q2⟩ := spD_ok hj
      rw [e1] at k
      have k2 := cF_jo h00 (spFs ⟨b, hbL⟩)
      rw [joD_ok q1 q2, hj] at k2
      exact ⟨true, fs1 (spFs ⟨b, hbL⟩), 0, ⟨b.toArray⟩, .cons k (.cons k2 (.cons (conv_list _ _) (.cons (conv_list _ _) (.cons (eq_true _) .nil))))⟩
    · obtain ⟨e, he, e1⟩ := spD_no hj
      rw [e1] at k
      exact ⟨false, [], e, .empty, .cons k (.cons (by simpa [bne] using he) .nil)⟩
  obtain ⟨o, gs, e, c, h2⟩ := two
  have k := cF_jo h00 fs
  cases hg : longF fs with
  | true =>
    rw [joD_long hg (by omega)] at k
    have k2 := cF_sp h00 ⟨[], by simp⟩
    rw [show (⟨[], by simp⟩ : Bs) = ⟨joinB [], by simp [joinB]⟩ from rfl, spD_join [] _ (fun f h => (by cases h)) (by simp)] at k2
    exact zflat_ok tab_ok mixed fun_ok cF_ok (fi_run (fs1 fs) (by1 b) [] gs s e false o c) (.cons n1 (.cons n2 (.cons hlp (.cons n3 (.cons k (.cons k2 h2))))))
  | false =>
    have hf := not_long hg
    have hz := szs_le (fs := fs) fs.length (by rw [List.take_length]; exact hf)
    rw [List.take_length] at hz
    rw [joD_ok hf (by omega)] at k
    have hjL : (joinB fs).length < 2 ^ 30 := by unfold szs at hz; omega
    have k2 := cF_sp h00 ⟨joinB fs, hjL⟩
    rw [spD_join fs hjL hf (by omega)] at k2
    exact zflat_ok tab_ok mixed fun_ok cF_ok (fi_run (fs1 fs) (by1 b) (by1 (joinB fs)) gs s e true o c) (.cons n1 (.cons n2 (.cons hlp (.cons n3 (.cons k (.cons k2 (.cons (cF_sa h00 fs (by omega)) h2)))))))
end
end Go.Proofs.Ytioglkmdapghhaa
