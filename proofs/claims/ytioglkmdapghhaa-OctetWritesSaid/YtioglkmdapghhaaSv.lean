/- The reference's SameAll: a contract. -/
import Derived.Test.YtioglkmdapghhaaSu
namespace Go.Proofs.Ytioglkmdapghhaa
open Go.RowKit

noncomputable section
abbrev fSa : FuncId := 25
abbrev kSa : List (Nat × Nat) := ksF ftab fSa
abbrev saL : Code := loopAt (bodyOf ftab fSa) 0
abbrev sas (xs : List (List DV)) (k : Nat) : Slots := mkT 27 [(0, .list 1 xs), (1, .list 1 xs), (5, iN k)]
abbrev h00 : Hp := ⟨0, [], []⟩
set_option maxRecDepth 1000000 in
theorem sa1 (xs ys : List (List DV)) (k : Nat) (s : ByteArray) : zsee Try.prog tab ftab noC kSa [0, 1, 5] saL (sas xs k) h00 [(14, .b true), (19, .n (.fptr [.list 1 ys])), (23, .n (.fptr [.list 1 ys])), (25, .c [(6, .h (.str s) h00 none), (8, .h (.str s) h00 none), (9, .b true)]), (16, .w (iN (k + 1)))] =
    some (.normal, sas xs (k + 1), h00, (decide ((k : Int) < (xs.length : Int)) = true) :: (idxOk (k : Int) xs.length = true) :: (nth xs ((k : Int).toNat) = some [.list 1 ys]) :: (idxOk (k : Int) xs.length = true) :: (nth xs ((k : Int).toNat) = some [.list 1 ys]) :: (convD tab h00 22 9 (.list 1 ys) = some (.str s, h00, none)) :: (convD tab h00 22 9 (.list 1 ys) = some (.str s, h00, none)) :: (eqBytes s.data.toList s.data.toList = true) :: (DV.int .i64 (IntKind.i64.wrap ((k : Int) + 1)) = iN (k + 1)) :: []) := by kernel_rfl
set_option maxRecDepth 1000000 in
theorem saO (xs : List (List DV)) (k : Nat) : zsee Try.prog tab ftab noC kSa [] saL (sas xs k) h00 [(14, .b false)] = some (.exit 0, mkT 27 [], h00, (decide ((k : Int) < (xs.length : Int)) = false) :: []) := by kernel_rfl
set_option maxRecDepth 1000000 in
theorem saA (xs : List (List DV)) : zflat (zans Try.prog tab ftab noC fSa [.list 1 xs, .list 1 xs] [(10, .b false), (0, .l [0, 1, 5] (.exit 0) (mkT 27 []) h00)]) = some (.bool true, (((xs.length : Int) != (xs.length : Int)) = false) :: (Goes Try.prog tab kSa (.loop saL) (sas xs 0) h00 (.exit 0) (mkT 27 []) h00) :: []) := by kernel_rfl
theorem bytesOf_cel (bs : List UInt8) : bytesOf (celB bs) = some bs := by
  induction bs with
  | nil => rfl
  | cons b bs ih =>
    show (match bytesOf (celB bs) with | some l => some (UInt8.ofNat ((b.toNat : Int).toNat) :: l) | none => none) = _
    rw [ih, Int.toNat_natCast, UInt8.ofNat_toNat]
theorem eq_true : ∀ (l : List UInt8), eqBytes l l = true
  | [] => rfl
  | b :: l => by
    simp only [eqBytes, beqT (rfl : b.toNat = b.toNat)]
    exact eq_true l
abbrev bTI : TI := ⟨.slice 5, 1, 24, [.nil], true⟩
theorem conv_list (hp : Hp) (bs : List UInt8) : convD tab hp 22 9 (.list 1 (by1 bs)) = some (.str ⟨bs.toArray⟩, hp, none) := by
  have t0 : tab 5 = some u8TI := by kernel_rfl
  have t1 : tab 22 = some bTI := by kernel_rfl
  have t2 : tab 9 = some ⟨.str, 1, 16, [.str .empty], true⟩ := by kernel_rfl
  have hc := contD_list hp bs
  unfold byL at hc
  simp only [convD, t1, t2, t0, hc, bytesOf_cel]
theorem sa_loop (fs : List (List UInt8)) (hn : fs.length < 2 ^ 62) : Goes Try.prog tab kSa (.loop saL) (sas (fs1 fs) 0) h00 (.exit 0) (mkT 27 []) h00 := by
  have hl := fs1_length fs
  refine Goes.loop (P := Try.prog) (T := tab) (ks := kSa) (x := saL) fs.length (fun k => sas (fs1 fs) k) (fun _ => h00) (e := .exit 0) (s1 := mkT 27 []) (h1 := h00) (fun k hk => ?_) ?_ (by intro h; cases h)
  · obtain ⟨f, hf⟩ : ∃ f, fs[k]? = some f := ⟨_, List.getElem?_eq_getElem hk⟩
    exact zsee_ok tab_ok mixed fun_ok noC_ok (sa1 (fs1 fs) (by1 f) k ⟨f.toArray⟩) (.cons (decide_eq_true (by omega)) (.cons (idxOk_lt (by omega)) (.cons (fs1_nth hf) (.cons (idxOk_lt (by omega)) (.cons (fs1_nth hf) (.cons (conv_list _ _) (.cons (conv_list _ _) (.cons (eq_true _) (.cons (congrArg (DV.int .i64) (wrapI (n := k + 1) (by omega))) .nil)))))))))
  · exact zsee_ok tab_ok mixed fun_ok noC_ok (saO (fs1 fs) fs.length) (.cons (decide_eq_false (by omega)) .nil)
abbrev Fs : Type := {fs : List (List UInt8) // fs.length ≤ 256}
theorem sa_ans (x : Fs) : Ans Try.prog fSa [fsD x.1, fsD x.1] (.bool true) ⟨0, [], []⟩ :=
  zflat_ok tab_ok mixed fun_ok noC_ok (saA (fs1 x.1)) (.cons (by simp) (.cons (sa_loop x.1 (by have := x.2; omega)) .nil))
def cSa : ConF := liftC (eqC fSa (fun x : Fs => [fsD x.1, fsD x.1]) fun _ => (.bool true, ⟨0, [], []⟩))
theorem cSa_ok : ConOk Try.prog cSa := liftC_ok (eqC_ok sa_ans fun _ => rfl)
theorem cSa_at (hp : Hp) (fs : List (List UInt8)) (h : fs.length ≤ 256) : cSa fSa [fsD fs, fsD fs] hp = some (.bool true, hp, none) :=
  lift_at (A := fun x : Fs => [fsD x.1, fsD x.1]) (D := fun _ => .bool true) (fun _ _ _ => rfl) hp ⟨fs, h⟩ rfl rfl
/-! ### The example holds -/
abbrev fAl : FuncId := 26
set_option maxRecDepth 1000000 in
theorem alive_ans : zflat (zans Try.prog tab ftab noC fAl [] []) = some (.bool true, []) := by kernel_rfl
def cAl : ConF := fixC fAl (.bool true)
theorem cAl_ok : ConOk Try.prog cAl := fixC_ok (zflat_ok tab_ok mixed fun_ok noC_ok alive_ans .nil) rfl
end
end Go.Proofs.Ytioglkmdapghhaa
