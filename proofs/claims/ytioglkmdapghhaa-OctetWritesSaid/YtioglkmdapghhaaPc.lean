/- PutText, octet's and the reference's: contracts. -/
import Derived.Test.YtioglkmdapghhaaPb
namespace Go.Proofs.Ytioglkmdapghhaa
open Go.RowKit

noncomputable section
abbrev fPt : FuncId := 13
abbrev fRt : FuncId := 14
abbrev J1 (cl tl : List DV) : Hp := ⟨2, [oR 3 (cl ++ tl), oR 2 cl], []⟩
abbrev J3 (cl : List DV) (c : UInt8) (tl : List DV) : Hp := ⟨4, [oR 3 ((cl ++ [i8 c]) ++ tl), oR 2 (cl ++ [i8 c]), oR 0 [i8 c], oR 2 cl], []⟩
set_option maxRecDepth 1000000 in
theorem ptX (xs ys : List (List DV)) : zflat (zans Try.prog tab ftab cGw fPt [.list 1 xs, .list 1 ys] [(8, .b true)]) = some (.tuple [.nil, .int .i64 11], (decide ((ys.length : Int) > 255) = true) :: []) := by kernel_rfl
set_option maxRecDepth 1000000 in
theorem rtX (xs ys : List (List DV)) : zflat (zans Try.prog tab ftab cRp fRt [.list 1 xs, .list 1 ys] [(8, .b true)]) = some (.tuple [.nil, .int .i64 11], (decide ((ys.length : Int) > 255) = true) :: []) := by kernel_rfl
abbrev apA (xs ys : List (List DV)) (cl : List DV) (c : UInt8) (n N q : Nat) (t : List Prop) : List Prop := (decide ((ys.length : Int) > 255) = false) :: (DV.int .i64 (IntKind.i64.wrap (1 + (ys.length : Int))) = iN N) :: (cGw fGw [.list 1 xs, iN N] ⟨0, [], []⟩ = some (.sl 0 0 1 n n, flH cl, none)) ::
  (DV.int .u8 (IntKind.u8.wrap (ys.length : Int)) = .int .u8 (q : Int)) :: (DV.int .u8 (IntKind.u8.wrap (shrD .u64 (IntKind.u64.wrap (q : Int)) 0)) = i8 c) :: (builtinD tab ⟨2, [oR 0 [i8 c], oR 1 cl], []⟩ .append [.sl 0 0 1 n n, .sl 1 0 1 1 1] tyBB = some (.sl 2 0 1 (n + 1) (n + 1), J2 cl c, some 0)) :: t
set_option maxRecDepth 1000000 in
theorem pt0 (xs : List (List DV)) (cl : List DV) (n : Nat) : zans Try.prog tab ftab cGw fPt [.list 1 xs, .list 1 []] [(14, .r (.sl 0 0 1 n n) (flH cl)), (16, .c [(9, .c [(18, .h (.sl 2 0 1 (n + 1) (n + 1)) (J2 cl 0) (some 0))])])] =
    some (.tuple [.sl 2 0 1 (n + 1) (n + 1), .int .i64 0], J2 cl 0, (cGw fGw [.list 1 xs, iN 1] ⟨0, [], []⟩ = some (.sl 0 0 1 n n, flH cl, none)) :: (builtinD tab ⟨2, [oR 0 [i8 0], oR 1 cl], []⟩ .append [.sl 0 0 1 n n, .sl 1 0 1 1 1] tyBB = some (.sl 2 0 1 (n + 1) (n + 1), J2 cl 0, some 0)) :: []) := by kernel_rfl
set_option maxRecDepth 1000000 in
theorem pt1 (xs ys : List (List DV)) (cl tl : List DV) (c : UInt8) (n N q m : Nat) : zans Try.prog tab ftab cGw fPt [.list 1 xs, .list 1 ys] [(8, .b false), (13, .w (iN N)), (14, .r (.sl 0 0 1 n n) (flH cl)), (16, .c [(8, .w (.int .u8 (q : Int))), (9, .c [(16, .w (i8 c)), (18, .h (.sl 2 0 1 (n + 1) (n + 1)) (J2 cl c) (some 0))]), (11, .h (.sl 3 0 1 m m) (J3 cl c tl) (some 0))])] =
    some (.tuple [.sl 3 0 1 m m, .int .i64 0], J3 cl c tl, apA xs ys cl c n N q ((builtinD tab (J2 cl c) .append [.sl 2 0 1 (n + 1) (n + 1), .list 1 ys] tyBB = some (.sl 3 0 1 m m, J3 cl c tl, some 0)) :: [])) := by kernel_rfl
set_option maxRecDepth 1000000 in
theorem rt1 (xs ys : List (List DV)) (cl tl : List DV) (n q m : Nat) : zans Try.prog tab ftab cRp fRt [.list 1 xs, .list 1 ys] [(8, .b false), (12, .w (i64u q)), (13, .r (.sl 0 0 1 n n) (J0 cl)), (15, .h (.sl 1 0 1 m m) (J1 cl tl) (some 0))] =
    some (.tuple [.sl 1 0 1 m m, .int .i64 0], J1 cl tl, (decide ((ys.length : Int) > 255) = false) :: (DV.int .u64 (IntKind.u64.wrap (ys.length : Int)) = i64u q) :: (cRp fRp [.list 1 xs, i64u q, iN 1] ⟨0, [], []⟩ = some (.sl 0 0 1 n n, J0 cl, none)) :: (builtinD tab (J0 cl) .append [.sl 0 0 1 n n, .list 1 ys] tyBB = some (.sl 1 0 1 m m, J1 cl tl, some 0)) :: []) := by kernel_rfl
set_option maxRecDepth 1000000 in
theorem rtN (xs : List (List DV)) (cl : List DV) (n : Nat) : zans Try.prog tab ftab cRp fRt [.list 1 xs, .list 1 []] [(13, .r (.sl 0 0 1 n n) (J0 cl))] =
    some (.tuple [.sl 0 0 1 n n, .int .i64 0], J0 cl, (cRp fRp [.list 1 xs, i64u 0, iN 1] ⟨0, [], []⟩ = some (.sl 0 0 1 n n, J0 cl, none)) :: []) := by kernel_rfl
/-- what PutText answers -/
def ptD (b t : List UInt8) : DV := match decide (t.length > 255) with
  | true => .tuple [.list 1 [], .int .i64 11]
  | false => .tuple [byL ((b ++ leB t.length 1) ++ t), .int .i64 0]
theorem frz_oR {L : List Nat} {hp : Hp} {id k : Nat} {cl : List DV} {bs : List UInt8} {n c : Nat} (hL : posN id L = none) (hg : hp.get id = some (oR k cl)) (hk : k ≠ 2) (he : cl = celB bs) (hn : n = bs.length) : FrzD L hp (.sl id 0 1 n c) (byL bs) := by
  subst he hn
  exact frzD_bytes hL hg hk fun i c hc => celB_get hc
theorem pt_ans (x : Bs × Bs) : Ans Try.prog fPt [byL x.1.1, byL x.2.1] (ptD x.1.1 x.2.1) ⟨0, [], []⟩ := by
  obtain ⟨⟨b, hb⟩, ⟨t, ht⟩⟩ := x
  have lt := by1_length t
  dsimp only
  unfold ptD
  by_cases h : t.length > 255
  · rw [decide_eq_true h]
    exact Ans.nil1 (zflat_ok tab_ok mixed fun_ok cGw_ok (ptX (by1 b) (by1 t)) (.cons (decide_eq_true (by omega)) .nil))
  rw [decide_eq_false h]
  have a0 := app_row (hp := ⟨2, [oR 0 [i8 (UInt8.ofNat (t.length / 256 ^ 0 % 256))], oR 1 (celB b)], []⟩) (id := 0) (o := oR 1 (celB b)) rfl (.inl rfl) rfl (celB_length b) (contD_one (id := 1) rfl rfl) (by omega)
  cases t with
  | nil =>
    have z := zans_ok tab_ok mixed fun_ok cGw_ok (pt0 (by1 b) (celB b) b.length) (.cons (cGw_at ⟨b, hb⟩ 1 (by decide) ⟨rfl, rfl⟩) (.cons a0 .nil))
    exact AnsH.frz z rfl (FrzL.tuple ⟨frz_oR (k := 3) (cl := celB b ++ [i8 0]) rfl rfl (by decide) (by simp [celB, leB]) (by simp [leB]), FrzD.int' _ _, trivial⟩)
  | cons c t =>
    obtain ⟨N, hN⟩ : ∃ N, N = (c :: t).length := ⟨_, rfl⟩
    have hN1 : N ≤ 255 := by omega
    have hN2 : N = t.length + 1 := by simp [hN]
    rw [← hN] at lt a0 ⊢
    have z := zans_ok tab_ok mixed fun_ok cGw_ok (pt1 (by1 b) (by1 (c :: t)) (celB b) (celB (c :: t)) (UInt8.ofNat (N / 256 ^ 0 % 256)) b.length (1 + N) N (b.length + 1 + N)) (.cons (decide_eq_false (by omega)) (.cons ?_ (.cons (cGw_at ⟨b, hb⟩ (1 + N) (by omega) ⟨rfl, rfl⟩) (.cons ?_ (.cons ?_ (.cons a0 (.cons ?_ .nil)))))))
    · exact AnsH.frz z rfl (FrzL.tuple ⟨frz_oR (k := 3) rfl rfl (by decide) (by simp [celB, leB]) (by simp [leB, hN2]; omega), FrzD.int' _ _, trivial⟩)
    · rw [lt]
      exact congrArg (DV.int .i64) (wrapI (n := 1 + N) (by omega))
    · rw [lt, wrapU rfl, Nat.mod_eq_of_lt (show N < 2 ^ IntKind.u8.bits from by show N < 256; omega)]
    · rw [wrapU rfl, Nat.mod_eq_of_lt (show N < 2 ^ IntKind.u64.bits from Nat.lt_of_le_of_lt hN1 (by decide))]
      exact sh_byte (Nat.lt_of_le_of_lt hN1 (by decide)) 0 (by decide)
    · subst hN2
      exact app_row (hp := J2 (celB b) (UInt8.ofNat ((t.length + 1) / 256 ^ 0 % 256))) (id := 2) (m := t.length) (o := oR 3 (celB b ++ [i8 (UInt8.ofNat ((t.length + 1) / 256 ^ 0 % 256))])) rfl (.inr rfl) rfl (by simp [celB_length]) (contD_list _ (c :: t)) (by omega)
theorem rt_ans (x : Bs × Bs) : Ans Try.prog fRt [byL x.1.1, byL x.2.1] (ptD x.1.1 x.2.1) ⟨0, [], []⟩ := by
  obtain ⟨⟨b, hb⟩, ⟨t, ht⟩⟩ := x
  have lt := by1_length t
  dsimp only
  unfold ptD
  by_cases h : t.length > 255
  · rw [decide_eq_true h]
    exact Ans.nil1 (zflat_ok tab_ok mixed fun_ok cRp_ok (rtX (by1 b) (by1 t)) (.cons (decide_eq_true (by omega)) .nil))
  rw [decide_eq_false h]
  have hle := leB_length t.length 1
  cases t with
  | nil =>
    have z := zans_ok tab_ok mixed fun_ok cRp_ok (rtN (by1 b) (celB (b ++ leB 0 1)) (b ++ leB 0 1).length) (.cons (cRp_at ⟨b, hb⟩ 0 1 (by decide) (by decide) ⟨rfl, rfl⟩) .nil)
    exact AnsH.frz z rfl (FrzL.tuple ⟨frz_oR (k := 1) rfl rfl (by decide) (by simp) (by simp), FrzD.int' _ _, trivial⟩)
  | cons c t =>
    obtain ⟨N, hN⟩ : ∃ N, N = (c :: t).length := ⟨_, rfl⟩
    have hN1 : N ≤ 255 := by omega
    have hN2 : N = t.length + 1 := by simp [hN]
    rw [← hN] at lt hle ⊢
    have hbl : (b ++ leB N 1).length = b.length + 1 := by rw [List.length_append, hle]
    have z := zans_ok tab_ok mixed fun_ok cRp_ok (rt1 (by1 b) (by1 (c :: t)) (celB (b ++ leB N 1)) (celB (c :: t)) (b ++ leB N 1).length N ((b ++ leB N 1).length + N)) (.cons (decide_eq_false (by omega)) (.cons ?_ (.cons (cRp_at ⟨b, hb⟩ N 1 (Nat.lt_of_le_of_lt hN1 (by decide)) (by decide) ⟨rfl, rfl⟩) (.cons ?_ .nil))))
    · exact AnsH.frz z rfl (FrzL.tuple ⟨frz_oR (k := 3) rfl rfl (by decide) (celB_append _ _).symm (by simp only [List.length_append, hle, ← hN]), FrzD.int' _ _, trivial⟩)
    · rw [lt, wrapU rfl, Nat.mod_eq_of_lt (show N < 2 ^ IntKind.u64.bits from Nat.lt_of_le_of_lt hN1 (by decide))]
    · subst hN2
      exact app_row (hp := J0 (celB (b ++ leB (t.length + 1) 1))) (id := 0) (m := t.length) (o := oR 1 (celB (b ++ leB (t.length + 1) 1))) rfl (.inl rfl) rfl (celB_length _) (contD_list _ (c :: t)) (by omega)
theorem ptD_flat (b t : List UInt8) : flatD (ptD b t) = true := by
  unfold ptD
  split <;> rfl
def cPt : ConF := liftC (eqC fPt (fun x : Bs × Bs => [byL x.1.1, byL x.2.1]) fun x => (ptD x.1.1 x.2.1, ⟨0, [], []⟩))
theorem cPt_ok : ConOk Try.prog cPt := liftC_ok (eqC_ok pt_ans fun _ => rfl)
theorem cPt_at (hp : Hp) (b t : Bs) : cPt fPt [byL b.1, byL t.1] hp = some (ptD b.1 t.1, hp, none) :=
  lift_at (A := fun x : Bs × Bs => [byL x.1.1, byL x.2.1]) (D := fun x => ptD x.1.1 x.2.1) (fun x y hxy => by
    simp only [List.cons.injEq, and_true] at hxy
    rw [byL_inj hxy.1, byL_inj hxy.2]) hp (b, t) rfl (ptD_flat _ _)
def cRtx : ConF := liftC (eqC fRt (fun x : Bs × Bs => [byL x.1.1, byL x.2.1]) fun x => (ptD x.1.1 x.2.1, ⟨0, [], []⟩))
theorem cRtx_ok : ConOk Try.prog cRtx := liftC_ok (eqC_ok rt_ans fun _ => rfl)
theorem cRtx_at (hp : Hp) (b t : Bs) : cRtx fRt [byL b.1, byL t.1] hp = some (ptD b.1 t.1, hp, none) :=
  lift_at (A := fun x : Bs × Bs => [byL x.1.1, byL x.2.1]) (D := fun x => ptD x.1.1 x.2.1) (fun x y hxy => by
    simp only [List.cons.injEq, and_true] at hxy
    rw [byL_inj hxy.1, byL_inj hxy.2]) hp (b, t) rfl (ptD_flat _ _)
end
end Go.Proofs.Ytioglkmdapghhaa
