/- ElementUnknown over data: the paths. -/
import Derived.Test.YtkcldejfmmeoaaaFk
namespace Go.Proofs.Ytkcldejfmmeoaaa
open Go.RowKit

noncomputable section
abbrev fRc : FuncId := 27
set_option maxRecDepth 1000000 in
theorem rc1 (i : UInt8) : zflat (zans Try.prog tab ftab noC fRc [i8 i] [(4, .b false)]) = some (.bool false, (decide (nx i ≥ 200) = false) :: []) := by kernel_rfl
set_option maxRecDepth 1000000 in
theorem rc2 (i : UInt8) (v : Bool) : zflat (zans Try.prog tab ftab noC fRc [i8 i] [(4, .b true), (7, .b v)]) = some (.bool v, (decide (nx i ≥ 200) = true) :: (decide (nx i ≤ 219) = v) :: []) := by kernel_rfl
theorem rc_ans (i : UInt8) : Ans Try.prog fRc [i8 i] (.bool (cont i)) ⟨0, [], []⟩ := by
  unfold cont
  cases h : decide (nx i ≥ 200) with
  | false => exact zflat_ok tab_ok mixed fun_ok noC_ok (rc1 i) (.cons h .nil)
  | true => exact zflat_ok tab_ok mixed fun_ok noC_ok (rc2 i _) (.cons h (.cons rfl .nil))
def cRc : ConF := liftC (eqC fRc (fun i : UInt8 => [i8 i]) fun i => (.bool (cont i), ⟨0, [], []⟩))
theorem cRc_ok : ConOk Try.prog cRc := liftC_ok (eqC_ok rc_ans fun _ => rfl)
theorem cRc_at (hp : Hp) (i : UInt8) : cRc fRc [i8 i] hp = some (.bool (cont i), hp, none) :=
  lift_at (A := fun i : UInt8 => [i8 i]) (D := fun i => .bool (cont i)) (fun x y hxy => by
    simp only [List.cons.injEq, and_true] at hxy
    rw [i8_inj hxy]) hp i rfl rfl
abbrev fUn : FuncId := 8
abbrev kUn : List (Nat × Nat) := ksF ftab fUn
abbrev unL : Code := loopAt (bodyOf ftab fUn) 0
abbrev unS (xs zs : List (List DV)) (d : DV) (j : Nat) : Slots := mkT 106 [(0, .list 4 xs), (1, .list 1 zs), (5, .bool true), (6, d), (7, iN j)]
abbrev unE (xs : List (List DV)) (d : DV) : Slots := mkT 106 [(0, .list 4 xs), (5, .bool true), (6, d)]
abbrev unF (xs ms : List (List DV)) : Slots := mkT 106 [(0, .list 4 xs), (5, .bool true), (6, .list 4 ms)]
abbrev ceU (c : UInt8) (ys : List (List DV)) : List DV := [i8 c, .int .u8 0, .list 1 ys, .nil]
def uX : Bool → Nat → List DV → DV × Hp
  | false, _, _ => (.nil, ⟨0, [], []⟩)
  | true, n, cl => (sl4 0 n, twH cl)
def uB : Bool → List DV → List DV → Hp
  | false, _, cs => ⟨1, [oEl 0 cs], []⟩
  | true, cl, cs => ⟨2, [oEl 0 cs, oEl 1 cl], []⟩
def uI : Bool → Nat
  | false => 0
  | true => 1
def uA : Bool → Nat → List DV → List DV → DV × Hp × Mut
  | false, _, _, cs => (sl4 1 1, ⟨2, [oEl 1 cs, oEl 0 cs], []⟩, none)
  | true, n, cl, cs => (sl4 2 (n + 1), ⟨3, [oE3 0 (cl ++ cs), oEl 0 cs, oEl 2 cl], []⟩, some 0)
def uN : Bool → Nat → Nat
  | false, _ => 1
  | true, n => n + 1
def uW : Bool → List DV → List DV → List DV
  | false, _, cs => cs
  | true, cl, cs => cl ++ cs
def uL : Bool → List Nat
  | false => [1]
  | true => [2]
section
variable (C : ConF)
abbrev unQ (xs zs ys ss : List (List DV)) (j k : Nat) (c c2 : UInt8) (i e : UInt8) (cv : Bool) (hp : Hp) (t : List Prop) : List Prop := (decide ((j : Int) < (xs.length : Int)) = true) :: (binD tab .rem 3 (iN j) (.int .i64 (zs.length : Int)) = some (iN k)) :: (idxOk (k : Int) zs.length = true) :: (nth zs ((k : Int).toNat) = some [i8 c]) :: (DV.int .u8 (Int.tmod (nx c) 200) = i8 c2) :: weA xs j i e ys ss ((C fRc [i8 i] hp = some (.bool cv, hp, none)) :: t)
abbrev unY (ys ss : List (List DV)) (k : Nat) (c c2 : UInt8) (i e : UInt8) (cv : Bool) (t : Yath) : Yath := (31, .b true) :: (38, .n (iN k)) :: (39, .n (.fptr [i8 c])) :: (41, .w (i8 c2)) :: (44, .n (.fptr (elC i e ys ss))) :: (47, .q (.bool cv)) :: t
set_option maxRecDepth 1000000 in
theorem un1 (b : Bool) (xs zs ys ss : List (List DV)) (j k n : Nat) (c c2 i e : UInt8) (cl : List DV) : zgm [] [] (zsee Try.prog tab ftab C kUn [4] unL (unS xs zs (uX b n cl).1 j) (uX b n cl).2 (unY ys ss k c c2 i e true [])) =
    some (.ret, mkT 106 [(4, .bool true)], ⟨0, [], []⟩, FlatIn [] (uX b n cl).2 :: unQ C xs zs ys ss j k c c2 i e true (uX b n cl).2 []) := by cases b <;> kernel_rfl
set_option maxRecDepth 1000000 in
theorem un2 (b : Bool) (xs zs ys ss : List (List DV)) (j k n : Nat) (c c2 i e : UInt8) (cl : List DV) : zgm [] [] (zsee Try.prog tab ftab C kUn [4] unL (unS xs zs (uX b n cl).1 j) (uX b n cl).2 (unY ys ss k c c2 i e false [(51, .n (.fptr (elC i e ys ss))), (54, .b true)])) =
    some (.ret, mkT 106 [(4, .bool true)], ⟨0, [], []⟩, FlatIn [] (uX b n cl).2 :: unQ C xs zs ys ss j k c c2 i e false (uX b n cl).2 (weA xs j i e ys ss ((decide (nx i ≥ 254) = true) :: []))) := by cases b <;> kernel_rfl
set_option maxRecDepth 1000000 in
theorem un3 (b : Bool) (xs zs ys ss : List (List DV)) (j k n : Nat) (c c2 i e : UInt8) (cl : List DV) : zgm (uL b) (uL b) (zsee Try.prog tab ftab C kUn [0, 1, 5, 6, 7] unL (unS xs zs (uX b n cl).1 j) (uX b n cl).2 (unY ys ss k c c2 i e false [(51, .n (.fptr (elC i e ys ss))), (54, .b false), (61, .n (.fptr (elC i e ys ss))), (66, .h (uA b n cl (ceU c2 ys)).1 (uA b n cl (ceU c2 ys)).2.1 (uA b n cl (ceU c2 ys)).2.2), (33, .w (iN (j + 1)))])) =
    some (.normal, unS xs zs (sl4 0 (uN b n)) (j + 1), twH (uW b cl (ceU c2 ys)), FlatIn (uL b) (uA b n cl (ceU c2 ys)).2.1 :: unQ C xs zs ys ss j k c c2 i e false (uX b n cl).2 (weA xs j i e ys ss ((decide (nx i ≥ 254) = false) :: weA xs j i e ys ss ((builtinD tab (uB b cl (ceU c2 ys)) .append [(uX b n cl).1, sl4 (uI b) 1] tyEE = some (uA b n cl (ceU c2 ys))) :: (DV.int .i64 (IntKind.i64.wrap ((j : Int) + 1)) = iN (j + 1)) :: [])))) := by cases b <;> kernel_rfl
set_option maxRecDepth 1000000 in
theorem uuO (b : Bool) (xs zs : List (List DV)) (j n : Nat) (cl : List DV) : zsee Try.prog tab ftab C kUn [0, 5, 6] unL (unS xs zs (uX b n cl).1 j) (uX b n cl).2 [(31, .b false)] = some (.exit 0, unE xs (uX b n cl).1, (uX b n cl).2, (decide ((j : Int) < (xs.length : Int)) = false) :: []) := by cases b <;> kernel_rfl
abbrev unN (xs zs : List (List DV)) (t : List Prop) : List Prop := aQ C fAl [] (.bool true) :: aQ C fGr [.list 4 xs] (.bool false) :: (((zs.length : Int) == 0) = false) :: t
abbrev unP (t : Yath) : Yath := (15, .q (.bool true)) :: (17, .q (.bool false)) :: (21, .b false) :: t
set_option maxRecDepth 1000000 in
theorem ug1 (xs zs : List (List DV)) : zflat (zans Try.prog tab ftab C fUn [.list 4 xs, .list 1 zs] [(15, .q (.bool true)), (17, .q (.bool true))]) = some (.bool true, aQ C fAl [] (.bool true) :: aQ C fGr [.list 4 xs] (.bool true) :: []) := by kernel_rfl
set_option maxRecDepth 1000000 in
theorem ug2 (xs zs : List (List DV)) : zflat (zans Try.prog tab ftab C fUn [.list 4 xs, .list 1 zs] [(15, .q (.bool true)), (17, .q (.bool false)), (21, .b true)]) = some (.bool true, aQ C fAl [] (.bool true) :: aQ C fGr [.list 4 xs] (.bool false) :: (((zs.length : Int) == 0) = true) :: []) := by kernel_rfl
set_option maxRecDepth 1000000 in
theorem ug3 (xs zs : List (List DV)) : zflat (zans Try.prog tab ftab C fUn [.list 4 xs, .list 1 zs] (unP [(0, .l [0, 1, 5, 6, 7] .ret (mkT 106 [(4, .bool true)]) h00)])) = some (.bool true, unN C xs zs ((Goes Try.prog tab kUn (.loop unL) (unS xs zs .nil 0) h00 .ret (mkT 106 [(4, .bool true)]) h00) :: [])) := by kernel_rfl
abbrev unG (xs zs ms : List (List DV)) (b : Bool) (n : Nat) (cl : List DV) (t : List Prop) : List Prop := unN C xs zs ((Goes Try.prog tab kUn (.loop unL) (unS xs zs .nil 0) h00 (.exit 0) (unE xs (uX b n cl).1) (uX b n cl).2) :: Seen (unE xs (uX b n cl).1) (uX b n cl).2 (unF xs ms) h00 :: t)
abbrev unZ (xs ms : List (List DV)) (b : Bool) (n : Nat) (cl : List DV) (t : Yath) : Yath := unP ((0, .l [0, 1, 5, 6, 7] (.exit 0) (unE xs (uX b n cl).1) (uX b n cl).2) :: (12, .s [0, 5, 6] (unF xs ms) h00) :: t)
set_option maxRecDepth 1000000 in
theorem ug4 (xs zs ms us bs : List (List DV)) (b : Bool) (n e f : Nat) (cl : List DV) : zflat (zans Try.prog tab ftab C fUn [.list 4 xs, .list 1 zs] (unZ xs ms b n cl [(69, .q (.tuple [.list 1 us, iN (e + 1)])), (74, .q (.tuple [.list 1 bs, iN f])), (78, .b true)])) =
    some (.bool true, unG C xs zs ms b n cl (aQ C fEn [.list 4 xs] (.tuple [.list 1 us, iN (e + 1)]) :: aQ C fEn [.list 4 ms] (.tuple [.list 1 bs, iN f]) :: ((((e + 1 : Nat) : Int) != 0) = true) :: [])) := by cases b <;> kernel_rfl
set_option maxRecDepth 1000000 in
theorem ug5 (xs zs ms us bs : List (List DV)) (b : Bool) (n : Nat) (cl : List DV) : zflat (zans Try.prog tab ftab C fUn [.list 4 xs, .list 1 zs] (unZ xs ms b n cl [(69, .q (.tuple [.list 1 us, iN 0])), (74, .q (.tuple [.list 1 bs, iN 0])), (82, .q (.tuple [.list 4 ms, iN 0])), (95, .b true), (104, .q (.bool true))])) =
    some (.bool true, unG C xs zs ms b n cl (aQ C fEn [.list 4 xs] (.tuple [.list 1 us, iN 0]) :: aQ C fEn [.list 4 ms] (.tuple [.list 1 bs, iN 0]) :: aQ C fDe [.list 1 bs] (.tuple [.list 4 ms, iN 0]) :: (((us.length : Int) == (bs.length : Int)) = true) :: aQ C fSa [.list 4 ms, .list 4 ms] (.bool true) :: [])) := by cases b <;> kernel_rfl
end
end
end Go.Proofs.Ytkcldejfmmeoaaa
