/- Split, along its paths. -/
import Derived.Test.YtioglkmdapghhaaGs
namespace Go.Proofs.Ytioglkmdapghhaa
open Go.RowKit

noncomputable section
abbrev fSp : FuncId := 17
abbrev fIt : FuncId := 81
def rngsOf : Code → List (Code × Code)
  | .seq a b => rngsOf a ++ rngsOf b
  | .cond _ a b => rngsOf a ++ rngsOf b
  | .block _ a => rngsOf a
  | .loop a => rngsOf a
  | .scope a => rngsOf a
  | .rangeFunc _ _ a b => [(a, b)]
  | _ => []
def rngA (c : Code) : Code := match rngsOf c with
  | (a, _) :: _ => a
  | [] => .skip
def rngB (c : Code) : Code := match rngsOf c with
  | (_, b) :: _ => b
  | [] => .skip
abbrev spS : Slots := mkT 22 [(2, .ptr 0 0), (3, .ptr 1 0), (4, .ptr 2 0), (8, .fn fIt [] [.ptr 3 0])]
def spR (st : Nat) (pe : Option Code) : LS := ⟨4, 22, ksF ftab fSp, spS, [9, 10], rngA (bodyOf ftab fSp), rngB (bodyOf ftab fSp), st, pe⟩
abbrev oRs (d : DV) : Ob := ⟨0, 0, 23, [d]⟩
abbrev oEr (e : Int) : Ob := ⟨0, 0, 27, [.int .i64 e]⟩
abbrev oBx (xs : List (List DV)) : Ob := ⟨0, 0, 22, [.list 1 xs]⟩
abbrev oPl : Ob := ⟨0, 0, 0, []⟩
abbrev oRw (k r : Nat) (cl : List DV) : Ob := ⟨k, r, 22, cl⟩
abbrev sb6 (xs : List (List DV)) (x : Int) (ld : DV) (e : Int) : List Ob := [oRd xs x, oPl, oBx xs, oRs ld, oEr e, oRs .nil]
abbrev SH0 (xs : List (List DV)) (x : Int) : Hp := ⟨6, sb6 xs x .nil 0, [spR 0 none]⟩
abbrev SH1 (xs : List (List DV)) (x : Int) (n : Nat) (cl : List DV) : Hp := ⟨7, oRw 1 0 cl :: sb6 xs x (.sl 6 0 1 n n) 0, [spR 0 none]⟩
abbrev SE0 (xs : List (List DV)) (x : Int) (e : Int) (ys : List (List DV)) (y : Int) : Hp := ⟨7, oRd ys y :: sb6 xs x .nil e, [spR 2 (some .ret)]⟩
abbrev SE1 (xs : List (List DV)) (x : Int) (n : Nat) (cl : List DV) (e : Int) (ys : List (List DV)) (y : Int) : Hp := ⟨8, oRd ys y :: oRw 1 0 cl :: sb6 xs x (.sl 6 0 1 n n) e, [spR 2 (some .ret)]⟩
abbrev itS : Slots := mkT 31 [(0, .yld 4), (1, .ptr 3 0), (3, .ptr 5 0)]
abbrev kIt : List (Nat × Nat) := ksF ftab fIt
abbrev itL : Code := loopAt (bodyOf ftab fIt) 0
abbrev gsT (fs ys : List (List DV)) (y e : Int) : DV := .tuple [.list 1 fs, .agg [.list 1 ys, .int .i64 y], .int .i64 e]
abbrev aGs (xs : List (List DV)) (x : Int) (hp : Hp) (d : DV) : Prop := cGs fGs [.agg [.list 1 xs, .int .i64 x]] hp = some (d, hp, none)
abbrev sp7 (xs : List (List DV)) (x : Int) (fs : List (List DV)) (y : Int) : Hp := ⟨8, oRw 0 0 [.list 1 fs] :: oRd xs y :: sb6 xs x .nil 0, [spR 1 none]⟩
abbrev sp9 (xs : List (List DV)) (x : Int) (fs : List (List DV)) (y : Int) : Hp := ⟨9, oRw 1 0 [.list 1 fs] :: oRw 0 0 [.list 1 fs] :: oRd xs y :: sb6 xs x .nil 0, [spR 1 none]⟩
set_option maxRecDepth 1000000 in
theorem sp0 (xs fs : List (List DV)) (x y : Int) : zgm [0, 1, 2, 3, 4, 5, 8] [] (zsee Try.prog tab ftab cGs kIt [0, 1, 3] itL itS (SH0 xs x) [(14, .b true), (17, .q (gsT fs xs y 0)), (24, .c [(20, .h (.sl 8 0 1 1 1) (sp9 xs x fs y) none)])]) =
    some (.normal, itS, SH1 xs y 1 [.list 1 fs], FlatIn [] ⟨9, oRw 1 0 [.list 1 fs] :: oRw 0 0 [.list 1 fs] :: oRd xs y :: sb6 xs y (.sl 8 0 1 1 1) 0, [spR 0 none]⟩ :: (decide (x < (xs.length : Int)) = true) :: aGs xs x (SH0 xs x) (gsT fs xs y 0) ::
      (builtinD tab (sp7 xs x fs y) .append [.nil, .sl 7 0 1 1 1] [23, 23] = some (.sl 8 0 1 1 1, sp9 xs x fs y, none)) :: []) := by kernel_rfl
abbrev sp10 (xs : List (List DV)) (x : Int) (n : Nat) (cl : List DV) (fs : List (List DV)) (y : Int) : Hp := ⟨9, oRw 0 0 [.list 1 fs] :: oRd xs y :: oRw 1 0 cl :: sb6 xs x (.sl 6 0 1 n n) 0, [spR 1 none]⟩
abbrev sp11 (xs : List (List DV)) (x : Int) (n : Nat) (cl : List DV) (fs : List (List DV)) (y : Int) : Hp := ⟨10, oRw 3 6 (cl ++ [.list 1 fs]) :: oRw 0 0 [.list 1 fs] :: oRd xs y :: oRw 2 0 cl :: sb6 xs x (.sl 6 0 1 n n) 0, [spR 1 none]⟩
abbrev sp12 (xs : List (List DV)) (n : Nat) (cl : List DV) (fs : List (List DV)) (y : Int) : Hp := ⟨10, oRw 3 6 (cl ++ [.list 1 fs]) :: oRw 0 0 [.list 1 fs] :: oRd xs y :: oRw 2 0 cl :: sb6 xs y (.sl 9 0 1 (n + 1) (n + 1)) 0, [spR 0 none]⟩
set_option maxRecDepth 1000000 in
theorem sp1 (xs fs : List (List DV)) (x y : Int) (n : Nat) (cl : List DV) : zgm [0, 1, 2, 3, 4, 5, 9] [9] (zsee Try.prog tab ftab cGs kIt [0, 1, 3] itL itS (SH1 xs x n cl) [(14, .b true), (17, .q (gsT fs xs y 0)), (24, .c [(13, .b false), (20, .h (.sl 9 0 1 (n + 1) (n + 1)) (sp11 xs x n cl fs y) (some 6))])]) =
    some (.normal, itS, SH1 xs y (n + 1) (cl ++ [.list 1 fs]), FlatIn [9] (sp12 xs n cl fs y) :: (decide (x < (xs.length : Int)) = true) :: aGs xs x (SH1 xs x n cl) (gsT fs xs y 0) :: (((n : Int) == 256) = false) ::
      (builtinD tab (sp10 xs x n cl fs y) .append [.sl 6 0 1 n n, .sl 8 0 1 1 1] [23, 23] = some (.sl 9 0 1 (n + 1) (n + 1), sp11 xs x n cl fs y, some 6)) :: []) := by kernel_rfl
set_option maxRecDepth 1000000 in
theorem spO (xs : List (List DV)) (x : Int) (hp : Hp) (n : Nat) (l : List Ob) (hh : hp = ⟨n, l, [spR 0 none]⟩ ∧ (hp = SH0 xs x ∨ ∃ n cl, hp = SH1 xs x n cl)) : zsee Try.prog tab ftab cGs kIt [] itL itS hp [(14, .b false)] = some (.exit 0, mkT 31 [], hp, (decide (x < (xs.length : Int)) = false) :: []) := by
  rcases hh.2 with rfl | ⟨n, cl, rfl⟩ <;> kernel_rfl
set_option maxRecDepth 1000000 in
theorem spE0 (xs fs ys : List (List DV)) (x y e : Int) : zsee Try.prog tab ftab cGs kIt [] itL itS (SH0 xs x) [(14, .b true), (17, .q (gsT fs ys y e)), (24, .c [(15, .b true)])] =
    some (.ret, mkT 31 [], SE0 xs x e ys y, (decide (x < (xs.length : Int)) = true) :: aGs xs x (SH0 xs x) (gsT fs ys y e) :: ((e != 0) = true) :: []) := by kernel_rfl
set_option maxRecDepth 1000000 in
theorem spE1 (xs fs ys : List (List DV)) (x y e : Int) (n : Nat) (cl : List DV) : zsee Try.prog tab ftab cGs kIt [] itL itS (SH1 xs x n cl) [(14, .b true), (17, .q (gsT fs ys y e)), (24, .c [(13, .b false), (15, .b true)])] =
    some (.ret, mkT 31 [], SE1 xs x n cl e ys y, (decide (x < (xs.length : Int)) = true) :: aGs xs x (SH1 xs x n cl) (gsT fs ys y e) :: (((n : Int) == 256) = false) :: ((e != 0) = true) :: []) := by kernel_rfl
set_option maxRecDepth 1000000 in
theorem spM (xs fs ys : List (List DV)) (x y e : Int) (n : Nat) (cl : List DV) : zsee Try.prog tab ftab cGs kIt [] itL itS (SH1 xs x n cl) [(14, .b true), (17, .q (gsT fs ys y e)), (24, .c [(13, .b true)])] =
    some (.ret, mkT 31 [], SE1 xs x n cl 4 ys y, (decide (x < (xs.length : Int)) = true) :: aGs xs x (SH1 xs x n cl) (gsT fs ys y e) :: (((n : Int) == 256) = true) :: []) := by kernel_rfl
/-! ### The iterator, and Split -/
abbrev spB (xs : List (List DV)) : Hp := ⟨4, [oBx xs, oRs .nil, oEr 0, oRs .nil], []⟩
theorem it_tab : ftab fIt = some ⟨31, bodyOf ftab fIt, [], kIt⟩ := by kernel_rfl
theorem sp_beg (xs : List (List DV)) : (spB xs).beg 22 (ksF ftab fSp) spS [9, 10] (rngA (bodyOf ftab fSp)) (rngB (bodyOf ftab fSp)) = ⟨5, [oPl, oBx xs, oRs .nil, oEr 0, oRs .nil], [spR 0 none]⟩ := rfl
set_option maxRecDepth 1000000 in
theorem it_run (xs : List (List DV)) (r : Bool) (hp : Hp) : zsee Try.prog tab ftab cGs kIt [] (bodyOf ftab fIt) (initS 31 [.yld 4, .ptr 3 0]) ⟨5, [oPl, oBx xs, oRs .nil, oEr 0, oRs .nil], [spR 0 none]⟩ [(0, .l [0, 1, 3] (cond r .ret (.exit 0)) (mkT 31 []) hp)] =
    some (cond r .ret .normal, mkT 31 [], hp, (Goes Try.prog tab kIt (.loop itL) itS (SH0 xs 0) (cond r .ret (.exit 0)) (mkT 31 []) hp) :: []) := by cases r <;> kernel_rfl
abbrev spRng (xs : List (List DV)) (e : Ex) (hp : Hp) : Prop := Goes Try.prog tab (ksF ftab fSp) (.rangeFunc (.tmp 8) #[9, 10] (rngA (bodyOf ftab fSp)) (rngB (bodyOf ftab fSp))) spS (spB xs) e spS hp
/-- no field, or some; r: an error -/
abbrev spF (xs : List (List DV)) (x : Int) : Hp := ⟨6, sb6 xs x .nil 0, []⟩
abbrev spF1 (xs : List (List DV)) (x : Int) (n : Nat) (cl : List DV) : Hp := ⟨7, oRw 1 0 cl :: sb6 xs x (.sl 6 0 1 n n) 0, []⟩
abbrev spG0 (xs : List (List DV)) (x e : Int) (ys : List (List DV)) (y : Int) : Hp := ⟨7, oRd ys y :: sb6 xs x .nil e, []⟩
abbrev spG1 (xs : List (List DV)) (x : Int) (n : Nat) (cl : List DV) (e : Int) (ys : List (List DV)) (y : Int) : Hp := ⟨8, oRd ys y :: oRw 1 0 cl :: sb6 xs x (.sl 6 0 1 n n) e, []⟩
set_option maxRecDepth 1000000 in
theorem split0 (xs : List (List DV)) (x : Int) : zflat (zans Try.prog tab ftab cGs fSp [.list 1 xs] [(0, .l [2, 3, 4, 8] .normal spS (spF xs x))]) = some (.tuple [.nil, .int .i64 0], (spRng xs .normal (spF xs x)) :: []) := by kernel_rfl
set_option maxRecDepth 1000000 in
theorem split1 (xs : List (List DV)) (x : Int) (n : Nat) (cl : List DV) : zans Try.prog tab ftab cGs fSp [.list 1 xs] [(0, .l [2, 3, 4, 8] .normal spS (spF1 xs x n cl))] = some (.tuple [.sl 6 0 1 n n, .int .i64 0], ⟨7, [oRw 1 0 cl, oRd xs x, oPl, oBx xs, oRs (.sl 6 0 1 n n), oEr 0, oRs (.sl 6 0 1 n n)], []⟩, (spRng xs .normal (spF1 xs x n cl)) :: []) := by kernel_rfl
set_option maxRecDepth 1000000 in
theorem splitE0 (xs ys : List (List DV)) (x e y : Int) : zflat (zans Try.prog tab ftab cGs fSp [.list 1 xs] [(0, .l [2, 3, 4, 8] .ret spS (spG0 xs x e ys y))]) = some (.tuple [.nil, .int .i64 e], (spRng xs .ret (spG0 xs x e ys y)) :: []) := by kernel_rfl
set_option maxRecDepth 1000000 in
theorem splitE1 (xs ys : List (List DV)) (x e y : Int) (n : Nat) (cl : List DV) : zflat (zans Try.prog tab ftab cGs fSp [.list 1 xs] [(0, .l [2, 3, 4, 8] .ret spS (spG1 xs x n cl e ys y))]) = some (.tuple [.nil, .int .i64 e], (spRng xs .ret (spG1 xs x n cl e ys y)) :: []) := by kernel_rfl
end
end Go.Proofs.Ytioglkmdapghhaa
