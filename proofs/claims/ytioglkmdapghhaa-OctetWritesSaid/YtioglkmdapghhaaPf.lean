/- The reference's Split, along its paths. -/
import Derived.Test.YtioglkmdapghhaaPe
namespace Go.Proofs.Ytioglkmdapghhaa
open Go.RowKit

noncomputable section
/-! ### Split, along its paths -/
abbrev fRs : FuncId := 18
abbrev kRs : List (Nat × Nat) := ksF ftab fRs
abbrev rsL : Code := loopAt (bodyOf ftab fRs) 0
abbrev rsS (xs : List (List DV)) (d : DV) : Slots := mkT 46 [(0, .list 1 xs), (4, d), (5, .ptr 0 0)]
abbrev rsE (e : Int) : Slots := mkT 46 [(2, .nil), (3, .int .i64 e)]
abbrev RH0 (xs : List (List DV)) (x : Int) : Hp := ⟨1, [oRd xs x], []⟩
abbrev RH1 (xs : List (List DV)) (x : Int) (cl : List DV) : Hp := ⟨2, [oRw 1 0 cl, oRd xs x], []⟩
abbrev nmT (v : Nat) (xs : List (List DV)) (x e : Int) : DV := .tuple [i64u v, .agg [.list 1 xs, .int .i64 x], .int .i64 e]
abbrev rh3 (xs : List (List DV)) (x y z : Int) (fs : List (List DV)) : Hp := ⟨4, [oRw 0 0 [.list 1 fs], oRd xs z, oRd xs y, oRd xs x], []⟩
abbrev rh4 (xs : List (List DV)) (x y z : Int) (fs : List (List DV)) : Hp := ⟨5, [oRw 1 0 [.list 1 fs], oRw 0 0 [.list 1 fs], oRd xs z, oRd xs y, oRd xs x], []⟩
abbrev tyFR : List TypeId := [23, 23]
abbrev aNm (xs : List (List DV)) (x : Int) (hp : Hp) (d : DV) : Prop := cNs fNm [.agg [.list 1 xs, .int .i64 x], .int .i64 2] hp = some (d, hp, none)
abbrev aTa (xs : List (List DV)) (x : Int) (v : Nat) (hp : Hp) (d : DV) : Prop := cNs fTa [.agg [.list 1 xs, .int .i64 x], iN v] hp = some (d, hp, none)
set_option maxRecDepth 1000000 in
theorem rs0 (xs fs : List (List DV)) (x y z : Int) (v : Nat) : zgm [0, 4] [] (zsee Try.prog tab ftab cNs kRs [0, 4, 5] rsL (rsS xs .nil) (RH0 xs x) [(18, .b true), (24, .q (nmT v xs y 0)), (33, .w (iN v)), (34, .q (gsT fs xs z 0)), (43, .h (.sl 4 0 1 1 1) (rh4 xs x y z fs) none)]) =
    some (.normal, rsS xs (.sl 1 0 1 1 1), RH1 xs z [.list 1 fs], FlatIn [] ⟨5, [oRw 1 0 [.list 1 fs], oRw 0 0 [.list 1 fs], oRd xs z, oRd xs y, oRd xs z], []⟩ :: (decide (x < (xs.length : Int)) = true) :: (aNm xs x (RH0 xs x) (nmT v xs y 0)) :: (DV.int .i64 (IntKind.i64.wrap (v : Int)) = iN v) ::
      (aTa xs y v ⟨2, [oRd xs y, oRd xs x], []⟩ (gsT fs xs z 0)) :: (builtinD tab (rh3 xs x y z fs) .append [.nil, .sl 3 0 1 1 1] tyFR = some (.sl 4 0 1 1 1, rh4 xs x y z fs, none)) :: []) := by kernel_rfl
abbrev rh5 (xs : List (List DV)) (x y z : Int) (fs : List (List DV)) (cl : List DV) : Hp := ⟨5, [oRw 0 0 [.list 1 fs], oRd xs z, oRd xs y, oRw 1 0 cl, oRd xs x], []⟩
abbrev rh6 (xs : List (List DV)) (x y z : Int) (fs : List (List DV)) (cl : List DV) : Hp := ⟨6, [oRw 3 1 (cl ++ [.list 1 fs]), oRw 0 0 [.list 1 fs], oRd xs z, oRd xs y, oRw 2 0 cl, oRd xs x], []⟩
set_option maxRecDepth 1000000 in
theorem rs1 (xs fs : List (List DV)) (x y z : Int) (v n : Nat) (cl : List DV) : zgm [0, 5] [5] (zsee Try.prog tab ftab cNs kRs [0, 4, 5] rsL (rsS xs (.sl 1 0 1 n n)) (RH1 xs x cl) [(18, .b true), (21, .b false), (24, .q (nmT v xs y 0)), (33, .w (iN v)), (34, .q (gsT fs xs z 0)), (43, .h (.sl 5 0 1 (n + 1) (n + 1)) (rh6 xs x y z fs cl) (some 1))]) =
    some (.normal, rsS xs (.sl 1 0 1 (n + 1) (n + 1)), RH1 xs z (cl ++ [.list 1 fs]), FlatIn [5] ⟨6, [oRw 3 1 (cl ++ [.list 1 fs]), oRw 0 0 [.list 1 fs], oRd xs z, oRd xs y, oRw 2 0 cl, oRd xs z], []⟩ :: (decide (x < (xs.length : Int)) = true) :: (((n : Int) == 256) = false) :: (aNm xs x (RH1 xs x cl) (nmT v xs y 0)) :: (DV.int .i64 (IntKind.i64.wrap (v : Int)) = iN v) ::
      (aTa xs y v ⟨3, [oRd xs y, oRw 1 0 cl, oRd xs x], []⟩ (gsT fs xs z 0)) :: (builtinD tab (rh5 xs x y z fs cl) .append [.sl 1 0 1 n n, .sl 4 0 1 1 1] tyFR = some (.sl 5 0 1 (n + 1) (n + 1), rh6 xs x y z fs cl, some 1)) :: []) := by kernel_rfl
abbrev rsF (d : DV) : Slots := mkT 46 [(4, d)]
set_option maxRecDepth 1000000 in
theorem rsO0 (xs : List (List DV)) (x : Int) : zsee Try.prog tab ftab cNs kRs [4] rsL (rsS xs .nil) (RH0 xs x) [(18, .b false)] = some (.exit 0, rsF .nil, RH0 xs x, (decide (x < (xs.length : Int)) = false) :: []) := by kernel_rfl
set_option maxRecDepth 1000000 in
theorem rsO1 (xs : List (List DV)) (x : Int) (n : Nat) (cl : List DV) : zsee Try.prog tab ftab cNs kRs [4] rsL (rsS xs (.sl 1 0 1 n n)) (RH1 xs x cl) [(18, .b false)] = some (.exit 0, rsF (.sl 1 0 1 n n), RH1 xs x cl, (decide (x < (xs.length : Int)) = false) :: []) := by kernel_rfl
set_option maxRecDepth 1000000 in
theorem rsM (xs : List (List DV)) (x : Int) (n : Nat) (cl : List DV) : zgm [] [] (zsee Try.prog tab ftab cNs kRs [2, 3] rsL (rsS xs (.sl 1 0 1 n n)) (RH1 xs x cl) [(18, .b true), (21, .b true)]) = some (.ret, rsE 4, h00, FlatIn [] (RH1 xs x cl) :: (decide (x < (xs.length : Int)) = true) :: (((n : Int) == 256) = true) :: []) := by kernel_rfl
set_option maxRecDepth 1000000 in
theorem rsN0 (xs ys : List (List DV)) (x y e : Int) (v : Nat) : zgm [] [] (zsee Try.prog tab ftab cNs kRs [2, 3] rsL (rsS xs .nil) (RH0 xs x) [(18, .b true), (24, .q (nmT v ys y e)), (29, .b true)]) = some (.ret, rsE 10, h00, FlatIn [] ⟨2, [oRd ys y, oRd xs x], []⟩ :: (decide (x < (xs.length : Int)) = true) :: (aNm xs x (RH0 xs x) (nmT v ys y e)) :: ((e != 0) = true) :: []) := by kernel_rfl
set_option maxRecDepth 1000000 in
theorem rsN1 (xs ys : List (List DV)) (x y e : Int) (v n : Nat) (cl : List DV) : zgm [] [] (zsee Try.prog tab ftab cNs kRs [2, 3] rsL (rsS xs (.sl 1 0 1 n n)) (RH1 xs x cl) [(18, .b true), (21, .b false), (24, .q (nmT v ys y e)), (29, .b true)]) = some (.ret, rsE 10, h00, FlatIn [] ⟨3, [oRd ys y, oRw 1 0 cl, oRd xs x], []⟩ :: (decide (x < (xs.length : Int)) = true) :: (((n : Int) == 256) = false) :: (aNm xs x (RH1 xs x cl) (nmT v ys y e)) :: ((e != 0) = true) :: []) := by kernel_rfl
set_option maxRecDepth 1000000 in
theorem rsT0 (xs ys fs : List (List DV)) (x y z e : Int) (v : Nat) : zgm [] [] (zsee Try.prog tab ftab cNs kRs [2, 3] rsL (rsS xs .nil) (RH0 xs x) [(18, .b true), (24, .q (nmT v xs y 0)), (33, .w (iN v)), (34, .q (gsT fs ys z e)), (39, .b true)]) = some (.ret, rsE 10, h00, FlatIn [] ⟨3, [oRd ys z, oRd xs y, oRd xs x], []⟩ :: (decide (x < (xs.length : Int)) = true) :: (aNm xs x (RH0 xs x) (nmT v xs y 0)) :: (DV.int .i64 (IntKind.i64.wrap (v : Int)) = iN v) :: (aTa xs y v ⟨2, [oRd xs y, oRd xs x], []⟩ (gsT fs ys z e)) :: ((e != 0) = true) :: []) := by kernel_rfl
set_option maxRecDepth 1000000 in
theorem rsT1 (xs ys fs : List (List DV)) (x y z e : Int) (v n : Nat) (cl : List DV) : zgm [] [] (zsee Try.prog tab ftab cNs kRs [2, 3] rsL (rsS xs (.sl 1 0 1 n n)) (RH1 xs x cl) [(18, .b true), (21, .b false), (24, .q (nmT v xs y 0)), (33, .w (iN v)), (34, .q (gsT fs ys z e)), (39, .b true)]) = some (.ret, rsE 10, h00, FlatIn [] ⟨4, [oRd ys z, oRd xs y, oRw 1 0 cl, oRd xs x], []⟩ :: (decide (x < (xs.length : Int)) = true) :: (((n : Int) == 256) = false) :: (aNm xs x (RH1 xs x cl) (nmT v xs y 0)) :: (DV.int .i64 (IntKind.i64.wrap (v : Int)) = iN v) :: (aTa xs y v ⟨3, [oRd xs y, oRw 1 0 cl, oRd xs x], []⟩ (gsT fs ys z e)) :: ((e != 0) = true) :: []) := by kernel_rfl
abbrev rsG (xs : List (List DV)) (e : Ex) (sl : Slots) (hp : Hp) : Prop := Goes Try.prog tab kRs (.loop rsL) (rsS xs .nil) (RH0 xs 0) e sl hp
set_option maxRecDepth 1000000 in
theorem rsA0 (xs : List (List DV)) (x : Int) : zflat (zans Try.prog tab ftab cNs fRs [.list 1 xs] [(0, .l [0, 4, 5] (.exit 0) (rsF .nil) (RH0 xs x))]) = some (.tuple [.nil, .int .i64 0], (rsG xs (.exit 0) (rsF .nil) (RH0 xs x)) :: []) := by kernel_rfl
set_option maxRecDepth 1000000 in
theorem rsA1 (xs : List (List DV)) (x : Int) (n : Nat) (cl : List DV) : zans Try.prog tab ftab cNs fRs [.list 1 xs] [(0, .l [0, 4, 5] (.exit 0) (rsF (.sl 1 0 1 n n)) (RH1 xs x cl))] = some (.tuple [.sl 1 0 1 n n, .int .i64 0], RH1 xs x cl, (rsG xs (.exit 0) (rsF (.sl 1 0 1 n n)) (RH1 xs x cl)) :: []) := by kernel_rfl
set_option maxRecDepth 1000000 in
theorem rsAE (xs : List (List DV)) (e : Int) : zflat (zans Try.prog tab ftab cNs fRs [.list 1 xs] [(0, .l [0, 4, 5] .ret (rsE e) h00)]) = some (.tuple [.nil, .int .i64 e], (rsG xs .ret (rsE e) h00) :: []) := by kernel_rfl
end
end Go.Proofs.Ytioglkmdapghhaa
