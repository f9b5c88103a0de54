/- Add and Remove undo each other, the order of two additions does not matter, and Has reports what was added: the statement returns true. No conditions. -/
import Derived.Test.YtmdomipnjlhmeabAh
import Derived.WalkKit
import Derived.ProofKit
import Derived.OpenShut
import Derived.ShutString
import Derived.ChangeOld
import Derived.Below
namespace Go.Proofs.Ytmdomipnjlhmeab.addressUndo
open Go.ChangeShapes Go.WideShapes Go.ChangeAt Go.RowKit

theorem own : ownKnob Try.prog.godebug = none := by kernel_rfl
theorem laidOut : laidOutB Try.prog = true := by kernel_rfl

noncomputable section
set_option maxRecDepth 1000000 in
theorem runAl2 : zflat (zans Try.prog tab ftab noC 15 [] []) = some (.bool true, []) := by
  kernel_rfl
def cAl2 : CallF := fixC 15 (.bool true)
theorem cAl2_ok : CallOk Try.prog cAl2 := fixC_ok (zflat_ok tab_ok mixed fun_ok noC_ok runAl2 .nil) rfl
def cUd : CallF := orK cAl2 (orK cCk (orK cHa (orK cAd' (orK cRe cSa))))
theorem cUd_ok : CallOk Try.prog cUd := orK_ok cAl2_ok (orK_ok cCk_ok (orK_ok cHa_ok (orK_ok cAd'_ok (orK_ok cRe_ok cSa_ok))))
theorem fixC_other {f0 f : FuncId} {d : DV} {args : List DV} {hp : Hp} (h : Nat.beq f f0 = false) : fixC f0 d f args hp = none := by
  unfold fixC
  rw [h]
set_option maxRecDepth 1000000 in
theorem big (xs : List (List DV)) (a b : Nat) : zflat (zans Try.prog tab ftab cUd 4 [.list 6 xs, aD a, aD b] [(25, .b true)]) = some (.bool true, [decide ((xs.length : Int) > 250) = true]) := by
  kernel_rfl
set_option maxRecDepth 1000000 in
theorem bad (xs : List (List DV)) (a b : Nat) : zflat (zans Try.prog tab ftab cUd 4 [.list 6 xs, aD a, aD b] [(25, .b false), (28, .q (.int .i64 8))]) = some (.bool true, [decide ((xs.length : Int) > 250) = false, cUd 19 [.list 6 xs] ⟨2, [⟨0, 0, 23, aC b⟩, ⟨0, 0, 23, aC a⟩]⟩ = some (.int .i64 8, ⟨2, [⟨0, 0, 23, aC b⟩, ⟨0, 0, 23, aC a⟩]⟩, none)]) := by
  kernel_rfl
set_option maxRecDepth 1000000 in
theorem maintrue (xs : List (List DV)) (a b n1 n2 n3 n4 n5 N1 N2 N3 N4 N5 : Nat) (c1 c2 c3 c4 c5 : List DV) : zflat (zans Try.prog tab ftab cUd 4 [.list 6 xs, aD a, aD b] [(25, .b false),
      (28, .q (.int .i64 0)),
      (39, .q (.tuple [.bool true, .int .i64 0])),
      (45, .r (.tuple [.sl 2 0 6 n1 N1, .int .i64 0]) ⟨3, [⟨0, 0, 23, c1⟩, ⟨0, 0, 23, aC b⟩, ⟨0, 0, 23, aC a⟩]⟩),
      (51, .q (.tuple [.bool true, .int .i64 0])),
      (57, .r (.tuple [.sl 3 0 6 n2 N2, .int .i64 0]) ⟨4, [⟨0, 0, 23, c2⟩, ⟨0, 0, 23, c1⟩, ⟨0, 0, 23, aC b⟩, ⟨0, 0, 23, aC a⟩]⟩),
      (63, .r (.tuple [.sl 4 0 6 n3 N3, .int .i64 0]) ⟨5, [⟨0, 0, 23, c3⟩, ⟨0, 0, 23, c2⟩, ⟨0, 0, 23, c1⟩, ⟨0, 0, 23, aC b⟩, ⟨0, 0, 23, aC a⟩]⟩),
      (69, .r (.tuple [.sl 5 0 6 n4 N4, .int .i64 0]) ⟨6, [⟨0, 0, 23, c4⟩, ⟨0, 0, 23, c3⟩, ⟨0, 0, 23, c2⟩, ⟨0, 0, 23, c1⟩, ⟨0, 0, 23, aC b⟩, ⟨0, 0, 23, aC a⟩]⟩),
      (75, .r (.tuple [.sl 6 0 6 n5 N5, .int .i64 0]) ⟨7, [⟨0, 0, 23, c5⟩, ⟨0, 0, 23, c4⟩, ⟨0, 0, 23, c3⟩, ⟨0, 0, 23, c2⟩, ⟨0, 0, 23, c1⟩, ⟨0, 0, 23, aC b⟩, ⟨0, 0, 23, aC a⟩]⟩),
      (113, .q (.bool true)),
      (128, .q (.bool true)),
      (132, .q (.int .i64 0)),
      (137, .q (.int .i64 0))]) = some (.bool true, [decide ((xs.length : Int) > 250) = false,
    cUd 19 [.list 6 xs] ⟨2, [⟨0, 0, 23, aC b⟩, ⟨0, 0, 23, aC a⟩]⟩ = some (.int .i64 0, ⟨2, [⟨0, 0, 23, aC b⟩, ⟨0, 0, 23, aC a⟩]⟩, none),
    cUd 20 [.list 6 xs, aD a] ⟨2, [⟨0, 0, 23, aC b⟩, ⟨0, 0, 23, aC a⟩]⟩ = some (.tuple [.bool true, .int .i64 0], ⟨2, [⟨0, 0, 23, aC b⟩, ⟨0, 0, 23, aC a⟩]⟩, none),
    cUd 21 [.list 6 xs, aD a] ⟨2, [⟨0, 0, 23, aC b⟩, ⟨0, 0, 23, aC a⟩]⟩ = some (.tuple [.sl 2 0 6 n1 N1, .int .i64 0], ⟨3, [⟨0, 0, 23, c1⟩, ⟨0, 0, 23, aC b⟩, ⟨0, 0, 23, aC a⟩]⟩, none),
    cUd 20 [.sl 2 0 6 n1 N1, aD a] ⟨3, [⟨0, 0, 23, c1⟩, ⟨0, 0, 23, aC b⟩, ⟨0, 0, 23, aC a⟩]⟩ = some (.tuple [.bool true, .int .i64 0], ⟨3, [⟨0, 0, 23, c1⟩, ⟨0, 0, 23, aC b⟩, ⟨0, 0, 23, aC a⟩]⟩, none),
    cUd 22 [.sl 2 0 6 n1 N1, aD a] ⟨3, [⟨0, 0, 23, c1⟩, ⟨0, 0, 23, aC b⟩, ⟨0, 0, 23, aC a⟩]⟩ = some (.tuple [.sl 3 0 6 n2 N2, .int .i64 0], ⟨4, [⟨0, 0, 23, c2⟩, ⟨0, 0, 23, c1⟩, ⟨0, 0, 23, aC b⟩, ⟨0, 0, 23, aC a⟩]⟩, none),
    cUd 21 [.sl 2 0 6 n1 N1, aD b] ⟨4, [⟨0, 0, 23, c2⟩, ⟨0, 0, 23, c1⟩, ⟨0, 0, 23, aC b⟩, ⟨0, 0, 23, aC a⟩]⟩ = some (.tuple [.sl 4 0 6 n3 N3, .int .i64 0], ⟨5, [⟨0, 0, 23, c3⟩, ⟨0, 0, 23, c2⟩, ⟨0, 0, 23, c1⟩, ⟨0, 0, 23, aC b⟩, ⟨0, 0, 23, aC a⟩]⟩, none),
    cUd 21 [.list 6 xs, aD b] ⟨5, [⟨0, 0, 23, c3⟩, ⟨0, 0, 23, c2⟩, ⟨0, 0, 23, c1⟩, ⟨0, 0, 23, aC b⟩, ⟨0, 0, 23, aC a⟩]⟩ = some (.tuple [.sl 5 0 6 n4 N4, .int .i64 0], ⟨6, [⟨0, 0, 23, c4⟩, ⟨0, 0, 23, c3⟩, ⟨0, 0, 23, c2⟩, ⟨0, 0, 23, c1⟩, ⟨0, 0, 23, aC b⟩, ⟨0, 0, 23, aC a⟩]⟩, none),
    cUd 21 [.sl 5 0 6 n4 N4, aD a] ⟨6, [⟨0, 0, 23, c4⟩, ⟨0, 0, 23, c3⟩, ⟨0, 0, 23, c2⟩, ⟨0, 0, 23, c1⟩, ⟨0, 0, 23, aC b⟩, ⟨0, 0, 23, aC a⟩]⟩ = some (.tuple [.sl 6 0 6 n5 N5, .int .i64 0], ⟨7, [⟨0, 0, 23, c5⟩, ⟨0, 0, 23, c4⟩, ⟨0, 0, 23, c3⟩, ⟨0, 0, 23, c2⟩, ⟨0, 0, 23, c1⟩, ⟨0, 0, 23, aC b⟩, ⟨0, 0, 23, aC a⟩]⟩, none),
    cUd 23 [.sl 2 0 6 n1 N1, .list 6 xs] ⟨7, [⟨0, 0, 23, c5⟩, ⟨0, 0, 23, c4⟩, ⟨0, 0, 23, c3⟩, ⟨0, 0, 23, c2⟩, ⟨0, 0, 23, c1⟩, ⟨0, 0, 23, aC b⟩, ⟨0, 0, 23, aC a⟩]⟩ = some (.bool true, ⟨7, [⟨0, 0, 23, c5⟩, ⟨0, 0, 23, c4⟩, ⟨0, 0, 23, c3⟩, ⟨0, 0, 23, c2⟩, ⟨0, 0, 23, c1⟩, ⟨0, 0, 23, aC b⟩, ⟨0, 0, 23, aC a⟩]⟩, none),
    cUd 23 [.sl 4 0 6 n3 N3, .sl 6 0 6 n5 N5] ⟨7, [⟨0, 0, 23, c5⟩, ⟨0, 0, 23, c4⟩, ⟨0, 0, 23, c3⟩, ⟨0, 0, 23, c2⟩, ⟨0, 0, 23, c1⟩, ⟨0, 0, 23, aC b⟩, ⟨0, 0, 23, aC a⟩]⟩ = some (.bool true, ⟨7, [⟨0, 0, 23, c5⟩, ⟨0, 0, 23, c4⟩, ⟨0, 0, 23, c3⟩, ⟨0, 0, 23, c2⟩, ⟨0, 0, 23, c1⟩, ⟨0, 0, 23, aC b⟩, ⟨0, 0, 23, aC a⟩]⟩, none),
    cUd 19 [.sl 4 0 6 n3 N3] ⟨7, [⟨0, 0, 23, c5⟩, ⟨0, 0, 23, c4⟩, ⟨0, 0, 23, c3⟩, ⟨0, 0, 23, c2⟩, ⟨0, 0, 23, c1⟩, ⟨0, 0, 23, aC b⟩, ⟨0, 0, 23, aC a⟩]⟩ = some (.int .i64 0, ⟨7, [⟨0, 0, 23, c5⟩, ⟨0, 0, 23, c4⟩, ⟨0, 0, 23, c3⟩, ⟨0, 0, 23, c2⟩, ⟨0, 0, 23, c1⟩, ⟨0, 0, 23, aC b⟩, ⟨0, 0, 23, aC a⟩]⟩, none),
    cUd 19 [.sl 3 0 6 n2 N2] ⟨7, [⟨0, 0, 23, c5⟩, ⟨0, 0, 23, c4⟩, ⟨0, 0, 23, c3⟩, ⟨0, 0, 23, c2⟩, ⟨0, 0, 23, c1⟩, ⟨0, 0, 23, aC b⟩, ⟨0, 0, 23, aC a⟩]⟩ = some (.int .i64 0, ⟨7, [⟨0, 0, 23, c5⟩, ⟨0, 0, 23, c4⟩, ⟨0, 0, 23, c3⟩, ⟨0, 0, 23, c2⟩, ⟨0, 0, 23, c1⟩, ⟨0, 0, 23, aC b⟩, ⟨0, 0, 23, aC a⟩]⟩, none)]) := by
  kernel_rfl
set_option maxRecDepth 1000000 in
theorem mainfalse (xs : List (List DV)) (a b n1 n2 n3 n4 n5 N1 N2 N3 N4 N5 : Nat) (c1 c2 c3 c4 c5 : List DV) : zflat (zans Try.prog tab ftab cUd 4 [.list 6 xs, aD a, aD b] [(25, .b false),
      (28, .q (.int .i64 0)),
      (39, .q (.tuple [.bool false, .int .i64 0])),
      (45, .r (.tuple [.sl 2 0 6 n1 N1, .int .i64 0]) ⟨3, [⟨0, 0, 23, c1⟩, ⟨0, 0, 23, aC b⟩, ⟨0, 0, 23, aC a⟩]⟩),
      (51, .q (.tuple [.bool true, .int .i64 0])),
      (57, .r (.tuple [.sl 3 0 6 n2 N2, .int .i64 0]) ⟨4, [⟨0, 0, 23, c2⟩, ⟨0, 0, 23, c1⟩, ⟨0, 0, 23, aC b⟩, ⟨0, 0, 23, aC a⟩]⟩),
      (63, .r (.tuple [.sl 4 0 6 n3 N3, .int .i64 0]) ⟨5, [⟨0, 0, 23, c3⟩, ⟨0, 0, 23, c2⟩, ⟨0, 0, 23, c1⟩, ⟨0, 0, 23, aC b⟩, ⟨0, 0, 23, aC a⟩]⟩),
      (69, .r (.tuple [.sl 5 0 6 n4 N4, .int .i64 0]) ⟨6, [⟨0, 0, 23, c4⟩, ⟨0, 0, 23, c3⟩, ⟨0, 0, 23, c2⟩, ⟨0, 0, 23, c1⟩, ⟨0, 0, 23, aC b⟩, ⟨0, 0, 23, aC a⟩]⟩),
      (75, .r (.tuple [.sl 6 0 6 n5 N5, .int .i64 0]) ⟨7, [⟨0, 0, 23, c5⟩, ⟨0, 0, 23, c4⟩, ⟨0, 0, 23, c3⟩, ⟨0, 0, 23, c2⟩, ⟨0, 0, 23, c1⟩, ⟨0, 0, 23, aC b⟩, ⟨0, 0, 23, aC a⟩]⟩),
      (121, .q (.bool true)),
      (128, .q (.bool true)),
      (132, .q (.int .i64 0)),
      (137, .q (.int .i64 0))]) = some (.bool true, [decide ((xs.length : Int) > 250) = false,
    cUd 19 [.list 6 xs] ⟨2, [⟨0, 0, 23, aC b⟩, ⟨0, 0, 23, aC a⟩]⟩ = some (.int .i64 0, ⟨2, [⟨0, 0, 23, aC b⟩, ⟨0, 0, 23, aC a⟩]⟩, none),
    cUd 20 [.list 6 xs, aD a] ⟨2, [⟨0, 0, 23, aC b⟩, ⟨0, 0, 23, aC a⟩]⟩ = some (.tuple [.bool false, .int .i64 0], ⟨2, [⟨0, 0, 23, aC b⟩, ⟨0, 0, 23, aC a⟩]⟩, none),
    cUd 21 [.list 6 xs, aD a] ⟨2, [⟨0, 0, 23, aC b⟩, ⟨0, 0, 23, aC a⟩]⟩ = some (.tuple [.sl 2 0 6 n1 N1, .int .i64 0], ⟨3, [⟨0, 0, 23, c1⟩, ⟨0, 0, 23, aC b⟩, ⟨0, 0, 23, aC a⟩]⟩, none),
    cUd 20 [.sl 2 0 6 n1 N1, aD a] ⟨3, [⟨0, 0, 23, c1⟩, ⟨0, 0, 23, aC b⟩, ⟨0, 0, 23, aC a⟩]⟩ = some (.tuple [.bool true, .int .i64 0], ⟨3, [⟨0, 0, 23, c1⟩, ⟨0, 0, 23, aC b⟩, ⟨0, 0, 23, aC a⟩]⟩, none),
    cUd 22 [.sl 2 0 6 n1 N1, aD a] ⟨3, [⟨0, 0, 23, c1⟩, ⟨0, 0, 23, aC b⟩, ⟨0, 0, 23, aC a⟩]⟩ = some (.tuple [.sl 3 0 6 n2 N2, .int .i64 0], ⟨4, [⟨0, 0, 23, c2⟩, ⟨0, 0, 23, c1⟩, ⟨0, 0, 23, aC b⟩, ⟨0, 0, 23, aC a⟩]⟩, none),
    cUd 21 [.sl 2 0 6 n1 N1, aD b] ⟨4, [⟨0, 0, 23, c2⟩, ⟨0, 0, 23, c1⟩, ⟨0, 0, 23, aC b⟩, ⟨0, 0, 23, aC a⟩]⟩ = some (.tuple [.sl 4 0 6 n3 N3, .int .i64 0], ⟨5, [⟨0, 0, 23, c3⟩, ⟨0, 0, 23, c2⟩, ⟨0, 0, 23, c1⟩, ⟨0, 0, 23, aC b⟩, ⟨0, 0, 23, aC a⟩]⟩, none),
    cUd 21 [.list 6 xs, aD b] ⟨5, [⟨0, 0, 23, c3⟩, ⟨0, 0, 23, c2⟩, ⟨0, 0, 23, c1⟩, ⟨0, 0, 23, aC b⟩, ⟨0, 0, 23, aC a⟩]⟩ = some (.tuple [.sl 5 0 6 n4 N4, .int .i64 0], ⟨6, [⟨0, 0, 23, c4⟩, ⟨0, 0, 23, c3⟩, ⟨0, 0, 23, c2⟩, ⟨0, 0, 23, c1⟩, ⟨0, 0, 23, aC b⟩, ⟨0, 0, 23, aC a⟩]⟩, none),
    cUd 21 [.sl 5 0 6 n4 N4, aD a] ⟨6, [⟨0, 0, 23, c4⟩, ⟨0, 0, 23, c3⟩, ⟨0, 0, 23, c2⟩, ⟨0, 0, 23, c1⟩, ⟨0, 0, 23, aC b⟩, ⟨0, 0, 23, aC a⟩]⟩ = some (.tuple [.sl 6 0 6 n5 N5, .int .i64 0], ⟨7, [⟨0, 0, 23, c5⟩, ⟨0, 0, 23, c4⟩, ⟨0, 0, 23, c3⟩, ⟨0, 0, 23, c2⟩, ⟨0, 0, 23, c1⟩, ⟨0, 0, 23, aC b⟩, ⟨0, 0, 23, aC a⟩]⟩, none),
    cUd 23 [.sl 3 0 6 n2 N2, .list 6 xs] ⟨7, [⟨0, 0, 23, c5⟩, ⟨0, 0, 23, c4⟩, ⟨0, 0, 23, c3⟩, ⟨0, 0, 23, c2⟩, ⟨0, 0, 23, c1⟩, ⟨0, 0, 23, aC b⟩, ⟨0, 0, 23, aC a⟩]⟩ = some (.bool true, ⟨7, [⟨0, 0, 23, c5⟩, ⟨0, 0, 23, c4⟩, ⟨0, 0, 23, c3⟩, ⟨0, 0, 23, c2⟩, ⟨0, 0, 23, c1⟩, ⟨0, 0, 23, aC b⟩, ⟨0, 0, 23, aC a⟩]⟩, none),
    cUd 23 [.sl 4 0 6 n3 N3, .sl 6 0 6 n5 N5] ⟨7, [⟨0, 0, 23, c5⟩, ⟨0, 0, 23, c4⟩, ⟨0, 0, 23, c3⟩, ⟨0, 0, 23, c2⟩, ⟨0, 0, 23, c1⟩, ⟨0, 0, 23, aC b⟩, ⟨0, 0, 23, aC a⟩]⟩ = some (.bool true, ⟨7, [⟨0, 0, 23, c5⟩, ⟨0, 0, 23, c4⟩, ⟨0, 0, 23, c3⟩, ⟨0, 0, 23, c2⟩, ⟨0, 0, 23, c1⟩, ⟨0, 0, 23, aC b⟩, ⟨0, 0, 23, aC a⟩]⟩, none),
    cUd 19 [.sl 4 0 6 n3 N3] ⟨7, [⟨0, 0, 23, c5⟩, ⟨0, 0, 23, c4⟩, ⟨0, 0, 23, c3⟩, ⟨0, 0, 23, c2⟩, ⟨0, 0, 23, c1⟩, ⟨0, 0, 23, aC b⟩, ⟨0, 0, 23, aC a⟩]⟩ = some (.int .i64 0, ⟨7, [⟨0, 0, 23, c5⟩, ⟨0, 0, 23, c4⟩, ⟨0, 0, 23, c3⟩, ⟨0, 0, 23, c2⟩, ⟨0, 0, 23, c1⟩, ⟨0, 0, 23, aC b⟩, ⟨0, 0, 23, aC a⟩]⟩, none),
    cUd 19 [.sl 3 0 6 n2 N2] ⟨7, [⟨0, 0, 23, c5⟩, ⟨0, 0, 23, c4⟩, ⟨0, 0, 23, c3⟩, ⟨0, 0, 23, c2⟩, ⟨0, 0, 23, c1⟩, ⟨0, 0, 23, aC b⟩, ⟨0, 0, 23, aC a⟩]⟩ = some (.int .i64 0, ⟨7, [⟨0, 0, 23, c5⟩, ⟨0, 0, 23, c4⟩, ⟨0, 0, 23, c3⟩, ⟨0, 0, 23, c2⟩, ⟨0, 0, 23, c1⟩, ⟨0, 0, 23, aC b⟩, ⟨0, 0, 23, aC a⟩]⟩, none)]) := by
  kernel_rfl
theorem ud_ck {hp : Hp} {d : DV} {ns : List Nat} (hb : ∀ n ∈ ns, n < 2 ^ 48) (hl : ns.length < 2 ^ 30) (h : ShA hp d ns) : cUd 19 [d] hp = some (.int .i64 (chk ns), hp, none) :=
  orK_right (fixC_other (by kernel_rfl)) (orK_left (cCk_at ⟨ns, hb, hl⟩ h.frz))
theorem ud_ha {hp : Hp} {d : DV} {ns : List Nat} {a : Nat} (hb : ∀ n ∈ ns, n < 2 ^ 48) (hl : ns.length < 2 ^ 30) (ha : a < 2 ^ 48) (hc : chk ns = 0) (h : ShA hp d ns) : cUd 20 [d, aD a] hp = some (.tuple [.bool (decide (a ∈ ns)), .int .i64 0], hp, none) :=
  orK_right (fixC_other (by kernel_rfl)) (orK_right (conC_other (by kernel_rfl)) (orK_left (cHa_at ⟨(⟨ns, hb, hl⟩, ⟨a, ha⟩), hc⟩ h.frz)))
theorem ud_ad {hp : Hp} {d : DV} {ns : List Nat} {a : Nat} (hb : ∀ n ∈ ns, n < 2 ^ 48) (ha : a < 2 ^ 48) (hc : chk ns = 0) (hl : ns.length + 1 ≤ 256) (h : ShA hp d ns) : cUd 21 [d, aD a] hp = some (.tuple [.sl (hp.n + 0) 0 6 (uni ns [a]).length (ns.length + 1), .int .i64 0], layH hp ⟨1, [⟨0, 0, 23, room (uni ns [a]) (ns.length + 1)⟩]⟩, none) :=
  orK_right (fixC_other (by kernel_rfl)) (orK_right (conC_other (by kernel_rfl)) (orK_right (conC_other (by kernel_rfl)) (orK_left (cAd'_at hb ha hc hl h))))
theorem ud_re {hp : Hp} {d : DV} {ns : List Nat} {a : Nat} (hb : ∀ n ∈ ns, n < 2 ^ 48) (hl : ns.length < 2 ^ 30) (ha : a < 2 ^ 48) (hc : chk ns = 0) (hm : a ∈ ns) (h : ShA hp d ns) : cUd 22 [d, aD a] hp = some (.tuple [.sl (hp.n + 0) 0 6 (dif ns [a]).length (ns.length + 1), .int .i64 0], layH hp ⟨1, [⟨0, 0, 23, room (dif ns [a]) (ns.length + 1)⟩]⟩, none) :=
  orK_right (fixC_other (by kernel_rfl)) (orK_right (conC_other (by kernel_rfl)) (orK_right (conC_other (by kernel_rfl)) (orK_right (conC_other (by kernel_rfl)) (orK_left (cRe_at hb hl ha hc hm h)))))
theorem ud_sa {hp : Hp} {d e : DV} {s t : List Nat} (hs : ∀ n ∈ s, n < 2 ^ 48) (ls : s.length < 2 ^ 30) (h : ShA hp d s) (k : ShA hp e t) (he : s = t) : cUd 23 [d, e] hp = some (.bool true, hp, none) := by
  subst he
  have := cSa_at ⟨s, hs, ls⟩ ⟨s, hs, ls⟩ h.frz k.frz
  rw [decide_eq_true rfl] at this
  exact orK_right (fixC_other (by kernel_rfl)) (orK_right (conC_other (by kernel_rfl)) (orK_right (conC_other (by kernel_rfl)) (orK_right (conC_other (by kernel_rfl)) (orK_right (conC_other (by kernel_rfl)) this))))
theorem all (s : List Nat) (a b : Nat) (hs : ∀ n ∈ s, n < 2 ^ 48) (ha : a < 2 ^ 48) (hb : b < 2 ^ 48) : Ans Try.prog 4 [adL s, aD a, aD b] (.bool true) ⟨0, []⟩ := by
  have r1 := rows_length s
  by_cases ls : s.length > 250
  · exact zflat_ok tab_ok mixed fun_ok cUd_ok (big (rows s) a b) (.cons (decide_eq_true (by omega)) .nil)
  have n0 : decide (((rows s).length : Int) > 250) = false := decide_eq_false (by omega)
  have k0 := ud_ck (hp := ⟨2, [⟨0, 0, 23, aC b⟩, ⟨0, 0, 23, aC a⟩]⟩) (d := adL s) hs (by omega) (.inl rfl)
  have two : chk s = 0 ∨ chk s = 8 := by
    by_cases hc : s.length ≤ 256 ∧ Adj s
    · exact .inl (if_pos hc)
    · exact .inr (if_neg hc)
  rcases two.symm with cs | cs
  · rw [cs] at k0
    exact zflat_ok tab_ok mixed fun_ok cUd_ok (bad (rows s) a b) (.cons n0 (.cons k0 .nil))
  rw [cs] at k0
  have ss := (chk_ok cs).2
  have sa : Srt [a] := List.pairwise_singleton _ _
  have sb : Srt [b] := List.pairwise_singleton _ _
  have ba : ∀ n ∈ [a], n < 2 ^ 48 := fun n hn => by simp at hn; omega
  have bb : ∀ n ∈ [b], n < 2 ^ 48 := fun n hn => by simp at hn; omega
  have bu : ∀ {s t : List Nat}, (∀ n ∈ s, n < 2 ^ 48) → (∀ n ∈ t, n < 2 ^ 48) → ∀ n ∈ uni s t, n < 2 ^ 48 := fun h k n hn => by
    rcases (mem_uni n _ _).1 hn with q | q
    · exact h n q
    · exact k n q
  have e1 := len_both s [a]
  have e2 := len_both s [b]
  have e3 := len_both (uni s [a]) [b]
  have e4 := len_both (uni s [b]) [a]
  have e5 := len_dif (uni s [a]) [a]
  simp only [List.length_singleton] at e1 e2 e3 e4
  have s1 := srt_uni ss sa
  have s2 := srt_uni ss sb
  have b1 := bu hs ba
  have b2 := bu hs bb
  have c1 : chk (uni s [a]) = 0 := chk_of (by omega) s1
  have c2 : chk (uni s [b]) = 0 := chk_of (by omega) s2
  have am : a ∈ uni s [a] := (mem_uni a s [a]).2 (.inr (by simp))
  have sd := srt_dif s1 sa
  have bd : ∀ n ∈ dif (uni s [a]) [a], n < 2 ^ 48 := fun n hn => b1 n ((mem_dif n s1 sa).1 hn).1
  have cd : chk (dif (uni s [a]) [a]) = 0 := chk_of (by omega) sd
  have sx := srt_uni s1 sb
  have cx : chk (uni (uni s [a]) [b]) = 0 := chk_of (by omega) sx
  have xy : uni (uni s [a]) [b] = uni (uni s [b]) [a] := srt_ext sx (srt_uni s2 sa) fun n => by
    rw [mem_uni, mem_uni, mem_uni, mem_uni, or_assoc, or_assoc, or_comm (a := n ∈ [a])]
  have p1 := ud_ha (hp := ⟨2, [⟨0, 0, 23, aC b⟩, ⟨0, 0, 23, aC a⟩]⟩) (d := adL s) hs (by omega) ha cs (.inl rfl)
  have p2 := ud_ad (hp := ⟨2, [⟨0, 0, 23, aC b⟩, ⟨0, 0, 23, aC a⟩]⟩) (d := adL s) hs ha cs (by omega) (.inl rfl)
  have S1 := shA_new ⟨2, [⟨0, 0, 23, aC b⟩, ⟨0, 0, 23, aC a⟩]⟩ (uni s [a]) (s.length + 1)
  have p3 := ud_ha b1 (by omega) ha c1 S1
  rw [decide_eq_true am] at p3
  have p4 := ud_re b1 (by omega) ha c1 am S1
  have S2 := shA_new (layH ⟨2, [⟨0, 0, 23, aC b⟩, ⟨0, 0, 23, aC a⟩]⟩ ⟨1, [⟨0, 0, 23, room (uni s [a]) (s.length + 1)⟩]⟩) (dif (uni s [a]) [a]) ((uni s [a]).length + 1)
  have S1a := S1.lay (hp' := ⟨1, [⟨0, 0, 23, room (dif (uni s [a]) [a]) ((uni s [a]).length + 1)⟩]⟩) rfl
  have p5 := ud_ad b1 hb c1 (by omega) S1a
  have S3 := shA_new (layH (layH ⟨2, [⟨0, 0, 23, aC b⟩, ⟨0, 0, 23, aC a⟩]⟩ ⟨1, [⟨0, 0, 23, room (uni s [a]) (s.length + 1)⟩]⟩) ⟨1, [⟨0, 0, 23, room (dif (uni s [a]) [a]) ((uni s [a]).length + 1)⟩]⟩) (uni (uni s [a]) [b]) ((uni s [a]).length + 1)
  have S1b := S1a.lay (hp' := ⟨1, [⟨0, 0, 23, room (uni (uni s [a]) [b]) ((uni s [a]).length + 1)⟩]⟩) rfl
  have S2b := S2.lay (hp' := ⟨1, [⟨0, 0, 23, room (uni (uni s [a]) [b]) ((uni s [a]).length + 1)⟩]⟩) rfl
  have p6 := ud_ad (hp := layH (layH (layH ⟨2, [⟨0, 0, 23, aC b⟩, ⟨0, 0, 23, aC a⟩]⟩ ⟨1, [⟨0, 0, 23, room (uni s [a]) (s.length + 1)⟩]⟩) ⟨1, [⟨0, 0, 23, room (dif (uni s [a]) [a]) ((uni s [a]).length + 1)⟩]⟩) ⟨1, [⟨0, 0, 23, room (uni (uni s [a]) [b]) ((uni s [a]).length + 1)⟩]⟩) (d := adL s) hs hb cs (by omega) (.inl rfl)
  have S4 := shA_new (layH (layH (layH ⟨2, [⟨0, 0, 23, aC b⟩, ⟨0, 0, 23, aC a⟩]⟩ ⟨1, [⟨0, 0, 23, room (uni s [a]) (s.length + 1)⟩]⟩) ⟨1, [⟨0, 0, 23, room (dif (uni s [a]) [a]) ((uni s [a]).length + 1)⟩]⟩) ⟨1, [⟨0, 0, 23, room (uni (uni s [a]) [b]) ((uni s [a]).length + 1)⟩]⟩) (uni s [b]) (s.length + 1)
  have S1c := S1b.lay (hp' := ⟨1, [⟨0, 0, 23, room (uni s [b]) (s.length + 1)⟩]⟩) rfl
  have S2c := S2b.lay (hp' := ⟨1, [⟨0, 0, 23, room (uni s [b]) (s.length + 1)⟩]⟩) rfl
  have S3c := S3.lay (hp' := ⟨1, [⟨0, 0, 23, room (uni s [b]) (s.length + 1)⟩]⟩) rfl
  have p7 := ud_ad b2 ha c2 (by omega) S4
  have S5 := shA_new (layH (layH (layH (layH ⟨2, [⟨0, 0, 23, aC b⟩, ⟨0, 0, 23, aC a⟩]⟩ ⟨1, [⟨0, 0, 23, room (uni s [a]) (s.length + 1)⟩]⟩) ⟨1, [⟨0, 0, 23, room (dif (uni s [a]) [a]) ((uni s [a]).length + 1)⟩]⟩) ⟨1, [⟨0, 0, 23, room (uni (uni s [a]) [b]) ((uni s [a]).length + 1)⟩]⟩) ⟨1, [⟨0, 0, 23, room (uni s [b]) (s.length + 1)⟩]⟩) (uni (uni s [b]) [a]) ((uni s [b]).length + 1)
  have S1d := S1c.lay (hp' := ⟨1, [⟨0, 0, 23, room (uni (uni s [b]) [a]) ((uni s [b]).length + 1)⟩]⟩) rfl
  have S2d := S2c.lay (hp' := ⟨1, [⟨0, 0, 23, room (uni (uni s [b]) [a]) ((uni s [b]).length + 1)⟩]⟩) rfl
  have S3d := S3c.lay (hp' := ⟨1, [⟨0, 0, 23, room (uni (uni s [b]) [a]) ((uni s [b]).length + 1)⟩]⟩) rfl
  have p9 := ud_sa (bu b1 bb) (by omega) S3d S5 xy
  have pa := ud_ck (bu b1 bb) (by omega) S3d
  rw [cx] at pa
  have pb := ud_ck bd (by omega) S2d
  rw [cd] at pb
  by_cases hm : a ∈ s
  · rw [decide_eq_true hm] at p1
    have eq1 : uni s [a] = s := srt_ext s1 ss fun n => by
      rw [mem_uni]
      exact ⟨fun h => h.elim id fun h => by simp at h; subst h; exact hm, .inl⟩
    have p8 := ud_sa b1 (by omega) S1d (.inl rfl) eq1
    exact zflat_ok tab_ok mixed fun_ok cUd_ok (maintrue (rows s) a b _ _ _ _ _ _ _ _ _ _ _ _ _ _ _) (.cons n0 (.cons k0 (.cons p1 (.cons p2 (.cons p3 (.cons p4 (.cons p5 (.cons p6 (.cons p7 (.cons p8 (.cons p9 (.cons pa (.cons pb .nil)))))))))))))
  · rw [decide_eq_false hm] at p1
    have eq1 : dif (uni s [a]) [a] = s := srt_ext sd ss fun n => by
      rw [mem_dif n s1 sa, mem_uni]
      constructor
      · rintro ⟨h | h, k⟩
        · exact h
        · exact absurd h k
      · intro h
        refine ⟨.inl h, fun k => ?_⟩
        simp at k
        subst k
        exact hm h
    have p8 := ud_sa bd (by omega) S2d (.inl rfl) eq1
    exact zflat_ok tab_ok mixed fun_ok cUd_ok (mainfalse (rows s) a b _ _ _ _ _ _ _ _ _ _ _ _ _ _ _) (.cons n0 (.cons k0 (.cons p1 (.cons p2 (.cons p3 (.cons p4 (.cons p5 (.cons p6 (.cons p7 (.cons p8 (.cons p9 (.cons pa (.cons pb .nil)))))))))))))
theorem vr_adr {w : World} {E : Env} {xs : List Int} (l : xs.length = 6) (hw : ∀ a ∈ xs, (Lit.int .u8 a).wf = true) : ∃ n, n < 2 ^ 48 ∧ VR w E (aD n) (intsV .u8 xs) := by
  obtain ⟨a, b, c, d, e, g, rfl⟩ := list6 l
  have pa := isB_of (hw a (by simp))
  have pb := isB_of (hw b (by simp))
  have pc := isB_of (hw c (by simp))
  have pd := isB_of (hw d (by simp))
  have pe := isB_of (hw e (by simp))
  have pg := isB_of (hw g (by simp))
  obtain ⟨a, rfl⟩ := Int.eq_ofNat_of_zero_le pa.1
  obtain ⟨b, rfl⟩ := Int.eq_ofNat_of_zero_le pb.1
  obtain ⟨c, rfl⟩ := Int.eq_ofNat_of_zero_le pc.1
  obtain ⟨d, rfl⟩ := Int.eq_ofNat_of_zero_le pd.1
  obtain ⟨e, rfl⟩ := Int.eq_ofNat_of_zero_le pe.1
  obtain ⟨g, rfl⟩ := Int.eq_ofNat_of_zero_le pg.1
  have pa := pa.2; have pb := pb.2; have pc := pc.2; have pd := pd.2; have pe := pe.2; have pg := pg.2
  refine ⟨num6 a b c d e g, num6_lt (by omega) (by omega) (by omega) (by omega) (by omega) (by omega), ?_⟩
  have h : aC (num6 a b c d e g) = [.int .u8 a, .int .u8 b, .int .u8 c, .int .u8 d, .int .u8 e, .int .u8 g] := by
    simp only [aC, List.cons.injEq, DV.int.injEq, true_and, and_true, num6, Int.natCast_inj]
    omega
  rw [aD, h]
  exact VRs.agg (.cons (.int _ _ _) (.cons (.int _ _ _) (.cons (.int _ _ _) (.cons (.int _ _ _) (.cons (.int _ _ _) (.cons (.int _ _ _) (.nil _ _)))))))
end

set_option maxRecDepth 100000 in
set_option maxHeartbeats 8000000 in
theorem walk (w : World) (A0 : Option Addr) (n0 c0 : Nat) (a0 : _) (r0 : (Ty.slice adrTy).rep w (· < w.heap.size) a0 [.slice A0 n0 c0]) (x1 : List Int) (l1 : x1.length = 6) (w1 : ∀ a ∈ x1, (Lit.int .u8 a).wf = true) (x2 : List Int) (l2 : x2.length = 6) (w2 : ∀ a ∈ x2, (Lit.int .u8 a).wf = true) :
    Calls Try.prog 4 #[.slice A0 n0 c0, intsV .u8 x1, intsV .u8 x2] w fun e w' => e = .returned (.bool true) ∧ Below w.heap.size w w' := by
  obtain ⟨va, ha⟩ := vr_adrs r0
  obtain ⟨a, la, va1⟩ := vr_adr (w := w) (E := ro fun b => b < w.heap.size) l1 w1
  obtain ⟨b, lb, vb1⟩ := vr_adr (w := w) (E := ro fun b => b < w.heap.size) l2 w2
  exact law_ok (all a0 a b ha la lb) (.cons va (.cons va1 (.cons vb1 (.nil _ _))))

set_option maxRecDepth 100000 in
theorem lifted (os : Os) (started : os.Started) (H : Type) (enc : TypeId × Value → H) :
    ReturnsInHanded {} Try.checked os 4 .any (Rows.addressUndoSpec.pre6 enc Try.prog Try.f4 Rows.addressUndoRow.domain false) (Rows.addressUndoSpec.post enc Try.prog Try.f4 false true false false) := by
  refine returnsInHanded_of_change (C := Try.checked) own started (by kernel_rfl) Try.func4
    (ChangeSpec.witness6 (enc := enc) (C := Try.checked) false ⟨#[], #[.slice none 0 0, .agg #[.int .u8 0, .int .u8 0, .int .u8 0, .int .u8 0, .int .u8 0, .int .u8 0], .agg #[.int .u8 0, .int .u8 0, .int .u8 0, .int .u8 0, .int .u8 0, .int .u8 0]], []⟩ 8 (by kernel_rfl) (by kernel_rfl) (by kernel_rfl) (by kernel_rfl)) ?_
  intro W base args ds gs before hval0 hW hcnd _
  have hval : ∀ (j : Nat) t v, Try.f4.params[j]? = some t → args[j]? = some v → Value.okWide Try.prog W .any base t v := hval0
  have hW' := hW
  obtain ⟨p, q, hA0, hV, rfl, hfz, hnd⟩ := hW
  have hA : DataW.TrodAll enc Try.prog W 0 (fun _ => true) true Try.f4.params.toList args.toList ds p := hA0
  rw [Try.params4] at hA hval
  obtain ⟨v0, vs0, d0, ds0, p0, q0, hargs, rfl, rfl, h0, r0'⟩ := trodAll_cons hA
  obtain ⟨v1, vs1, d1, ds1, p1, q1, rfl, rfl, rfl, h1, r1'⟩ := trodAll_cons r0'
  obtain ⟨v2, vs2, d2, ds2, p2, q2, rfl, rfl, rfl, h2, r2'⟩ := trodAll_cons r1'
  obtain ⟨rfl, rfl, rfl⟩ := trodAll_nil r2'
  obtain rfl : args = #[v0, v1, v2] := by cases args; simp_all
  obtain ⟨rfl, rfl⟩ := trodVars_none hV
  have k0 := h0
  have lt0 : ∀ x ∈ p0, x.block < W.heap.size := by obtain ⟨m, hm⟩ := k0; exact DataW.trod_lt m _ _ _ hm
  obtain ⟨A0, n0, c0, rfl⟩ := okWide_slice Try.underlying32 (hval 0 32 v0 rfl rfl)
  obtain ⟨fu0, hf0⟩ := h0
  obtain ⟨a0, ra0⟩ := (opensAds).2 hf0
  have k1 := h1
  have lt1 : ∀ x ∈ p1, x.block < W.heap.size := by obtain ⟨m, hm⟩ := k1; exact DataW.trod_lt m _ _ _ hm
  obtain ⟨s1, rfl, _⟩ := okWide_array Try.underlying23 (hval 1 23 v1 rfl rfl)
  obtain ⟨fu1, hf1⟩ := h1
  obtain ⟨x1, l1, e1, w1⟩ := open_ints Try.underlying23 Try.underlying5 (by kernel_rfl) (by kernel_rfl) hf1
  obtain rfl : s1 = (x1.map fun a => Value.int .u8 a).toArray := by simpa [intsV, Value.cells] using e1
  have k2 := h2
  have lt2 : ∀ x ∈ p2, x.block < W.heap.size := by obtain ⟨m, hm⟩ := k2; exact DataW.trod_lt m _ _ _ hm
  obtain ⟨s2, rfl, _⟩ := okWide_array Try.underlying23 (hval 2 23 v2 rfl rfl)
  obtain ⟨fu2, hf2⟩ := h2
  obtain ⟨x2, l2, e2, w2⟩ := open_ints Try.underlying23 Try.underlying5 (by kernel_rfl) (by kernel_rfl) hf2
  obtain rfl : s2 = (x2.map fun a => Value.int .u8 a).toArray := by simpa [intsV, Value.cells] using e2
  clear hA0 hval0
  refine (walk W A0 n0 c0 a0 (by simpa [Value.cells] using ra0) x1 l1 w1 x2 l2 w2).mono fun e W' ⟨he, bel⟩ => ?_
  subst he
  exact ⟨_, rfl, _, _, _, [], _, [], hW', trodAll_mk1 (shut_bool Try.underlying4 _), (trodAll_cons_mk (Below.trod laidOut (by kernel_rfl) (of_decide_eq_true (by kernel_rfl)) k0 bel lt0) (trodAll_cons_mk (Below.trod laidOut (by kernel_rfl) (of_decide_eq_true (by kernel_rfl)) k1 bel lt1) (trodAll_cons_mk (Below.trod laidOut (by kernel_rfl) (of_decide_eq_true (by kernel_rfl)) k2 bel lt2) trodAll_mk0))), rfl, bel.frame _, fun h => by cases h⟩

theorem over : Rows.addressUndoRow.holds Try.pinned (OpenSpec.ofChange Rows.addressUndoSpec) :=
  OpenClaim.holds_of_wide 4 Try.f4 rfl rfl rfl rfl rfl rfl rfl ⟨rfl, rfl, rfl, rfl, rfl⟩ rfl rfl rfl rfl rfl (by kernel_rfl) Try.func4 (by kernel_rfl)
    (of_decide_eq_true (by kernel_rfl)) (by unfold Func.isWrapper; first | (rw [if_pos (by decide +kernel)]; kernel_rfl) | (rw [if_neg (by decide +kernel)]; exact ⟨rfl, rfl⟩))
    (fun os started H enc _ => lifted os started H enc)

theorem proved : Rows.AddressUndoSaid :=
  over
end Go.Proofs.Ytmdomipnjlhmeab.addressUndo
