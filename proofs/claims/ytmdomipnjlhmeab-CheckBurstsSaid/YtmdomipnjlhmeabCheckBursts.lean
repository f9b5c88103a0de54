/- Every change confined to 32 consecutive bits, or 8 for the short check, is found: the statement returns true. No conditions. -/
import Derived.Test.YtmdomipnjlhmeabBr
import Derived.Test.YtmdomipnjlhmeabLw
import Derived.WalkKit
import Derived.ProofKit
import Derived.OpenShut
import Derived.ShutString
import Derived.ChangeOld
import Derived.Below
namespace Go.Proofs.Ytmdomipnjlhmeab.checkBursts
open Go.ChangeShapes Go.WideShapes Go.ChangeAt Go.RowKit

theorem own : ownKnob Try.prog.godebug = none := by kernel_rfl
theorem laidOut : laidOutB Try.prog = true := by kernel_rfl

noncomputable section
def cBs : CallF := orK cBt cBu
theorem cBs_ok : CallOk Try.prog cBs := orK_ok cBt_ok cBu_ok
set_option maxRecDepth 1000000 in
theorem skipA (xs : List (List DV)) (a : Int) (p : BitVec 32) : zflat (zans Try.prog tab ftab cBs 10 [.list 1 xs, .int .i64 a, w32 p] [(20, .b true)]) = some (.bool true, [decide ((xs.length : Int) > 3000) = true]) := by
  kernel_rfl
set_option maxRecDepth 1000000 in
theorem skipB (xs : List (List DV)) (a : Int) (p : BitVec 32) : zflat (zans Try.prog tab ftab cBs 10 [.list 1 xs, .int .i64 a, w32 p] [(20, .b false), (23, .b true)]) = some (.bool true, [decide ((xs.length : Int) > 3000) = false, decide (a < 0) = true]) := by
  kernel_rfl
set_option maxRecDepth 1000000 in
theorem main00 (xs xl xc x1 x2 : List (List DV)) (a n1 n2 m1 m2 a1 a2 : Nat) (p : BitVec 32) (d1 d2 e1 e2 v1 v2 : DV) (h1 h2 h3 h4 h5 h6 : Hp) : zflat (zans Try.prog tab ftab cBs 10 [.list 1 xs, iN a, w32 p] [(20, .b false),
      (23, .b false),
      (31, .r d1 h1),
      (33, .r d2 h2),
      (35, .h (iN n1) h2 none),
      (36, .b false),
      (39, .h (iN n2) h2 none),
      (40, .b false),
      (7, .s [1, 2, 7, 8, 9] (mkT 113 [(1, iN a), (2, w32 p), (7, .bool true), (8, .list 1 xl), (9, .list 1 xc)]) ⟨0, []⟩),
      (47, .w (iN m1)),
      (48, .n (iN a1)),
      (50, .r (.tuple [e1, .bool false]) h3),
      (8, .s [1, 2, 7, 9, 10, 11] (mkT 113 [(1, iN a), (2, w32 p), (7, .bool true), (9, .list 1 xc), (10, .list 1 x1), (11, .bool false)]) ⟨0, []⟩),
      (58, .w (iN m2)),
      (59, .n (iN a2)),
      (61, .r (.tuple [e2, .bool false]) h4),
      (9, .s [7, 10, 11, 12, 13] (mkT 113 [(7, .bool true), (10, .list 1 x1), (11, .bool false), (12, .list 1 x2), (13, .bool false)]) ⟨0, []⟩),
      (66, .r (.tuple [v1, .int .i64 0]) h5),
      (71, .r (.tuple [v2, .int .i64 0]) h6)]) = some (.bool true, [decide ((xs.length : Int) > 3000) = false,
      decide ((a : Int) < 0) = false,
      cBs 39 [.list 1 xs] ⟨0, []⟩ = some (d1, h1, none),
      cBs 40 [.list 1 xs] h1 = some (d2, h2, none),
      builtinD tab h2 .len [d1] [45] = some (iN n1, h2, none),
      ((n1 : Int) == 0) = false,
      builtinD tab h2 .len [d2] [45] = some (iN n2, h2, none),
      ((n2 : Int) == 0) = false,
      Seen (mkT 113 [(1, iN a), (2, w32 p), (7, .bool true), (8, d1), (9, d2)]) h2 (mkT 113 [(1, iN a), (2, w32 p), (7, .bool true), (8, .list 1 xl), (9, .list 1 xc)]) ⟨0, []⟩,
      DV.int .i64 (IntKind.i64.wrap (8 * (xl.length : Int))) = iN m1,
      binD tab .rem 3 (iN a) (iN m1) = some (iN a1),
      cBs 45 [.list 1 xl, iN a1, iN 32, w32 p] ⟨0, []⟩ = some (.tuple [e1, .bool false], h3, none),
      Seen (mkT 113 [(1, iN a), (2, w32 p), (7, .bool true), (9, .list 1 xc), (10, e1), (11, .bool false)]) h3 (mkT 113 [(1, iN a), (2, w32 p), (7, .bool true), (9, .list 1 xc), (10, .list 1 x1), (11, .bool false)]) ⟨0, []⟩,
      DV.int .i64 (IntKind.i64.wrap (8 * (xc.length : Int))) = iN m2,
      binD tab .rem 3 (iN a) (iN m2) = some (iN a2),
      cBs 45 [.list 1 xc, iN a2, iN 8, w32 p] ⟨0, []⟩ = some (.tuple [e2, .bool false], h4, none),
      Seen (mkT 113 [(7, .bool true), (10, .list 1 x1), (11, .bool false), (12, e2), (13, .bool false)]) h4 (mkT 113 [(7, .bool true), (10, .list 1 x1), (11, .bool false), (12, .list 1 x2), (13, .bool false)]) ⟨0, []⟩,
      cBs 28 [.list 1 x1] ⟨0, []⟩ = some (.tuple [v1, .int .i64 0], h5, none),
      cBs 29 [.list 1 x2] h5 = some (.tuple [v2, .int .i64 0], h6, none)]) := by
  kernel_rfl
set_option maxRecDepth 1000000 in
theorem main01 (xs xl xc x1 x2 : List (List DV)) (a n1 n2 m1 m2 a1 a2 : Nat) (p : BitVec 32) (d1 d2 e1 e2 v1 : DV) (h1 h2 h3 h4 h5 h6 : Hp) : zflat (zans Try.prog tab ftab cBs 10 [.list 1 xs, iN a, w32 p] [(20, .b false),
      (23, .b false),
      (31, .r d1 h1),
      (33, .r d2 h2),
      (35, .h (iN n1) h2 none),
      (36, .b false),
      (39, .h (iN n2) h2 none),
      (40, .b false),
      (7, .s [1, 2, 7, 8, 9] (mkT 113 [(1, iN a), (2, w32 p), (7, .bool true), (8, .list 1 xl), (9, .list 1 xc)]) ⟨0, []⟩),
      (47, .w (iN m1)),
      (48, .n (iN a1)),
      (50, .r (.tuple [e1, .bool false]) h3),
      (8, .s [1, 2, 7, 9, 10, 11] (mkT 113 [(1, iN a), (2, w32 p), (7, .bool true), (9, .list 1 xc), (10, .list 1 x1), (11, .bool false)]) ⟨0, []⟩),
      (58, .w (iN m2)),
      (59, .n (iN a2)),
      (61, .r (.tuple [e2, .bool true]) h4),
      (9, .s [7, 10, 11, 12, 13] (mkT 113 [(7, .bool true), (10, .list 1 x1), (11, .bool false), (12, .list 1 x2), (13, .bool true)]) ⟨0, []⟩),
      (66, .r (.tuple [v1, .int .i64 0]) h5),
      (71, .r (.tuple [.nil, .int .i64 31]) h6)]) = some (.bool true, [decide ((xs.length : Int) > 3000) = false,
      decide ((a : Int) < 0) = false,
      cBs 39 [.list 1 xs] ⟨0, []⟩ = some (d1, h1, none),
      cBs 40 [.list 1 xs] h1 = some (d2, h2, none),
      builtinD tab h2 .len [d1] [45] = some (iN n1, h2, none),
      ((n1 : Int) == 0) = false,
      builtinD tab h2 .len [d2] [45] = some (iN n2, h2, none),
      ((n2 : Int) == 0) = false,
      Seen (mkT 113 [(1, iN a), (2, w32 p), (7, .bool true), (8, d1), (9, d2)]) h2 (mkT 113 [(1, iN a), (2, w32 p), (7, .bool true), (8, .list 1 xl), (9, .list 1 xc)]) ⟨0, []⟩,
      DV.int .i64 (IntKind.i64.wrap (8 * (xl.length : Int))) = iN m1,
      binD tab .rem 3 (iN a) (iN m1) = some (iN a1),
      cBs 45 [.list 1 xl, iN a1, iN 32, w32 p] ⟨0, []⟩ = some (.tuple [e1, .bool false], h3, none),
      Seen (mkT 113 [(1, iN a), (2, w32 p), (7, .bool true), (9, .list 1 xc), (10, e1), (11, .bool false)]) h3 (mkT 113 [(1, iN a), (2, w32 p), (7, .bool true), (9, .list 1 xc), (10, .list 1 x1), (11, .bool false)]) ⟨0, []⟩,
      DV.int .i64 (IntKind.i64.wrap (8 * (xc.length : Int))) = iN m2,
      binD tab .rem 3 (iN a) (iN m2) = some (iN a2),
      cBs 45 [.list 1 xc, iN a2, iN 8, w32 p] ⟨0, []⟩ = some (.tuple [e2, .bool true], h4, none),
      Seen (mkT 113 [(7, .bool true), (10, .list 1 x1), (11, .bool false), (12, e2), (13, .bool true)]) h4 (mkT 113 [(7, .bool true), (10, .list 1 x1), (11, .bool false), (12, .list 1 x2), (13, .bool true)]) ⟨0, []⟩,
      cBs 28 [.list 1 x1] ⟨0, []⟩ = some (.tuple [v1, .int .i64 0], h5, none),
      cBs 29 [.list 1 x2] h5 = some (.tuple [.nil, .int .i64 31], h6, none)]) := by
  kernel_rfl
set_option maxRecDepth 1000000 in
theorem main10 (xs xl xc x1 x2 : List (List DV)) (a n1 n2 m1 m2 a1 a2 : Nat) (p : BitVec 32) (d1 d2 e1 e2 v2 : DV) (h1 h2 h3 h4 h5 h6 : Hp) : zflat (zans Try.prog tab ftab cBs 10 [.list 1 xs, iN a, w32 p] [(20, .b false),
      (23, .b false),
      (31, .r d1 h1),
      (33, .r d2 h2),
      (35, .h (iN n1) h2 none),
      (36, .b false),
      (39, .h (iN n2) h2 none),
      (40, .b false),
      (7, .s [1, 2, 7, 8, 9] (mkT 113 [(1, iN a), (2, w32 p), (7, .bool true), (8, .list 1 xl), (9, .list 1 xc)]) ⟨0, []⟩),
      (47, .w (iN m1)),
      (48, .n (iN a1)),
      (50, .r (.tuple [e1, .bool true]) h3),
      (8, .s [1, 2, 7, 9, 10, 11] (mkT 113 [(1, iN a), (2, w32 p), (7, .bool true), (9, .list 1 xc), (10, .list 1 x1), (11, .bool true)]) ⟨0, []⟩),
      (58, .w (iN m2)),
      (59, .n (iN a2)),
      (61, .r (.tuple [e2, .bool false]) h4),
      (9, .s [7, 10, 11, 12, 13] (mkT 113 [(7, .bool true), (10, .list 1 x1), (11, .bool true), (12, .list 1 x2), (13, .bool false)]) ⟨0, []⟩),
      (66, .r (.tuple [.nil, .int .i64 31]) h5),
      (71, .r (.tuple [v2, .int .i64 0]) h6)]) = some (.bool true, [decide ((xs.length : Int) > 3000) = false,
      decide ((a : Int) < 0) = false,
      cBs 39 [.list 1 xs] ⟨0, []⟩ = some (d1, h1, none),
      cBs 40 [.list 1 xs] h1 = some (d2, h2, none),
      builtinD tab h2 .len [d1] [45] = some (iN n1, h2, none),
      ((n1 : Int) == 0) = false,
      builtinD tab h2 .len [d2] [45] = some (iN n2, h2, none),
      ((n2 : Int) == 0) = false,
      Seen (mkT 113 [(1, iN a), (2, w32 p), (7, .bool true), (8, d1), (9, d2)]) h2 (mkT 113 [(1, iN a), (2, w32 p), (7, .bool true), (8, .list 1 xl), (9, .list 1 xc)]) ⟨0, []⟩,
      DV.int .i64 (IntKind.i64.wrap (8 * (xl.length : Int))) = iN m1,
      binD tab .rem 3 (iN a) (iN m1) = some (iN a1),
      cBs 45 [.list 1 xl, iN a1, iN 32, w32 p] ⟨0, []⟩ = some (.tuple [e1, .bool true], h3, none),
      Seen (mkT 113 [(1, iN a), (2, w32 p), (7, .bool true), (9, .list 1 xc), (10, e1), (11, .bool true)]) h3 (mkT 113 [(1, iN a), (2, w32 p), (7, .bool true), (9, .list 1 xc), (10, .list 1 x1), (11, .bool true)]) ⟨0, []⟩,
      DV.int .i64 (IntKind.i64.wrap (8 * (xc.length : Int))) = iN m2,
      binD tab .rem 3 (iN a) (iN m2) = some (iN a2),
      cBs 45 [.list 1 xc, iN a2, iN 8, w32 p] ⟨0, []⟩ = some (.tuple [e2, .bool false], h4, none),
      Seen (mkT 113 [(7, .bool true), (10, .list 1 x1), (11, .bool true), (12, e2), (13, .bool false)]) h4 (mkT 113 [(7, .bool true), (10, .list 1 x1), (11, .bool true), (12, .list 1 x2), (13, .bool false)]) ⟨0, []⟩,
      cBs 28 [.list 1 x1] ⟨0, []⟩ = some (.tuple [.nil, .int .i64 31], h5, none),
      cBs 29 [.list 1 x2] h5 = some (.tuple [v2, .int .i64 0], h6, none)]) := by
  kernel_rfl
set_option maxRecDepth 1000000 in
theorem main11 (xs xl xc x1 x2 : List (List DV)) (a n1 n2 m1 m2 a1 a2 : Nat) (p : BitVec 32) (d1 d2 e1 e2 : DV) (h1 h2 h3 h4 h5 h6 : Hp) : zflat (zans Try.prog tab ftab cBs 10 [.list 1 xs, iN a, w32 p] [(20, .b false),
      (23, .b false),
      (31, .r d1 h1),
      (33, .r d2 h2),
      (35, .h (iN n1) h2 none),
      (36, .b false),
      (39, .h (iN n2) h2 none),
      (40, .b false),
      (7, .s [1, 2, 7, 8, 9] (mkT 113 [(1, iN a), (2, w32 p), (7, .bool true), (8, .list 1 xl), (9, .list 1 xc)]) ⟨0, []⟩),
      (47, .w (iN m1)),
      (48, .n (iN a1)),
      (50, .r (.tuple [e1, .bool true]) h3),
      (8, .s [1, 2, 7, 9, 10, 11] (mkT 113 [(1, iN a), (2, w32 p), (7, .bool true), (9, .list 1 xc), (10, .list 1 x1), (11, .bool true)]) ⟨0, []⟩),
      (58, .w (iN m2)),
      (59, .n (iN a2)),
      (61, .r (.tuple [e2, .bool true]) h4),
      (9, .s [7, 10, 11, 12, 13] (mkT 113 [(7, .bool true), (10, .list 1 x1), (11, .bool true), (12, .list 1 x2), (13, .bool true)]) ⟨0, []⟩),
      (66, .r (.tuple [.nil, .int .i64 31]) h5),
      (71, .r (.tuple [.nil, .int .i64 31]) h6)]) = some (.bool true, [decide ((xs.length : Int) > 3000) = false,
      decide ((a : Int) < 0) = false,
      cBs 39 [.list 1 xs] ⟨0, []⟩ = some (d1, h1, none),
      cBs 40 [.list 1 xs] h1 = some (d2, h2, none),
      builtinD tab h2 .len [d1] [45] = some (iN n1, h2, none),
      ((n1 : Int) == 0) = false,
      builtinD tab h2 .len [d2] [45] = some (iN n2, h2, none),
      ((n2 : Int) == 0) = false,
      Seen (mkT 113 [(1, iN a), (2, w32 p), (7, .bool true), (8, d1), (9, d2)]) h2 (mkT 113 [(1, iN a), (2, w32 p), (7, .bool true), (8, .list 1 xl), (9, .list 1 xc)]) ⟨0, []⟩,
      DV.int .i64 (IntKind.i64.wrap (8 * (xl.length : Int))) = iN m1,
      binD tab .rem 3 (iN a) (iN m1) = some (iN a1),
      cBs 45 [.list 1 xl, iN a1, iN 32, w32 p] ⟨0, []⟩ = some (.tuple [e1, .bool true], h3, none),
      Seen (mkT 113 [(1, iN a), (2, w32 p), (7, .bool true), (9, .list 1 xc), (10, e1), (11, .bool true)]) h3 (mkT 113 [(1, iN a), (2, w32 p), (7, .bool true), (9, .list 1 xc), (10, .list 1 x1), (11, .bool true)]) ⟨0, []⟩,
      DV.int .i64 (IntKind.i64.wrap (8 * (xc.length : Int))) = iN m2,
      binD tab .rem 3 (iN a) (iN m2) = some (iN a2),
      cBs 45 [.list 1 xc, iN a2, iN 8, w32 p] ⟨0, []⟩ = some (.tuple [e2, .bool true], h4, none),
      Seen (mkT 113 [(7, .bool true), (10, .list 1 x1), (11, .bool true), (12, e2), (13, .bool true)]) h4 (mkT 113 [(7, .bool true), (10, .list 1 x1), (11, .bool true), (12, .list 1 x2), (13, .bool true)]) ⟨0, []⟩,
      cBs 28 [.list 1 x1] ⟨0, []⟩ = some (.tuple [.nil, .int .i64 31], h5, none),
      cBs 29 [.list 1 x2] h5 = some (.tuple [.nil, .int .i64 31], h6, none)]) := by
  kernel_rfl
theorem seen7 {h : Hp} (a : Nat) (p : BitVec 32) {d1 d2 : DV} {xl xc : List (List DV)} (k1 : frz1 h d1 (.list 1 xl)) (k2 : frz1 h d2 (.list 1 xc)) : Seen (mkT 113 [(1, iN a), (2, w32 p), (7, .bool true), (8, d1), (9, d2)]) h (mkT 113 [(1, iN a), (2, w32 p), (7, .bool true), (8, .list 1 xl), (9, .list 1 xc)]) ⟨0, []⟩ := seen_freeze fun t d hm => by
  simp only [List.mem_cons, Prod.mk.injEq, List.not_mem_nil, or_false] at hm
  rcases hm with ⟨rfl, rfl⟩ | ⟨rfl, rfl⟩ | ⟨rfl, rfl⟩ | ⟨rfl, rfl⟩ | ⟨rfl, rfl⟩
  · exact ⟨iN a, by kernel_rfl, ⟨rfl, rfl⟩⟩
  · exact ⟨w32 p, by kernel_rfl, ⟨rfl, rfl⟩⟩
  · exact ⟨.bool true, by kernel_rfl, ⟨rfl, rfl⟩⟩
  · exact ⟨d1, by kernel_rfl, k1⟩
  · exact ⟨d2, by kernel_rfl, k2⟩
theorem seen8 {h : Hp} (a : Nat) (p : BitVec 32) {e1 : DV} {xc x1 : List (List DV)} (fl : Bool) (k1 : frz1 h e1 (.list 1 x1)) : Seen (mkT 113 [(1, iN a), (2, w32 p), (7, .bool true), (9, .list 1 xc), (10, e1), (11, .bool fl)]) h (mkT 113 [(1, iN a), (2, w32 p), (7, .bool true), (9, .list 1 xc), (10, .list 1 x1), (11, .bool fl)]) ⟨0, []⟩ := seen_freeze fun t d hm => by
  simp only [List.mem_cons, Prod.mk.injEq, List.not_mem_nil, or_false] at hm
  rcases hm with ⟨rfl, rfl⟩ | ⟨rfl, rfl⟩ | ⟨rfl, rfl⟩ | ⟨rfl, rfl⟩ | ⟨rfl, rfl⟩ | ⟨rfl, rfl⟩
  · exact ⟨iN a, by kernel_rfl, ⟨rfl, rfl⟩⟩
  · exact ⟨w32 p, by kernel_rfl, ⟨rfl, rfl⟩⟩
  · exact ⟨.bool true, by kernel_rfl, ⟨rfl, rfl⟩⟩
  · exact ⟨.list 1 xc, by kernel_rfl, ⟨rfl, rfl⟩⟩
  · exact ⟨e1, by kernel_rfl, k1⟩
  · exact ⟨.bool fl, by kernel_rfl, ⟨rfl, rfl⟩⟩
theorem seen9 {h : Hp} {e2 : DV} {x1 x2 : List (List DV)} (fl fm : Bool) (k1 : frz1 h e2 (.list 1 x2)) : Seen (mkT 113 [(7, .bool true), (10, .list 1 x1), (11, .bool fl), (12, e2), (13, .bool fm)]) h (mkT 113 [(7, .bool true), (10, .list 1 x1), (11, .bool fl), (12, .list 1 x2), (13, .bool fm)]) ⟨0, []⟩ := seen_freeze fun t d hm => by
  simp only [List.mem_cons, Prod.mk.injEq, List.not_mem_nil, or_false] at hm
  rcases hm with ⟨rfl, rfl⟩ | ⟨rfl, rfl⟩ | ⟨rfl, rfl⟩ | ⟨rfl, rfl⟩ | ⟨rfl, rfl⟩
  · exact ⟨.bool true, by kernel_rfl, ⟨rfl, rfl⟩⟩
  · exact ⟨.list 1 x1, by kernel_rfl, ⟨rfl, rfl⟩⟩
  · exact ⟨.bool fl, by kernel_rfl, ⟨rfl, rfl⟩⟩
  · exact ⟨e2, by kernel_rfl, k1⟩
  · exact ⟨.bool fm, by kernel_rfl, ⟨rfl, rfl⟩⟩
theorem bs_burst {args : List DV} {hp : Hp} {r : DV × Hp × Mut} (h : cBu 45 args hp = some r) : cBs 45 args hp = some r := by
  refine orK_right ?_ h
  unfold cBt orK
  rw [show cAl3 45 args hp = none from fixC_other (by kernel_rfl), show cApp 45 args hp = none from conC_other (by kernel_rfl), show cApp8 45 args hp = none from conC_other (by kernel_rfl), show cVerL 45 args hp = none from conC_other (by kernel_rfl), show cVerS 45 args hp = none from conC_other (by kernel_rfl), show cFl 45 args hp = none from conC_other (by kernel_rfl)]
theorem mem_bits {a : Nat} {p : BitVec 32} {L n : Nat} (ha : a ≤ L) (h : (eK a p L n).any id = true) : true ∈ (List.range (min n (L - a))).map (fun i => p.getLsbD i) := by
  rw [eK_split ha, List.any_append, List.any_append] at h
  simp only [List.any_replicate, id] at h
  have h2 : ((List.range (min n (L - a))).map (fun i => p.getLsbD i)).any id = true := by
    revert h
    cases ((List.range (min n (L - a))).map (fun i => p.getLsbD i)).any id <;> simp
  obtain ⟨b, hb, hx⟩ := List.any_eq_true.1 h2
  have : b = true := hx
  subst this
  exact hb
/-- what verifying a string with a burst answers -/
theorem after_L {b x : List UInt8} {a : Nat} {p : BitVec 32} {d : DV} {h : Hp} {fl : Bool} (ha : a < 8 * (withL b).length) (ok : BurstOk (withL b) a 32 p d h x fl) : (fl = true → verL x = (.tuple [.nil, .int .i64 31], ⟨0, []⟩)) ∧ (fl = false → verL x = (.tuple [.sl 0 0 1 b.length b.length, .int .i64 0], oneH (celB (withL b)))) := by
  refine ⟨fun e => ?_, fun e => ?_⟩
  · have hb := ok.bits
    rw [eK_split (Nat.le_of_lt ha)] at hb
    refine found_burst32 ok.len hb (by simp only [List.length_map, List.length_range]; omega) (by simp only [List.length_map, List.length_range]; omega) (mem_bits (Nat.le_of_lt ha) ?_)
    rw [← ok.any, e]
  · rw [ok.none e]
    have h : (withL b).length - 4 = b.length := by rw [withL_len]; omega
    have ht : (withL b).take b.length = b := List.take_left' rfl
    rw [verL, h, ht, if_neg (by rw [withL_len]; omega), if_pos rfl]
theorem after_S {b x : List UInt8} {a : Nat} {p : BitVec 32} {d : DV} {h : Hp} {fl : Bool} (ha : a < 8 * (withS b).length) (ok : BurstOk (withS b) a 8 p d h x fl) : (fl = true → verS x = (.tuple [.nil, .int .i64 31], ⟨0, []⟩)) ∧ (fl = false → verS x = (.tuple [.sl 0 0 1 b.length b.length, .int .i64 0], oneH (celB (withS b)))) := by
  refine ⟨fun e => ?_, fun e => ?_⟩
  · have hb := ok.bits
    rw [eK_split (Nat.le_of_lt ha)] at hb
    refine found_burst8 ok.len hb (by simp only [List.length_map, List.length_range]; omega) (by simp only [List.length_map, List.length_range]; omega) (mem_bits (Nat.le_of_lt ha) ?_)
    rw [← ok.any, e]
  · rw [ok.none e]
    have h : (withS b).length - 1 = b.length := by rw [withS_len]; omega
    have ht : (withS b).take b.length = b := List.take_left' rfl
    rw [verS, h, ht, if_neg (by rw [withS_len]; omega), if_pos rfl]
theorem all (b : List UInt8) (at' : Int) (p : BitVec 32) : Ans Try.prog 10 [byL b, .int .i64 at', w32 p] (.bool true) ⟨0, []⟩ := by
  have lb := by1_length b
  by_cases hb : b.length > 3000
  · exact zflat_ok tab_ok mixed fun_ok cBs_ok (skipA (by1 b) at' p) (.cons (decide_eq_true (by omega)) .nil)
  have g0 : decide (((by1 b).length : Int) > 3000) = false := decide_eq_false (by omega)
  by_cases hneg : at' < 0
  · exact zflat_ok tab_ok mixed fun_ok cBs_ok (skipB (by1 b) at' p) (.cons g0 (.cons (decide_eq_true hneg) .nil))
  obtain ⟨a, rfl⟩ := Int.eq_ofNat_of_zero_le (Int.not_lt.1 hneg)
  have a0 : decide ((a : Int) < 0) = false := decide_eq_false hneg
  have lL := withL_len b
  have lS := withS_len b
  have q1 : cBs _ _ _ = _ := orK_left (bt_app (hp := ⟨0, []⟩) (d := byL b) ⟨b, by omega⟩ ⟨rfl, rfl⟩)
  have S1 := sh_new ⟨0, []⟩ (withL b) (withL b).length
  generalize layH ⟨0, []⟩ (oneH (celB (withL b))) = h1 at q1 S1
  generalize DV.sl ((⟨0, []⟩ : Hp).n + 0) 0 1 (withL b).length (withL b).length = d1 at q1 S1
  have q2 : cBs _ _ _ = _ := orK_left (bt_app8 (hp := h1) (d := byL b) ⟨b, by omega⟩ ⟨rfl, rfl⟩)
  have S2 := sh_new h1 (withS b) (withS b).length
  have S1' := bt_sh (hp' := oneH (celB (withS b))) rfl S1
  generalize layH h1 (oneH (celB (withS b))) = h2 at q2 S2 S1'
  generalize DV.sl (h1.n + 0) 0 1 (withS b).length (withS b).length = d2 at q2 S2
  have hA : a % (8 * (withL b).length) < 8 * (withL b).length := Nat.mod_lt _ (by omega)
  have hB : a % (8 * (withS b).length) < 8 * (withS b).length := Nat.mod_lt _ (by omega)
  obtain ⟨e1, h3, x1, f1, c1, ok1⟩ := cBu_at ⟨withL b, by omega⟩ p hA (n := 32) (by decide)
  obtain ⟨e2, h4, x2, f2, c2, ok2⟩ := cBu_at ⟨withS b, by omega⟩ p hB (n := 8) (by decide)
  have c1 := bs_burst c1
  have c2 := bs_burst c2
  have r1 := after_L hA ok1
  have r2 := after_S hB ok2
  have w1 : DV.int .i64 (IntKind.i64.wrap (8 * ((by1 (withL b)).length : Int))) = iN (8 * (withL b).length) := by
    rw [by1_length]
    exact mul8 (by omega)
  have w2 : DV.int .i64 (IntKind.i64.wrap (8 * ((by1 (withS b)).length : Int))) = iN (8 * (withS b).length) := by
    rw [by1_length]
    exact mul8 (by omega)
  have p1 := rem_n (a := a) (n := 8 * (withL b).length) (by omega)
  have p2 := rem_n (a := a) (n := 8 * (withS b).length) (by omega)
  have l1 : x1.length = (withL b).length := ok1.len
  have l2 : x2.length = (withS b).length := ok2.len
  have s7 := seen7 a p S1'.frz S2.frz
  have s8 := seen8 a p (xc := by1 (withS b)) f1 ok1.sh.frz
  have s9 := seen9 (x1 := by1 x1) f1 f2 ok2.sh.frz
  have ver1 : ∀ {x : DV} {y : Hp}, verL x1 = (x, y) → cBs 28 [.list 1 (by1 x1)] ⟨0, []⟩ = some (sh3 0 x, layH ⟨0, []⟩ y, none) := fun hv => orK_left (bt_ver (hp := ⟨0, []⟩) (d := byL x1) ⟨x1, by omega⟩ ⟨rfl, rfl⟩ hv)
  have ver2 : ∀ {x : DV} {y : Hp} (hp : Hp), verS x2 = (x, y) → cBs 29 [.list 1 (by1 x2)] hp = some (sh3 hp.n x, layH hp y, none) := fun hp hv => orK_left (bt_ver8 (hp := hp) (d := byL x2) ⟨x2, by omega⟩ ⟨rfl, rfl⟩ hv)
  cases f1 with
  | true =>
    cases f2 with
    | true => exact zflat_ok tab_ok mixed fun_ok cBs_ok (main11 (by1 b) (by1 (withL b)) (by1 (withS b)) (by1 x1) (by1 x2) a _ _ _ _ _ _ p d1 d2 e1 e2 h1 h2 h3 h4 _ _) (.cons g0 (.cons a0 (.cons q1 (.cons q2 (.cons (sh_len S1') (.cons (eq0 (by omega)) (.cons (sh_len S2) (.cons (eq0 (by omega)) (.cons s7 (.cons w1 (.cons p1 (.cons c1 (.cons s8 (.cons w2 (.cons p2 (.cons c2 (.cons s9 (.cons (ver1 (r1.1 rfl)) (.cons (ver2 _ (r2.1 rfl)) .nil)))))))))))))))))))
    | false => exact zflat_ok tab_ok mixed fun_ok cBs_ok (main10 (by1 b) (by1 (withL b)) (by1 (withS b)) (by1 x1) (by1 x2) a _ _ _ _ _ _ p d1 d2 e1 e2 _ h1 h2 h3 h4 _ _) (.cons g0 (.cons a0 (.cons q1 (.cons q2 (.cons (sh_len S1') (.cons (eq0 (by omega)) (.cons (sh_len S2) (.cons (eq0 (by omega)) (.cons s7 (.cons w1 (.cons p1 (.cons c1 (.cons s8 (.cons w2 (.cons p2 (.cons c2 (.cons s9 (.cons (ver1 (r1.1 rfl)) (.cons (ver2 _ (r2.2 rfl)) .nil)))))))))))))))))))
  | false =>
    cases f2 with
    | true => exact zflat_ok tab_ok mixed fun_ok cBs_ok (main01 (by1 b) (by1 (withL b)) (by1 (withS b)) (by1 x1) (by1 x2) a _ _ _ _ _ _ p d1 d2 e1 e2 _ h1 h2 h3 h4 _ _) (.cons g0 (.cons a0 (.cons q1 (.cons q2 (.cons (sh_len S1') (.cons (eq0 (by omega)) (.cons (sh_len S2) (.cons (eq0 (by omega)) (.cons s7 (.cons w1 (.cons p1 (.cons c1 (.cons s8 (.cons w2 (.cons p2 (.cons c2 (.cons s9 (.cons (ver1 (r1.2 rfl)) (.cons (ver2 _ (r2.1 rfl)) .nil)))))))))))))))))))
    | false => exact zflat_ok tab_ok mixed fun_ok cBs_ok (main00 (by1 b) (by1 (withL b)) (by1 (withS b)) (by1 x1) (by1 x2) a _ _ _ _ _ _ p d1 d2 e1 e2 _ _ h1 h2 h3 h4 _ _) (.cons g0 (.cons a0 (.cons q1 (.cons q2 (.cons (sh_len S1') (.cons (eq0 (by omega)) (.cons (sh_len S2) (.cons (eq0 (by omega)) (.cons s7 (.cons w1 (.cons p1 (.cons c1 (.cons s8 (.cons w2 (.cons p2 (.cons c2 (.cons s9 (.cons (ver1 (r1.2 rfl)) (.cons (ver2 _ (r2.2 rfl)) .nil)))))))))))))))))))
end

set_option maxRecDepth 100000 in
set_option maxHeartbeats 8000000 in
theorem walk (w : World) (A0 : Option Addr) (n0 c0 : Nat) (a0 : _) (r0 : (Ty.slice (Ty.nat .u8)).rep w (· < w.heap.size) a0 [.slice A0 n0 c0]) (a1 : Int) (r1 : (Lit.int .i64 a1).wf = true) (a2 : Int) (r2 : (Lit.int .u32 a2).wf = true) :
    Calls Try.prog 10 #[.slice A0 n0 c0, .int .i64 a1, .int .u32 a2] w fun e w' => e = .returned (.bool true) ∧ Below w.heap.size w w' := by
  obtain ⟨b, vb⟩ := vr_bytes r0
  have _ := r1
  obtain ⟨s, hs⟩ := u32_bits r2
  rw [hs]
  exact law_ok (all b a1 s) (.cons vb (.cons (.int _ _ _) (.cons (.int _ _ _) (.nil _ _))))

set_option maxRecDepth 100000 in
theorem lifted (os : Os) (started : os.Started) (H : Type) (enc : TypeId × Value → H) :
    ReturnsInHanded {} Try.checked os 10 .any (Rows.checkBurstsSpec.pre6 enc Try.prog Try.f10 Rows.checkBurstsRow.domain false) (Rows.checkBurstsSpec.post enc Try.prog Try.f10 false true false false) := by
  refine returnsInHanded_of_change (C := Try.checked) own started (by kernel_rfl) Try.func10
    (ChangeSpec.witness6 (enc := enc) (C := Try.checked) false ⟨#[], #[.slice none 0 0, .int .i64 0, .int .u32 0], []⟩ 8 (by kernel_rfl) (by kernel_rfl) (by kernel_rfl) (by kernel_rfl)) ?_
  intro W base args ds gs before hval0 hW hcnd _
  have hval : ∀ (j : Nat) t v, Try.f10.params[j]? = some t → args[j]? = some v → Value.okWide Try.prog W .any base t v := hval0
  have hW' := hW
  obtain ⟨p, q, hA0, hV, rfl, hfz, hnd⟩ := hW
  have hA : DataW.TrodAll enc Try.prog W 0 (fun _ => true) true Try.f10.params.toList args.toList ds p := hA0
  rw [Try.params10] at hA hval
  obtain ⟨v0, vs0, d0, ds0, p0, q0, hargs, rfl, rfl, h0, r0'⟩ := trodAll_cons hA
  obtain ⟨v1, vs1, d1, ds1, p1, q1, rfl, rfl, rfl, h1, r1'⟩ := trodAll_cons r0'
  obtain ⟨v2, vs2, d2, ds2, p2, q2, rfl, rfl, rfl, h2, r2'⟩ := trodAll_cons r1'
  obtain ⟨rfl, rfl, rfl⟩ := trodAll_nil r2'
  obtain rfl : args = #[v0, v1, v2] := by cases args; simp_all
  obtain ⟨rfl, rfl⟩ := trodVars_none hV
  have k0 := h0
  have lt0 : ∀ x ∈ p0, x.block < W.heap.size := by obtain ⟨m, hm⟩ := k0; exact DataW.trod_lt m _ _ _ hm
  obtain ⟨A0, n0, c0, rfl⟩ := okWide_slice Try.underlying45 (hval 0 45 v0 rfl rfl)
  obtain ⟨fu0, hf0⟩ := h0
  obtain ⟨a0, ra0⟩ := (opensBytes).2 hf0
  have k1 := h1
  have lt1 : ∀ x ∈ p1, x.block < W.heap.size := by obtain ⟨m, hm⟩ := k1; exact DataW.trod_lt m _ _ _ hm
  obtain ⟨a1, rfl, rfl, hp1, w1⟩ := open_int Try.underlying3 (hval 1 3 v1 rfl rfl) h1
  have k2 := h2
  have lt2 : ∀ x ∈ p2, x.block < W.heap.size := by obtain ⟨m, hm⟩ := k2; exact DataW.trod_lt m _ _ _ hm
  obtain ⟨a2, rfl, rfl, hp2, w2⟩ := open_int Try.underlying48 (hval 2 48 v2 rfl rfl) h2
  clear hA0 hval0
  refine (walk W A0 n0 c0 a0 (by simpa [Value.cells] using ra0) a1 w1 a2 w2).mono fun e W' ⟨he, bel⟩ => ?_
  subst he
  exact ⟨_, rfl, _, _, _, [], _, [], hW', trodAll_mk1 (shut_bool Try.underlying4 _), (trodAll_cons_mk (Below.trod laidOut (by kernel_rfl) (of_decide_eq_true (by kernel_rfl)) k0 bel lt0) (trodAll_cons_mk (Below.trod laidOut (by kernel_rfl) (of_decide_eq_true (by kernel_rfl)) k1 bel lt1) (trodAll_cons_mk (Below.trod laidOut (by kernel_rfl) (of_decide_eq_true (by kernel_rfl)) k2 bel lt2) trodAll_mk0))), rfl, bel.frame _, fun h => by cases h⟩

theorem over : Rows.checkBurstsRow.holds Try.pinned (OpenSpec.ofChange Rows.checkBurstsSpec) :=
  OpenClaim.holds_of_wide 10 Try.f10 rfl rfl rfl rfl rfl rfl rfl ⟨rfl, rfl, rfl, rfl, rfl⟩ rfl rfl rfl rfl rfl (by kernel_rfl) Try.func10 (by kernel_rfl)
    (of_decide_eq_true (by kernel_rfl)) (by unfold Func.isWrapper; first | (rw [if_pos (by decide +kernel)]; kernel_rfl) | (rw [if_neg (by decide +kernel)]; exact ⟨rfl, rfl⟩))
    (fun os started H enc _ => lifted os started H enc)

theorem proved : Rows.CheckBurstsSaid :=
  over
end Go.Proofs.Ytmdomipnjlhmeab.checkBursts
