/- Append, Append8, Verify and Verify8 return the reference's results and errors, in new memory: the statement returns true. No conditions. -/
import Derived.Test.YtmdomipnjlhmeabRx
import Derived.Test.YtmdomipnjlhmeabLw
import Derived.WalkKit
import Derived.ProofKit
import Derived.OpenShut
import Derived.ShutString
import Derived.ChangeOld
import Derived.Below
namespace Go.Proofs.Ytmdomipnjlhmeab.checkAppends
open Go.ChangeShapes Go.WideShapes Go.ChangeAt Go.RowKit

theorem own : ownKnob Try.prog.godebug = none := by kernel_rfl
theorem laidOut : laidOutB Try.prog = true := by kernel_rfl

noncomputable section
def cAd : CallF := orK cApp (orK cApp8 (orK cVerL (orK cVerS (orK cRA (orK cRA8 (orK cRVerL cRVerS))))))
theorem cAd_ok : CallOk Try.prog cAd := orK_ok cApp_ok (orK_ok cApp8_ok (orK_ok cVerL_ok (orK_ok cVerS_ok (orK_ok cRA_ok (orK_ok cRA8_ok (orK_ok cRVerL_ok cRVerS_ok))))))
set_option maxRecDepth 1000000 in
theorem great (xs : List (List DV)) : zflat (zans Try.prog tab ftab cAd 9 [.list 1 xs] [(18, .b true)]) = some (.bool true, [decide ((xs.length : Int) > 3000) = true]) := by
  kernel_rfl
set_option maxRecDepth 1000000 in
theorem mainA (xs : List (List DV)) (i1 n1 i5 n5 : Nat) (d2 d3 d4 d6 d7 d8 : DV) (h1 h2 h3 h4 h5 h6 h7 h8 : Hp) (z3 z5 : Int) (s0 s1 s2 s3 s4 s5 s6 s7 s8 : ByteArray) (c1 c5 c1' c5' : List DV) : zflat (zans Try.prog tab ftab cAd 9 [.list 1 xs] [(18, .b false),
      (20, .h (.str s0) ⟨0, []⟩ none),
      (22, .r (.sl i1 0 1 n1 n1) h1),
      (24, .r d2 h2),
      (27, .r (.tuple [d3, .int .i64 z3]) h3),
      (32, .r (.tuple [d4, .int .i64 z3]) h4),
      (37, .r (.tuple [.sl i5 0 1 n5 n5, .int .i64 z5]) h5),
      (42, .r (.tuple [d6, .int .i64 z5]) h6),
      (46, .h (.str s1) h6 none),
      (48, .r d7 h7),
      (49, .h (.str s2) h7 none),
      (50, .b true),
      (53, .h (.str s3) h7 none),
      (55, .r d8 h8),
      (56, .h (.str s4) h8 none),
      (57, .b true),
      (61, .h (.str s5) h8 none),
      (63, .h (.str s6) h8 none),
      (64, .b true),
      (69, .b true),
      (73, .h (.str s7) h8 none),
      (75, .h (.str s8) h8 none),
      (76, .b true),
      (81, .b true),
      (10, .s [0, 3, 4, 10, 14] (mkT 118 [(0, .list 1 xs), (3, .str s0), (4, .sl 0 0 1 n1 n1), (10, .sl 1 0 1 n5 n5), (14, .bool true)]) ⟨2, [⟨0, 0, 5, c5⟩, ⟨0, 0, 5, c1⟩]⟩),
      (0, .l [0, 3, 4, 10, 14, 15] (.exit 0) (mkT 118 [(0, .list 1 xs), (3, .str s0), (10, .sl 1 0 1 n5 n5), (14, .bool true)]) ⟨2, [⟨0, 0, 5, c5⟩, ⟨0, 0, 5, c1'⟩]⟩),
      (0, .l [0, 3, 10, 14, 16] (.exit 2) (mkT 118 [(0, .list 1 xs), (3, .str s0), (14, .bool true)]) ⟨2, [⟨0, 0, 5, c5'⟩, ⟨0, 0, 5, c1'⟩]⟩),
      (114, .h (.str s0) ⟨2, [⟨0, 0, 5, c5'⟩, ⟨0, 0, 5, c1'⟩]⟩ none),
      (116, .b true)]) = some (.bool true, [decide ((xs.length : Int) > 3000) = false,
      convD tab ⟨0, []⟩ 45 9 (.list 1 xs) = some (.str s0, ⟨0, []⟩, none),
      cAd 39 [.list 1 xs] ⟨0, []⟩ = some (.sl i1 0 1 n1 n1, h1, none),
      cAd 40 [.list 1 xs] h1 = some (d2, h2, none),
      cAd 28 [.list 1 xs] h2 = some (.tuple [d3, .int .i64 z3], h3, none),
      cAd 41 [.list 1 xs] h3 = some (.tuple [d4, .int .i64 z3], h4, none),
      cAd 29 [.list 1 xs] h4 = some (.tuple [.sl i5 0 1 n5 n5, .int .i64 z5], h5, none),
      cAd 42 [.list 1 xs] h5 = some (.tuple [d6, .int .i64 z5], h6, none),
      convD tab h6 45 9 (.sl i1 0 1 n1 n1) = some (.str s1, h6, none),
      cAd 43 [.list 1 xs] h6 = some (d7, h7, none),
      convD tab h7 45 9 d7 = some (.str s2, h7, none),
      eqBytes s1.data.toList s2.data.toList = true,
      convD tab h7 45 9 d2 = some (.str s3, h7, none),
      cAd 44 [.list 1 xs] h7 = some (d8, h8, none),
      convD tab h8 45 9 d8 = some (.str s4, h8, none),
      eqBytes s3.data.toList s4.data.toList = true,
      convD tab h8 45 9 d3 = some (.str s5, h8, none),
      convD tab h8 45 9 d4 = some (.str s6, h8, none),
      eqBytes s5.data.toList s6.data.toList = true,
      (z3 == z3) = true,
      convD tab h8 45 9 (.sl i5 0 1 n5 n5) = some (.str s7, h8, none),
      convD tab h8 45 9 d6 = some (.str s8, h8, none),
      eqBytes s7.data.toList s8.data.toList = true,
      (z5 == z5) = true,
      Seen (mkT 118 [(0, .list 1 xs), (3, .str s0), (4, .sl i1 0 1 n1 n1), (10, .sl i5 0 1 n5 n5), (14, .bool true)]) h8 (mkT 118 [(0, .list 1 xs), (3, .str s0), (4, .sl 0 0 1 n1 n1), (10, .sl 1 0 1 n5 n5), (14, .bool true)]) ⟨2, [⟨0, 0, 5, c5⟩, ⟨0, 0, 5, c1⟩]⟩,
      Goes Try.prog tab (ksF ftab 9) (.loop (loopAt (bodyOf ftab 9) 0)) (mkT 118 [(0, .list 1 xs), (3, .str s0), (4, .sl 0 0 1 n1 n1), (10, .sl 1 0 1 n5 n5), (14, .bool true), (15, iN 0)]) ⟨2, [⟨0, 0, 5, c5⟩, ⟨0, 0, 5, c1⟩]⟩ (.exit 0) (mkT 118 [(0, .list 1 xs), (3, .str s0), (10, .sl 1 0 1 n5 n5), (14, .bool true)]) ⟨2, [⟨0, 0, 5, c5⟩, ⟨0, 0, 5, c1'⟩]⟩,
      Goes Try.prog tab (ksF ftab 9) (.loop (loopAt (bodyOf ftab 9) 1)) (mkT 118 [(0, .list 1 xs), (3, .str s0), (10, .sl 1 0 1 n5 n5), (14, .bool true), (16, iN 0)]) ⟨2, [⟨0, 0, 5, c5⟩, ⟨0, 0, 5, c1'⟩]⟩ (.exit 2) (mkT 118 [(0, .list 1 xs), (3, .str s0), (14, .bool true)]) ⟨2, [⟨0, 0, 5, c5'⟩, ⟨0, 0, 5, c1'⟩]⟩,
      convD tab ⟨2, [⟨0, 0, 5, c5'⟩, ⟨0, 0, 5, c1'⟩]⟩ 45 9 (.list 1 xs) = some (.str s0, ⟨2, [⟨0, 0, 5, c5'⟩, ⟨0, 0, 5, c1'⟩]⟩, none),
      eqBytes s0.data.toList s0.data.toList = true]) := by
  kernel_rfl
set_option maxRecDepth 1000000 in
theorem mainB (xs : List (List DV)) (i1 n1 : Nat) (d2 d3 d4 d6 d7 d8 : DV) (h1 h2 h3 h4 h5 h6 h7 h8 : Hp) (z3 z5 : Int) (s0 s1 s2 s3 s4 s5 s6 s7 s8 : ByteArray) (c1 c1' : List DV) : zflat (zans Try.prog tab ftab cAd 9 [.list 1 xs] [(18, .b false),
      (20, .h (.str s0) ⟨0, []⟩ none),
      (22, .r (.sl i1 0 1 n1 n1) h1),
      (24, .r d2 h2),
      (27, .r (.tuple [d3, .int .i64 z3]) h3),
      (32, .r (.tuple [d4, .int .i64 z3]) h4),
      (37, .r (.tuple [.nil, .int .i64 z5]) h5),
      (42, .r (.tuple [d6, .int .i64 z5]) h6),
      (46, .h (.str s1) h6 none),
      (48, .r d7 h7),
      (49, .h (.str s2) h7 none),
      (50, .b true),
      (53, .h (.str s3) h7 none),
      (55, .r d8 h8),
      (56, .h (.str s4) h8 none),
      (57, .b true),
      (61, .h (.str s5) h8 none),
      (63, .h (.str s6) h8 none),
      (64, .b true),
      (69, .b true),
      (73, .h (.str s7) h8 none),
      (75, .h (.str s8) h8 none),
      (76, .b true),
      (81, .b true),
      (10, .s [0, 3, 4, 10, 14] (mkT 118 [(0, .list 1 xs), (3, .str s0), (4, .sl 0 0 1 n1 n1), (10, .nil), (14, .bool true)]) ⟨1, [⟨0, 0, 5, c1⟩]⟩),
      (0, .l [0, 3, 4, 10, 14, 15] (.exit 0) (mkT 118 [(0, .list 1 xs), (3, .str s0), (10, .nil), (14, .bool true)]) ⟨1, [⟨0, 0, 5, c1'⟩]⟩),
      (114, .h (.str s0) ⟨1, [⟨0, 0, 5, c1'⟩]⟩ none),
      (116, .b true)]) = some (.bool true, [decide ((xs.length : Int) > 3000) = false,
      convD tab ⟨0, []⟩ 45 9 (.list 1 xs) = some (.str s0, ⟨0, []⟩, none),
      cAd 39 [.list 1 xs] ⟨0, []⟩ = some (.sl i1 0 1 n1 n1, h1, none),
      cAd 40 [.list 1 xs] h1 = some (d2, h2, none),
      cAd 28 [.list 1 xs] h2 = some (.tuple [d3, .int .i64 z3], h3, none),
      cAd 41 [.list 1 xs] h3 = some (.tuple [d4, .int .i64 z3], h4, none),
      cAd 29 [.list 1 xs] h4 = some (.tuple [.nil, .int .i64 z5], h5, none),
      cAd 42 [.list 1 xs] h5 = some (.tuple [d6, .int .i64 z5], h6, none),
      convD tab h6 45 9 (.sl i1 0 1 n1 n1) = some (.str s1, h6, none),
      cAd 43 [.list 1 xs] h6 = some (d7, h7, none),
      convD tab h7 45 9 d7 = some (.str s2, h7, none),
      eqBytes s1.data.toList s2.data.toList = true,
      convD tab h7 45 9 d2 = some (.str s3, h7, none),
      cAd 44 [.list 1 xs] h7 = some (d8, h8, none),
      convD tab h8 45 9 d8 = some (.str s4, h8, none),
      eqBytes s3.data.toList s4.data.toList = true,
      convD tab h8 45 9 d3 = some (.str s5, h8, none),
      convD tab h8 45 9 d4 = some (.str s6, h8, none),
      eqBytes s5.data.toList s6.data.toList = true,
      (z3 == z3) = true,
      convD tab h8 45 9 (.nil) = some (.str s7, h8, none),
      convD tab h8 45 9 d6 = some (.str s8, h8, none),
      eqBytes s7.data.toList s8.data.toList = true,
      (z5 == z5) = true,
      Seen (mkT 118 [(0, .list 1 xs), (3, .str s0), (4, .sl i1 0 1 n1 n1), (10, .nil), (14, .bool true)]) h8 (mkT 118 [(0, .list 1 xs), (3, .str s0), (4, .sl 0 0 1 n1 n1), (10, .nil), (14, .bool true)]) ⟨1, [⟨0, 0, 5, c1⟩]⟩,
      Goes Try.prog tab (ksF ftab 9) (.loop (loopAt (bodyOf ftab 9) 0)) (mkT 118 [(0, .list 1 xs), (3, .str s0), (4, .sl 0 0 1 n1 n1), (10, .nil), (14, .bool true), (15, iN 0)]) ⟨1, [⟨0, 0, 5, c1⟩]⟩ (.exit 0) (mkT 118 [(0, .list 1 xs), (3, .str s0), (10, .nil), (14, .bool true)]) ⟨1, [⟨0, 0, 5, c1'⟩]⟩,
      convD tab ⟨1, [⟨0, 0, 5, c1'⟩]⟩ 45 9 (.list 1 xs) = some (.str s0, ⟨1, [⟨0, 0, 5, c1'⟩]⟩, none),
      eqBytes s0.data.toList s0.data.toList = true]) := by
  kernel_rfl
set_option maxRecDepth 1000000 in
theorem r1A (xs : List (List DV)) (n1 n5 k : Nat) (s0 : ByteArray) (x y : UInt8) (c1 c5 c1' : List DV) : zsee Try.prog tab ftab cAd (ksF ftab 9) [0, 3, 4, 10, 14, 15] (loopAt (bodyOf ftab 9) 0) (mkT 118 [(0, .list 1 xs), (3, .str s0), (4, .sl 0 0 1 n1 n1), (10, .sl 1 0 1 n5 n5), (14, .bool true), (15, iN k)]) ⟨2, [⟨0, 0, 5, c5⟩, ⟨0, 0, 5, c1⟩]⟩
      [(86, .b true), (93, .n (.ptr 0 k)), (94, .n (i8 x)), (95, .w (i8 y)), (96, .n (.ptr 0 k)), (65535, .h (.tuple []) ⟨2, [⟨0, 0, 5, c5⟩, ⟨0, 0, 5, c1'⟩]⟩ (some 0)), (15, .w (iN (k + 1)))] =
    some (.normal, mkT 118 [(0, .list 1 xs), (3, .str s0), (4, .sl 0 0 1 n1 n1), (10, .sl 1 0 1 n5 n5), (14, .bool true), (15, iN (k + 1))], ⟨2, [⟨0, 0, 5, c5⟩, ⟨0, 0, 5, c1'⟩]⟩, [decide ((k : Int) < (n1 : Int)) = true, idxOk (k : Int) n1 = true, DV.ptr 0 (0 + (k : Int).toNat * 1) = .ptr 0 k, nth c1 k = some (i8 x), DV.int .u8 (bitD .xor .u8 (x.toNat : Int) 1) = i8 y, idxOk (k : Int) n1 = true, DV.ptr 0 (0 + (k : Int).toNat * 1) = .ptr 0 k,
      storeH ⟨2, [⟨0, 0, 5, c5⟩, ⟨0, 0, 5, c1⟩]⟩ 0 k [i8 y] = some (⟨2, [⟨0, 0, 5, c5⟩, ⟨0, 0, 5, c1'⟩]⟩, some 0), DV.int .i64 (IntKind.i64.wrap ((k : Int) + 1)) = iN (k + 1)]) := by
  kernel_rfl
set_option maxRecDepth 1000000 in
theorem r1AOut (xs : List (List DV)) (n1 n5 k : Nat) (s0 : ByteArray) (c1 c5 : List DV) : zsee Try.prog tab ftab cAd (ksF ftab 9) [0, 3, 10, 14] (loopAt (bodyOf ftab 9) 0) (mkT 118 [(0, .list 1 xs), (3, .str s0), (4, .sl 0 0 1 n1 n1), (10, .sl 1 0 1 n5 n5), (14, .bool true), (15, iN k)]) ⟨2, [⟨0, 0, 5, c5⟩, ⟨0, 0, 5, c1⟩]⟩ [(86, .b false)] = some (.exit 0, mkT 118 [(0, .list 1 xs), (3, .str s0), (10, .sl 1 0 1 n5 n5), (14, .bool true)], ⟨2, [⟨0, 0, 5, c5⟩, ⟨0, 0, 5, c1⟩]⟩, [decide ((k : Int) < (n1 : Int)) = false]) := by
  kernel_rfl
set_option maxRecDepth 1000000 in
theorem r1B (xs : List (List DV)) (n1 k : Nat) (s0 : ByteArray) (x y : UInt8) (c1 c1' : List DV) : zsee Try.prog tab ftab cAd (ksF ftab 9) [0, 3, 4, 10, 14, 15] (loopAt (bodyOf ftab 9) 0) (mkT 118 [(0, .list 1 xs), (3, .str s0), (4, .sl 0 0 1 n1 n1), (10, .nil), (14, .bool true), (15, iN k)]) ⟨1, [⟨0, 0, 5, c1⟩]⟩
      [(86, .b true), (93, .n (.ptr 0 k)), (94, .n (i8 x)), (95, .w (i8 y)), (96, .n (.ptr 0 k)), (65535, .h (.tuple []) ⟨1, [⟨0, 0, 5, c1'⟩]⟩ (some 0)), (15, .w (iN (k + 1)))] =
    some (.normal, mkT 118 [(0, .list 1 xs), (3, .str s0), (4, .sl 0 0 1 n1 n1), (10, .nil), (14, .bool true), (15, iN (k + 1))], ⟨1, [⟨0, 0, 5, c1'⟩]⟩, [decide ((k : Int) < (n1 : Int)) = true, idxOk (k : Int) n1 = true, DV.ptr 0 (0 + (k : Int).toNat * 1) = .ptr 0 k, nth c1 k = some (i8 x), DV.int .u8 (bitD .xor .u8 (x.toNat : Int) 1) = i8 y, idxOk (k : Int) n1 = true, DV.ptr 0 (0 + (k : Int).toNat * 1) = .ptr 0 k,
      storeH ⟨1, [⟨0, 0, 5, c1⟩]⟩ 0 k [i8 y] = some (⟨1, [⟨0, 0, 5, c1'⟩]⟩, some 0), DV.int .i64 (IntKind.i64.wrap ((k : Int) + 1)) = iN (k + 1)]) := by
  kernel_rfl
set_option maxRecDepth 1000000 in
theorem r1BOut (xs : List (List DV)) (n1 k : Nat) (s0 : ByteArray) (c1 : List DV) : zsee Try.prog tab ftab cAd (ksF ftab 9) [0, 3, 10, 14] (loopAt (bodyOf ftab 9) 0) (mkT 118 [(0, .list 1 xs), (3, .str s0), (4, .sl 0 0 1 n1 n1), (10, .nil), (14, .bool true), (15, iN k)]) ⟨1, [⟨0, 0, 5, c1⟩]⟩ [(86, .b false)] = some (.exit 0, mkT 118 [(0, .list 1 xs), (3, .str s0), (10, .nil), (14, .bool true)], ⟨1, [⟨0, 0, 5, c1⟩]⟩, [decide ((k : Int) < (n1 : Int)) = false]) := by
  kernel_rfl
set_option maxRecDepth 1000000 in
theorem r2A (xs : List (List DV)) (n5 k : Nat) (s0 : ByteArray) (x y : UInt8) (c1 c5 c5' : List DV) : zsee Try.prog tab ftab cAd (ksF ftab 9) [0, 3, 10, 14, 16] (loopAt (bodyOf ftab 9) 1) (mkT 118 [(0, .list 1 xs), (3, .str s0), (10, .sl 1 0 1 n5 n5), (14, .bool true), (16, iN k)]) ⟨2, [⟨0, 0, 5, c5⟩, ⟨0, 0, 5, c1⟩]⟩
      [(100, .b true), (107, .n (.ptr 1 k)), (108, .n (i8 x)), (109, .w (i8 y)), (110, .n (.ptr 1 k)), (65535, .h (.tuple []) ⟨2, [⟨0, 0, 5, c5'⟩, ⟨0, 0, 5, c1⟩]⟩ (some 1)), (16, .w (iN (k + 1)))] =
    some (.normal, mkT 118 [(0, .list 1 xs), (3, .str s0), (10, .sl 1 0 1 n5 n5), (14, .bool true), (16, iN (k + 1))], ⟨2, [⟨0, 0, 5, c5'⟩, ⟨0, 0, 5, c1⟩]⟩, [decide ((k : Int) < (n5 : Int)) = true, idxOk (k : Int) n5 = true, DV.ptr 1 (0 + (k : Int).toNat * 1) = .ptr 1 k, nth c5 k = some (i8 x), DV.int .u8 (bitD .xor .u8 (x.toNat : Int) 1) = i8 y, idxOk (k : Int) n5 = true, DV.ptr 1 (0 + (k : Int).toNat * 1) = .ptr 1 k,
      storeH ⟨2, [⟨0, 0, 5, c5⟩, ⟨0, 0, 5, c1⟩]⟩ 1 k [i8 y] = some (⟨2, [⟨0, 0, 5, c5'⟩, ⟨0, 0, 5, c1⟩]⟩, some 1), DV.int .i64 (IntKind.i64.wrap ((k : Int) + 1)) = iN (k + 1)]) := by
  kernel_rfl
set_option maxRecDepth 1000000 in
theorem r2AOut (xs : List (List DV)) (n5 k : Nat) (s0 : ByteArray) (c1 c5 : List DV) : zsee Try.prog tab ftab cAd (ksF ftab 9) [0, 3, 14] (loopAt (bodyOf ftab 9) 1) (mkT 118 [(0, .list 1 xs), (3, .str s0), (10, .sl 1 0 1 n5 n5), (14, .bool true), (16, iN k)]) ⟨2, [⟨0, 0, 5, c5⟩, ⟨0, 0, 5, c1⟩]⟩ [(100, .b false)] = some (.exit 2, mkT 118 [(0, .list 1 xs), (3, .str s0), (14, .bool true)], ⟨2, [⟨0, 0, 5, c5⟩, ⟨0, 0, 5, c1⟩]⟩, [decide ((k : Int) < (n5 : Int)) = false]) := by
  kernel_rfl
theorem store_at {hp : Hp} {id k : Nat} {c : List UInt8} {y : UInt8} (hg : hp.get id = some ⟨0, 0, 5, celB c⟩) (hk : k < c.length) : storeH hp id k [i8 y] = some (hp.put id ⟨0, 0, 5, celB (c.set k y)⟩, some id) := by
  have hb1 : Nat.ble (k + 1) (celB c).length = true := bleT (by rw [celB_length]; omega)
  have hlay : layD (celB c) k [i8 y] = celB (c.set k y) := by
    rw [celB, celB, List.map_set, layD, List.set_eq_take_append_cons_drop, if_pos (by rw [List.length_map]; omega)]
    simp
  simp only [storeH, hg, List.length_singleton, hb1]
  rw [hlay]
theorem xor1 (x : UInt8) : DV.int .u8 (bitD .xor .u8 (x.toNat : Int) 1) = i8 (x ^^^ 1) := by
  rw [show (1 : Int) = (((1 : UInt8).toNat : Nat) : Int) from rfl, xorU (k := .u8) rfl (UInt8.toNat_lt x) (UInt8.toNat_lt 1), i8, UInt8.toNat_xor]
theorem cel_nth {c : List UInt8} {k : Nat} {x : UInt8} (h : c[k]? = some x) : nth (celB c) k = some (i8 x) := by
  rw [nth_eq, celB, List.getElem?_map, h]
  rfl
theorem ptr_k (p k : Nat) : DV.ptr p (0 + (k : Int).toNat * 1) = .ptr p k := by
  rw [Int.toNat_natCast]
  simp
theorem loop1A (xs : List (List DV)) (n1 n5 : Nat) (s0 : ByteArray) (c1 c5 : List UInt8) (hn : n1 ≤ c1.length) (hb : n1 < 2 ^ 40) : ∃ q : List UInt8, Goes Try.prog tab (ksF ftab 9) (.loop (loopAt (bodyOf ftab 9) 0)) (mkT 118 [(0, .list 1 xs), (3, .str s0), (4, .sl 0 0 1 n1 n1), (10, .sl 1 0 1 n5 n5), (14, .bool true), (15, iN 0)]) ⟨2, [⟨0, 0, 5, celB c5⟩, ⟨0, 0, 5, celB c1⟩]⟩ (.exit 0) (mkT 118 [(0, .list 1 xs), (3, .str s0), (10, .sl 1 0 1 n5 n5), (14, .bool true)]) ⟨2, [⟨0, 0, 5, celB c5⟩, ⟨0, 0, 5, celB q⟩]⟩ := by
  have loop := Goes.loopI (P := Try.prog) (T := tab) (ks := (ksF ftab 9)) (x := loopAt (bodyOf ftab 9) 0) (e := .exit 0) n1
    (fun k sl h => ∃ q : List UInt8, sl = mkT 118 [(0, .list 1 xs), (3, .str s0), (4, .sl 0 0 1 n1 n1), (10, .sl 1 0 1 n5 n5), (14, .bool true), (15, iN k)] ∧ h = ⟨2, [⟨0, 0, 5, celB c5⟩, ⟨0, 0, 5, celB q⟩]⟩ ∧ q.length = c1.length)
    (fun sl h => ∃ q : List UInt8, sl = mkT 118 [(0, .list 1 xs), (3, .str s0), (10, .sl 1 0 1 n5 n5), (14, .bool true)] ∧ h = ⟨2, [⟨0, 0, 5, celB c5⟩, ⟨0, 0, 5, celB q⟩]⟩) (by intro h; cases h) ?_ ?_ (sl := mkT 118 [(0, .list 1 xs), (3, .str s0), (4, .sl 0 0 1 n1 n1), (10, .sl 1 0 1 n5 n5), (14, .bool true), (15, iN 0)]) (hp := ⟨2, [⟨0, 0, 5, celB c5⟩, ⟨0, 0, 5, celB c1⟩]⟩) ⟨c1, rfl, rfl, rfl⟩
  · obtain ⟨_, _, g, q, rfl, rfl⟩ := loop
    exact ⟨q, g⟩
  · rintro k sl h hk ⟨q, rfl, rfl, hl⟩
    obtain ⟨x, hx⟩ : ∃ x, q[k]? = some x := ⟨_, List.getElem?_eq_getElem (by omega)⟩
    exact ⟨_, _, zsee_ok tab_ok mixed fun_ok cAd_ok (r1A xs n1 n5 k s0 x (x ^^^ 1) (celB q) (celB c5) (celB (q.set k (x ^^^ 1)))) (.cons (decide_eq_true (by omega)) (.cons (idxOk_lt hk) (.cons (ptr_k 0 k) (.cons (cel_nth hx) (.cons (xor1 x) (.cons (idxOk_lt hk) (.cons (ptr_k 0 k) (.cons (store_at rfl (by omega)) (.cons (congrArg (DV.int .i64) (wrapI (n := k + 1) (by omega))) .nil))))))))), q.set k (x ^^^ 1), rfl, rfl, by rw [List.length_set]; exact hl⟩
  · rintro sl h ⟨q, rfl, rfl, _⟩
    exact ⟨_, _, zsee_ok tab_ok mixed fun_ok cAd_ok (r1AOut xs n1 n5 n1 s0 (celB q) (celB c5)) (.cons (decide_eq_false (by omega)) .nil), q, rfl, rfl⟩
theorem loop1B (xs : List (List DV)) (n1 : Nat) (s0 : ByteArray) (c1 : List UInt8) (hn : n1 ≤ c1.length) (hb : n1 < 2 ^ 40) : ∃ q : List UInt8, Goes Try.prog tab (ksF ftab 9) (.loop (loopAt (bodyOf ftab 9) 0)) (mkT 118 [(0, .list 1 xs), (3, .str s0), (4, .sl 0 0 1 n1 n1), (10, .nil), (14, .bool true), (15, iN 0)]) ⟨1, [⟨0, 0, 5, celB c1⟩]⟩ (.exit 0) (mkT 118 [(0, .list 1 xs), (3, .str s0), (10, .nil), (14, .bool true)]) ⟨1, [⟨0, 0, 5, celB q⟩]⟩ := by
  have loop := Goes.loopI (P := Try.prog) (T := tab) (ks := (ksF ftab 9)) (x := loopAt (bodyOf ftab 9) 0) (e := .exit 0) n1
    (fun k sl h => ∃ q : List UInt8, sl = mkT 118 [(0, .list 1 xs), (3, .str s0), (4, .sl 0 0 1 n1 n1), (10, .nil), (14, .bool true), (15, iN k)] ∧ h = ⟨1, [⟨0, 0, 5, celB q⟩]⟩ ∧ q.length = c1.length)
    (fun sl h => ∃ q : List UInt8, sl = mkT 118 [(0, .list 1 xs), (3, .str s0), (10, .nil), (14, .bool true)] ∧ h = ⟨1, [⟨0, 0, 5, celB q⟩]⟩) (by intro h; cases h) ?_ ?_ (sl := mkT 118 [(0, .list 1 xs), (3, .str s0), (4, .sl 0 0 1 n1 n1), (10, .nil), (14, .bool true), (15, iN 0)]) (hp := ⟨1, [⟨0, 0, 5, celB c1⟩]⟩) ⟨c1, rfl, rfl, rfl⟩
  · obtain ⟨_, _, g, q, rfl, rfl⟩ := loop
    exact ⟨q, g⟩
  · rintro k sl h hk ⟨q, rfl, rfl, hl⟩
    obtain ⟨x, hx⟩ : ∃ x, q[k]? = some x := ⟨_, List.getElem?_eq_getElem (by omega)⟩
    exact ⟨_, _, zsee_ok tab_ok mixed fun_ok cAd_ok (r1B xs n1 k s0 x (x ^^^ 1) (celB q) (celB (q.set k (x ^^^ 1)))) (.cons (decide_eq_true (by omega)) (.cons (idxOk_lt hk) (.cons (ptr_k 0 k) (.cons (cel_nth hx) (.cons (xor1 x) (.cons (idxOk_lt hk) (.cons (ptr_k 0 k) (.cons (store_at rfl (by omega)) (.cons (congrArg (DV.int .i64) (wrapI (n := k + 1) (by omega))) .nil))))))))), q.set k (x ^^^ 1), rfl, rfl, by rw [List.length_set]; exact hl⟩
  · rintro sl h ⟨q, rfl, rfl, _⟩
    exact ⟨_, _, zsee_ok tab_ok mixed fun_ok cAd_ok (r1BOut xs n1 n1 s0 (celB q)) (.cons (decide_eq_false (by omega)) .nil), q, rfl, rfl⟩
theorem loop2A (xs : List (List DV)) (n5 : Nat) (s0 : ByteArray) (c1 c5 : List UInt8) (hn : n5 ≤ c5.length) (hb : n5 < 2 ^ 40) : ∃ q : List UInt8, Goes Try.prog tab (ksF ftab 9) (.loop (loopAt (bodyOf ftab 9) 1)) (mkT 118 [(0, .list 1 xs), (3, .str s0), (10, .sl 1 0 1 n5 n5), (14, .bool true), (16, iN 0)]) ⟨2, [⟨0, 0, 5, celB c5⟩, ⟨0, 0, 5, celB c1⟩]⟩ (.exit 2) (mkT 118 [(0, .list 1 xs), (3, .str s0), (14, .bool true)]) ⟨2, [⟨0, 0, 5, celB q⟩, ⟨0, 0, 5, celB c1⟩]⟩ := by
  have loop := Goes.loopI (P := Try.prog) (T := tab) (ks := (ksF ftab 9)) (x := loopAt (bodyOf ftab 9) 1) (e := .exit 2) n5
    (fun k sl h => ∃ q : List UInt8, sl = mkT 118 [(0, .list 1 xs), (3, .str s0), (10, .sl 1 0 1 n5 n5), (14, .bool true), (16, iN k)] ∧ h = ⟨2, [⟨0, 0, 5, celB q⟩, ⟨0, 0, 5, celB c1⟩]⟩ ∧ q.length = c5.length)
    (fun sl h => ∃ q : List UInt8, sl = mkT 118 [(0, .list 1 xs), (3, .str s0), (14, .bool true)] ∧ h = ⟨2, [⟨0, 0, 5, celB q⟩, ⟨0, 0, 5, celB c1⟩]⟩) (by intro h; cases h) ?_ ?_ (sl := mkT 118 [(0, .list 1 xs), (3, .str s0), (10, .sl 1 0 1 n5 n5), (14, .bool true), (16, iN 0)]) (hp := ⟨2, [⟨0, 0, 5, celB c5⟩, ⟨0, 0, 5, celB c1⟩]⟩) ⟨c5, rfl, rfl, rfl⟩
  · obtain ⟨_, _, g, q, rfl, rfl⟩ := loop
    exact ⟨q, g⟩
  · rintro k sl h hk ⟨q, rfl, rfl, hl⟩
    obtain ⟨x, hx⟩ : ∃ x, q[k]? = some x := ⟨_, List.getElem?_eq_getElem (by omega)⟩
    exact ⟨_, _, zsee_ok tab_ok mixed fun_ok cAd_ok (r2A xs n5 k s0 x (x ^^^ 1) (celB c1) (celB q) (celB (q.set k (x ^^^ 1)))) (.cons (decide_eq_true (by omega)) (.cons (idxOk_lt hk) (.cons (ptr_k 1 k) (.cons (cel_nth hx) (.cons (xor1 x) (.cons (idxOk_lt hk) (.cons (ptr_k 1 k) (.cons (store_at rfl (by omega)) (.cons (congrArg (DV.int .i64) (wrapI (n := k + 1) (by omega))) .nil))))))))), q.set k (x ^^^ 1), rfl, rfl, by rw [List.length_set]; exact hl⟩
  · rintro sl h ⟨q, rfl, rfl, _⟩
    exact ⟨_, _, zsee_ok tab_ok mixed fun_ok cAd_ok (r2AOut xs n5 n5 s0 (celB c1) (celB q)) (.cons (decide_eq_false (by omega)) .nil), q, rfl, rfl⟩
theorem cel_plain {c : List UInt8} : ∀ x ∈ celB c, plain x = true := fun x hx => by
  simp only [celB, List.mem_map] at hx
  obtain ⟨b, _, rfl⟩ := hx
  rfl
theorem seen10A (xs : List (List DV)) (s0 : ByteArray) {h : Hp} {i1 n1 i5 n5 : Nat} {c1 c5 : List UInt8} (g1 : h.get i1 = some ⟨0, 0, 5, celB c1⟩) (g5 : h.get i5 = some ⟨0, 0, 5, celB c5⟩) (hne : i1 ≠ i5) : Seen (mkT 118 [(0, .list 1 xs), (3, .str s0), (4, .sl i1 0 1 n1 n1), (10, .sl i5 0 1 n5 n5), (14, .bool true)]) h (mkT 118 [(0, .list 1 xs), (3, .str s0), (4, .sl 0 0 1 n1 n1), (10, .sl 1 0 1 n5 n5), (14, .bool true)]) ⟨2, [⟨0, 0, 5, celB c5⟩, ⟨0, 0, 5, celB c1⟩]⟩ := by
  have hr : renH [i1, i5] h = some ⟨2, [⟨0, 0, 5, celB c5⟩, ⟨0, 0, 5, celB c1⟩]⟩ := by
    simp only [renH, renObs, renOb, g1, g5, nodupN, posN, beqF hne.symm, show Nat.beq 0 2 = false from rfl, oldOb, Bool.and_self]
    rfl
  have hp : PlainL [i1, i5] h := fun i o hi hg x hx => by
    simp only [List.mem_cons, List.not_mem_nil, or_false] at hi
    rcases hi with rfl | rfl
    · rw [g1] at hg
      cases hg
      exact cel_plain x hx
    · rw [g5] at hg
      cases hg
      exact cel_plain x hx
  refine seen_slots fun W0 S0 E w hs => ⟨E.ren [i1, i5] _, fun _ hb => hb, hs_ren hs hp hr, fun t d hm => ?_⟩
  simp only [List.mem_cons, Prod.mk.injEq, List.not_mem_nil, or_false] at hm
  rcases hm with ⟨rfl, rfl⟩ | ⟨rfl, rfl⟩ | ⟨rfl, rfl⟩ | ⟨rfl, rfl⟩ | ⟨rfl, rfl⟩
  · exact ⟨.list 1 xs, by kernel_rfl, fun v hv => ren3_ok (hs_ren_X hs [i1, i5]) hv (by simp only [ren3, ren2, ren1])⟩
  · exact ⟨.str s0, by kernel_rfl, fun v hv => ren3_ok (hs_ren_X hs [i1, i5]) hv (by simp only [ren3, ren2, ren1])⟩
  · exact ⟨.sl i1 0 1 n1 n1, by kernel_rfl, fun v hv => ren3_ok (hs_ren_X hs [i1, i5]) hv (by simp only [ren3, ren2, ren1, posN, beqT])⟩
  · exact ⟨.sl i5 0 1 n5 n5, by kernel_rfl, fun v hv => ren3_ok (hs_ren_X hs [i1, i5]) hv (by simp only [ren3, ren2, ren1, posN, beqT, beqF hne])⟩
  · exact ⟨.bool true, by kernel_rfl, fun v hv => ren3_ok (hs_ren_X hs [i1, i5]) hv (by simp only [ren3, ren2, ren1])⟩
theorem seen10B (xs : List (List DV)) (s0 : ByteArray) {h : Hp} {i1 n1 : Nat} {c1 : List UInt8} (g1 : h.get i1 = some ⟨0, 0, 5, celB c1⟩) : Seen (mkT 118 [(0, .list 1 xs), (3, .str s0), (4, .sl i1 0 1 n1 n1), (10, .nil), (14, .bool true)]) h (mkT 118 [(0, .list 1 xs), (3, .str s0), (4, .sl 0 0 1 n1 n1), (10, .nil), (14, .bool true)]) ⟨1, [⟨0, 0, 5, celB c1⟩]⟩ := by
  have hr : renH [i1] h = some ⟨1, [⟨0, 0, 5, celB c1⟩]⟩ := by
    simp only [renH, renObs, renOb, g1, nodupN, posN, show Nat.beq 0 2 = false from rfl, oldOb, Bool.and_self]
    rfl
  have hp : PlainL [i1] h := fun i o hi hg x hx => by
    simp only [List.mem_cons, List.not_mem_nil, or_false] at hi
    subst hi
    rw [g1] at hg
    cases hg
    exact cel_plain x hx
  refine seen_slots fun W0 S0 E w hs => ⟨E.ren [i1] _, fun _ hb => hb, hs_ren hs hp hr, fun t d hm => ?_⟩
  simp only [List.mem_cons, Prod.mk.injEq, List.not_mem_nil, or_false] at hm
  rcases hm with ⟨rfl, rfl⟩ | ⟨rfl, rfl⟩ | ⟨rfl, rfl⟩ | ⟨rfl, rfl⟩ | ⟨rfl, rfl⟩
  · exact ⟨.list 1 xs, by kernel_rfl, fun v hv => ren3_ok (hs_ren_X hs [i1]) hv (by simp only [ren3, ren2, ren1])⟩
  · exact ⟨.str s0, by kernel_rfl, fun v hv => ren3_ok (hs_ren_X hs [i1]) hv (by simp only [ren3, ren2, ren1])⟩
  · exact ⟨.sl i1 0 1 n1 n1, by kernel_rfl, fun v hv => ren3_ok (hs_ren_X hs [i1]) hv (by simp only [ren3, ren2, ren1, posN, beqT])⟩
  · exact ⟨.nil, by kernel_rfl, fun v hv => ren3_ok (hs_ren_X hs [i1]) hv (by simp only [ren3, ren2, ren1])⟩
  · exact ⟨.bool true, by kernel_rfl, fun v hv => ren3_ok (hs_ren_X hs [i1]) hv (by simp only [ren3, ren2, ren1])⟩
/-- shows bytes, or none and is no slice -/
def ShN (hp : Hp) (d : DV) (bs : List UInt8) : Prop := Sh hp d bs ∨ (d = .nil ∧ bs = [])
theorem conv_n {hp : Hp} {d : DV} {bs : List UInt8} (h : ShN hp d bs) : convD tab hp 45 9 d = some (.str ⟨bs.toArray⟩, hp, none) := by
  rcases h with h | ⟨rfl, rfl⟩
  · exact conv_str h
  · kernel_rfl
def Keeps (hp hp' : Hp) : Prop := ∀ id o, hp.get id = some o → hp'.get id = some o
theorem keeps_lay (hp : Hp) {hp' : Hp} (hl : hp'.l.length = hp'.n) : Keeps hp (layH hp hp') := fun id o h => by rw [layH_get hl, if_pos (Hp.get_lt h)]; exact h
theorem Keeps.trans {a b c : Hp} (h : Keeps a b) (k : Keeps b c) : Keeps a c := fun id o ho => k id o (h id o ho)
theorem ShN.keep {hp hp' : Hp} {d : DV} {bs : List UInt8} (h : ShN hp d bs) (k : Keeps hp hp') : ShN hp' d bs := by
  rcases h with (rfl | ⟨id, off, o, c, rfl, h1, h2⟩) | h
  · exact .inl (.inl rfl)
  · exact .inl (.inr ⟨id, off, o, c, rfl, k _ _ h1, h2⟩)
  · exact .inr h
theorem ad1 {hp : Hp} (b : Bs) : cAd 39 [byL b.1] hp = some (.sl (hp.n + 0) 0 1 (withL b.1).length (withL b.1).length, layH hp (oneH (celB (withL b.1))), none) := orK_left (cApp_at b ⟨rfl, rfl⟩)
theorem ad2 {hp : Hp} (b : Bs) : cAd 40 [byL b.1] hp = some (.sl (hp.n + 0) 0 1 (withS b.1).length (withS b.1).length, layH hp (oneH (celB (withS b.1))), none) := orK_right (conC_other (by kernel_rfl)) (orK_left (cApp8_at b ⟨rfl, rfl⟩))
theorem ad3 {hp : Hp} (b : Bs) : cAd 28 [byL b.1] hp = some (sh3 hp.n (verL b.1).1, layH hp (verL b.1).2, none) := orK_right (conC_other (by kernel_rfl)) (orK_right (conC_other (by kernel_rfl)) (orK_left (cVerL_at b ⟨rfl, rfl⟩)))
theorem ad4 {hp : Hp} (b : Bs) : cAd 29 [byL b.1] hp = some (sh3 hp.n (verS b.1).1, layH hp (verS b.1).2, none) := orK_right (conC_other (by kernel_rfl)) (orK_right (conC_other (by kernel_rfl)) (orK_right (conC_other (by kernel_rfl)) (orK_left (cVerS_at b ⟨rfl, rfl⟩))))
theorem ad5 {hp : Hp} (b : Bs) : cAd 43 [byL b.1] hp = some (.sl (hp.n + 0) 0 1 (withL b.1).length (withL b.1).length, layH hp (ownH 5 1 (celB (withL b.1))), none) := orK_right (conC_other (by kernel_rfl)) (orK_right (conC_other (by kernel_rfl)) (orK_right (conC_other (by kernel_rfl)) (orK_right (conC_other (by kernel_rfl)) (orK_left (cRA_at b ⟨rfl, rfl⟩)))))
theorem ad6 {hp : Hp} (b : Bs) : cAd 44 [byL b.1] hp = some (.sl (hp.n + 0) 0 1 (withS b.1).length (withS b.1).length, layH hp (ownH 5 1 (celB (withS b.1))), none) := orK_right (conC_other (by kernel_rfl)) (orK_right (conC_other (by kernel_rfl)) (orK_right (conC_other (by kernel_rfl)) (orK_right (conC_other (by kernel_rfl)) (orK_right (conC_other (by kernel_rfl)) (orK_left (cRA8_at b ⟨rfl, rfl⟩))))))
theorem ad7 {hp : Hp} (b : Bs) : cAd 41 [byL b.1] hp = some (sh3 hp.n (rverL b.1).1, layH hp (rverL b.1).2, none) := orK_right (conC_other (by kernel_rfl)) (orK_right (conC_other (by kernel_rfl)) (orK_right (conC_other (by kernel_rfl)) (orK_right (conC_other (by kernel_rfl)) (orK_right (conC_other (by kernel_rfl)) (orK_right (conC_other (by kernel_rfl)) (orK_left (cRVerL_at b ⟨rfl, rfl⟩)))))))
theorem ad8 {hp : Hp} (b : Bs) : cAd 42 [byL b.1] hp = some (sh3 hp.n (rverS b.1).1, layH hp (rverS b.1).2, none) := orK_right (conC_other (by kernel_rfl)) (orK_right (conC_other (by kernel_rfl)) (orK_right (conC_other (by kernel_rfl)) (orK_right (conC_other (by kernel_rfl)) (orK_right (conC_other (by kernel_rfl)) (orK_right (conC_other (by kernel_rfl)) (orK_right (conC_other (by kernel_rfl)) (cRVerS_at b ⟨rfl, rfl⟩)))))))
theorem pre_sh (hp : Hp) {bs cs : List UInt8} {n : Nat} (hb : cs.take n = bs) (hn : bs.length = n) (c : Nat) : Sh (layH hp (oneH (celB cs))) (.sl (hp.n + 0) 0 1 n c) bs := by
  subst hn
  refine .inr ⟨_, 0, ⟨0, 0, 5, celB cs⟩, c, rfl, by rw [layH_get rfl, if_neg (by omega)]; simp; rfl, fun i b hi => celB_get ?_⟩
  rw [← hb, List.getElem?_take] at hi
  split at hi
  · exact hi
  · cases hi
theorem twoL (b : Bs) (hp : Hp) : ∃ t z d h1, cAd 28 [byL b.1] hp = some (.tuple [d, .int .i64 z], h1, none) ∧ Keeps hp h1 ∧ ShN h1 d t ∧ ∃ d' h2, cAd 41 [byL b.1] h1 = some (.tuple [d', .int .i64 z], h2, none) ∧ Keeps h1 h2 ∧ ShN h2 d' t := by
  have p := ad3 (hp := hp) b
  by_cases k1 : b.1.length < 4
  · rw [verL, if_pos k1] at p
    have r := ad7 (hp := layH hp ⟨0, []⟩) b
    rw [rverL, if_pos k1] at r
    exact ⟨[], 10, .nil, _, p, keeps_lay hp rfl, .inr ⟨rfl, rfl⟩, .nil, _, r, keeps_lay _ rfl, .inr ⟨rfl, rfl⟩⟩
  by_cases k2 : withL (b.1.take (b.1.length - 4)) = b.1
  · rw [verL, if_neg k1, if_pos k2] at p
    have r := ad7 (hp := layH hp (oneH (celB b.1))) b
    rw [rverL, if_neg k1, if_pos k2] at r
    exact ⟨b.1.take (b.1.length - 4), 0, _, _, p, keeps_lay hp rfl, .inl (pre_sh hp rfl (by rw [List.length_take]; omega) _), _, _, r, keeps_lay _ rfl, .inl (sh_fl _ _ _)⟩
  · rw [verL, if_neg k1, if_neg k2] at p
    have r := ad7 (hp := layH hp ⟨0, []⟩) b
    rw [rverL, if_neg k1, if_neg k2] at r
    exact ⟨[], 31, .nil, _, p, keeps_lay hp rfl, .inr ⟨rfl, rfl⟩, .nil, _, r, keeps_lay _ rfl, .inr ⟨rfl, rfl⟩⟩
theorem twoS (b : Bs) (hp : Hp) : ∃ t z d h1, cAd 29 [byL b.1] hp = some (.tuple [d, .int .i64 z], h1, none) ∧ Keeps hp h1 ∧ ShN h1 d t ∧ (d = .nil ∨ ∃ i n, d = .sl i 0 1 n n ∧ h1.get i = some ⟨0, 0, 5, celB b.1⟩ ∧ n ≤ b.1.length ∧ hp.n ≤ i) ∧ ∃ d' h2, cAd 42 [byL b.1] h1 = some (.tuple [d', .int .i64 z], h2, none) ∧ Keeps h1 h2 ∧ ShN h2 d' t := by
  have p := ad4 (hp := hp) b
  by_cases k1 : b.1.length < 1
  · rw [verS, if_pos k1] at p
    have r := ad8 (hp := layH hp ⟨0, []⟩) b
    rw [rverS, if_pos k1] at r
    exact ⟨[], 10, .nil, _, p, keeps_lay hp rfl, .inr ⟨rfl, rfl⟩, .inl rfl, .nil, _, r, keeps_lay _ rfl, .inr ⟨rfl, rfl⟩⟩
  by_cases k2 : withS (b.1.take (b.1.length - 1)) = b.1
  · rw [verS, if_neg k1, if_pos k2] at p
    have r := ad8 (hp := layH hp (oneH (celB b.1))) b
    rw [rverS, if_neg k1, if_pos k2] at r
    exact ⟨b.1.take (b.1.length - 1), 0, _, _, p, keeps_lay hp rfl, .inl (pre_sh hp rfl (by rw [List.length_take]; omega) _), .inr ⟨hp.n + 0, b.1.length - 1, rfl, by rw [layH_get rfl, if_neg (by omega)]; simp; rfl, by omega, by omega⟩, _, _, r, keeps_lay _ rfl, .inl (sh_fl _ _ _)⟩
  · rw [verS, if_neg k1, if_neg k2] at p
    have r := ad8 (hp := layH hp ⟨0, []⟩) b
    rw [rverS, if_neg k1, if_neg k2] at r
    exact ⟨[], 31, .nil, _, p, keeps_lay hp rfl, .inr ⟨rfl, rfl⟩, .inl rfl, .nil, _, r, keeps_lay _ rfl, .inr ⟨rfl, rfl⟩⟩
theorem withL_length' (bs : List UInt8) : (withL bs).length = bs.length + 4 := by rw [withL, List.length_append]; rfl
theorem eqT (a : List UInt8) : eqBytes (⟨a.toArray⟩ : ByteArray).data.toList (⟨a.toArray⟩ : ByteArray).data.toList = true := by rw [eqBytes_iff]; exact decide_eq_true rfl
theorem all (b : List UInt8) : Ans Try.prog 9 [byL b] (.bool true) ⟨0, []⟩ := by
  by_cases hb : b.length > 3000
  · exact zflat_ok tab_ok mixed fun_ok cAd_ok (great (by1 b)) (.cons (decide_eq_true (by rw [by1_length]; omega)) .nil)
  have g0 : decide (((by1 b).length : Int) > 3000) = false := decide_eq_false (by rw [by1_length]; omega)
  have hl : b.length < 2 ^ 30 := by omega
  have str : ∀ h : Hp, convD tab h 45 9 (.list 1 (by1 b)) = some (.str ⟨b.toArray⟩, h, none) := fun h => conv_str (bs := b) (.inl rfl)
  have q1 := ad1 (hp := ⟨0, []⟩) ⟨b, hl⟩
  have G1 : (layH ⟨0, []⟩ (oneH (celB (withL b)))).get 0 = some ⟨0, 0, 5, celB (withL b)⟩ := rfl
  have q2 := ad2 (hp := layH ⟨0, []⟩ (oneH (celB (withL b)))) ⟨b, hl⟩
  have K2 := keeps_lay (layH ⟨0, []⟩ (oneH (celB (withL b)))) (hp' := oneH (celB (withS b))) rfl
  have S2 : ShN _ _ _ := .inl (sh_new (layH ⟨0, []⟩ (oneH (celB (withL b)))) (withS b) (withS b).length)
  obtain ⟨t3, z3, d3, h3, q3, K3, S3, d4, h4, q4, K4, S4⟩ := twoL ⟨b, hl⟩ (layH (layH ⟨0, []⟩ (oneH (celB (withL b)))) (oneH (celB (withS b))))
  obtain ⟨t5, z5, d5, h5, q5, K5, S5, X5, d6, h6, q6, K6, S6⟩ := twoS ⟨b, hl⟩ h4
  have q7 := ad5 (hp := h6) ⟨b, hl⟩
  have K7 := keeps_lay h6 (hp' := ownH 5 1 (celB (withL b))) rfl
  have S7 := sh_fl h6 (withL b) (withL b).length
  have q8 := ad6 (hp := layH h6 (ownH 5 1 (celB (withL b)))) ⟨b, hl⟩
  have K8 := keeps_lay (layH h6 (ownH 5 1 (celB (withL b)))) (hp' := ownH 5 1 (celB (withS b))) rfl
  have S8 := sh_fl (layH h6 (ownH 5 1 (celB (withL b)))) (withS b) (withS b).length
  have G6 := K6 _ _ (K5 _ _ (K4 _ _ (K3 _ _ (K2 _ _ G1))))
  have G8 := K8 _ _ (K7 _ _ G6)
  have lw : (withL b).length < 2 ^ 40 := by rw [withL_length']; omega
  have D1 : Sh h6 (.sl 0 0 1 (withL b).length (withL b).length) (withL b) := .inr ⟨0, 0, _, _, rfl, G6, fun i c hi => celB_get hi⟩
  have D2 := ((((S2.keep K3).keep K4).keep K5).keep K6).keep K7
  have D3 := ((((S3.keep K4).keep K5).keep K6).keep K7).keep K8
  have D4 := (((S4.keep K5).keep K6).keep K7).keep K8
  have D5 := ((S5.keep K6).keep K7).keep K8
  have D6 := (S6.keep K7).keep K8
  rcases X5 with rfl | ⟨i5, n5, rfl, G5, hn5, hi5⟩
  · obtain ⟨c', g⟩ := loop1B (by1 b) (withL b).length ⟨b.toArray⟩ (withL b) (Nat.le_refl _) lw
    exact zflat_ok tab_ok mixed fun_ok cAd_ok (mainB (by1 b) 0 (withL b).length _ d3 d4 d6 _ _ _ _ h3 h4 h5 h6 _ _ z3 z5 _ _ _ _ _ _ _ _ _ (celB (withL b)) (celB c'))
      (.cons g0 (.cons (str _) (.cons q1 (.cons q2 (.cons q3 (.cons q4 (.cons q5 (.cons q6 (.cons (conv_str D1) (.cons q7 (.cons (conv_str S7) (.cons (eqT _) (.cons (conv_n D2) (.cons q8 (.cons (conv_str S8) (.cons (eqT _) (.cons (conv_n D3) (.cons (conv_n D4) (.cons (eqT _) (.cons (beq_self_eq_true z3) (.cons (conv_n D5) (.cons (conv_n D6) (.cons (eqT _) (.cons (beq_self_eq_true z5) (.cons (seen10B (by1 b) ⟨b.toArray⟩ G8) (.cons g (.cons (str _) (.cons (eqT _) .nil))))))))))))))))))))))))))))
  · have G58 := K8 _ _ (K7 _ _ (K6 _ _ G5))
    have hne : 0 ≠ i5 := by
      have := Hp.get_lt (K4 _ _ (K3 _ _ (K2 _ _ G1)))
      omega
    obtain ⟨c', g⟩ := loop1A (by1 b) (withL b).length n5 ⟨b.toArray⟩ (withL b) b (Nat.le_refl _) lw
    obtain ⟨c'', g2⟩ := loop2A (by1 b) n5 ⟨b.toArray⟩ c' b hn5 (by simp only at hn5; omega)
    exact zflat_ok tab_ok mixed fun_ok cAd_ok (mainA (by1 b) 0 (withL b).length i5 n5 _ d3 d4 d6 _ _ _ _ h3 h4 h5 h6 _ _ z3 z5 _ _ _ _ _ _ _ _ _ (celB (withL b)) (celB b) (celB c') (celB c''))
      (.cons g0 (.cons (str _) (.cons q1 (.cons q2 (.cons q3 (.cons q4 (.cons q5 (.cons q6 (.cons (conv_str D1) (.cons q7 (.cons (conv_str S7) (.cons (eqT _) (.cons (conv_n D2) (.cons q8 (.cons (conv_str S8) (.cons (eqT _) (.cons (conv_n D3) (.cons (conv_n D4) (.cons (eqT _) (.cons (beq_self_eq_true z3) (.cons (conv_n D5) (.cons (conv_n D6) (.cons (eqT _) (.cons (beq_self_eq_true z5) (.cons (seen10A (by1 b) ⟨b.toArray⟩ G8 G58 hne) (.cons g (.cons g2 (.cons (str _) (.cons (eqT _) .nil)))))))))))))))))))))))))))))
end

set_option maxRecDepth 100000 in
set_option maxHeartbeats 8000000 in
theorem walk (w : World) (A0 : Option Addr) (n0 c0 : Nat) (a0 : _) (r0 : (Ty.slice (Ty.nat .u8)).rep w (· < w.heap.size) a0 [.slice A0 n0 c0]) :
    Calls Try.prog 9 #[.slice A0 n0 c0] w fun e w' => e = .returned (.bool true) ∧ Below w.heap.size w w' := by
  obtain ⟨b, vb⟩ := vr_bytes r0
  exact law_ok (all b) (.cons vb (.nil _ _))

set_option maxRecDepth 100000 in
theorem lifted (os : Os) (started : os.Started) (H : Type) (enc : TypeId × Value → H) :
    ReturnsInHanded {} Try.checked os 9 .any (Rows.checkAppendsSpec.pre6 enc Try.prog Try.f9 Rows.checkAppendsRow.domain false) (Rows.checkAppendsSpec.post enc Try.prog Try.f9 false true false false) := by
  refine returnsInHanded_of_change (C := Try.checked) own started (by kernel_rfl) Try.func9
    (ChangeSpec.witness6 (enc := enc) (C := Try.checked) false ⟨#[], #[.slice none 0 0], []⟩ 8 (by kernel_rfl) (by kernel_rfl) (by kernel_rfl) (by kernel_rfl)) ?_
  intro W base args ds gs before hval0 hW hcnd _
  have hval : ∀ (j : Nat) t v, Try.f9.params[j]? = some t → args[j]? = some v → Value.okWide Try.prog W .any base t v := hval0
  have hW' := hW
  obtain ⟨p, q, hA0, hV, rfl, hfz, hnd⟩ := hW
  have hA : DataW.TrodAll enc Try.prog W 0 (fun _ => true) true Try.f9.params.toList args.toList ds p := hA0
  rw [Try.params9] at hA hval
  obtain ⟨v0, vs0, d0, ds0, p0, q0, hargs, rfl, rfl, h0, r0'⟩ := trodAll_cons hA
  obtain ⟨rfl, rfl, rfl⟩ := trodAll_nil r0'
  obtain rfl : args = #[v0] := by cases args; simp_all
  obtain ⟨rfl, rfl⟩ := trodVars_none hV
  have k0 := h0
  have lt0 : ∀ x ∈ p0, x.block < W.heap.size := by obtain ⟨m, hm⟩ := k0; exact DataW.trod_lt m _ _ _ hm
  obtain ⟨A0, n0, c0, rfl⟩ := okWide_slice Try.underlying45 (hval 0 45 v0 rfl rfl)
  obtain ⟨fu0, hf0⟩ := h0
  obtain ⟨a0, ra0⟩ := (opensBytes).2 hf0
  clear hA0 hval0
  refine (walk W A0 n0 c0 a0 (by simpa [Value.cells] using ra0)).mono fun e W' ⟨he, bel⟩ => ?_
  subst he
  exact ⟨_, rfl, _, _, _, [], _, [], hW', trodAll_mk1 (shut_bool Try.underlying4 _), (trodAll_cons_mk (Below.trod laidOut (by kernel_rfl) (of_decide_eq_true (by kernel_rfl)) k0 bel lt0) trodAll_mk0), rfl, bel.frame _, fun h => by cases h⟩

theorem over : Rows.checkAppendsRow.holds Try.pinned (OpenSpec.ofChange Rows.checkAppendsSpec) :=
  OpenClaim.holds_of_wide 9 Try.f9 rfl rfl rfl rfl rfl rfl rfl ⟨rfl, rfl, rfl, rfl, rfl⟩ rfl rfl rfl rfl rfl (by kernel_rfl) Try.func9 (by kernel_rfl)
    (of_decide_eq_true (by kernel_rfl)) (by unfold Func.isWrapper; first | (rw [if_pos (by decide +kernel)]; kernel_rfl) | (rw [if_neg (by decide +kernel)]; exact ⟨rfl, rfl⟩))
    (fun os started H enc _ => lifted os started H enc)

theorem proved : Rows.CheckAppendsSaid :=
  over
end Go.Proofs.Ytmdomipnjlhmeab.checkAppends
