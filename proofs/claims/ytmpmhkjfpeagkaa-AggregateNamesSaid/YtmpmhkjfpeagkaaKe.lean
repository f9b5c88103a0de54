/- Join, along its paths. -/
import Derived.Test.YtmpmhkjfpeagkaaKd
namespace Go.Proofs.Ytmpmhkjfpeagkaa
open Go.RowKit

noncomputable section
abbrev fWr : FuncId := 32
abbrev fJ1 : FuncId := 33
abbrev kWr : List (Nat × Nat) := ksF ftab fWr
abbrev wrL : Code := loopAt (bodyOf ftab fWr) 0
abbrev tyZ : List TypeId := [22, 3]
abbrev fnJ : DV := .fn fJ1 [] []
abbrev wrS (xs : List (List DV)) (d : DV) (N k : Nat) : Slots := mkT 50 [(2, iN 65535), (3, fnJ), (10, d), (23, .list 1 xs), (24, iN N), (25, iN k)]
abbrev wrV : List Nat := [2, 3, 10, 23, 24, 25]
abbrev J0 (cl : List DV) : Hp := ⟨1, [oR 1 cl], []⟩
abbrev dl (c0 c1 q : UInt8) : List DV := [i8 c0, i8 c1, i8 q, .int .u8 78]
abbrev oD (c0 c1 q : UInt8) : Ob := ⟨0, 0, 57, dl c0 c1 q⟩
abbrev oZ4 : Ob := ⟨0, 0, 57, [.int .u8 0, .int .u8 0, .int .u8 0, .int .u8 0]⟩
abbrev wrA (xs ys : List (List DV)) (N k : Nat) (t : List Prop) : List Prop := (decide ((k : Int) < (N : Int)) = true) :: (idxOk (k : Int) xs.length = true) :: (nth xs ((k : Int).toNat) = some [.list 1 ys]) :: t
abbrev wrD (ys : List (List DV)) (c0 c1 : UInt8) (t : List Prop) : List Prop := (((ys.length : Int) == 0) = false) :: (decide ((ys.length : Int) > 2400) = false) :: (DV.int .u8 (IntKind.u8.wrap (ys.length : Int)) = i8 c0) :: (DV.int .u8 (IntKind.u8.wrap (shrD .i64 (ys.length : Int) 8)) = i8 c1) :: t
abbrev wrP (c0 c1 q : UInt8) (t : Yath) : YE := .c ((10, .b false) :: (14, .b false) :: (17, .w (i8 c0)) :: (21, .w (i8 c1)) :: (22, .c [(10, .q (i8 q))]) :: t)
abbrev wrK (k : Nat) : Prop := DV.int .i64 (IntKind.i64.wrap ((k : Int) + 1)) = iN (k + 1)
abbrev wrM (n z : Nat) : Prop := DV.int .i64 (Int.tmod (IntKind.i64.wrap (4 - Int.tmod (n : Int) 4)) 4) = iN z
-- the first round
abbrev hA1 (c0 c1 : UInt8) : Hp := ⟨2, [oR 0 [i8 c0, i8 c1], oZ4], []⟩
abbrev hA2 (c0 c1 q : UInt8) : Hp := ⟨2, [oR 1 (dl c0 c1 q), oD c0 c1 q], []⟩
abbrev hA3 (c0 c1 q : UInt8) (tl : List DV) : Hp := ⟨3, [⟨3, 1, 5, dl c0 c1 q ++ tl⟩, oR 2 (dl c0 c1 q), oD c0 c1 q], []⟩
set_option maxRecDepth 1000000 in
theorem wr1 (xs ys : List (List DV)) (N k m : Nat) (c0 c1 q : UInt8) (tl : List DV) : zgc [2] (zsee Try.prog tab ftab cC8 kWr wrV wrL (wrS xs .nil N k) h00 [(26, .b true), (27, .n (.fptr [.list 1 ys])), (38, wrP c0 c1 q [(27, .h (.sl 2 0 1 m m) (hA3 c0 c1 q tl) (some 1))]), (44, .w (iN (k + 1)))]) =
    some (.normal, wrS xs (.sl 0 0 1 m m) N (k + 1), J0 (dl c0 c1 q ++ tl), Plain (hA3 c0 c1 q tl) :: wrA xs ys N k (wrD ys c0 c1 ((cC8 fC8 [.sl 1 0 1 2 2] (hA1 c0 c1) = some (i8 q, hA1 c0 c1, none)) :: (builtinD tab (hA2 c0 c1 q) .append [.sl 1 0 1 4 4, .list 1 ys] tyBB = some (.sl 2 0 1 m m, hA3 c0 c1 q tl, some 1)) :: wrK k :: []))) := by kernel_rfl
-- a later round, no zeros
abbrev hB1 (cl : List DV) (c0 c1 : UInt8) : Hp := ⟨3, [oR 0 [i8 c0, i8 c1], oZ4, oR 1 cl], []⟩
abbrev hB2 (cl : List DV) (c0 c1 q : UInt8) : Hp := ⟨2, [oD c0 c1 q, oR 1 cl], []⟩
abbrev hB3 (cl : List DV) (c0 c1 q : UInt8) : Hp := ⟨3, [oR 3 (cl ++ dl c0 c1 q), oD c0 c1 q, oR 2 cl], []⟩
abbrev hB4 (cl : List DV) (c0 c1 q : UInt8) (tl : List DV) : Hp := ⟨4, [oR 3 ((cl ++ dl c0 c1 q) ++ tl), oR 2 (cl ++ dl c0 c1 q), oD c0 c1 q, oR 2 cl], []⟩
set_option maxRecDepth 1000000 in
theorem wr2 (xs ys : List (List DV)) (N k n m : Nat) (c0 c1 q : UInt8) (cl tl : List DV) : zgc [3] (zsee Try.prog tab ftab cC8 kWr wrV wrL (wrS xs (.sl 0 0 1 n n) N k) (J0 cl) [(26, .b true), (27, .n (.fptr [.list 1 ys])), (32, .w (iN 0)), (38, wrP c0 c1 q [(25, .h (.sl 2 0 1 (n + 4) (n + 4)) (hB3 cl c0 c1 q) (some 0)), (27, .h (.sl 3 0 1 m m) (hB4 cl c0 c1 q tl) (some 0))]), (44, .w (iN (k + 1)))]) =
    some (.normal, wrS xs (.sl 0 0 1 m m) N (k + 1), J0 ((cl ++ dl c0 c1 q) ++ tl), Plain (hB4 cl c0 c1 q tl) :: wrA xs ys N k (wrM n 0 :: wrD ys c0 c1 ((cC8 fC8 [.sl 2 0 1 2 2] (hB1 cl c0 c1) = some (i8 q, hB1 cl c0 c1, none)) :: (builtinD tab (hB2 cl c0 c1 q) .append [.sl 0 0 1 n n, .sl 1 0 1 4 4] tyBB = some (.sl 2 0 1 (n + 4) (n + 4), hB3 cl c0 c1 q, some 0)) :: (builtinD tab (hB3 cl c0 c1 q) .append [.sl 2 0 1 (n + 4) (n + 4), .list 1 ys] tyBB = some (.sl 3 0 1 m m, hB4 cl c0 c1 q tl, some 0)) :: wrK k :: []))) := by kernel_rfl
-- a later round, zeros
abbrev hC0 (cl zl : List DV) : Hp := ⟨2, [oR 3 (cl ++ zl), oR 2 cl], []⟩
abbrev hC1 (cl zl : List DV) (c0 c1 : UInt8) : Hp := ⟨4, [oR 0 [i8 c0, i8 c1], oZ4, oR 3 (cl ++ zl), oR 2 cl], []⟩
abbrev hC2 (cl zl : List DV) (c0 c1 q : UInt8) : Hp := ⟨3, [oD c0 c1 q, oR 3 (cl ++ zl), oR 2 cl], []⟩
abbrev hC3 (cl zl : List DV) (c0 c1 q : UInt8) : Hp := ⟨4, [oR 3 ((cl ++ zl) ++ dl c0 c1 q), oD c0 c1 q, oR 2 (cl ++ zl), oR 2 cl], []⟩
abbrev hC4 (cl zl : List DV) (c0 c1 q : UInt8) (tl : List DV) : Hp := ⟨5, [oR 3 (((cl ++ zl) ++ dl c0 c1 q) ++ tl), oR 2 ((cl ++ zl) ++ dl c0 c1 q), oD c0 c1 q, oR 2 (cl ++ zl), oR 2 cl], []⟩
set_option maxRecDepth 1000000 in
theorem wr3 (xs ys : List (List DV)) (N k n z p m : Nat) (c0 c1 q : UInt8) (cl zl tl : List DV) : zgc [4] (zsee Try.prog tab ftab cC8 kWr wrV wrL (wrS xs (.sl 0 0 1 n n) N k) (J0 cl) [(26, .b true), (27, .n (.fptr [.list 1 ys])), (32, .w (iN z)), (33, .h (.sl 1 0 1 p p) (hC0 cl zl) (some 0)), (38, wrP c0 c1 q [(25, .h (.sl 3 0 1 (p + 4) (p + 4)) (hC3 cl zl c0 c1 q) (some 0)), (27, .h (.sl 4 0 1 m m) (hC4 cl zl c0 c1 q tl) (some 0))]), (44, .w (iN (k + 1)))]) =
    some (.normal, wrS xs (.sl 0 0 1 m m) N (k + 1), J0 (((cl ++ zl) ++ dl c0 c1 q) ++ tl), Plain (hC4 cl zl c0 c1 q tl) :: wrA xs ys N k (wrM n z :: (builtinD tab (J0 cl) .append [.sl 0 0 1 n n, iN z] tyZ = some (.sl 1 0 1 p p, hC0 cl zl, some 0)) :: wrD ys c0 c1 ((cC8 fC8 [.sl 3 0 1 2 2] (hC1 cl zl c0 c1) = some (i8 q, hC1 cl zl c0 c1, none)) :: (builtinD tab (hC2 cl zl c0 c1 q) .append [.sl 1 0 1 p p, .sl 2 0 1 4 4] tyBB = some (.sl 3 0 1 (p + 4) (p + 4), hC3 cl zl c0 c1 q, some 0)) :: (builtinD tab (hC3 cl zl c0 c1 q) .append [.sl 3 0 1 (p + 4) (p + 4), .list 1 ys] tyBB = some (.sl 4 0 1 m m, hC4 cl zl c0 c1 q tl, some 0)) :: wrK k :: []))) := by kernel_rfl
-- errors, and the way out
abbrev wrF (e : Nat) : Slots := mkT 50 [(8, .nil), (9, iN e)]
set_option maxRecDepth 1000000 in
theorem wrN8 (xs : List (List DV)) (N k : Nat) : zsee Try.prog tab ftab cC8 kWr [8, 9] wrL (wrS xs .nil N k) h00 [(26, .b true), (27, .n (.fptr [.list 1 []])), (38, .c [])] = some (.ret, wrF 8, h00, wrA xs [] N k []) := by kernel_rfl
set_option maxRecDepth 1000000 in
theorem wrN11 (xs ys : List (List DV)) (N k : Nat) : zsee Try.prog tab ftab cC8 kWr [8, 9] wrL (wrS xs .nil N k) h00 [(26, .b true), (27, .n (.fptr [.list 1 ys])), (38, .c [(10, .b false), (14, .b true)])] = some (.ret, wrF 11, h00, wrA xs ys N k ((((ys.length : Int) == 0) = false) :: (decide ((ys.length : Int) > 2400) = true) :: [])) := by kernel_rfl
set_option maxRecDepth 1000000 in
theorem wrE8 (xs : List (List DV)) (d' : DV) (h h' : Hp) (mm : Mut) (N k n z : Nat) : zsee Try.prog tab ftab cC8 kWr [8, 9] wrL (wrS xs (.sl 0 0 1 n n) N k) h [(26, .b true), (27, .n (.fptr [.list 1 []])), (32, .w (iN z)), (33, .h d' h' mm), (38, .c [])] = some (.ret, wrF 8, h', wrA xs [] N k (wrM n z :: (builtinD tab h .append [.sl 0 0 1 n n, iN z] tyZ = some (d', h', mm)) :: [])) := by kernel_rfl
set_option maxRecDepth 1000000 in
theorem wrE11 (xs ys : List (List DV)) (d' : DV) (h h' : Hp) (mm : Mut) (N k n z : Nat) : zsee Try.prog tab ftab cC8 kWr [8, 9] wrL (wrS xs (.sl 0 0 1 n n) N k) h [(26, .b true), (27, .n (.fptr [.list 1 ys])), (32, .w (iN z)), (33, .h d' h' mm), (38, .c [(10, .b false), (14, .b true)])] = some (.ret, wrF 11, h', wrA xs ys N k (wrM n z :: (builtinD tab h .append [.sl 0 0 1 n n, iN z] tyZ = some (d', h', mm)) :: (((ys.length : Int) == 0) = false) :: (decide ((ys.length : Int) > 2400) = true) :: [])) := by kernel_rfl
abbrev wrG (d : DV) : Slots := mkT 50 [(2, iN 65535), (10, d)]
set_option maxRecDepth 1000000 in
theorem wrO (xs : List (List DV)) (n : Nat) (h : Hp) (N k : Nat) : zsee Try.prog tab ftab cC8 kWr [2, 10] wrL (wrS xs (.sl 0 0 1 n n) N k) h [(26, .b false)] = some (.exit 1, wrG (.sl 0 0 1 n n), h, (decide ((k : Int) < (N : Int)) = false) :: []) := by kernel_rfl
abbrev wrg (xs : List (List DV)) : List DV := [.list 1 xs, iN 64, iN 65535, fnJ]
set_option maxRecDepth 1000000 in
theorem wrR6 : zflat (zans Try.prog tab ftab cC8 fWr (wrg []) []) = some (.tuple [.nil, iN 6], []) := by kernel_rfl
set_option maxRecDepth 1000000 in
theorem wrR4 (xs : List (List DV)) : zflat (zans Try.prog tab ftab cC8 fWr (wrg xs) [(17, .b false), (22, .b true)]) = some (.tuple [.nil, iN 4], (((xs.length : Int) == 0) = false) :: (decide ((xs.length : Int) > 64) = true) :: []) := by kernel_rfl
abbrev wrB (xs : List (List DV)) (e : Ex) (sl : Slots) (hp : Hp) (t : List Prop) : List Prop := (((xs.length : Int) == 0) = false) :: (decide ((xs.length : Int) > 64) = false) :: (Goes Try.prog tab kWr (.loop wrL) (wrS xs .nil xs.length 0) h00 e sl hp) :: t
set_option maxRecDepth 1000000 in
theorem wrRE (xs : List (List DV)) (e : Nat) (h : Hp) : zans Try.prog tab ftab cC8 fWr (wrg xs) [(17, .b false), (22, .b false), (0, .l wrV .ret (wrF e) h)] = some (.tuple [.nil, iN e], h, wrB xs .ret (wrF e) h []) := by kernel_rfl
set_option maxRecDepth 1000000 in
theorem wrR11 (xs : List (List DV)) (n : Nat) (cl : List DV) : zflat (zans Try.prog tab ftab cC8 fWr (wrg xs) [(17, .b false), (22, .b false), (0, .l wrV (.exit 1) (wrG (.sl 0 0 1 n n)) (J0 cl)), (48, .b true)]) = some (.tuple [.nil, iN 11], wrB xs (.exit 1) (wrG (.sl 0 0 1 n n)) (J0 cl) ((decide ((n : Int) > 65535) = true) :: [])) := by kernel_rfl
set_option maxRecDepth 1000000 in
theorem wrR0 (xs : List (List DV)) (n : Nat) (cl : List DV) : zans Try.prog tab ftab cC8 fWr (wrg xs) [(17, .b false), (22, .b false), (0, .l wrV (.exit 1) (wrG (.sl 0 0 1 n n)) (J0 cl)), (48, .b false)] = some (.tuple [.sl 0 0 1 n n, iN 0], J0 cl, wrB xs (.exit 1) (wrG (.sl 0 0 1 n n)) (J0 cl) ((decide ((n : Int) > 65535) = false) :: [])) := by kernel_rfl
end
end Go.Proofs.Ytmpmhkjfpeagkaa
