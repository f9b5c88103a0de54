/- Unpack, along its paths. -/
import Derived.Test.YtmpmhkjfpeagkaaYb
namespace Go.Proofs.Ytmpmhkjfpeagkaa
open Go.RowKit

noncomputable section
abbrev oK (k : Nat) (cl : List DV) : Ob := ⟨k, 0, 30, cl⟩
abbrev UJ (cl : List DV) : Hp := ⟨1, [oK 1 cl], []⟩
abbrev unE (e : Nat) : Slots := mkT 45 [(2, .nil), (3, iN e)]
abbrev unR (n : Nat) : Slots := mkT 45 [(2, .sl 0 0 13 n n), (3, iN 0)]
abbrev rpE (e : Nat) : DV := .tuple [.agg zpk, .nil, iN e]
section
variable (xs ys rs qs : List (List DV)) (cl : List DV) (n m z e : Nat) (t0 t1 t2 t3 t4 t5 f0 f1 f2 f3 f4 f5 : UInt8)
abbrev PK : List DV := pkc t0 t1 t2 t3 t4 t5 f0 f1 f2 f3 f4 f5 ys
abbrev H3a : Hp := ⟨3, [oK 1 (PK ys t0 t1 t2 t3 t4 t5 f0 f1 f2 f3 f4 f5), oK 0 (PK ys t0 t1 t2 t3 t4 t5 f0 f1 f2 f3 f4 f5), oK 0 (PK ys t0 t1 t2 t3 t4 t5 f0 f1 f2 f3 f4 f5)], []⟩
abbrev H3b : Hp := ⟨3, [oK 0 (PK ys t0 t1 t2 t3 t4 t5 f0 f1 f2 f3 f4 f5), oK 0 (PK ys t0 t1 t2 t3 t4 t5 f0 f1 f2 f3 f4 f5), oK 1 cl], []⟩
abbrev H4b : Hp := ⟨4, [oK 3 (cl ++ PK ys t0 t1 t2 t3 t4 t5 f0 f1 f2 f3 f4 f5), oK 0 (PK ys t0 t1 t2 t3 t4 t5 f0 f1 f2 f3 f4 f5), oK 0 (PK ys t0 t1 t2 t3 t4 t5 f0 f1 f2 f3 f4 f5), oK 2 cl], []⟩
abbrev rpT : DV := .tuple [.agg (PK ys t0 t1 t2 t3 t4 t5 f0 f1 f2 f3 f4 f5), .list 1 rs, iN 0]
abbrev nxA (H : Hp) (t : List Prop) : List Prop := (((rs.length : Int) == 0) = false) :: (DV.int .i64 (IntKind.i64.wrap ((xs.length : Int) - (rs.length : Int))) = iN m) :: wrM m z :: (cUk fRz [.list 1 rs, iN z] H = some (.tuple [.list 1 qs, iN 0], H, none)) :: t
abbrev nxE (H : Hp) : List Prop := (((rs.length : Int) == 0) = false) :: (DV.int .i64 (IntKind.i64.wrap ((xs.length : Int) - (rs.length : Int))) = iN m) :: wrM m z :: (cUk fRz [.list 1 rs, iN z] H = some (.tuple [.nil, iN e], H, none)) :: (((e : Int) != 0) = true) :: []
set_option maxRecDepth 1000000 in
theorem unAe : zgm [] [] (zsee Try.prog tab ftab cUk kUn [2, 3] unL (unS xs .nil) h00 [(16, .q (rpE e)), (21, .b true)]) = some (.ret, unE e, h00, FlatIn [] ⟨1, [oK 0 zpk], []⟩ :: (cUk fRp [.list 1 xs] h00 = some (rpE e, h00, none)) :: (((e : Int) != 0) = true) :: []) := by kernel_rfl
set_option maxRecDepth 1000000 in
theorem unBe : zgm [] [] (zsee Try.prog tab ftab cUk kUn [2, 3] unL (unS xs (.sl 0 0 13 n n)) (UJ cl) [(13, .b true), (16, .q (rpE e)), (21, .b true)]) = some (.ret, unE e, h00, FlatIn [] ⟨2, [oK 0 zpk, oK 1 cl], []⟩ :: (decide ((n : Int) < 32) = true) :: (cUk fRp [.list 1 xs] (UJ cl) = some (rpE e, UJ cl, none)) :: (((e : Int) != 0) = true) :: []) := by kernel_rfl
set_option maxRecDepth 1000000 in
theorem unX : zgm [] [] (zsee Try.prog tab ftab cUk kUn [] unL (unS xs (.sl 0 0 13 n n)) (UJ cl) [(13, .b false)]) = some (.exit 0, mkT 45 [], h00, FlatIn [] (UJ cl) :: (decide ((n : Int) < 32) = false) :: []) := by kernel_rfl
set_option maxRecDepth 1000000 in
theorem unAr : zgm [2] [2] (zsee Try.prog tab ftab cUk kUn [2, 3] unL (unS xs .nil) h00 [(16, .q (rpT ys rs t0 t1 t2 t3 t4 t5 f0 f1 f2 f3 f4 f5)), (29, .b true)]) = some (.ret, unR 1, UJ (PK ys t0 t1 t2 t3 t4 t5 f0 f1 f2 f3 f4 f5), FlatIn [2] (H3a ys t0 t1 t2 t3 t4 t5 f0 f1 f2 f3 f4 f5) :: (cUk fRp [.list 1 xs] h00 = some (rpT ys rs t0 t1 t2 t3 t4 t5 f0 f1 f2 f3 f4 f5, h00, none)) :: (((rs.length : Int) == 0) = true) :: []) := by kernel_rfl
set_option maxRecDepth 1000000 in
theorem unAn : zgm [2] [2] (zsee Try.prog tab ftab cUk kUn [0, 4] unL (unS xs .nil) h00 [(16, .q (rpT ys rs t0 t1 t2 t3 t4 t5 f0 f1 f2 f3 f4 f5)), (29, .b false), (37, .w (iN m)), (38, .w (iN z)), (39, .q (.tuple [.list 1 qs, iN 0]))]) = some (.normal, unS qs (.sl 0 0 13 1 1), UJ (PK ys t0 t1 t2 t3 t4 t5 f0 f1 f2 f3 f4 f5), FlatIn [2] (H3a ys t0 t1 t2 t3 t4 t5 f0 f1 f2 f3 f4 f5) :: (cUk fRp [.list 1 xs] h00 = some (rpT ys rs t0 t1 t2 t3 t4 t5 f0 f1 f2 f3 f4 f5, h00, none)) :: nxA xs rs qs m z (H3a ys t0 t1 t2 t3 t4 t5 f0 f1 f2 f3 f4 f5) []) := by kernel_rfl
set_option maxRecDepth 1000000 in
theorem unAx : zgm [] [] (zsee Try.prog tab ftab cUk kUn [2, 3] unL (unS xs .nil) h00 [(16, .q (rpT ys rs t0 t1 t2 t3 t4 t5 f0 f1 f2 f3 f4 f5)), (29, .b false), (37, .w (iN m)), (38, .w (iN z)), (39, .q (.tuple [.nil, iN e])), (43, .b true)]) = some (.ret, unE e, h00, FlatIn [] (H3a ys t0 t1 t2 t3 t4 t5 f0 f1 f2 f3 f4 f5) :: (cUk fRp [.list 1 xs] h00 = some (rpT ys rs t0 t1 t2 t3 t4 t5 f0 f1 f2 f3 f4 f5, h00, none)) :: nxE xs rs m z e (H3a ys t0 t1 t2 t3 t4 t5 f0 f1 f2 f3 f4 f5)) := by kernel_rfl
abbrev apB : Prop := builtinD tab (H3b ys cl t0 t1 t2 t3 t4 t5 f0 f1 f2 f3 f4 f5) .append [.sl 0 0 13 n n, .sl 2 0 13 1 1] tyK = some (.sl 3 0 13 (n + 1) (n + 1), H4b ys cl t0 t1 t2 t3 t4 t5 f0 f1 f2 f3 f4 f5, some 0)
abbrev unB (t : List Prop) : List Prop := (decide ((n : Int) < 32) = true) :: (cUk fRp [.list 1 xs] (UJ cl) = some (rpT ys rs t0 t1 t2 t3 t4 t5 f0 f1 f2 f3 f4 f5, UJ cl, none)) :: apB ys cl n t0 t1 t2 t3 t4 t5 f0 f1 f2 f3 f4 f5 :: t
set_option maxRecDepth 1000000 in
theorem unBr : zgm [3] [3] (zsee Try.prog tab ftab cUk kUn [2, 3] unL (unS xs (.sl 0 0 13 n n)) (UJ cl) [(13, .b true), (16, .q (rpT ys rs t0 t1 t2 t3 t4 t5 f0 f1 f2 f3 f4 f5)), (26, .h (.sl 3 0 13 (n + 1) (n + 1)) (H4b ys cl t0 t1 t2 t3 t4 t5 f0 f1 f2 f3 f4 f5) (some 0)), (29, .b true)]) = some (.ret, unR (n + 1), UJ (cl ++ PK ys t0 t1 t2 t3 t4 t5 f0 f1 f2 f3 f4 f5), FlatIn [3] (H4b ys cl t0 t1 t2 t3 t4 t5 f0 f1 f2 f3 f4 f5) :: unB xs ys rs cl n t0 t1 t2 t3 t4 t5 f0 f1 f2 f3 f4 f5 ((((rs.length : Int) == 0) = true) :: [])) := by kernel_rfl
set_option maxRecDepth 1000000 in
theorem unBn : zgm [3] [3] (zsee Try.prog tab ftab cUk kUn [0, 4] unL (unS xs (.sl 0 0 13 n n)) (UJ cl) [(13, .b true), (16, .q (rpT ys rs t0 t1 t2 t3 t4 t5 f0 f1 f2 f3 f4 f5)), (26, .h (.sl 3 0 13 (n + 1) (n + 1)) (H4b ys cl t0 t1 t2 t3 t4 t5 f0 f1 f2 f3 f4 f5) (some 0)), (29, .b false), (37, .w (iN m)), (38, .w (iN z)), (39, .q (.tuple [.list 1 qs, iN 0]))]) = some (.normal, unS qs (.sl 0 0 13 (n + 1) (n + 1)), UJ (cl ++ PK ys t0 t1 t2 t3 t4 t5 f0 f1 f2 f3 f4 f5), FlatIn [3] (H4b ys cl t0 t1 t2 t3 t4 t5 f0 f1 f2 f3 f4 f5) :: unB xs ys rs cl n t0 t1 t2 t3 t4 t5 f0 f1 f2 f3 f4 f5 (nxA xs rs qs m z (H4b ys cl t0 t1 t2 t3 t4 t5 f0 f1 f2 f3 f4 f5) [])) := by kernel_rfl
set_option maxRecDepth 1000000 in
theorem unBx : zgm [] [] (zsee Try.prog tab ftab cUk kUn [2, 3] unL (unS xs (.sl 0 0 13 n n)) (UJ cl) [(13, .b true), (16, .q (rpT ys rs t0 t1 t2 t3 t4 t5 f0 f1 f2 f3 f4 f5)), (26, .h (.sl 3 0 13 (n + 1) (n + 1)) (H4b ys cl t0 t1 t2 t3 t4 t5 f0 f1 f2 f3 f4 f5) (some 0)), (29, .b false), (37, .w (iN m)), (38, .w (iN z)), (39, .q (.tuple [.nil, iN e])), (43, .b true)]) = some (.ret, unE e, h00, FlatIn [] (H4b ys cl t0 t1 t2 t3 t4 t5 f0 f1 f2 f3 f4 f5) :: unB xs ys rs cl n t0 t1 t2 t3 t4 t5 f0 f1 f2 f3 f4 f5 (nxE xs rs m z e (H4b ys cl t0 t1 t2 t3 t4 t5 f0 f1 f2 f3 f4 f5))) := by kernel_rfl
abbrev unP (e : Ex) (sl : Slots) (hp : Hp) : List Prop := (decide ((xs.length : Int) > 2304) = false) :: (Goes Try.prog tab kUn (.loop unL) (unS xs .nil) h00 e sl hp) :: []
set_option maxRecDepth 1000000 in
theorem unF11 : zflat (zans Try.prog tab ftab cUk fUn [.list 1 xs] [(10, .b true)]) = some (.tuple [.nil, iN 11], (decide ((xs.length : Int) > 2304) = true) :: []) := by kernel_rfl
set_option maxRecDepth 1000000 in
theorem unFe : zflat (zans Try.prog tab ftab cUk fUn [.list 1 xs] [(10, .b false), (0, .l [0, 4] .ret (unE e) h00)]) = some (.tuple [.nil, iN e], unP xs .ret (unE e) h00) := by kernel_rfl
set_option maxRecDepth 1000000 in
theorem unFx : zflat (zans Try.prog tab ftab cUk fUn [.list 1 xs] [(10, .b false), (0, .l [0, 4] (.exit 0) (mkT 45 []) h00)]) = some (.tuple [.nil, iN 4], unP xs (.exit 0) (mkT 45 []) h00) := by kernel_rfl
set_option maxRecDepth 1000000 in
theorem unF0 : zans Try.prog tab ftab cUk fUn [.list 1 xs] [(10, .b false), (0, .l [0, 4] .ret (unR n) (UJ cl))] = some (.tuple [.sl 0 0 13 n n, iN 0], UJ cl, unP xs .ret (unR n) (UJ cl)) := by kernel_rfl
end
end
end Go.Proofs.Ytmpmhkjfpeagkaa
