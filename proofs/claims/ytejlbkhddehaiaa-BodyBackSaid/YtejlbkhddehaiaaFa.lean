/- join: the parts of a content are read: a contract. -/
import Derived.Test.YtejlbkhddehaiaaEz
namespace Go.Proofs.Ytejlbkhddehaiaa
open Go.RowKit

noncomputable section
abbrev fJn : FuncId := 131
abbrev kJn : List (Nat × Nat) := ksF ftab fJn
abbrev jnL : Code := loopAt (bodyOf ftab fJn) 0
abbrev jnS (zs : List (List DV)) (d : DV) : Slots := mkT 41 [(0, .list 1 zs), (5, d)]
abbrev jnE (e : Nat) : Slots := mkT 41 [(2, .nil), (3, .nil), (4, iN e)]
abbrev jnF (d : DV) (rs : List (List DV)) : Slots := mkT 41 [(2, d), (3, .list 1 rs), (4, iN 0)]
abbrev jH (cl : List DV) : Hp := ⟨1, [oB8 1 0 cl], []⟩
abbrev jH2 (cl pc : List DV) : Hp := ⟨2, [oB8 3 0 (cl ++ pc), oB8 2 0 cl], []⟩
/-- the heap and the slice while nothing, or something, has been read -/
def jX : Bool → Nat → List DV → DV × Hp
  | false, _, _ => (.nil, ⟨0, [], []⟩)
  | true, n, cl => (slN 0 n, jH cl)
def jA : Bool → Nat → Nat → List DV → List DV → DV × Hp × Mut
  | false, _, p, _, pc => (slN 0 p, jH pc, none)
  | true, _, p, cl, pc => (slN 1 p, jH2 cl pc, some 0)
def jL : Bool → List Nat
  | false => [0]
  | true => [1]
/-- what has been read then -/
def jW : Bool → List DV → List DV → List DV
  | false, _, pc => pc
  | true, cl, pc => cl ++ pc
section
variable (C : ConF)
abbrev jnQ (H : Hp) (zs r1 : List (List DV)) (c : UInt8) (n : Nat) (t : List Prop) : List Prop := (decide ((zs.length : Int) > 0) = true) :: (idxOk 0 zs.length = true) :: (nth zs ((0 : Int).toNat) = some [i8 c]) :: (DV.int .i64 (IntKind.i64.wrap (nx c)) = iN n) :: (sliceD tab H bTI (.list 1 zs) (some (.int .i64 1)) none none = some (.list 1 r1)) :: t
abbrev jnP (_zs r1 : List (List DV)) (c : UInt8) (n : Nat) (t : Yath) : Yath := (9, .b true) :: (11, .n (.fptr [i8 c])) :: (13, .w (iN n)) :: (15, .n (.list 1 r1)) :: t
set_option maxRecDepth 1000000 in
theorem jn1 (b : Bool) (zs r1 : List (List DV)) (c : UInt8) (n N : Nat) (cl : List DV) : zgm [] [] (zsee Try.prog tab ftab C kJn [2, 3, 4] jnL (jnS zs (jX b N cl).1) (jX b N cl).2 (jnP zs r1 c n [(19, .b true)])) =
    some (.ret, jnE 10, ⟨0, [], []⟩, FlatIn [] (jX b N cl).2 :: jnQ (jX b N cl).2 zs r1 c n ((decide ((n : Int) > (r1.length : Int)) = true) :: [])) := by cases b <;> kernel_rfl
abbrev jnR (b : Bool) (zs r1 ps r2 : List (List DV)) (c : UInt8) (n N p : Nat) (cl pc : List DV) (t : List Prop) : List Prop := jnQ (jX b N cl).2 zs r1 c n ((decide ((n : Int) > (r1.length : Int)) = false) :: (sliceD tab (jX b N cl).2 bTI (.list 1 r1) none (some (iN n)) none = some (.list 1 ps)) :: (builtinD tab (jX b N cl).2 .append [(jX b N cl).1, .list 1 ps] tyBB = some (jA b N p cl pc)) :: (sliceD tab (jA b N p cl pc).2.1 bTI (.list 1 r1) (some (iN n)) none none = some (.list 1 r2)) :: t)
abbrev jnY (b : Bool) (zs r1 ps r2 : List (List DV)) (c : UInt8) (n N p : Nat) (cl pc : List DV) (t : Yath) : Yath := jnP zs r1 c n ((19, .b false) :: (23, .n (.list 1 ps)) :: (24, .h (jA b N p cl pc).1 (jA b N p cl pc).2.1 (jA b N p cl pc).2.2) :: (27, .n (.list 1 r2)) :: t)
set_option maxRecDepth 1000000 in
theorem jn2 (b : Bool) (zs r1 ps r2 : List (List DV)) (c : UInt8) (n N p : Nat) (cl pc : List DV) : zgm (jL b) (jL b) (zsee Try.prog tab ftab C kJn [2, 3, 4] jnL (jnS zs (jX b N cl).1) (jX b N cl).2 (jnY b zs r1 ps r2 c n N p cl pc [(29, .b true)])) =
    some (.ret, jnF (slN 0 p) r2, jH (jW b cl pc), FlatIn (jL b) (jA b N p cl pc).2.1 :: jnR b zs r1 ps r2 c n N p cl pc ((decide ((n : Int) < 255) = true) :: [])) := by cases b <;> kernel_rfl
set_option maxRecDepth 1000000 in
theorem jn3 (b : Bool) (zs r1 ps r2 : List (List DV)) (c : UInt8) (n N p : Nat) (cl pc : List DV) : zgm (jL b) (jL b) (zsee Try.prog tab ftab C kJn [0, 5] jnL (jnS zs (jX b N cl).1) (jX b N cl).2 (jnY b zs r1 ps r2 c n N p cl pc [(29, .b false), (34, .b false)])) =
    some (.normal, jnS r2 (slN 0 p), jH (jW b cl pc), FlatIn (jL b) (jA b N p cl pc).2.1 :: jnR b zs r1 ps r2 c n N p cl pc ((decide ((n : Int) < 255) = false) :: (decide ((r2.length : Int) > 0) = false) :: [])) := by cases b <;> kernel_rfl
abbrev jnT (_H : Hp) (r2 : List (List DV)) (n : Nat) (c2 : UInt8) (t : List Prop) : List Prop := (decide ((n : Int) < 255) = false) :: (decide ((r2.length : Int) > 0) = true) :: (idxOk 0 r2.length = true) :: (nth r2 ((0 : Int).toNat) = some [i8 c2]) :: t
set_option maxRecDepth 1000000 in
theorem jn4 (b : Bool) (zs r1 ps r2 : List (List DV)) (c c2 : UInt8) (n N p : Nat) (cl pc : List DV) : zgm [] [] (zsee Try.prog tab ftab C kJn [2, 3, 4] jnL (jnS zs (jX b N cl).1) (jX b N cl).2 (jnY b zs r1 ps r2 c n N p cl pc [(29, .b false), (34, .b true), (36, .n (.fptr [i8 c2])), (38, .b true)])) =
    some (.ret, jnE 12, ⟨0, [], []⟩, FlatIn [] (jA b N p cl pc).2.1 :: jnR b zs r1 ps r2 c n N p cl pc (jnT (jA b N p cl pc).2.1 r2 n c2 (((nx c2 != 254) = true) :: []))) := by cases b <;> kernel_rfl
set_option maxRecDepth 1000000 in
theorem jn5 (b : Bool) (zs r1 ps r2 r3 : List (List DV)) (c c2 : UInt8) (n N p : Nat) (cl pc : List DV) : zgm (jL b) (jL b) (zsee Try.prog tab ftab C kJn [0, 5] jnL (jnS zs (jX b N cl).1) (jX b N cl).2 (jnY b zs r1 ps r2 c n N p cl pc [(29, .b false), (34, .b true), (36, .n (.fptr [i8 c2])), (38, .b false), (40, .n (.list 1 r3))])) =
    some (.normal, jnS r3 (slN 0 p), jH (jW b cl pc), FlatIn (jL b) (jA b N p cl pc).2.1 :: jnR b zs r1 ps r2 c n N p cl pc (jnT (jA b N p cl pc).2.1 r2 n c2 (((nx c2 != 254) = false) :: (sliceD tab (jA b N p cl pc).2.1 bTI (.list 1 r2) (some (.int .i64 1)) none none = some (.list 1 r3)) :: []))) := by cases b <;> kernel_rfl
set_option maxRecDepth 1000000 in
theorem jn6 (b : Bool) (zs r1 r2 : List (List DV)) (c : UInt8) (N : Nat) (cl : List DV) : zsee Try.prog tab ftab C kJn [2, 3, 4] jnL (jnS zs (jX b N cl).1) (jX b N cl).2 (jnP zs r1 c 0 [(19, .b false), (23, .n (.list 1 [])), (27, .n (.list 1 r2))]) =
    some (.ret, jnF (jX b N cl).1 r2, (jX b N cl).2, jnQ (jX b N cl).2 zs r1 c 0 ((decide ((0 : Int) > (r1.length : Int)) = false) :: (sliceD tab (jX b N cl).2 bTI (.list 1 r1) none (some (iN 0)) none = some (.list 1 [])) :: (sliceD tab (jX b N cl).2 bTI (.list 1 r1) (some (iN 0)) none none = some (.list 1 r2)) :: [])) := by cases b <;> kernel_rfl
set_option maxRecDepth 1000000 in
theorem jnO (b : Bool) (zs : List (List DV)) (N : Nat) (cl : List DV) : zgm [] [] (zsee Try.prog tab ftab C kJn [] jnL (jnS zs (jX b N cl).1) (jX b N cl).2 [(9, .b false)]) = some (.exit 0, mkT 41 [], ⟨0, [], []⟩, FlatIn [] (jX b N cl).2 :: (decide ((zs.length : Int) > 0) = false) :: []) := by cases b <;> kernel_rfl
set_option maxRecDepth 1000000 in
theorem jnG (b : Bool) (zs rs : List (List DV)) (N : Nat) (cl : List DV) : zans Try.prog tab ftab C fJn [.list 1 zs] [(0, .l [0, 5] .ret (jnF (jX b N cl).1 rs) (jX b N cl).2)] = some (.tuple [(jX b N cl).1, .list 1 rs, iN 0], (jX b N cl).2, (Goes Try.prog tab kJn (.loop jnL) (jnS zs .nil) ⟨0, [], []⟩ .ret (jnF (jX b N cl).1 rs) (jX b N cl).2) :: []) := by cases b <;> kernel_rfl
set_option maxRecDepth 1000000 in
theorem jnG2 (zs : List (List DV)) (e : Nat) : zflat (zans Try.prog tab ftab C fJn [.list 1 zs] [(0, .l [0, 5] .ret (jnE e) ⟨0, [], []⟩)]) = some (.tuple [.nil, .nil, iN e], (Goes Try.prog tab kJn (.loop jnL) (jnS zs .nil) ⟨0, [], []⟩ .ret (jnE e) ⟨0, [], []⟩) :: []) := by kernel_rfl
set_option maxRecDepth 1000000 in
theorem jnG3 (zs : List (List DV)) : zflat (zans Try.prog tab ftab C fJn [.list 1 zs] [(0, .l [0, 5] (.exit 0) (mkT 41 []) ⟨0, [], []⟩)]) = some (.tuple [.nil, .nil, iN 10], (Goes Try.prog tab kJn (.loop jnL) (jnS zs .nil) ⟨0, [], []⟩ (.exit 0) (mkT 41 []) ⟨0, [], []⟩) :: []) := by kernel_rfl
end
end
end Go.Proofs.Ytejlbkhddehaiaa
