/- Data as the machine has them; what the package-level variables of this seat hold. -/
import Derived.Test.YtlenidhjjganeaaDoorRows
namespace Go.Proofs.YtlenidhjjganeaaDoor
inductive DV where
  | int (k : IntKind) (n : Int)
  | bool (b : Bool)
  | str (s : ByteArray)
  | nil
  | list (s : Nat) (xs : List (List DV))
  | sl (id off s n c : Nat)
  | ptr (id off : Nat)
  | fptr (cs : List DV)
  | nilp
  | agg (cs : List DV)
  | tuple (vs : List DV)
  | fn (f : FuncId) (first captured : List DV)
  | nilf
  | yld (id : Nat)
  | iface (t : TypeId) (d : DV)
  | nili
  | any
def gv0 : List DV := [.int .i64 (24), .int .i64 (-820), .bool true, .int .i64 (36), .int .i64 (-808), .bool false, .int .i64 (48), .int .i64 (-788), .bool true, .int .i64 (72), .int .i64 (-768), .bool false, .int .i64 (100), .int .i64 (-738), .bool true, .int .i64 (148), .int .i64 (-702), .bool false, .int .i64 (196), .int .i64 (-664), .bool false, .int .i64 (220), .int .i64 (-652), .bool false, .int .i64 (264), .int .i64 (-640), .bool false, .int .i64 (316), .int .i64 (-590), .bool false, .int .i64 (396), .int .i64 (-568), .bool false, .int .i64 (476), .int .i64 (-538), .bool false]
def gvD (g : Nat) : Option (List DV) := match Nat.beq g 0 with
  | true => some gv0
  | false => none
end Go.Proofs.YtlenidhjjganeaaDoor
