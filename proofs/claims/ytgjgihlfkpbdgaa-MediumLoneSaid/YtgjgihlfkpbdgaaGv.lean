/- Data as the machine has them; what the package-level variables of this seat hold. -/
import Derived.Test.YtgjgihlfkpbdgaaRows
namespace Go.Proofs.Ytgjgihlfkpbdgaa
inductive DV where
  | int (k : IntKind) (n : Int)
  | bool (b : Bool)
  | str (s : ByteArray)
  | nil
  | list (s : Nat) (xs : List (List DV))
  | sl (id off s n c : Nat)
  | ptr (id off : Nat)
  | fptr (cs : List DV)
  | nilp
  | agg (cs : List DV)
  | tuple (vs : List DV)
  | fn (f : FuncId) (first captured : List DV)
  | nilf
  | yld (id : Nat)
  | iface (t : TypeId) (d : DV)
  | nili
  | any
def gvD (g : Nat) : Option (List DV) := none
end Go.Proofs.Ytgjgihlfkpbdgaa
