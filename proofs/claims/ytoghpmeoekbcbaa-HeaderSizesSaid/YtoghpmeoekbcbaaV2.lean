/- Operations on abstract data with a heap of objects, as a function. No function of the program is named here. -/
import Derived.Test.YtoghpmeoekbcbaaV1
namespace Go.Proofs.Ytoghpmeoekbcbaa
open Go.RowKit
noncomputable section

inductive TD where
  | int (k : IntKind)
  | bool
  | str
  | slice (e : Nat)
  | array (n e : Nat)
  | struct (fs : List (Nat × Nat × Nat))
  | ptr (e : Nat)
  | fn
  | iface
  | other
structure TI where
  td : TD
  size : Nat
  bytes : Nat
  zero : List DV
  cmp : Bool
abbrev Tab := Nat → Option TI

def tdOk (P : Program) : TD → TypeDesc → Prop
  | .int k, .int k' => k = k'
  | .bool, .bool => True
  | .str, .string => True
  | .slice e, .slice e' => e = e'
  | .array n e, .array n' e' => n = n' ∧ e = e'
  | .struct fs, .struct gs => fs.length = gs.size ∧ ∀ (j t off sz : Nat), fs[j]? = some (t, off, sz) → ∃ f, gs[j]? = some f ∧ f.type = t ∧ f.offset = off ∧ P.cellsOf t = sz ∧ 0 < sz ∧ f.name ≠ "_"
  | .ptr e, .pointer e' => e = e'
  | .fn, .func _ _ _ => True
  | .iface, .interface _ => True
  | .other, .struct _ => False
  | .other, .array _ _ => False
  | .other, _ => True
  | _, _ => False
def TiOk (P : Program) (t : Nat) (i : TI) : Prop :=
  ∃ info d, P.info? t = some info ∧ P.underlying t = some d ∧ info.size = i.size ∧ info.bytes = i.bytes ∧ tdOk P i.td d ∧ (∀ ds, i.zero = ds → ds ≠ [] → ∃ z, info.zero = some z ∧ z.cells.size = i.size ∧ scals ds = true ∧ ∀ E w, VRs E w ds z.cells.toList) ∧
    (i.cmp = true → P.eqGuardType P.depth t = false ∧ P.stoodInHeld t = false)
def TabOk (P : Program) (T : Tab) : Prop := ∀ t i, T t = some i → TiOk P t i

/-- the cells of a datum -/
def cellsD : DV → Option (List DV)
  | .agg cs => match scals cs with
    | true => some cs
    | false => none
  | d => match scal d with
    | true => some [d]
    | false => none
def cv1 : Value → Option DV
  | .int k n => some (.int k n)
  | .bool b => some (.bool b)
  | .string s => some (.str s)
  | .slice none 0 0 => some .nil
  | .pointer none => some .nilp
  | .nilFunc => some .nilf
  | .nilIface => some .nili
  | _ => none
def cvs : List Value → Option (List DV)
  | [] => some []
  | v :: r => match cv1 v, cvs r with
    | some d, some ds => some (d :: ds)
    | _, _ => none
def cv : Value → Option DV
  | .agg cs => match cvs cs.toList with
    | some ds => some (.agg ds)
    | none => none
  | v => cv1 v
def ev (sl : Slots) : Operand → Option DV
  | .tmp t => look sl t
  | .const v => cv v
  | .func f => some (.fn f [] [])
  | _ => none
def evs1 (d : Option DV) (r : Option (List DV)) : Option (List DV) := match d, r with
  | some d, some ds => some (d :: ds)
  | _, _ => none
def evs (sl : Slots) (l : List Operand) : Option (List DV) := List.rec (motive := fun _ => Option (List DV)) (some []) (fun x _ ih => evs1 (ev sl x) ih) l
theorem evs_cons (sl : Slots) (x : Operand) (r : List Operand) : evs sl (x :: r) = evs1 (ev sl x) (evs sl r) := rfl
def evP1 (i : Nat) (d : Option DV) (r : Option (List (Nat × DV))) : Option (List (Nat × DV)) := match d, r with
  | some d, some ds => some ((i, d) :: ds)
  | _, _ => none
def evParts (sl : Slots) (l : List (Nat × Operand)) : Option (List (Nat × DV)) := List.rec (motive := fun _ => Option (List (Nat × DV))) (some []) (fun x _ ih => evP1 x.1 (ev sl x.2) ih) l
theorem evParts_cons (sl : Slots) (x : Nat × Operand) (r : List (Nat × Operand)) : evParts sl (x :: r) = evP1 x.1 (ev sl x.2) (evParts sl r) := rfl

/-! ### Values -/
def guardO (b : Bool) (d : DV) : Option DV := match b with
  | true => some d
  | false => none
def ar (k : IntKind) (n : Int) : DV := .int k (k.wrap n)
def bitD (op : BinOp) (k : IntKind) (a b : Int) : Int :=
  match op with
  | .and => k.wrap (BitVec.ofInt k.bits a &&& BitVec.ofInt k.bits b).toNat
  | .or => k.wrap (BitVec.ofInt k.bits a ||| BitVec.ofInt k.bits b).toNat
  | .xor => k.wrap (BitVec.ofInt k.bits a ^^^ BitVec.ofInt k.bits b).toNat
  | _ => k.wrap (BitVec.ofInt k.bits a &&& ~~~ BitVec.ofInt k.bits b).toNat
def shlD (k : IntKind) (a b : Int) : Int := k.wrap (a * 2 ^ (min b.toNat k.bits))
def shrD (k : IntKind) (a b : Int) : Int := a.fdiv (2 ^ (min b.toNat k.bits))
def quoD (k : IntKind) (a b : Int) : Int := k.wrap (a.tdiv b)
def binI (op : BinOp) (k : IntKind) (a b : Int) : Option DV :=
  match op with
  | .add => some (ar k (a + b))
  | .sub => some (ar k (a - b))
  | .mul => some (ar k (a * b))
  | .quo => guardO (b != 0) (.int k (quoD k a b))
  | .rem => guardO (b != 0) (.int k (a.tmod b))
  | .and => some (.int k (bitD .and k a b))
  | .or => some (.int k (bitD .or k a b))
  | .xor => some (.int k (bitD .xor k a b))
  | .andNot => some (.int k (bitD .andNot k a b))
  | .eql => some (.bool (a == b))
  | .neq => some (.bool (a != b))
  | .lss => some (.bool (decide (a < b)))
  | .leq => some (.bool (decide (a ≤ b)))
  | .gtr => some (.bool (decide (a > b)))
  | .geq => some (.bool (decide (a ≥ b)))
  | _ => none
def catS (a b : ByteArray) : ByteArray := ⟨(a.data.toList ++ b.data.toList).toArray⟩
def eqBytes : List UInt8 → List UInt8 → Bool
  | [], [] => true
  | a :: l, b :: m => match Nat.beq a.toNat b.toNat with
    | true => eqBytes l m
    | false => false
  | _, _ => false
def ltBytes : List UInt8 → List UInt8 → Bool
  | [], [] => false
  | [], _ :: _ => true
  | _ :: _, [] => false
  | a :: l, b :: m => match Nat.blt a.toNat b.toNat with
    | true => true
    | false => match Nat.beq a.toNat b.toNat with
      | true => ltBytes l m
      | false => false
def lenB (a : ByteArray) : Nat := a.data.toList.length
def binS (op : BinOp) (a b : ByteArray) : Option DV :=
  match op with
  | .add => guardO (Nat.ble (lenB a + lenB b) 9223372036854775807) (.str (catS a b))
  | .eql => some (.bool (eqBytes a.data.toList b.data.toList))
  | .neq => some (.bool (!(eqBytes a.data.toList b.data.toList)))
  | .lss => some (.bool (ltBytes a.data.toList b.data.toList))
  | .gtr => some (.bool (!(ltBytes a.data.toList b.data.toList || eqBytes a.data.toList b.data.toList)))
  | _ => none
def isShift : BinOp → Bool
  | .shl | .shr => true
  | _ => false
def isAggT (i : TI) : Bool :=
  match i.td with
  | .array _ _ | .struct _ => true
  | _ => false
def partD (i : TI) (cs : List DV) (off : Nat) : Option DV :=
  match isAggT i with
  | true => match Nat.ble (off + i.size) cs.length with
    | true => some (.agg ((cs.drop off).take i.size))
    | false => none
  | false => nth cs off
def andO : Option Bool → Option Bool → Option Bool
  | some a, some b => some (a && b)
  | _, _ => none
theorem andO_ok {x y : Option Bool} {b : Bool} (h : andO x y = some b) : ∃ c d, x = some c ∧ y = some d ∧ b = (c && d) := by
  unfold andO at h
  split at h
  · cases h; exact ⟨_, _, rfl, rfl, rfl⟩
  · cases h
def eqItems (T : Tab) (q : TypeId → DV → DV → Option Bool) (e : TypeId) (sz : Nat) (i : TI) (xs ys : List DV) : List Nat → Option Bool
  | [] => some true
  | j :: l => match partD i xs (j * sz), partD i ys (j * sz) with
    | some a, some b => andO (q e a b) (eqItems T q e sz i xs ys l)
    | _, _ => none
def eqFields (T : Tab) (q : TypeId → DV → DV → Option Bool) (xs ys : List DV) : List (Nat × Nat × Nat) → Option Bool
  | [] => some true
  | (t, off, _) :: l => match T t with
    | none => none
    | some i => match partD i xs off, partD i ys off with
      | some a, some b => andO (q t a b) (eqFields T q xs ys l)
      | _, _ => none
/-- equality of two data of one type -/
def eqD (T : Tab) : Nat → TypeId → DV → DV → Option Bool
  | 0, _, _, _ => none
  | f + 1, t, x, y => match T t with
    | none => none
    | some i => match i.td, x, y with
      | .int _, .int k a, .int k' b => if k = k' then some (a == b) else none
      | .bool, .bool a, .bool b => some (a == b)
      | .str, .str a, .str b => some (eqBytes a.data.toList b.data.toList)
      | .array n e, .agg xs, .agg ys => match T e with
        | some j => eqItems T (eqD T f) e j.size j xs ys (List.range' 0 n)
        | none => none
      | .struct fs, .agg xs, .agg ys => match i.cmp with
        | true => eqFields T (eqD T f) xs ys fs
        | false => none
      | _, _, _ => none
def boolOp (op : BinOp) (b : Option Bool) : Option DV :=
  match op, b with
  | .eql, some b => some (.bool b)
  | .neq, some b => some (.bool (!b))
  | _, _ => none
def orB (a b : Option Bool) : Option Bool := match a with
  | some x => some x
  | none => b
/-- comparisons with nil -/
def eqNil (i : TI) (x y : DV) : Option Bool := match i.td, x, y with
  | .slice _, .nil, .nil => some true
  | .slice _, .nil, .sl _ _ _ _ _ => some false
  | .slice _, .sl _ _ _ _ _, .nil => some false
  | .ptr _, .nilp, .nilp => some true
  | .ptr _, .nilp, .ptr _ _ => some false
  | .ptr _, .ptr _ _, .nilp => some false
  | .ptr _, .nilp, .fptr _ => some false
  | .ptr _, .fptr _, .nilp => some false
  | .fn, .nilf, .nilf => some true
  | .fn, .nilf, .fn _ _ _ => some false
  | .fn, .fn _ _ _, .nilf => some false
  | _, _, _ => none
def binD (T : Tab) (op : BinOp) (t : TypeId) (x y : DV) : Option DV := match x, y with
  | .int k a, .int k' b => match isShift op with
    | true => guardO (decide (0 ≤ b)) (.int k (match op with | .shl => shlD k a b | _ => shrD k a b))
    | false => if k = k' then binI op k a b else none
  | .str a, .str b => binS op a b
  | x, y => match T t with
    | some i => match i.cmp with
      | true => boolOp op (orB (eqNil i x y) (eqD T 20 t x y))
      | false => none
    | none => none
def unD (op : UnOp) : DV → Option DV
  | .bool b => match op with
    | .not => some (.bool (!b))
    | _ => none
  | .int k n => match op with
    | .neg => some (ar k (0 - n))
    | .xor => some (.int k (bitD .xor k (match k.signed with | true => -1 | false => k.max) n))
    | _ => none
  | _ => none
def fieldOf (i : TI) (f : Nat) : Option (Nat × Nat × Nat) :=
  match i.td with
  | .struct fs => fs[f]?
  | _ => none
/-- parts of an aggregate laid over its zero -/
def fillD (pl : Nat → Option (Nat × Nat)) : List DV → List (Nat × DV) → Option (List DV)
  | cells, [] => some cells
  | cells, (i, d) :: r => match pl i, cellsD d with
    | some (off, sz), some cs => match Nat.beq cs.length sz && Nat.ble (off + sz) cells.length with
      | true => fillD pl (cells.take off ++ cs ++ cells.drop (off + sz)) r
      | false => none
    | _, _ => none
def plF (fs : List (Nat × Nat × Nat)) (i : Nat) : Option (Nat × Nat) := match fs[i]? with
  | some (_, off, sz) => some (off, sz)
  | none => none
def plA (sz i : Nat) : Option (Nat × Nat) := some (i * sz, sz)
def layD (old : List DV) (off : Nat) (cs : List DV) : List DV := old.take off ++ cs ++ old.drop (off + cs.length)

/-! ### The heap -/
abbrev R := Option (DV × Hp × Mut)
def keep (hp : Hp) (d : Option DV) : R := match d with
  | some d => some (d, hp, none)
  | none => none
/-- a store into an object -/
def storeH (hp : Hp) (id off : Nat) (cs : List DV) : Option (Hp × Mut) := match hp.get id with
  | some o => match Nat.ble (off + cs.length) o.cs.length, o.k with
    | true, 3 => some ((hp.kill o.r).put id ⟨1, o.r, o.t, layD o.cs off cs⟩, mmin (some o.r) (some id))
    | true, 2 => none
    | true, k => some (hp.put id ⟨k, o.r, o.t, layD o.cs off cs⟩, some id)
    | false, _ => none
  | none => none
def pushH (hp : Hp) (k : Nat) (t : TypeId) (cs : List DV) : Hp := hp.push ⟨k, 0, t, cs⟩
/-- the cells of a slice: how many elements, and the cells -/
def contD (hp : Hp) (s : Nat) : DV → Option (Nat × List DV)
  | .nil => some (0, [])
  | .list s' xs => match Nat.beq s' s with
    | true => some (xs.length, xs.flatten)
    | false => none
  | .sl id off s' n _ => match Nat.beq s' s, n with
    | true, 0 => some (0, [])
    | true, n + 1 => match hp.get id with
      | some o => match Nat.ble (off + (n + 1) * s) o.cs.length with
        | true => some (n + 1, (o.cs.drop off).take ((n + 1) * s))
        | false => none
      | none => none
    | false, _ => none
  | .str b => match s with
    | 1 => some (lenB b, b.data.toList.map fun c => .int .u8 (c.toNat : Int))
    | _ => none
  | _ => none
def mxB : Nat := 140737488355328
def mxL : Nat := 9223372036854775807
def fitB (n bytes : Nat) : Bool := Nat.ble n mxL && Nat.ble (n * bytes) mxB
def rootOf (k r id : Nat) : Nat := match k, Nat.ble r id with
  | 3, true => r
  | _, _ => id
/-- append: the elements of size j.size -/
def appH (hp : Hp) (e : TypeId) (j : TI) (dst : DV) (m : Nat) (news : List DV) : R := match j.zero, Nat.beq j.size 0 with
  | [], _ => none
  | _, true => none
  | _, false => match m with
    | 0 => match dst with
      | .nil => some (.nil, hp, none)
      | .sl id off s n c => some (.sl id off s n c, hp, none)
      | _ => none
    | _ + 1 => match dst with
      | .nil => match fitB m j.bytes with
        | true => some (.sl hp.n 0 j.size m m, pushH hp 1 e news, none)
        | false => none
      | .sl id off s n c => match Nat.beq s j.size, hp.get id with
        | true, some o => match Nat.ble (n + m) c with
          | true => match storeH hp id (off + n * s) news with
            | some (hp', mu) => some (.sl id off s (n + m) c, hp', mu)
            | none => none
          | false => match Nat.ble (off + n * s) o.cs.length, fitB (n + m) j.bytes, o.k with
            | true, true, 0 => some (.sl hp.n 0 s (n + m) (n + m), pushH hp 1 e ((o.cs.drop off).take (n * s) ++ news), none)
            | true, true, 2 => none
            | true, true, k => match Nat.beq (off + n * s) o.cs.length, Nat.beq o.t e with
              | true, true =>
                some (.sl hp.n 0 s (n + m) (n + m), (hp.put id ⟨2, o.r, o.t, o.cs⟩).push ⟨3, rootOf k o.r id, o.t, o.cs.drop off ++ news⟩, mmin (some (rootOf k o.r id)) (some id))
              | _, _ => none
            | _, _, _ => none
        | _, _ => none
      | _ => none
def nlist (n : Nat) (ds : List DV) : List DV := match n with
  | 0 => []
  | n + 1 => ds ++ nlist n ds
def idxOk (i : Int) (n : Nat) : Bool := decide (0 ≤ i) && Nat.blt i.toNat n
def optI (d : Option DV) (dflt : Nat) : Option Nat := match d with
  | none => some dflt
  | some (.int _ n) => match decide (0 ≤ n) with
    | true => some n.toNat
    | false => none
  | _ => none
def evO (sl : Slots) : Option Operand → Option (Option DV)
  | none => some none
  | some x => match ev sl x with
    | some d => some (some d)
    | none => none
/-- a slice expression -/
def maxOk (mx hi : Option DV) : Bool := match mx, hi with
  | some _, none => false
  | _, _ => true
def sliceD (T : Tab) (hp : Hp) (i : TI) (x : DV) (lo hi mx : Option DV) : Option DV := match i.td, x with
  | .str, .str b => match mx, optI hi (lenB b) with
    | none, some h => match optI lo 0 with
      | some l => match Nat.ble l h && Nat.ble h (lenB b) with
        | true => some (.str ⟨((b.data.toList.drop l).take (h - l)).toArray⟩)
        | false => none
      | none => none
    | _, _ => none
  | .slice e, .nil => match T e, mx, optI hi 0, optI lo 0 with
    | some _, none, some 0, some 0 => some .nil
    | _, _, _, _ => none
  | .slice e, .sl id off s n c => match T e, optI mx c, optI hi n, optI lo 0 with
    | some j, some m, some h, some l => match Nat.beq j.size s && Nat.ble l h && Nat.ble h m && Nat.ble m c && maxOk mx hi with
      | true => some (.sl id (off + l * s) s (h - l) (m - l))
      | false => none
    | _, _, _, _ => none
  | .slice e, .list s xs => match T e, mx, optI hi xs.length, optI lo 0 with
    | some j, none, some h, some l => match Nat.beq j.size s && Nat.ble l h && Nat.ble h xs.length with
      | true => some (.list s ((xs.drop l).take (h - l)))
      | false => none
    | _, _, _, _ => none
  | .array n e, .ptr id off => match T e, mx, optI hi n, optI lo 0, hp.get id with
    | some j, none, some h, some l, some o => match Nat.ble l h && Nat.ble h n && Nat.ble (off + n * j.size) o.cs.length && Nat.ble n mxL with
      | true => some (.sl id (off + l * j.size) j.size (h - l) (n - l))
      | false => none
    | _, _, _, _, _ => none
  | _, _ => none
def bytesOf : List DV → Option (List UInt8)
  | [] => some []
  | .int .u8 n :: r => match bytesOf r with
    | some l => some (UInt8.ofNat n.toNat :: l)
    | none => none
  | _ => none
def convD (T : Tab) (hp : Hp) (s t : TypeId) (x : DV) : R := match T s, T t with
  | some j, some i => match j.td, i.td, x with
    | .int _, .int k, .int _ n => some (.int k (k.wrap n), hp, none)
    | .str, .str, .str b => some (.str b, hp, none)
    | .slice _, .str, .str _ => none
    | .slice e, .str, x => match T e with
      | some je => match je.td, contD hp 1 x with
        | .int .u8, some (_, cs) => match bytesOf cs with
          | some l => some (.str ⟨l.toArray⟩, hp, none)
          | none => none
        | _, _ => none
      | none => none
    | .str, .slice e, .str b => match T e with
      | some je => match je.td with
        | .int .u8 => match Nat.ble (lenB b) mxB with
          | true => some (.sl hp.n 0 1 (lenB b) (lenB b), pushH hp 1 e (b.data.toList.map fun c => .int .u8 (c.toNat : Int)), none)
          | false => none
        | _ => none
      | none => none
    | .slice e, .slice e', .sl id off sz n c => match Nat.beq s t && Nat.beq e e' && Nat.blt 0 c, T e', hp.get id with
      | true, some je, some _ => match je.td with
        | .int .u8 => some (.sl id off sz n c, hp, some id)
        | _ => none
      | _, _, _ => none
    | _, _, _ => none
  | _, _ => none
def lenD (i : TI) (d : DV) : Option DV :=
  match i.td, d with
  | .slice _, .sl _ _ _ n _ => some (.int .i64 (n : Int))
  | .slice _, .list _ xs => some (.int .i64 (xs.length : Int))
  | .slice _, .nil => some (.int .i64 0)
  | .str, .str s => some (.int .i64 (lenB s : Int))
  | .array n _, _ => some (.int .i64 (n : Int))
  | _, _ => none
/-- what an operation does but for calls: a datum; nothing: a call to be made -/
inductive Out where
  | done (r : DV × Hp × Mut)
  | call (f : FuncId) (args : List DV)
  | yld (id : Nat) (args : List DV)
  | fail
def outR : R → Out
  | some r => .done r
  | none => .fail
def capD (hp : Hp) : DV → Option DV
  | .nil => some (.int .i64 0)
  | .sl id _ _ _ c => match hp.get id with
    | some o => match o.k with
      | 0 => some (.int .i64 (c : Int))
      | _ => none
    | none => none
  | _ => none
def mmD (mn : Bool) : DV → List DV → Option DV
  | d, [] => some d
  | .int k a, .int k' b :: r => if k = k' then mmD mn (.int k (match mn with | true => (if b < a then b else a) | false => (if a < b then b else a))) r else none
  | _, _ => none
def copyH (hp : Hp) (j : TI) (dst : DV) (m : Nat) (news : List DV) : R := match dst with
  | .nil => some (.int .i64 0, hp, none)
  | .sl id off s n _ => match Nat.beq s j.size, min m n with
    | true, 0 => some (.int .i64 0, hp, none)
    | true, q + 1 => match storeH hp id off (news.take ((q + 1) * s)) with
      | some (hp', mu) => some (.int .i64 ((q + 1 : Nat) : Int), hp', mu)
      | none => none
    | false, _ => none
  | _ => none
def builtinD (T : Tab) (hp : Hp) (b : Builtin) (args : List DV) (ts : List TypeId) : R := match b, args, ts with
  | .len, [d], [t] => match T t with
    | some i => keep hp (lenD i d)
    | none => none
  | .cap, [d], [t] => match T t with
    | some i => match i.td with
      | .slice _ => keep hp (capD hp d)
      | _ => none
    | none => none
  | .append, [d, x], [t, t'] => match T t, T t' with
    | some i, some i' => match i.td, i'.td with
      | .slice e, .slice _ => match T e with
        | some j => match contD hp j.size x with
          | some (m, news) => appH hp e j d m news
          | none => none
        | none => none
      | .slice e, .str => match T e with
        | some j => match contD hp j.size x with
          | some (m, news) => appH hp e j d m news
          | none => none
        | none => none
      | .slice e, .int _ => match T e, x with
        | some j, .int _ l => match decide (0 ≤ l) && fitB l.toNat j.bytes with
          | true => appH hp e j d l.toNat (nlist l.toNat j.zero)
          | false => none
        | _, _ => none
      | _, _ => none
    | _, _ => none
  | .copy, [d, x], [t, _] => match T t with
    | some i => match i.td with
      | .slice e => match T e with
        | some j => match contD hp j.size x with
          | some (m, news) => copyH hp j d m news
          | none => none
        | none => none
      | _ => none
    | _ => none
  | .min, d :: r, _ => keep hp (mmD true d r)
  | .max, d :: r, _ => keep hp (mmD false d r)
  | _, _, _ => none
def callD (T : Tab) (hp : Hp) (sl : Slots) (c : Call) : Out := match evs sl c.args.toList with
  | none => .fail
  | some args => match c.callee with
    | .builtin b => outR (builtinD T hp b args c.argTypes.toList)
    | .value f => match ev sl f with
      | some (.fn f first captured) => .call f (first ++ args ++ captured)
      | some (.yld id) => .yld id args
      | _ => .fail
    | _ => .fail
def opPick (_T : Tab) (hp : Hp) (sl : Slots) (c : Operand) (x : Operand) (y : Operand) : Out := match ev sl c, ev sl x, ev sl y with
  | some (.bool true), some u, some _ => .done (u, hp, none)
  | some (.bool false), some _, some v => .done (v, hp, none)
  | _, _, _ => .fail
def opAlloc (T : Tab) (hp : Hp) (_sl : Slots) (t : TypeId) : Out := match T t with
  | some i => match i.zero with
    | [] => .fail
    | z :: zs => .done (.ptr hp.n 0, pushH hp 0 t (z :: zs), none)
  | none => .fail
def opBox (_T : Tab) (hp : Hp) (sl : Slots) (t : TypeId) (x : Operand) : Out := match ev sl x with
  | some d => match cellsD d with
    | some cs => .done (.ptr hp.n 0, pushH hp 0 t cs, none)
    | none => .fail
  | none => .fail
def opBuild (T : Tab) (hp : Hp) (sl : Slots) (t : TypeId) (parts : Array (Nat × Operand)) : Out := match T t, evParts sl parts.toList with
  | some i, some ps => match i.zero with
    | [] => .fail
    | z :: zs => match i.td with
      | .struct fs => match fillD (plF fs) (z :: zs) ps with
        | some cs => .done (.agg cs, hp, none)
        | none => .fail
      | .array _ e => match T e with
        | some j => match fillD (plA j.size) (z :: zs) ps with
          | some cs => .done (.agg cs, hp, none)
          | none => .fail
        | none => .fail
      | _ => .fail
  | _, _ => .fail
def opBuildSlice (T : Tab) (hp : Hp) (sl : Slots) (t : TypeId) (len : Nat) (parts : Array (Nat × Operand)) : Out := match T t, evParts sl parts.toList with
  | some i, some ps => match i.td with
    | .slice e => match T e with
      | some j => match j.zero, Nat.ble (len * j.size) 16777216, Nat.beq j.size 0 with
        | z :: zs, true, false => match fillD (plA j.size) (nlist len (z :: zs)) ps with
          | some cs => .done (.sl hp.n 0 j.size len len, pushH hp 0 e cs, none)
          | none => .fail
        | _, _, _ => .fail
      | none => .fail
    | _ => .fail
  | _, _ => .fail
/-- a row of zeros; an empty one with room: its capacity is forgotten -/
def mkRow (hp : Hp) (e sz : Nat) (zs : List DV) (l c : Nat) : DV × Hp × Mut := match l with
  | 0 => (.sl hp.n 0 sz 0 0, pushH hp 1 e [], none)
  | l + 1 => (.sl hp.n 0 sz (l + 1) c, pushH hp 0 e (nlist c zs), none)
def opMakeSlice (T : Tab) (hp : Hp) (sl : Slots) (t : TypeId) (l : Operand) (c : Operand) : Out := match T t, ev sl l, ev sl c with
  | some i, some (.int _ l), some (.int _ c) => match i.td with
    | .slice e => match T e with
      | some j => match j.zero with
        | z :: zs => match decide (0 ≤ l) && decide (l ≤ c) && fitB c.toNat j.bytes with
          | true => .done (mkRow hp e j.size (z :: zs) l.toNat c.toNat)
          | false => .fail
        | [] => .fail
      | none => .fail
    | _ => .fail
  | _, _, _ => .fail
def opLoad (T : Tab) (hp : Hp) (sl : Slots) (t : TypeId) (x : Operand) : Out := match T t, ev sl x with
  | some i, some (.ptr id off) => match hp.get id with
    | some o => outR (keep hp (partD i o.cs off))
    | none => .fail
  | some i, some (.fptr cs) => outR (keep hp (partD i cs 0))
  | _, _ => .fail
def opStore (T : Tab) (hp : Hp) (sl : Slots) (t : TypeId) (x : Operand) (y : Operand) : Out := match T t, ev sl x, ev sl y with
  | some i, some (.ptr id off), some d => match cellsD d with
    | some cs => match Nat.beq cs.length i.size, storeH hp id off cs with
      | true, some (hp', m) => .done (.tuple [], hp', m)
      | _, _ => .fail
    | none => .fail
  | _, _, _ => .fail
def opNilCheck (_T : Tab) (hp : Hp) (sl : Slots) (x : Operand) : Out := match ev sl x with
  | some (.ptr id off) => .done (.ptr id off, hp, none)
  | some (.fptr cs) => .done (.fptr cs, hp, none)
  | some (.fn f a b) => .done (.fn f a b, hp, none)
  | some (.yld l) => .done (.yld l, hp, none)
  | _ => .fail
def opBinOp (T : Tab) (hp : Hp) (sl : Slots) (op : BinOp) (t : TypeId) (x : Operand) (y : Operand) (_u4 : TypeId) : Out := match ev sl x, ev sl y with
  | some d, some e => outR (keep hp (binD T op t d e))
  | _, _ => .fail
def opUnOp (_T : Tab) (hp : Hp) (sl : Slots) (op : UnOp) (_u1 : TypeId) (x : Operand) : Out := match ev sl x with
  | some d => outR (keep hp (unD op d))
  | none => .fail
def opConvert (T : Tab) (hp : Hp) (sl : Slots) (s : TypeId) (t : TypeId) (x : Operand) : Out := match ev sl x with
  | some d => outR (convD T hp s t d)
  | none => .fail
def opFieldAddr (T : Tab) (hp : Hp) (sl : Slots) (s : TypeId) (x : Operand) (f : Nat) : Out := match T s, ev sl x with
  | some i, some (.ptr id o) => match fieldOf i f with
    | some (_, off, _) => .done (.ptr id (o + off), hp, none)
    | none => .fail
  | some i, some (.fptr cs) => match fieldOf i f with
    | some (_, off, _) => .done (.fptr (cs.drop off), hp, none)
    | none => .fail
  | _, _ => .fail
def opField (T : Tab) (hp : Hp) (sl : Slots) (s : TypeId) (x : Operand) (f : Nat) : Out := match T s, ev sl x with
  | some i, some (.agg cs) => match fieldOf i f with
    | some (t, off, _) => match T t with
      | some j => outR (keep hp (partD j cs off))
      | none => .fail
    | none => .fail
  | _, _ => .fail
def opIndexAddr (T : Tab) (hp : Hp) (sl : Slots) (t : TypeId) (x : Operand) (ix : Operand) : Out := match T t, ev sl x, ev sl ix with
  | some i, some x, some (.int _ n) => match i.td with
    | .slice e => match T e with
      | some j => match x with
        | .list s xs => match Nat.beq s j.size, idxOk n xs.length, nth xs n.toNat with
          | true, true, some cs => .done (.fptr cs, hp, none)
          | _, _, _ => .fail
        | .sl id off s m _ => match Nat.beq s j.size && idxOk n m with
          | true => .done (.ptr id (off + n.toNat * s), hp, none)
          | false => .fail
        | _ => .fail
      | none => .fail
    | .array m e => match T e with
      | some j => match x, idxOk n m with
        | .ptr id off, true => .done (.ptr id (off + n.toNat * j.size), hp, none)
        | .fptr cs, true => .done (.fptr (cs.drop (n.toNat * j.size)), hp, none)
        | _, _ => .fail
      | none => .fail
    | _ => .fail
  | _, _, _ => .fail
def opIndex (T : Tab) (hp : Hp) (sl : Slots) (t : TypeId) (x : Operand) (ix : Operand) : Out := match T t, ev sl x, ev sl ix with
  | some i, some (.agg cs), some (.int _ n) => match i.td with
    | .array m e => match T e, idxOk n m with
      | some j, true => outR (keep hp (partD j cs (n.toNat * j.size)))
      | _, _ => .fail
    | _ => .fail
  | some i, some (.str s), some (.int _ n) => match i.td, decide (0 ≤ n), nth s.data.toList n.toNat with
    | .str, true, some b => .done (.int .u8 (b.toNat : Int), hp, none)
    | _, _, _ => .fail
  | _, _, _ => .fail
def opExtract (_T : Tab) (hp : Hp) (sl : Slots) (x : Operand) (ix : Nat) : Out := match ev sl x with
  | some (.tuple vs) => outR (keep hp (nth vs ix))
  | _ => .fail
def opMakeFunc (_T : Tab) (hp : Hp) (sl : Slots) (f : Fn) (first : Array Operand) (captured : Array Operand) : Out := match f, evs sl first.toList, evs sl captured.toList with
  | .func f, some fs, some cs => .done (.fn f fs cs, hp, none)
  | _, _, _ => .fail
def opSlice (T : Tab) (hp : Hp) (sl : Slots) (t : TypeId) (x : Operand) (lo : Option Operand) (hi : Option Operand) (mx : Option Operand) : Out := match T t, ev sl x, evO sl lo, evO sl hi, evO sl mx with
  | some i, some d, some lo, some hi, some mx => outR (keep hp (sliceD T hp i d lo hi mx))
  | _, _, _, _, _ => .fail
def opMakeInterface (T : Tab) (hp : Hp) (sl : Slots) (t : TypeId) (x : Operand) : Out := match ev sl x with
  | some (.agg _) => .fail
  | some (.tuple _) => .fail
  | some .any => .fail
  | some d => match T t with
    | some i => match i.td with
      | .int _ | .str | .bool | .ptr _ => .done (.iface t d, hp, none)
      | _ => .fail
    | none => .fail
  | none => .fail
def aop (T : Tab) (hp : Hp) (sl : Slots) : Op → Out
  | .move x => outR (keep hp (ev sl x))
  | .assign x => outR (keep hp (ev sl x))
  | .pick c x y => opPick T hp sl c x y
  | .alloc t => opAlloc T hp sl t
  | .box t x => opBox T hp sl t x
  | .build t parts => opBuild T hp sl t parts
  | .buildSlice t len parts => opBuildSlice T hp sl t len parts
  | .makeSlice t l c => opMakeSlice T hp sl t l c
  | .load t x => opLoad T hp sl t x
  | .store t x y => opStore T hp sl t x y
  | .nilCheck x => opNilCheck T hp sl x
  | .binOp op t x y u4 => opBinOp T hp sl op t x y u4
  | .unOp op u1 x => opUnOp T hp sl op u1 x
  | .convert s t x => opConvert T hp sl s t x
  | .fieldAddr s x f => opFieldAddr T hp sl s x f
  | .field s x f => opField T hp sl s x f
  | .indexAddr t x ix => opIndexAddr T hp sl t x ix
  | .index t x ix => opIndex T hp sl t x ix
  | .extract x ix => opExtract T hp sl x ix
  | .makeFunc f first captured => opMakeFunc T hp sl f first captured
  | .slice t x lo hi mx => opSlice T hp sl t x lo hi mx
  | .makeInterface t x => opMakeInterface T hp sl t x
  | .call c => callD T hp sl c
  | _ => .fail
end
end Go.Proofs.Ytoghpmeoekbcbaa
