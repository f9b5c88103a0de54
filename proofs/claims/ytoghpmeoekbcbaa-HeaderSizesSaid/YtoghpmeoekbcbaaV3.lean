/- Code over abstract data with a heap of objects, as a function. No function of the program is named here. -/
import Derived.Test.YtoghpmeoekbcbaaV4
namespace Go.Proofs.Ytoghpmeoekbcbaa
open Go.RowKit
noncomputable section

structure FnT where
  nt : Nat
  body : Code
  res : List ResultVar
  ks : List (Nat × Nat)
abbrev FTab := FuncId → Option FnT
inductive Ex where
  | normal
  | exit (id : Nat)
  | ret
def initS (nt : Nat) (args : List DV) : Slots := initL (mkS (Nat.log2 nt + 2)) 0 args
where
  initL (s : Slots) : Nat → List DV → Slots
    | _, [] => s
    | k, d :: r => initL (putS s k d) (k + 1) r
def putO (sl : Slots) (dst : Option Tmp) (d : DV) : Slots :=
  match dst with
  | none => sl
  | some t => putS sl t d
/-- true: the operation is carried out; false: it is passed by -/
def gate (ds : List (Option Tmp)) (sl : Slots) : Option (Nat × Bool) → Option Bool
  | none => some true
  | some (j, want) => match ds[j]? with
    | some (some t) => match look sl t, want with
      | some (.bool true), true => some true
      | some (.bool false), false => some true
      | some (.bool _), _ => some false
      | some (.tuple []), _ => some false
      | _, _ => none
    | _ => none
abbrev ConF := FuncId → List DV → Hp → Option (DV × Hp × Mut)
abbrev YldF := Nat → List DV → Hp → Option (DV × Hp × Mut)
structure CallF where
  f : ConF
  y : YldF
def opE (T : Tab) (call : CallF) (o : Oper) (sl : Slots) (hp : Hp) : Option (DV × Hp × Mut) := match aop T hp sl o.op with
  | .done r => some r
  | .call f args => call.f f args hp
  | .yld k args => call.y k args hp
  | _ => none
def regE1 (r : Option (DV × Hp × Mut)) (k : DV → Hp → Option (Slots × Hp × Mut)) : Option (Slots × Hp × Mut) := match r with
  | some (d, hp1, m1) => match k d hp1 with
    | some (sl2, hp2, m2) => some (sl2, hp2, mmin m1 m2)
    | none => none
  | none => none
def gateX {α : Type} (g : Option Bool) (a b : Unit → Option α) : Option α := match g with
  | some true => a ()
  | some false => b ()
  | none => none
/-- operations in the text's order -/
def regE (T : Tab) (call : CallF) (ds : List (Option Tmp)) (l : List Oper) : Slots → Hp → Option (Slots × Hp × Mut) :=
  List.rec (motive := fun _ => Slots → Hp → Option (Slots × Hp × Mut)) (fun sl hp => some (sl, hp, none)) (fun o _ ih sl hp =>
    gateX (gate ds sl o.guard) (fun _ => regE1 (opE T call o sl hp) (fun d => ih (putO sl o.dst d))) (fun _ => ih (putO sl o.dst (.tuple [])) hp)) l
theorem regE_cons (T : Tab) (call : CallF) (ds : List (Option Tmp)) (o : Oper) (l : List Oper) (sl : Slots) (hp : Hp) : regE T call ds (o :: l) sl hp =
    gateX (gate ds sl o.guard) (fun _ => regE1 (opE T call o sl hp) (fun d => regE T call ds l (putO sl o.dst d))) (fun _ => regE T call ds l (putO sl o.dst (.tuple [])) hp) := rfl
def regP1 (r : Option (DV × Hp × Mut)) (k : DV → Hp → Option (Slots × Hp)) : Option (Slots × Hp) := match r with
  | some (d, hp1, none) => k d hp1
  | _ => none
/-- operations that make objects at most: in whatever order -/
def regP (T : Tab) (call : CallF) (ds : List (Option Tmp)) (l : List Oper) : Slots → Hp → Option (Slots × Hp) :=
  List.rec (motive := fun _ => Slots → Hp → Option (Slots × Hp)) (fun sl hp => some (sl, hp)) (fun o _ ih sl hp =>
    gateX (gate ds sl o.guard) (fun _ => regP1 (opE T call o sl hp) (fun d => ih (putO sl o.dst d))) (fun _ => ih (putO sl o.dst (.tuple [])) hp)) l
theorem regP_cons (T : Tab) (call : CallF) (ds : List (Option Tmp)) (o : Oper) (l : List Oper) (sl : Slots) (hp : Hp) : regP T call ds (o :: l) sl hp =
    gateX (gate ds sl o.guard) (fun _ => regP1 (opE T call o sl hp) (fun d => regP T call ds l (putO sl o.dst d))) (fun _ => regP T call ds l (putO sl o.dst (.tuple [])) hp) := rfl
/-- the object that is loaded from -/
def ldOf (sl : Slots) : Op → Option Nat
  | .load _ x => match ev sl x with
    | some (.ptr id _) => some id
    | _ => none
  | _ => none
def ldAdd (lds : List Nat) : Option Nat → List Nat
  | some id => id :: lds
  | none => lds
/-- a store that changes one object alone -/
def stEx (sl : Slots) (hp : Hp) : Op → Bool
  | .store _ x _ => match ev sl x with
    | some (.ptr id _) => match hp.get id with
      | some o => match Nat.beq o.k 3 with
        | true => false
        | false => true
      | none => false
    | _ => false
  | _ => false
def muAdd (ms : List (Nat × Bool)) (ex : Bool) : Mut → List (Nat × Bool)
  | none => ms
  | some m => (m, ex) :: ms
/-- an object that is loaded from, and those that are written -/
def lmOk1 (id : Nat) : List (Nat × Bool) → Bool
  | [] => true
  | (m, true) :: l => match Nat.beq m id with
    | true => false
    | false => lmOk1 id l
  | (m, false) :: l => match Nat.blt id m with
    | true => lmOk1 id l
    | false => false
def lmOk (ms : List (Nat × Bool)) : List Nat → Bool
  | [] => true
  | id :: l => match lmOk1 id ms with
    | true => lmOk ms l
    | false => false
def topOk (a : Nat) : Mut → Bool
  | none => true
  | some m => Nat.ble a m
def regF1 (r : Option (DV × Hp × Mut)) (k : DV → Hp → Mut → Option (Slots × Hp × Mut)) : Option (Slots × Hp × Mut) := match r with
  | some (d, hp1, m1) => k d hp1 m1
  | none => none
/-- operations in the text's order; nothing that is loaded is written -/
def regF (T : Tab) (call : CallF) (ds : List (Option Tmp)) (l : List Oper) : Slots → Hp → List Nat → List (Nat × Bool) → Mut → Option (Slots × Hp × Mut) :=
  List.rec (motive := fun _ => Slots → Hp → List Nat → List (Nat × Bool) → Mut → Option (Slots × Hp × Mut)) (fun sl hp lds ms lo => match lmOk ms lds with
    | true => some (sl, hp, lo)
    | false => none) (fun o _ ih sl hp lds ms lo =>
    gateX (gate ds sl o.guard) (fun _ => regF1 (opE T call o sl hp) (fun d hp1 m1 => ih (putO sl o.dst d) hp1 (ldAdd lds (ldOf sl o.op)) (muAdd ms (stEx sl hp o.op) m1) (mmin lo m1))) (fun _ => ih (putO sl o.dst (.tuple [])) hp lds ms lo)) l
theorem regF_cons (T : Tab) (call : CallF) (ds : List (Option Tmp)) (o : Oper) (l : List Oper) (sl : Slots) (hp : Hp) (lds : List Nat) (ms : List (Nat × Bool)) (lo : Mut) : regF T call ds (o :: l) sl hp lds ms lo =
    gateX (gate ds sl o.guard) (fun _ => regF1 (opE T call o sl hp) (fun d hp1 m1 => regF T call ds l (putO sl o.dst d) hp1 (ldAdd lds (ldOf sl o.op)) (muAdd ms (stEx sl hp o.op) m1) (mmin lo m1))) (fun _ => regF T call ds l (putO sl o.dst (.tuple [])) hp lds ms lo) := rfl
/-- the objects made out of constants, all ahead -/
def regM1 (T : Tab) : List Oper → Hp → Option (List DV × Hp)
  | [], hp => some ([], hp)
  | o :: l, hp => match isMk o with
    | true => match aop T hp .lf o.op with
      | .done (d, hp1, none) => match regM1 T l hp1 with
        | some (ds, hp2) => some (d :: ds, hp2)
        | none => none
      | _ => none
    | false => regM1 T l hp
def intsO : List DV → Bool
  | [] => true
  | .int _ _ :: l => intsO l
  | _ => false
/-- what the objects hold are numbers -/
def intsM : Nat → List Ob → Bool
  | 0, _ => true
  | n + 1, o :: l => intsO o.cs && intsM n l
  | _ + 1, [] => false
def regM (T : Tab) (call : CallF) (ds : List (Option Tmp)) (N : Nat) (l : List Oper) : Slots → Hp → List DV → List Nat → List (Nat × Bool) → Mut → Option (Slots × Hp × Mut) :=
  List.rec (motive := fun _ => Slots → Hp → List DV → List Nat → List (Nat × Bool) → Mut → Option (Slots × Hp × Mut)) (fun sl hp _ lds ms lo => match lmOk ms lds, topOk N lo with
    | true, true => some (sl, hp, lo)
    | _, _ => none) (fun o _ ih sl hp dl lds ms lo => match isMk o, dl with
    | true, d :: dl => ih (putO sl o.dst d) hp dl lds ms lo
    | true, [] => none
    | false, dl => gateX (gate ds sl o.guard) (fun _ => regF1 (opE T call o sl hp) (fun d hp1 m1 => ih (putO sl o.dst d) hp1 dl (ldAdd lds (ldOf sl o.op)) (muAdd ms (stEx sl hp o.op) m1) (mmin lo m1))) (fun _ => ih (putO sl o.dst (.tuple [])) hp dl lds ms lo)) l
theorem regM_cons (T : Tab) (call : CallF) (ds : List (Option Tmp)) (N : Nat) (o : Oper) (l : List Oper) (sl : Slots) (hp : Hp) (dl : List DV) (lds : List Nat) (ms : List (Nat × Bool)) (lo : Mut) : regM T call ds N (o :: l) sl hp dl lds ms lo = match isMk o, dl with
    | true, d :: dl => regM T call ds N l (putO sl o.dst d) hp dl lds ms lo
    | true, [] => none
    | false, dl => gateX (gate ds sl o.guard) (fun _ => regF1 (opE T call o sl hp) (fun d hp1 m1 => regM T call ds N l (putO sl o.dst d) hp1 dl (ldAdd lds (ldOf sl o.op)) (muAdd ms (stEx sl hp o.op) m1) (mmin lo m1))) (fun _ => regM T call ds N l (putO sl o.dst (.tuple [])) hp dl lds ms lo) := rfl
def regMM (T : Tab) (call : CallF) (ds : List (Option Tmp)) (l : List Oper) (sl : Slots) (hp : Hp) : Option (Slots × Hp × Mut) := match regM1 T l hp with
  | some (dl, hp1) => match intsM (hp1.n - hp.n) hp1.l with
    | true => regM T call ds hp1.n l sl hp1 dl [] [] none
    | false => none
  | none => none
/-- no object is named -/
def flat1 : DV → Bool
  | .int _ _ | .bool _ | .str _ | .nil | .list _ _ | .nilp | .nilf | .nili => true
  | _ => false
def flats1 : List DV → Bool
  | [] => true
  | d :: r => flat1 d && flats1 r
def flat2 : DV → Bool
  | .agg cs => flats1 cs
  | d => flat1 d
def flats2 : List DV → Bool
  | [] => true
  | d :: r => flat2 d && flats2 r
def flatD : DV → Bool
  | .tuple cs => flats2 cs
  | d => flat2 d
def mnorm (n : Nat) : Mut → Mut
  | none => none
  | some k => match Nat.ble n k with
    | true => none
    | false => some k
def finish (hp hp' : Hp) (mu : Mut) (d : DV) : DV × Hp × Mut := match mnorm hp.n mu, flatD d with
  | none, true => (d, hp, none)
  | m, _ => (d, hp', m)
def resOne (T : Tab) (hp : Hp) (sl : Slots) : ResultVar → Option DV
  | .tmp t => look sl t
  | .cell a t => match look sl a, T t with
    | some (.ptr id off), some i => match hp.get id with
      | some o => partD i o.cs off
      | none => none
    | _, _ => none
def resD (T : Tab) (hp : Hp) (sl : Slots) : List ResultVar → Option (List DV)
  | [] => some []
  | t :: r => match resOne T hp sl t, resD T hp sl r with
    | some d, some ds => some (d :: ds)
    | _, _ => none
def one (ds : List DV) : DV :=
  match ds with
  | [d] => d
  | ds => .tuple ds
/-- a call: by the table C, else by its text -/
def callE (T : Tab) (F : FTab) (C : ConF) (exec : List (Nat × Nat) → Code → Slots → Hp → Option (Ex × Slots × Hp × Mut)) (f : FuncId) (args : List DV) (hp : Hp) : Option (DV × Hp × Mut) :=
  match C f args hp with
  | some r => some r
  | none => match F f with
    | some fn => match Nat.ble args.length fn.nt with
      | true => match exec fn.ks fn.body (initS fn.nt args) hp with
        | some (.exit _, _, _, _) => none
        | some (_, sl, hp', mu) => match resD T hp' sl fn.res with
          | some ds => some (finish hp hp' mu (one ds))
          | none => none
        | none => none
      | false => none
    | none => none
abbrev XR := Option (Ex × Slots × Hp × Mut)
def regN (r : Option (Slots × Hp × Mut)) : XR := match r with
  | some (sl', hp', m) => some (.normal, sl', hp', m)
  | none => none
def regA (T : Tab) (call : CallF) (ds : List (Option Tmp)) (l : List Oper) (sl : Slots) (hp : Hp) (k : Nat) : XR := match regP T call ds (l.take k) sl hp with
  | some (sl1, hp1) => regN (regE T call ds (l.drop k) sl1 hp1)
  | none => none
def regD (T : Tab) (call : CallF) (ds : List (Option Tmp)) (l : List Oper) (sl : Slots) (hp : Hp) : Option Nat → XR
  | some k => match Nat.ble 1000 k, Nat.ble 2000 k with
    | true, false => regN (regF T call ds l sl hp [] [] none)
    | true, true => regN (regMM T call ds l sl hp)
    | false, _ => regA T call ds l sl hp k
  | none => none
def seqX (r : XR) (q : Slots → Hp → XR) : XR := match r with
  | some (.normal, sl1, hp1, m1) => match q sl1 hp1 with
    | some (e, sl2, hp2, m2) => some (e, sl2, hp2, mmin m1 m2)
    | none => none
  | r => r
def condX (d : Option DV) (a b : Unit → XR) : XR := match d with
  | some (.bool true) => a ()
  | some (.bool false) => b ()
  | _ => none
def blockX (id : Nat) (r : XR) : XR := match r with
  | some (.exit i, sl1, hp1, m1) => match Nat.beq i id with
    | true => some (.normal, sl1, hp1, m1)
    | false => some (.exit i, sl1, hp1, m1)
  | r => r
abbrev XF := List (Nat × Nat) → Code → Slots → Hp → XR
/-! ### Ranges over functions -/
def goesOn : Ex → Bool
  | .normal => true
  | _ => false
def jumpOf : Ex → Option Code
  | .normal => none
  | .ret => some .ret
  | .exit id => some (.exit id)
def stE : Ex → Nat
  | .normal => 0
  | _ => 2
/-- slots, with what is yielded -/
def putP (sl : Slots) : List Nat → List DV → Slots
  | t :: ts, d :: ds => putP (putS sl t d) ts ds
  | _, _ => sl
def Hp.lay (h : Hp) (id st : Nat) (pe : Option Code) : Hp := ⟨h.n, h.l, lset id st pe h.ls⟩
def Hp.wls (h : Hp) (ls : List LS) : Hp := ⟨h.n, h.l, ls⟩
/-- a loop begins: its number is that of an object which is none -/
def Hp.beg (h : Hp) (nc : Nat) (ks : List (Nat × Nat)) (sl : Slots) (ps : List Nat) (a b : Code) : Hp := ⟨h.n + 1, ⟨0, 0, 0, []⟩ :: h.l, ⟨h.n, nc, ks, sl, ps, a, b, 0, none⟩ :: h.ls⟩
def ychk (T : Tab) (R : LS) : Bool := ltAll R.nc R.ps && (codeChk T R.nc R.ks R.assign && codeChk T R.nc R.ks R.body)
def yldE3 (k : Nat) (m1 : Mut) : XR → Option (DV × Hp × Mut)
  | some (e, _, hp2, m2) => match lfind k hp2.ls with
    | some _ => some (.bool (goesOn e), hp2.lay k (stE e) (jumpOf e), mmin (some k) (mmin m1 m2))
    | none => none
  | none => none
def yldE2 (q : XF) (R : LS) (k : Nat) : XR → Option (DV × Hp × Mut)
  | some (.normal, sl1, hp1, m1) => match lfind k hp1.ls with
    | some R1 => match R1.st with
      | 0 => yldE3 k m1 (q R.ks R.body sl1 (hp1.lay k 1 R1.pe))
      | _ => none
    | none => none
  | _ => none
def yldE (T : Tab) (q : XF) (k : Nat) (args : List DV) (hp : Hp) : Option (DV × Hp × Mut) := match lfind k hp.ls with
  | some R => match ychk T R && Nat.beq args.length R.ps.length with
    | true => yldE2 q R k (q R.ks R.assign (putP R.sl R.ps args) hp)
    | false => none
  | none => none
def outOf : Nat → Option Code → Option Ex
  | 0, none => some .normal
  | 2, some .ret => some .ret
  | 2, some (.exit id) => some (.exit id)
  | _, _ => none
def rngE2 (sl : Slots) (hp : Hp) : Option (DV × Hp × Mut) → XR
  | some (_, hp1, m1) => match lfind hp.n hp1.ls, relay hp1.ls hp.ls with
    | some R, some ls => match outOf R.st R.pe with
      | some e => some (e, sl, hp1.wls ls, mnorm hp.n m1)
      | none => none
    | _, _ => none
  | none => none
def rngE (T : Tab) (F : FTab) (C : ConF) (q : XF) (ks : List (Nat × Nat)) (g : Operand) (ps : List Nat) (a b : Code) (sl : Slots) (hp : Hp) : XR := match ev sl g, assoc ks 65535 with
  | some (.fn f first captured), some nc => match first with
    | [] => rngE2 sl hp (callE T F C q f (.yld hp.n :: captured) (hp.beg nc ks sl ps a b))
    | _ => none
  | _, _ => none
def callX (T : Tab) (F : FTab) (C : ConF) (q : XF) : CallF := ⟨callE T F C q, yldE T q⟩
def exec1 (T : Tab) (F : FTab) (C : ConF) (q : XF) : XF := fun ks c sl hp => match c with
  | .skip => some (.normal, sl, hp, none)
  | .label _ => some (.normal, sl, hp, none)
  | .ret => some (.ret, sl, hp, none)
  | .exit id => some (.exit id, sl, hp, none)
  | .region _ ops false => regN (regE T (callX T F C q) (ops.toList.map (·.dst)) ops.toList sl hp)
  | .region id ops true => regD T (callX T F C q) (ops.toList.map (·.dst)) ops.toList sl hp (assoc ks id)
  | .seq a b => seqX (q ks a sl hp) (q ks b)
  | .cond x a b => condX (ev sl x) (fun _ => q ks a sl hp) (fun _ => q ks b sl hp)
  | .block id a => blockX id (q ks a sl hp)
  | .loop a => seqX (q ks a sl hp) (q ks (.loop a))
  | .scope a => q ks a sl hp
  | .rangeFunc g ps a b => rngE T F C q ks g ps.toList a b sl hp
  | _ => none
def exec (T : Tab) (F : FTab) (C : ConF) (n : Nat) : XF := Nat.rec (motive := fun _ => XF) (fun _ _ _ _ => none) (fun _ ih => exec1 T F C ih) n
theorem exec_succ (T : Tab) (F : FTab) (C : ConF) (n : Nat) : exec T F C (n + 1) = exec1 T F C (exec T F C n) := rfl
def noC : ConF := fun _ _ _ => none
end
end Go.Proofs.Ytoghpmeoekbcbaa
