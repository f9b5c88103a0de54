/- Paths along which a text runs, keyed by the slots that operations write; loops by what is known of them. No function of the program is named here. -/
import Derived.Test.YtoghpmeoekbcbaaV32
namespace Go.Proofs.Ytoghpmeoekbcbaa
open Go.RowKit

noncomputable section
/-- of an operation: its bool; its answer, written otherwise; its answer (the heap stays, or becomes hp'); the path of the call that it is; what that call answers (the heap stays, or becomes hp'); of a loop: what is seen of the slots, the exit, the slots and the heap behind it; before the region whose number is the key: what is seen of the slots, as what they and the heap are seen then. Operations that write no slot have the key 65535 -/
inductive YE where
  | b (v : Bool)
  | w (d : DV)
  | n (d : DV)
  | h (d : DV) (hp : Hp) (m : Mut)
  | c (p : List (Nat × YE))
  | q (d : DV)
  | r (d : DV) (hp : Hp)
  | l (live : List Nat) (e : Ex) (sl : Slots) (hp : Hp)
  | s (live : List Nat) (sl : Slots) (hp : Hp)
abbrev Yath := List (Nat × YE)
abbrev Y0R := Option (Ex × Slots × Hp × Mut × Yath × List Prop)
abbrev Y0G := Option (Slots × Hp × Mut × Yath × List Prop)
abbrev Y0O := Option (DV × Hp × Mut × Yath × List Prop)
def yyAuto (p : Yath) : Option (DV × Hp × Mut) → Y0O
  | some (d, hp, m) => some (d, hp, m, p, [])
  | none => none
def yyBool (v : Bool) (p : Yath) : Option (DV × Hp × Mut) → Y0O
  | some (.bool x, hp, m) => some (.bool v, hp, m, p, [x = v])
  | _ => none
def yySame (d : DV) (p : Yath) : Option (DV × Hp × Mut) → Y0O
  | some (x, hp, m) => some (d, hp, m, p, [x = d])
  | none => none
def unO : Out → R
  | .done r => some r
  | _ => none
def yyDone (p : Yath) (r : DV × Hp × Mut) : Option (List Prop) → Y0O
  | some ps => some (r.1, r.2.1, r.2.2, p, ps)
  | none => none
/-- what is to be shown that an operation answers d and leaves the heap -/
def resid (T : Tab) (hp : Hp) (sl : Slots) (d : DV) : Op → Option (List Prop)
  | .indexAddr t x ix => match T t, ev sl x, ev sl ix with
    | some i, some x, some (.int _ n) => match i.td with
      | .slice e => match T e with
        | some j => match x with
          | .list s xs => match Nat.beq s j.size, d with
            | true, .fptr cs => some [idxOk n xs.length = true, nth xs n.toNat = some cs]
            | _, _ => none
          | .sl id off s m _ => match Nat.beq s j.size with
            | true => some [idxOk n m = true, DV.ptr id (off + n.toNat * s) = d]
            | false => none
          | _ => none
        | none => none
      | .array m e => match T e with
        | some j => match x with
          | .ptr id off => some [idxOk n m = true, DV.ptr id (off + n.toNat * j.size) = d]
          | .fptr cs => some [idxOk n m = true, DV.fptr (cs.drop (n.toNat * j.size)) = d]
          | _ => none
        | none => none
      | _ => none
    | _, _, _ => none
  | .index t x ix => match T t, ev sl x, ev sl ix with
    | some i, some (.agg cs), some (.int _ n) => match i.td with
      | .array m e => match T e with
        | some j => match isAggT j with
          | false => some [idxOk n m = true, nth cs (n.toNat * j.size) = some d]
          | true => some [idxOk n m = true, partD j cs (n.toNat * j.size) = some d]
        | none => none
      | _ => none
    | some i, some (.str s), some (.int _ n) => match i.td, d with
      | .str, .int .u8 z => some [∃ b : UInt8, decide (0 ≤ n) = true ∧ nth s.data.toList n.toNat = some b ∧ (b.toNat : Int) = z]
      | _, _ => none
    | _, _, _ => none
  | .load t x => match T t, ev sl x with
    | some i, some (.ptr id off) => match hp.get id with
      | some o => match isAggT i with
        | false => some [nth o.cs off = some d]
        | true => some [partD i o.cs off = some d]
      | none => none
    | some i, some (.fptr cs) => some [partD i cs 0 = some d]
    | _, _ => none
  | .binOp op t x y _ => match ev sl x, ev sl y with
    | some a, some b => some [binD T op t a b = some d]
    | _, _ => none
  | .slice t x lo hi mx => match T t, ev sl x, evO sl lo, evO sl hi, evO sl mx with
    | some i, some a, some lo, some hi, some mx => some [sliceD T hp i a lo hi mx = some d]
    | _, _, _, _, _ => none
  | _ => none
theorem resid_ok {T : Tab} {hp : Hp} {sl : Slots} {d : DV} {o : Op} {ps : List Prop} (h : resid T hp sl d o = some ps) (hc : AskedP ps) : aop T hp sl o = .done (d, hp, none) := by
  unfold resid at h
  split at h
  · rename_i t x ix
    simp only [aop, opIndexAddr]
    split at h
    · rename_i i x n k h1 h2 h3
      rw [h1, h2, h3]
      try simp only
      split at h
      · rename_i e htd
        rw [htd]
        try simp only
        split at h
        · rename_i j hj
          rw [hj]
          try simp only
          split at h
          · split at h
            · rename_i hb
              cases h
              simp only [hb, hc _ (List.mem_cons_self ..), hc _ (List.mem_cons_of_mem _ (List.mem_cons_self ..))]
            · cases h
          · split at h
            · rename_i hb
              cases h
              simp only [hb, hc _ (List.mem_cons_self ..), Bool.and_self]
              rw [hc _ (List.mem_cons_of_mem _ (List.mem_cons_self ..))]
            · cases h
          · cases h
        · cases h
      · rename_i m e htd
        rw [htd]
        try simp only
        split at h
        · rename_i j hj
          rw [hj]
          try simp only
          split at h
          · cases h
            simp only [hc _ (List.mem_cons_self ..)]
            rw [hc _ (List.mem_cons_of_mem _ (List.mem_cons_self ..))]
          · cases h
            simp only [hc _ (List.mem_cons_self ..)]
            rw [hc _ (List.mem_cons_of_mem _ (List.mem_cons_self ..))]
          · cases h
        · cases h
      · cases h
    · cases h
  · rename_i t x ix
    simp only [aop, opIndex]
    split at h
    · rename_i i cs n k h1 h2 h3
      rw [h1, h2, h3]
      try simp only
      split at h
      · rename_i m e htd
        rw [htd]
        try simp only
        split at h
        · rename_i j hj
          rw [hj]
          try simp only
          split at h
          · rename_i ha
            cases h
            simp only [hc _ (List.mem_cons_self ..), partD, ha, hc _ (List.mem_cons_of_mem _ (List.mem_cons_self ..)), keep, outR]
          · cases h
            simp only [hc _ (List.mem_cons_self ..), hc _ (List.mem_cons_of_mem _ (List.mem_cons_self ..)), keep, outR]
        · cases h
      · cases h
    · rename_i i s n k h1 h2 h3
      rw [h1, h2, h3]
      try simp only
      split at h
      · rename_i htd
        cases h
        obtain ⟨b, q1, q2, q3⟩ := hc _ (List.mem_singleton.2 rfl)
        simp only [htd, q1, q2, q3]
      · cases h
    · cases h
  · rename_i t x
    simp only [aop, opLoad]
    split at h
    · rename_i i id off h1 h2
      rw [h1, h2]
      try simp only
      split at h
      · rename_i o ho
        rw [ho]
        try simp only
        split at h
        · rename_i ha
          cases h
          simp only [partD, ha, hc _ (List.mem_singleton.2 rfl), keep, outR]
        · cases h
          simp only [hc _ (List.mem_singleton.2 rfl), keep, outR]
      · cases h
    · rename_i i cs h1 h2
      rw [h1, h2]
      cases h
      simp only [hc _ (List.mem_singleton.2 rfl), keep, outR]
    · cases h
  · simp only [aop, opBinOp]
    split at h
    · rename_i h1 h2
      rw [h1, h2]
      cases h
      simp only [hc _ (List.mem_singleton.2 rfl), keep, outR]
    · cases h
  · simp only [aop, opSlice]
    split at h
    · rename_i h1 h2 h3 h4 h5
      rw [h1, h2, h3, h4, h5]
      cases h
      simp only [hc _ (List.mem_singleton.2 rfl), keep, outR]
    · cases h
  · cases h
/-- and that it answers d and leaves the heap hp', m being written -/
def residH (T : Tab) (hp : Hp) (sl : Slots) (d : DV) (hp' : Hp) (m : Mut) (o : Op) : Option (List Prop) := match o with
  | .call c => match evs sl c.args.toList, c.callee with
    | some args, .builtin b => some [builtinD T hp b args c.argTypes.toList = some (d, hp', m)]
    | _, _ => none
  | .convert s t x => match ev sl x with
    | some a => some [convD T hp s t a = some (d, hp', m)]
    | none => none
  | .makeSlice t l c => match T t, ev sl l, ev sl c with
    | some i, some (.int _ l), some (.int _ c) => match i.td with
      | .slice e => match T e with
        | some j => match j.zero with
          | z :: zs => some [(decide (0 ≤ l) && decide (l ≤ c) && fitB c.toNat j.bytes) = true, mkRow hp e j.size (z :: zs) l.toNat c.toNat = (d, hp', m)]
          | [] => none
        | none => none
      | _ => none
    | _, _, _ => none
  | .store t x y => match T t, ev sl x, ev sl y with
    | some i, some (.ptr id off), some a => match cellsD a with
      | some cs => match Nat.beq cs.length i.size, d with
        | true, .tuple [] => some [storeH hp id off cs = some (hp', m)]
        | _, _ => none
      | none => none
    | _, _, _ => none
  | o => some [unO (aop T hp sl o) = some (d, hp', m)]
theorem unO_ok {x : Out} {r : DV × Hp × Mut} (h : unO x = some r) : x = .done r := by
  cases x with
  | done y => exact congrArg Out.done (Option.some.inj h)
  | _ => cases h
theorem residH_ok {T : Tab} {hp : Hp} {sl : Slots} {d : DV} {hp' : Hp} {m : Mut} {o : Op} {ps : List Prop} (h : residH T hp sl d hp' m o = some ps) (hc : AskedP ps) : aop T hp sl o = .done (d, hp', m) := by
  unfold residH at h
  split at h
  · split at h
    · rename_i h1 h2
      cases h
      simp only [aop, callD, h1, h2, hc _ (List.mem_singleton.2 rfl), outR]
    · cases h
  · split at h
    · rename_i h1
      cases h
      simp only [aop, opConvert, h1, hc _ (List.mem_singleton.2 rfl), outR]
    · cases h
  · simp only [aop, opMakeSlice]
    split at h
    · rename_i h1 h2 h3
      rw [h1, h2, h3]
      try simp only
      split at h
      · rename_i htd
        rw [htd]
        try simp only
        split at h
        · rename_i hj
          rw [hj]
          try simp only
          split at h
          · rename_i hz
            cases h
            rw [hz]
            simp only [hc _ (List.mem_cons_self ..)]
            rw [hc _ (List.mem_cons_of_mem _ (List.mem_cons_self ..))]
          · cases h
        · cases h
      · cases h
    · cases h
  · simp only [aop, opStore]
    split at h
    · rename_i h1 h2 h3
      rw [h1, h2, h3]
      try simp only
      split at h
      · rename_i hc1
        rw [hc1]
        try simp only
        split at h
        · rename_i hb
          cases h
          simp only [hb, hc _ (List.mem_singleton.2 rfl)]
        · cases h
      · cases h
    · cases h
  · cases h
    exact unO_ok (hc _ (List.mem_singleton.2 rfl))
def yyKnown (call : ConF) (hp : Hp) (p : Yath) (r : DV × Hp × Mut) : Out → Y0O
  | .call f args => some (r.1, r.2.1, r.2.2, p, [call f args hp = some r])
  | _ => none
def hit (dst : Option Tmp) (k : Nat) : Bool := match dst with
  | some t => Nat.beq t k
  | none => Nat.beq k 65535
def yyPop (dst : Option Tmp) (p : Yath) : Option YE × Yath := match p with
  | [] => (none, [])
  | (k, e) :: p' => match hit dst k with
    | true => (some e, p')
    | false => (none, p)
structure CallY where
  f : FuncId → List DV → Hp → Yath → Option ((DV × Hp × Mut) × List Prop)
  y : Nat → List DV → Hp → Yath → Option ((DV × Hp × Mut) × List Prop)
structure Y0Ok (kn : ConF) (qc : CallY) (call : CallF) : Prop where
  f : ∀ ⦃f args hp p r cs⦄, qc.f f args hp p = some (r, cs) → AskedP cs → call.f f args hp = some r
  kn : ∀ ⦃f args hp r⦄, kn f args hp = some r → call.f f args hp = some r
  y : ∀ ⦃k args hp p r cs⦄, qc.y k args hp p = some (r, cs) → AskedP cs → call.y k args hp = some r
def yyCall (p : Yath) : Option ((DV × Hp × Mut) × List Prop) → Y0O
  | some ((d, hp, m), cs) => some (d, hp, m, p, cs)
  | none => none
def yyCalls (qc : CallY) (hp : Hp) (p p' : Yath) : Out → Y0O
  | .call f args => yyCall p (qc.f f args hp p')
  | .yld k args => yyCall p (qc.y k args hp p')
  | _ => none
def yyOp2 (T : Tab) (kn : ConF) (call : CallF) (qc : CallY) (o : Oper) (sl : Slots) (hp : Hp) : Option YE × Yath → Y0O
  | (none, p) => yyAuto p (opE T call o sl hp)
  | (some (.b v), p) => yyBool v p (opE T call o sl hp)
  | (some (.w d), p) => yySame d p (opE T call o sl hp)
  | (some (.n d), p) => yyDone p (d, hp, none) (resid T hp sl d o.op)
  | (some (.h d hp' m), p) => yyDone p (d, hp', m) (residH T hp sl d hp' m o.op)
  | (some (.c p'), p) => yyCalls qc hp p p' (aop T hp sl o.op)
  | (some (.q d), p) => yyKnown kn hp p (d, hp, none) (aop T hp sl o.op)
  | (some (.r d hp'), p) => yyKnown kn hp p (d, hp', none) (aop T hp sl o.op)
  | (some (.l ..), _) => none
  | (some (.s ..), _) => none
def yyOp (T : Tab) (kn : ConF) (call : CallF) (qc : CallY) (o : Oper) (sl : Slots) (hp : Hp) (p : Yath) : Y0O := yyOp2 T kn call qc o sl hp (yyPop o.dst p)
theorem yyOp_ok {T : Tab} {kn : ConF} {call : CallF} {qc : CallY} (hqc : Y0Ok kn qc call) {o : Oper} {sl : Slots} {hp : Hp} {p : Yath} {d : DV} {hp' : Hp} {m : Mut} {p' : Yath} {cs : List Prop} (h : yyOp T kn call qc o sl hp p = some (d, hp', m, p', cs)) (hc : AskedP cs) : opE T call o sl hp = some (d, hp', m) := by
  have done : ∀ {p1 : Yath} {r : DV × Hp × Mut} {q : Option (List Prop)}, yyDone p1 r q = some (d, hp', m, p', cs) → (∀ ps, q = some ps → AskedP ps → aop T hp sl o.op = .done r) → opE T call o sl hp = some (d, hp', m) := by
    intro p1 r q h hq
    unfold yyDone at h
    split at h
    · cases h
      unfold opE
      rw [hq _ rfl hc]
    · cases h
  have known : ∀ {p1 : Yath} {r : DV × Hp × Mut}, yyKnown kn hp p1 r (aop T hp sl o.op) = some (d, hp', m, p', cs) → opE T call o sl hp = some (d, hp', m) := by
    intro p1 r h
    unfold yyKnown at h
    split at h
    · rename_i heq
      cases h
      unfold opE
      rw [heq]
      exact hqc.kn (hc _ (by simp))
    · cases h
  unfold yyOp yyOp2 at h
  split at h
  · unfold yyAuto at h
    split at h
    · rename_i heq
      cases h
      exact heq
    · cases h
  · unfold yyBool at h
    split at h
    · rename_i heq
      cases h
      rw [heq]
      exact congrArg (fun b => some (DV.bool b, hp', m)) (hc _ (List.mem_singleton.2 rfl))
    · cases h
  · unfold yySame at h
    split at h
    · rename_i heq
      cases h
      rw [heq, hc _ (List.mem_singleton.2 rfl)]
    · cases h
  · exact done h fun ps h1 h2 => resid_ok h1 h2
  · exact done h fun ps h1 h2 => residH_ok h1 h2
  · unfold yyCalls at h
    split at h
    · rename_i f args heq
      unfold yyCall at h
      split at h
      · rename_i hq
        cases h
        unfold opE
        rw [heq]
        exact hqc.f hq hc
      · cases h
    · rename_i f args heq
      unfold yyCall at h
      split at h
      · rename_i hq
        cases h
        unfold opE
        rw [heq]
        exact hqc.y hq hc
      · cases h
    · cases h
  · exact known h
  · exact known h
  · cases h
  · cases h
def yyregE1 (r : Y0O) (k : DV → Hp → Yath → Y0G) : Y0G := match r with
  | some (d, hp1, m1, p1, c1) => match k d hp1 p1 with
    | some (sl2, hp2, m2, p2, c2) => some (sl2, hp2, mmin m1 m2, p2, c1 ++ c2)
    | none => none
  | none => none
def yyregE (T : Tab) (kn : ConF) (call : CallF) (qc : CallY) (ds : List (Option Tmp)) (l : List Oper) : Slots → Hp → Yath → Y0G :=
  List.rec (motive := fun _ => Slots → Hp → Yath → Y0G) (fun sl hp p => some (sl, hp, none, p, [])) (fun o _ ih sl hp p =>
    gateX (gate ds sl o.guard) (fun _ => yyregE1 (yyOp T kn call qc o sl hp p) (fun d => ih (putO sl o.dst d))) (fun _ => ih (putO sl o.dst (.tuple [])) hp p)) l
theorem yyregE_cons (T : Tab) (kn : ConF) (call : CallF) (qc : CallY) (ds : List (Option Tmp)) (o : Oper) (l : List Oper) (sl : Slots) (hp : Hp) (p : Yath) : yyregE T kn call qc ds (o :: l) sl hp p =
    gateX (gate ds sl o.guard) (fun _ => yyregE1 (yyOp T kn call qc o sl hp p) (fun d => yyregE T kn call qc ds l (putO sl o.dst d))) (fun _ => yyregE T kn call qc ds l (putO sl o.dst (.tuple [])) hp p) := rfl
def yyregP1 (r : Y0O) (k : DV → Hp → Yath → Y0G) : Y0G := match r with
  | some (d, hp1, none, p1, c1) => match k d hp1 p1 with
    | some (sl2, hp2, m2, p2, c2) => some (sl2, hp2, m2, p2, c1 ++ c2)
    | none => none
  | _ => none
def yyregP (T : Tab) (kn : ConF) (call : CallF) (qc : CallY) (ds : List (Option Tmp)) (l : List Oper) : Slots → Hp → Yath → Y0G :=
  List.rec (motive := fun _ => Slots → Hp → Yath → Y0G) (fun sl hp p => some (sl, hp, none, p, [])) (fun o _ ih sl hp p =>
    gateX (gate ds sl o.guard) (fun _ => yyregP1 (yyOp T kn call qc o sl hp p) (fun d => ih (putO sl o.dst d))) (fun _ => ih (putO sl o.dst (.tuple [])) hp p)) l
theorem yyregP_cons (T : Tab) (kn : ConF) (call : CallF) (qc : CallY) (ds : List (Option Tmp)) (o : Oper) (l : List Oper) (sl : Slots) (hp : Hp) (p : Yath) : yyregP T kn call qc ds (o :: l) sl hp p =
    gateX (gate ds sl o.guard) (fun _ => yyregP1 (yyOp T kn call qc o sl hp p) (fun d => yyregP T kn call qc ds l (putO sl o.dst d))) (fun _ => yyregP T kn call qc ds l (putO sl o.dst (.tuple [])) hp p) := rfl
def yyN : Y0G → Y0R
  | some (sl, hp, m, p, c) => some (.normal, sl, hp, m, p, c)
  | none => none
def yyApp (c1 : List Prop) : Y0R → Y0R
  | some (e, sl, hp, m, p, c) => some (e, sl, hp, m, p, c1 ++ c)
  | none => none
def yyregF1 (r : Y0O) (k : DV → Hp → Mut → Yath → Y0G) : Y0G := match r with
  | some (d, hp1, m1, p1, c1) => match k d hp1 m1 p1 with
    | some (sl2, hp2, m2, p2, c2) => some (sl2, hp2, m2, p2, c1 ++ c2)
    | none => none
  | none => none
def yyregF (T : Tab) (kn : ConF) (call : CallF) (qc : CallY) (ds : List (Option Tmp)) (l : List Oper) : Slots → Hp → List Nat → List (Nat × Bool) → Mut → Yath → Y0G :=
  List.rec (motive := fun _ => Slots → Hp → List Nat → List (Nat × Bool) → Mut → Yath → Y0G) (fun sl hp lds ms lo p => match lmOk ms lds with
    | true => some (sl, hp, lo, p, [])
    | false => none) (fun o _ ih sl hp lds ms lo p =>
    gateX (gate ds sl o.guard) (fun _ => yyregF1 (yyOp T kn call qc o sl hp p) (fun d hp1 m1 => ih (putO sl o.dst d) hp1 (ldAdd lds (ldOf sl o.op)) (muAdd ms (stEx sl hp o.op) m1) (mmin lo m1))) (fun _ => ih (putO sl o.dst (.tuple [])) hp lds ms lo p)) l
theorem yyregF_cons (T : Tab) (kn : ConF) (call : CallF) (qc : CallY) (ds : List (Option Tmp)) (o : Oper) (l : List Oper) (sl : Slots) (hp : Hp) (lds : List Nat) (ms : List (Nat × Bool)) (lo : Mut) (p : Yath) : yyregF T kn call qc ds (o :: l) sl hp lds ms lo p =
    gateX (gate ds sl o.guard) (fun _ => yyregF1 (yyOp T kn call qc o sl hp p) (fun d hp1 m1 => yyregF T kn call qc ds l (putO sl o.dst d) hp1 (ldAdd lds (ldOf sl o.op)) (muAdd ms (stEx sl hp o.op) m1) (mmin lo m1))) (fun _ => yyregF T kn call qc ds l (putO sl o.dst (.tuple [])) hp lds ms lo p) := rfl
def yyregA (T : Tab) (kn : ConF) (call : CallF) (qc : CallY) (ds : List (Option Tmp)) (l : List Oper) (sl : Slots) (hp : Hp) (p : Yath) (k : Nat) : Y0R := match yyregP T kn call qc ds (l.take k) sl hp p with
  | some (sl1, hp1, _, p1, c1) => yyApp c1 (yyN (yyregE T kn call qc ds (l.drop k) sl1 hp1 p1))
  | none => none
def yyregD (T : Tab) (kn : ConF) (call : CallF) (qc : CallY) (ds : List (Option Tmp)) (l : List Oper) (sl : Slots) (hp : Hp) (p : Yath) : Option Nat → Y0R
  | some k => match Nat.ble 1000 k, Nat.ble 2000 k with
    | true, false => yyN (yyregF T kn call qc ds l sl hp [] [] none p)
    | true, true => match regMM T call ds l sl hp with
      | some (sl', hp', m) => some (.normal, sl', hp', m, p, [])
      | none => none
    | false, _ => yyregA T kn call qc ds l sl hp p k
  | none => none
def yySeq (r : Y0R) (q : Slots → Hp → Yath → Y0R) : Y0R := match r with
  | some (.normal, sl1, hp1, m1, p1, c1) => match q sl1 hp1 p1 with
    | some (e, sl2, hp2, m2, p2, c2) => some (e, sl2, hp2, mmin m1 m2, p2, c1 ++ c2)
    | none => none
  | r => r
def yyCond (x : Option DV) (a b : Unit → Y0R) : Y0R := match x with
  | some (.bool true) => a ()
  | some (.bool false) => b ()
  | _ => none
def yyBlock (id : Nat) (r : Y0R) : Y0R := match r with
  | some (.exit i, sl1, hp1, m1, p, c) => match Nat.beq i id with
    | true => some (.normal, sl1, hp1, m1, p, c)
    | false => some (.exit i, sl1, hp1, m1, p, c)
  | r => r
def yyLeaf (p : Yath) : XR → Y0R
  | some (e, sl, hp, m) => some (e, sl, hp, m, p, [])
  | none => none
abbrev Y0F := List (Nat × Nat) → Code → Slots → Hp → Yath → Y0R
def yyEnd (hp : Hp) (T : Tab) (res : List ResultVar) : Y0R → Option ((DV × Hp × Mut) × List Prop)
  | some (.exit _, _, _, _, _, _) => none
  | some (_, sl, hp', mu, _, cs) => match resD T hp' sl res with
    | some ds => some (finish hp hp' mu (one ds), cs)
    | none => none
  | none => none
/-- a call along one path -/
def yycallE (T : Tab) (F : FTab) (C : ConF) (q : Y0F) (f : FuncId) (args : List DV) (hp : Hp) (p : Yath) : Option ((DV × Hp × Mut) × List Prop) := match C f args hp with
  | some _ => none
  | none => match F f with
    | some fn => match Nat.ble args.length fn.nt with
      | true => yyEnd hp T fn.res (q fn.ks fn.body (initS fn.nt args) hp p)
      | false => none
    | none => none
/-- a yield along one path: that of the assignments, and on with that of the round -/
def yyyld3 (k : Nat) (m1 : Mut) (c1 : List Prop) : Y0R → Option ((DV × Hp × Mut) × List Prop)
  | some (e, _, hp2, m2, _, c2) => match lfind k hp2.ls with
    | some _ => some ((.bool (goesOn e), hp2.lay k (stE e) (jumpOf e), mmin (some k) (mmin m1 m2)), c1 ++ c2)
    | none => none
  | none => none
def yyyld2 (q : Y0F) (R : LS) (k : Nat) : Y0R → Option ((DV × Hp × Mut) × List Prop)
  | some (.normal, sl1, hp1, m1, p1, c1) => match lfind k hp1.ls with
    | some R1 => match R1.st with
      | 0 => yyyld3 k m1 c1 (q R.ks R.body sl1 (hp1.lay k 1 R1.pe) p1)
      | _ => none
    | none => none
  | _ => none
def yyyldE (T : Tab) (q : Y0F) (k : Nat) (args : List DV) (hp : Hp) (p : Yath) : Option ((DV × Hp × Mut) × List Prop) := match lfind k hp.ls with
  | some R => match ychk T R && Nat.beq args.length R.ps.length with
    | true => yyyld2 q R k (q R.ks R.assign (putP R.sl R.ps args) hp p)
    | false => none
  | none => none
def yycallX (T : Tab) (F : FTab) (C : ConF) (q : Y0F) : CallY := ⟨yycallE T F C q, yyyldE T q⟩
def yyrng2 (sl : Slots) (hp : Hp) (p : Yath) : Option ((DV × Hp × Mut) × List Prop) → Y0R
  | some (r, cs) => match rngE2 sl hp (some r) with
    | some (e, sl', hp', m) => some (e, sl', hp', m, p, cs)
    | none => none
  | none => none
/-- a range over a function: the path of its call stands under 65534 -/
def yyrng (T : Tab) (F : FTab) (C : ConF) (q : Y0F) (ks : List (Nat × Nat)) (g : Operand) (ps : List Nat) (a b : Code) (sl : Slots) (hp : Hp) (p' p : Yath) : Y0R := match ev sl g, assoc ks 65535 with
  | some (.fn f first captured), some nc => match first with
    | [] => yyrng2 sl hp p (yycallE T F C q f (.yld hp.n :: captured) (hp.beg nc ks sl ps a b) p')
    | _ => none
  | _, _ => none
def yyRng (p : Yath) (f : Yath → Yath → Y0R) (other : Unit → Y0R) : Y0R := match p with
  | (k, .c p') :: p2 => match Nat.beq k 65534 with
    | true => f p' p2
    | false => other ()
  | _ => other ()
theorem yycallE_ok {T : Tab} {F : FTab} {C : ConF} {q : Y0F} {x : XF} (hq : ∀ ⦃ks c sl hp p e sl' hp' mu p' cs⦄, q ks c sl hp p = some (e, sl', hp', mu, p', cs) → AskedP cs → x ks c sl hp = some (e, sl', hp', mu)) {f : FuncId} {args : List DV} {hp : Hp} {p : Yath} {r : DV × Hp × Mut} {cs : List Prop} (h : yycallE T F C q f args hp p = some (r, cs)) (hc : AskedP cs) : callE T F C x f args hp = some r := by
  unfold yycallE at h
  unfold callE
  split at h
  · cases h
  · rename_i hC
    rw [hC]
    split at h
    · rename_i fn hF
      rw [hF]
      split at h
      · rename_i hl
        simp only [hl]
        unfold yyEnd at h
        split at h
        · cases h
        · rename_i e sl hp' mu p' cs' hne hr
          split at h
          · rename_i ds hds
            cases h
            rw [hq hr hc]
            cases e with
            | exit i => exact (hne i rfl).elim
            | normal => simp only [hds]
            | ret => simp only [hds]
          · cases h
        · cases h
      · cases h
    · cases h
theorem yyyldE_ok {T : Tab} {q : Y0F} {x : XF} (hq : ∀ ⦃ks c sl hp p e sl' hp' mu p' cs⦄, q ks c sl hp p = some (e, sl', hp', mu, p', cs) → AskedP cs → x ks c sl hp = some (e, sl', hp', mu)) {k : Nat} {args : List DV} {hp : Hp} {p : Yath} {r : DV × Hp × Mut} {cs : List Prop} (h : yyyldE T q k args hp p = some (r, cs)) (hc : AskedP cs) : yldE T x k args hp = some r := by
  unfold yyyldE at h
  unfold yldE
  split at h
  · rename_i R hR
    rw [hR]
    try simp only
    split at h
    · rename_i hb
      rw [hb]
      try simp only
      unfold yyyld2 at h
      split at h
      · rename_i h1
        split at h
        · rename_i R1 hR1
          split at h
          · rename_i hst
            unfold yyyld3 at h
            split at h
            · rename_i h2
              split at h
              · rename_i hR2
                cases h
                rw [hq h1 hc.left]
                simp only [yldE2, hR1, hst, hq h2 hc.right, yldE3, hR2]
              · cases h
            · cases h
          · cases h
        · cases h
      · cases h
    · cases h
  · cases h
theorem yycallX_ok {T : Tab} {F : FTab} {C : ConF} {q : Y0F} {x : XF} (hq : ∀ ⦃ks c sl hp p e sl' hp' mu p' cs⦄, q ks c sl hp p = some (e, sl', hp', mu, p', cs) → AskedP cs → x ks c sl hp = some (e, sl', hp', mu)) : Y0Ok C (yycallX T F C q) (callX T F C x) :=
  ⟨fun _ _ _ _ _ _ h hc => yycallE_ok hq h hc, fun f args hp r h => by show callE T F C x f args hp = _; unfold callE; rw [h], fun _ _ _ _ _ _ h hc => yyyldE_ok hq h hc⟩
theorem yyrng_ok {T : Tab} {F : FTab} {C : ConF} {q : Y0F} {x : XF} (hq : ∀ ⦃ks c sl hp p e sl' hp' mu p' cs⦄, q ks c sl hp p = some (e, sl', hp', mu, p', cs) → AskedP cs → x ks c sl hp = some (e, sl', hp', mu)) {ks : List (Nat × Nat)} {g : Operand} {ps : List Nat} {a b : Code} {sl : Slots} {hp : Hp} {p0 p : Yath} {e : Ex} {sl' : Slots} {hp' : Hp} {mu : Mut} {p' : Yath} {cs : List Prop}
    (h : yyrng T F C q ks g ps a b sl hp p0 p = some (e, sl', hp', mu, p', cs)) (hc : AskedP cs) : rngE T F C x ks g ps a b sl hp = some (e, sl', hp', mu) := by
  unfold yyrng at h
  unfold rngE
  split at h
  · rename_i h1 h2
    rw [h1, h2]
    try simp only
    split at h
    · unfold yyrng2 at h
      split at h
      · rename_i h3
        split at h
        · rename_i h4
          cases h
          simp only [yycallE_ok hq h3 hc, h4]
        · cases h
      · cases h
    · cases h
  · cases h
def yyexec1 (T : Tab) (F : FTab) (C : ConF) (n : Nat) (q : Y0F) : Y0F := fun ks c sl hp p => match c with
  | .seq a b => yySeq (q ks a sl hp p) (q ks b)
  | .cond x a b => yyCond (ev sl x) (fun _ => q ks a sl hp p) (fun _ => q ks b sl hp p)
  | .region _ ops false => yyN (yyregE T C (callX T F C (exec T F C n)) (yycallX T F C q) (ops.toList.map (·.dst)) ops.toList sl hp p)
  | .region id ops true => yyregD T C (callX T F C (exec T F C n)) (yycallX T F C q) (ops.toList.map (·.dst)) ops.toList sl hp p (assoc ks id)
  | .block id a => yyBlock id (q ks a sl hp p)
  | .loop a => yySeq (q ks a sl hp p) (q ks (.loop a))
  | .scope a => q ks a sl hp p
  | .rangeFunc g ps a b => yyRng p (fun p' p2 => yyrng T F C q ks g ps.toList a b sl hp p' p2) (fun _ => yyLeaf p (exec T F C (n + 1) ks (.rangeFunc g ps a b) sl hp))
  | c => yyLeaf p (exec T F C (n + 1) ks c sl hp)
def yyexec (T : Tab) (F : FTab) (C : ConF) (n : Nat) : Y0F := Nat.rec (motive := fun _ => Y0F) (fun _ _ _ _ _ => none) (fun n ih => yyexec1 T F C n ih) n
theorem yyexec_succ (T : Tab) (F : FTab) (C : ConF) (n : Nat) : yyexec T F C (n + 1) = yyexec1 T F C n (yyexec T F C n) := rfl
theorem yyregE_ok {T : Tab} {kn : ConF} {call : CallF} {qc : CallY} (hqc : Y0Ok kn qc call) {ds : List (Option Tmp)} : ∀ {l : List Oper} {sl : Slots} {hp : Hp} {p : Yath} {sl' : Slots} {hp' : Hp} {mu : Mut} {p' : Yath} {cs : List Prop}, yyregE T kn call qc ds l sl hp p = some (sl', hp', mu, p', cs) → AskedP cs → regE T call ds l sl hp = some (sl', hp', mu)
  | [], sl, hp, p, sl', hp', mu, p', cs, h, _ => by cases h; rfl
  | o :: l, sl, hp, p, sl', hp', mu, p', cs, h, hc => by
    rw [yyregE_cons] at h
    rw [regE_cons]
    unfold gateX at h ⊢
    split at h
    · unfold yyregE1 at h
      split at h
      · rename_i d hp1 m1 p1 c1 hop
        split at h
        · rename_i hrest
          cases h
          rw [yyOp_ok hqc hop hc.left]
          simp only [regE1, yyregE_ok hqc hrest hc.right]
        · cases h
      · cases h
    · exact yyregE_ok hqc h hc
    · cases h
theorem yyregP_ok {T : Tab} {kn : ConF} {call : CallF} {qc : CallY} (hqc : Y0Ok kn qc call) {ds : List (Option Tmp)} : ∀ {l : List Oper} {sl : Slots} {hp : Hp} {p : Yath} {sl' : Slots} {hp' : Hp} {mu : Mut} {p' : Yath} {cs : List Prop}, yyregP T kn call qc ds l sl hp p = some (sl', hp', mu, p', cs) → AskedP cs → regP T call ds l sl hp = some (sl', hp')
  | [], sl, hp, p, sl', hp', mu, p', cs, h, _ => by cases h; rfl
  | o :: l, sl, hp, p, sl', hp', mu, p', cs, h, hc => by
    rw [yyregP_cons] at h
    rw [regP_cons]
    unfold gateX at h ⊢
    split at h
    · unfold yyregP1 at h
      split at h
      · rename_i d hp1 p1 c1 hop
        split at h
        · rename_i hrest
          cases h
          rw [yyOp_ok hqc hop hc.left]
          simp only [regP1, yyregP_ok hqc hrest hc.right]
        · cases h
      · cases h
    · exact yyregP_ok hqc h hc
    · cases h
theorem yyregF_ok {T : Tab} {kn : ConF} {call : CallF} {qc : CallY} (hqc : Y0Ok kn qc call) {ds : List (Option Tmp)} : ∀ {l : List Oper} {sl : Slots} {hp : Hp} {lds : List Nat} {ms : List (Nat × Bool)} {lo : Mut} {p : Yath} {sl' : Slots} {hp' : Hp} {mu : Mut} {p' : Yath} {cs : List Prop}, yyregF T kn call qc ds l sl hp lds ms lo p = some (sl', hp', mu, p', cs) → AskedP cs → regF T call ds l sl hp lds ms lo = some (sl', hp', mu)
  | [], sl, hp, lds, ms, lo, p, sl', hp', mu, p', cs, h, _ => by
    have h : (match lmOk ms lds with | true => some (sl, hp, lo, p, []) | false => none) = some (sl', hp', mu, p', cs) := h
    show (match lmOk ms lds with | true => some (sl, hp, lo) | false => none) = some (sl', hp', mu)
    split at h
    · rename_i ht
      cases h
      rfl
    · cases h
  | o :: l, sl, hp, lds, ms, lo, p, sl', hp', mu, p', cs, h, hc => by
    rw [yyregF_cons] at h
    rw [regF_cons]
    unfold gateX at h ⊢
    split at h
    · unfold yyregF1 at h
      split at h
      · rename_i d hp1 m1 p1 c1 hop
        split at h
        · rename_i hrest
          cases h
          rw [yyOp_ok hqc hop hc.left]
          simp only [regF1, yyregF_ok hqc hrest hc.right]
        · cases h
      · cases h
    · exact yyregF_ok hqc h hc
    · cases h
theorem yySeq_ok {r : Y0R} {q : Slots → Hp → Yath → Y0R} {r' : XR} {q' : Slots → Hp → XR} (hr : ∀ {e sl hp mu p cs}, r = some (e, sl, hp, mu, p, cs) → AskedP cs → r' = some (e, sl, hp, mu)) (hq : ∀ {sl hp p e sl' hp' mu p' cs}, q sl hp p = some (e, sl', hp', mu, p', cs) → AskedP cs → q' sl hp = some (e, sl', hp', mu))
    {e : Ex} {sl : Slots} {hp : Hp} {mu : Mut} {p : Yath} {cs : List Prop} (h : yySeq r q = some (e, sl, hp, mu, p, cs)) (hc : AskedP cs) : seqX r' q' = some (e, sl, hp, mu) := by
  unfold yySeq at h
  split at h
  · split at h
    · rename_i hq1
      cases h
      rw [hr rfl hc.left]
      simp only [seqX, hq hq1 hc.right]
    · cases h
  · rename_i hne
    rw [hr h hc]
    cases e with
    | normal => exact absurd h (fun h => hne _ _ _ _ _ h)
    | exit i => rfl
    | ret => rfl
theorem yyexec_ok (T : Tab) (F : FTab) (C : ConF) : ∀ n ⦃ks c sl hp p e sl' hp' mu p' cs⦄, yyexec T F C n ks c sl hp p = some (e, sl', hp', mu, p', cs) → AskedP cs → exec T F C n ks c sl hp = some (e, sl', hp', mu)
  | 0 => by intro ks c sl hp p e sl' hp' mu p' cs h; cases h
  | n + 1 => by
    have ih := yyexec_ok T F C n
    have hqc := yycallX_ok (T := T) (F := F) (C := C) ih
    intro ks c sl hp p e sl' hp' mu p' cs h hc
    rw [yyexec_succ] at h
    unfold yyexec1 at h
    split at h
    · rw [exec_succ]
      exact yySeq_ok (fun h hc => ih h hc) (fun h hc => ih h hc) h hc
    · rename_i x a b
      rw [exec_succ]
      simp only [exec1]
      unfold yyCond at h
      unfold condX
      split at h
      · rename_i hv
        rw [hv]
        exact ih h hc
      · rename_i hv
        rw [hv]
        exact ih h hc
      · cases h
    · rename_i id ops
      rw [exec_succ]
      simp only [exec1]
      unfold yyN at h
      split at h
      · rename_i h1
        cases h
        rw [yyregE_ok hqc h1 hc]
        rfl
      · cases h
    · rename_i id ops
      rw [exec_succ]
      simp only [exec1]
      unfold yyregD at h
      split at h
      · rename_i k hk
        rw [hk]
        cases hk1 : Nat.ble 1000 k with
        | true =>
          cases hk2 : Nat.ble 2000 k with
          | false =>
            simp only [hk1, hk2] at h
            unfold yyN at h
            split at h
            · rename_i h3
              cases h
              simp only [regD, hk1, hk2, yyregF_ok hqc h3 hc]
              rfl
            · cases h
          | true =>
            simp only [hk1, hk2] at h
            split at h
            · rename_i h3
              cases h
              simp only [regD, hk1, hk2, h3]
              rfl
            · cases h
        | false =>
          simp only [hk1, yyregA] at h
          split at h
          · rename_i h1
            unfold yyApp at h
            split at h
            · rename_i h2
              cases h
              unfold yyN at h2
              split at h2
              · rename_i h3
                cases h2
                simp only [regD, hk1, regA, yyregP_ok hqc h1 hc.left, yyregE_ok hqc h3 hc.right]
                rfl
              · cases h2
            · cases h
          · cases h
      · cases h
    · rename_i id a
      rw [exec_succ]
      simp only [exec1]
      unfold yyBlock at h
      split at h
      · rename_i h1
        split at h
        · rename_i hb
          cases h
          rw [ih h1 hc]
          simp only [blockX, hb]
        · rename_i hb
          cases h
          rw [ih h1 hc]
          simp only [blockX, hb]
      · rename_i hne
        rw [ih h hc]
        cases e with
        | exit i => exact absurd h (fun h => hne _ _ _ _ _ _ h)
        | normal => rfl
        | ret => rfl
    · rw [exec_succ]
      exact yySeq_ok (fun h hc => ih h hc) (fun h hc => ih h hc) h hc
    · rw [exec_succ]
      exact ih h hc
    · rename_i g ps a b
      have leaf : ∀ {r : Y0R}, r = yyLeaf p (exec T F C (n + 1) ks (.rangeFunc g ps a b) sl hp) → r = some (e, sl', hp', mu, p', cs) → exec T F C (n + 1) ks (.rangeFunc g ps a b) sl hp = some (e, sl', hp', mu) := by
        intro r hr h
        rw [hr] at h
        unfold yyLeaf at h
        split at h
        · rename_i h1
          cases h
          exact h1
        · cases h
      unfold yyRng at h
      split at h
      · split at h
        · rw [exec_succ]
          exact yyrng_ok ih h hc
        · exact leaf rfl h
      · exact leaf rfl h
    · unfold yyLeaf at h
      split at h
      · rename_i h1
        cases h
        exact h1
      · cases h
/-! ### The text of a function, with loops -/
def memN (k : Nat) : List Nat → Bool
  | [] => false
  | a :: l => match Nat.beq a k with
    | true => true
    | false => memN k l
def seeS (live : List Nat) (sl : Slots) : Slots := restr sl fun t => memN t live
abbrev ZR := Option (Ex × Slots × Hp × Yath × List Prop)
abbrev ZF := Code → Slots → Hp → Yath → ZR
def zSeq (r : ZR) (q : Slots → Hp → Yath → ZR) : ZR := match r with
  | some (.normal, sl1, hp1, p1, c1) => match q sl1 hp1 p1 with
    | some (e, sl2, hp2, p2, c2) => some (e, sl2, hp2, p2, c1 ++ c2)
    | none => none
  | r => r
def zCond (x : Option DV) (a b : Unit → ZR) : ZR := match x with
  | some (.bool true) => a ()
  | some (.bool false) => b ()
  | _ => none
def zBlock (id : Nat) (r : ZR) : ZR := match r with
  | some (.exit i, sl1, hp1, p, c) => match Nat.beq i id with
    | true => some (.normal, sl1, hp1, p, c)
    | false => some (.exit i, sl1, hp1, p, c)
  | r => r
def zLeaf : Y0R → ZR
  | some (e, sl, hp, _, p, c) => some (e, sl, hp, p, c)
  | none => none
def zLoop (P : Program) (T : Tab) (ks : List (Nat × Nat)) (a : Code) (sl : Slots) (hp : Hp) (other : Unit → ZR) (p : Yath) : ZR := match p with
  | (_, .l live e sl' hp') :: p' => some (e, sl', hp', p', [Goes P T ks (.loop a) (seeS live sl) hp e sl' hp'])
  | _ => other ()
def zRng (P : Program) (T : Tab) (ks : List (Nat × Nat)) (g : Operand) (ps : Array Tmp) (a b : Code) (sl : Slots) (hp : Hp) (other : Unit → ZR) (p : Yath) : ZR := match p with
  | (_, .l live e sl' hp') :: p' => some (e, sl', hp', p', [Goes P T ks (.rangeFunc g ps a b) (seeS live sl) hp e sl' hp'])
  | _ => other ()
def zSee (id : Nat) (p : Yath) (c : ZF) (other : Unit → ZR) (d : Code) (sl : Slots) (hp : Hp) : ZR := match p with
  | (k, .s live sl' hp') :: p' => match Nat.beq k id with
    | true => match c d sl' hp' p' with
      | some (e, sl2, hp2, p2, cs) => some (e, sl2, hp2, p2, Seen (seeS live sl) hp sl' hp' :: cs)
      | none => none
    | false => other ()
  | _ => other ()
def zz1 (P : Program) (T : Tab) (F : FTab) (C : ConF) (m : Nat) (ks : List (Nat × Nat)) (q : ZF) : ZF := fun c sl hp p => match c with
  | .seq a b => zSeq (q a sl hp p) (q b)
  | .cond x a b => zCond (ev sl x) (fun _ => q a sl hp p) (fun _ => q b sl hp p)
  | .block id a => zBlock id (q a sl hp p)
  | .loop a => zLoop P T ks a sl hp (fun _ => zLeaf (yyexec T F C m ks (.loop a) sl hp p)) p
  | .scope a => q a sl hp p
  | .region id ops b => zSee id p q (fun _ => zLeaf (yyexec T F C m ks (.region id ops b) sl hp p)) (.region id ops b) sl hp
  | .rangeFunc g ps a b => zRng P T ks g ps a b sl hp (fun _ => zLeaf (yyexec T F C m ks (.rangeFunc g ps a b) sl hp p)) p
  | c => zLeaf (yyexec T F C m ks c sl hp p)
def zz (P : Program) (T : Tab) (F : FTab) (C : ConF) (m : Nat) (ks : List (Nat × Nat)) (n : Nat) : ZF := Nat.rec (motive := fun _ => ZF) (fun _ _ _ _ => none) (fun _ ih => zz1 P T F C m ks ih) n
theorem zz_succ (P : Program) (T : Tab) (F : FTab) (C : ConF) (m : Nat) (ks : List (Nat × Nat)) (n : Nat) : zz P T F C m ks (n + 1) = zz1 P T F C m ks (zz P T F C m ks n) := rfl
section
variable {P : Program} {T : Tab} {F : FTab} {C : ConF}
theorem zLeaf_ok (hT : TabOk P T) (hmix : P.follows .mixedOrders = true) (hF : FunOk P T F) (hC : ConOk P C) {m : Nat} {ks : List (Nat × Nat)} {c : Code} {sl : Slots} {hp : Hp} {p : Yath} {e : Ex} {sl' : Slots} {hp' : Hp} {p' : Yath} {cs : List Prop} (h : zLeaf (yyexec T F C m ks c sl hp p) = some (e, sl', hp', p', cs)) (hc : AskedP cs) : Goes P T ks c sl hp e sl' hp' := by
  unfold zLeaf at h
  split at h
  · rename_i heq
    cases h
    exact goes_exec hT hmix hF hC (yyexec_ok T F C m heq hc)
  · cases h
theorem zz_ok (hT : TabOk P T) (hmix : P.follows .mixedOrders = true) (hF : FunOk P T F) (hC : ConOk P C) {m : Nat} {ks : List (Nat × Nat)} : ∀ n ⦃c sl hp p e sl' hp' p' cs⦄, zz P T F C m ks n c sl hp p = some (e, sl', hp', p', cs) → AskedP cs → Goes P T ks c sl hp e sl' hp'
  | 0 => by intro c sl hp p e sl' hp' p' cs h; cases h
  | n + 1 => by
    have ih := zz_ok hT hmix hF hC (m := m) (ks := ks) n
    intro c sl hp p e sl' hp' p' cs h hc
    rw [zz_succ] at h
    unfold zz1 at h
    split at h
    · unfold zSeq at h
      split at h
      · rename_i h1
        split at h
        · rename_i h2
          cases h
          exact (ih h1 hc.left).seq (ih h2 hc.right)
        · cases h
      · rename_i hne
        exact (ih h hc).seqx fun he => by
          subst he
          exact hne _ _ _ _ h
    · unfold zCond at h
      split at h
      · rename_i hv
        exact .cond hv (ih h hc)
      · rename_i hv
        exact .cond hv (ih h hc)
      · cases h
    · unfold zBlock at h
      split at h
      · rename_i h1
        split at h
        · rename_i hb
          cases h
          have := Nat.eq_of_beq_eq_true hb
          subst this
          exact .blockx (ih h1 hc)
        · rename_i hb
          cases h
          exact .block (ih h1 hc) fun i he hi => by
            cases he
            rw [beqT hi] at hb
            cases hb
      · rename_i hne
        exact .block (ih h hc) fun i he _ => by
          subst he
          exact hne _ _ _ _ _ h
    · unfold zLoop at h
      split at h
      · cases h
        exact .pre (.kn (kn_restr _ _) _) (hc _ (List.mem_singleton.2 rfl))
      · exact zLeaf_ok hT hmix hF hC h hc
    · exact .scope (ih h hc)
    · unfold zSee at h
      split at h
      · split at h
        · split at h
          · rename_i h1
            cases h
            exact .pre ((Seen.kn (kn_restr _ _) _).trans (hc _ (List.mem_cons_self ..))) (ih h1 fun x hx => hc x (List.mem_cons_of_mem _ hx))
          · cases h
        · exact zLeaf_ok hT hmix hF hC h hc
      · exact zLeaf_ok hT hmix hF hC h hc
    · unfold zRng at h
      split at h
      · cases h
        exact .pre (.kn (kn_restr _ _) _) (hc _ (List.mem_singleton.2 rfl))
      · exact zLeaf_ok hT hmix hF hC h hc
    · exact zLeaf_ok hT hmix hF hC h hc
end
/-- a text's end, as far as it is to be seen -/
def zEnd (live : List Nat) : ZR → Option (Ex × Slots × Hp × List Prop)
  | some (e, sl, hp, _, cs) => some (e, seeS live sl, hp, cs)
  | none => none
def zsee (P : Program) (T : Tab) (F : FTab) (C : ConF) (ks : List (Nat × Nat)) (live : List Nat) (c : Code) (sl : Slots) (hp : Hp) (p : Yath) : Option (Ex × Slots × Hp × List Prop) := zEnd live (zz P T F C 1000 ks 1000 c sl hp p)
theorem zsee_ok {P : Program} {T : Tab} {F : FTab} {C : ConF} (hT : TabOk P T) (hmix : P.follows .mixedOrders = true) (hF : FunOk P T F) (hC : ConOk P C) {ks : List (Nat × Nat)} {live : List Nat} {c : Code} {sl : Slots} {hp : Hp} {p : Yath} {e : Ex} {sl' : Slots} {hp' : Hp} {cs : List Prop} (h : zsee P T F C ks live c sl hp p = some (e, sl', hp', cs)) (hc : AskedP cs) : Goes P T ks c sl hp e sl' hp' := by
  unfold zsee zEnd at h
  split at h
  · rename_i h1
    cases h
    exact (zz_ok hT hmix hF hC 1000 h1 hc).post (.kn (kn_restr _ _) _)
  · cases h
/-- slots, by a list -/
def mkT (nt : Nat) (l : List (Nat × DV)) : Slots := l.foldr (fun x s => putS s x.1 x.2) (mkS (Nat.log2 nt + 2))
def loopsOf : Code → List Code
  | .seq a b => loopsOf a ++ loopsOf b
  | .cond _ a b => loopsOf a ++ loopsOf b
  | .block _ a => loopsOf a
  | .loop a => [a]
  | .scope a => loopsOf a
  | _ => []
def bodyOf (F : FTab) (f : Nat) : Code := match F f with
  | some fn => fn.body
  | none => .skip
def ksF (F : FTab) (f : Nat) : List (Nat × Nat) := match F f with
  | some fn => fn.ks
  | none => []
/-- the loop number k of a text, those inside of others not counted -/
def loopAt (c : Code) (k : Nat) : Code := (loopsOf c).getD k .skip
end
end Go.Proofs.Ytoghpmeoekbcbaa
