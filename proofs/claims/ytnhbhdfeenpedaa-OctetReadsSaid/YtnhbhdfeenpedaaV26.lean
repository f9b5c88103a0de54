/- Paths again, by the number of operations; checks of an index taken as passed. No function of the program is named here. -/
import Derived.Test.YtnhbhdfeenpedaaV25
namespace Go.Proofs.Ytnhbhdfeenpedaa
open Go.RowKit

noncomputable section
/-- what is decided of an operation: its bool; that the check that it makes is passed; or the path of the call that it is -/
inductive PE where
  | b (v : Bool)
  | g
  | c (p : List (Nat × PE))
abbrev Qath := List (Nat × PE)
def idxS (s : ByteArray) (n : Int) : Bool := decide (0 ≤ n) && Nat.blt n.toNat (lenB s)
def byteAt (s : ByteArray) (n : Int) : Int := match nth s.data.toList n.toNat with
  | some b => (b.toNat : Int)
  | none => 0
/-- an operation that checks something: the check, and what is answered if it is passed -/
def gopIndex (T : Tab) (sl : Slots) (t : TypeId) (x ix : Operand) : Option (Bool × DV) := match T t, ev sl x, ev sl ix with
  | some i, some (.str s), some (.int _ n) => match i.td with
    | .str => some (idxS s n, .int .u8 (byteAt s n))
    | _ => none
  | _, _, _ => none
def gop (T : Tab) (sl : Slots) : Op → Option (Bool × DV)
  | .index t x ix => gopIndex T sl t x ix
  | _ => none
theorem gop_ok {T : Tab} {call : CallF} {o : Oper} {sl : Slots} {hp : Hp} {c : Bool} {d : DV} (h : gop T sl o.op = some (c, d)) (hc : c = true) : opE T call o sl hp = some (d, hp, none) := by
  subst hc
  unfold gop at h
  split at h
  · rename_i t x ix ho
    unfold gopIndex at h
    split at h
    · rename_i i s k n h1 h2 h3
      split at h
      · rename_i htd
        simp only [Option.some.injEq, Prod.mk.injEq] at h
        obtain ⟨hi, rfl⟩ := h
        unfold idxS at hi
        rw [Bool.and_eq_true] at hi
        obtain ⟨i1, i2⟩ := hi
        have i2 : n.toNat < s.data.toList.length := Nat.le_of_ble_eq_true i2
        have i3 : nth s.data.toList n.toNat = some s.data.toList[n.toNat] := by rw [nth_eq]; exact List.getElem?_eq_getElem i2
        have : aop T hp sl o.op = .done (.int .u8 (byteAt s n), hp, none) := by
          rw [ho]
          simp only [aop, opIndex, h1, h2, h3, htd, i1, i3, byteAt]
        unfold opE
        rw [this]
      · cases h
    · cases h
  · cases h
abbrev QR := Option (Ex × Slots × Hp × Mut × Qath × List (Bool × Bool))
abbrev QG := Option (Slots × Hp × Mut × Qath × List (Bool × Bool))
abbrev QO := Option (DV × Hp × Mut × Qath × List (Bool × Bool))
def qAuto (p : Qath) : Option (DV × Hp × Mut) → QO
  | some (d, hp, m) => some (d, hp, m, p, [])
  | none => none
def qBool (v : Bool) (p : Qath) : Option (DV × Hp × Mut) → QO
  | some (.bool x, hp, m) => some (.bool v, hp, m, p, [(x, v)])
  | _ => none
def qGuard (hp : Hp) (p : Qath) : Option (Bool × DV) → QO
  | some (c, d) => some (d, hp, none, p, [(c, true)])
  | none => none
def qPop (p : Qath) : Option PE × Qath := match p with
  | [] => (none, [])
  | (0, e) :: p => (some e, p)
  | (k + 1, e) :: p => (none, (k, e) :: p)
abbrev CallQ := FuncId → List DV → Hp → Qath → Option ((DV × Hp × Mut) × List (Bool × Bool))
def QOk (qc : CallQ) (call : CallF) : Prop := ∀ ⦃f args hp p r cs⦄, qc f args hp p = some (r, cs) → Asked cs → call f args hp = some r
def qCall (p : Qath) : Option ((DV × Hp × Mut) × List (Bool × Bool)) → QO
  | some ((d, hp, m), cs) => some (d, hp, m, p, cs)
  | none => none
def qCalls (qc : CallQ) (hp : Hp) (p p' : Qath) : Out → QO
  | .call f args => qCall p (qc f args hp p')
  | _ => none
def qOp2 (T : Tab) (call : CallF) (qc : CallQ) (o : Oper) (sl : Slots) (hp : Hp) : Option PE × Qath → QO
  | (none, p) => qAuto p (opE T call o sl hp)
  | (some (.b v), p) => qBool v p (opE T call o sl hp)
  | (some .g, p) => qGuard hp p (gop T sl o.op)
  | (some (.c p'), p) => qCalls qc hp p p' (aop T hp sl o.op)
def qOp (T : Tab) (call : CallF) (qc : CallQ) (o : Oper) (sl : Slots) (hp : Hp) (p : Qath) : QO := qOp2 T call qc o sl hp (qPop p)
theorem qOp_ok {T : Tab} {call : CallF} {qc : CallQ} (hqc : QOk qc call) {o : Oper} {sl : Slots} {hp : Hp} {p : Qath} {d : DV} {hp' : Hp} {m : Mut} {p' : Qath} {cs : List (Bool × Bool)} (h : qOp T call qc o sl hp p = some (d, hp', m, p', cs)) (hc : Asked cs) : opE T call o sl hp = some (d, hp', m) := by
  unfold qOp qOp2 at h
  split at h
  · unfold qAuto at h
    split at h
    · rename_i heq
      cases h
      exact heq
    · cases h
  · unfold qBool at h
    split at h
    · rename_i heq
      cases h
      rw [heq]
      exact congrArg (fun b => some (DV.bool b, hp', m)) (hc _ (List.mem_singleton.2 rfl))
    · cases h
  · unfold qGuard at h
    split at h
    · rename_i heq
      cases h
      exact gop_ok heq (hc _ (List.mem_singleton.2 rfl))
    · cases h
  · unfold qCalls at h
    split at h
    · rename_i f args heq
      unfold qCall at h
      split at h
      · rename_i hq
        cases h
        unfold opE
        rw [heq]
        exact hqc hq hc
      · cases h
    · cases h
def qregE1 (r : QO) (k : DV → Hp → Qath → QG) : QG := match r with
  | some (d, hp1, m1, p1, c1) => match k d hp1 p1 with
    | some (sl2, hp2, m2, p2, c2) => some (sl2, hp2, mmin m1 m2, p2, c1 ++ c2)
    | none => none
  | none => none
def qregE (T : Tab) (call : CallF) (qc : CallQ) (ds : List (Option Tmp)) (l : List Oper) : Slots → Hp → Qath → QG :=
  List.rec (motive := fun _ => Slots → Hp → Qath → QG) (fun sl hp p => some (sl, hp, none, p, [])) (fun o _ ih sl hp p =>
    gateX (gate ds sl o.guard) (fun _ => qregE1 (qOp T call qc o sl hp p) (fun d => ih (putO sl o.dst d))) (fun _ => ih (putO sl o.dst (.tuple [])) hp p)) l
theorem qregE_cons (T : Tab) (call : CallF) (qc : CallQ) (ds : List (Option Tmp)) (o : Oper) (l : List Oper) (sl : Slots) (hp : Hp) (p : Qath) : qregE T call qc ds (o :: l) sl hp p =
    gateX (gate ds sl o.guard) (fun _ => qregE1 (qOp T call qc o sl hp p) (fun d => qregE T call qc ds l (putO sl o.dst d))) (fun _ => qregE T call qc ds l (putO sl o.dst (.tuple [])) hp p) := rfl
def qregP1 (r : QO) (k : DV → Hp → Qath → QG) : QG := match r with
  | some (d, hp1, none, p1, c1) => match k d hp1 p1 with
    | some (sl2, hp2, m2, p2, c2) => some (sl2, hp2, m2, p2, c1 ++ c2)
    | none => none
  | _ => none
def qregP (T : Tab) (call : CallF) (qc : CallQ) (ds : List (Option Tmp)) (l : List Oper) : Slots → Hp → Qath → QG :=
  List.rec (motive := fun _ => Slots → Hp → Qath → QG) (fun sl hp p => some (sl, hp, none, p, [])) (fun o _ ih sl hp p =>
    gateX (gate ds sl o.guard) (fun _ => qregP1 (qOp T call qc o sl hp p) (fun d => ih (putO sl o.dst d))) (fun _ => ih (putO sl o.dst (.tuple [])) hp p)) l
theorem qregP_cons (T : Tab) (call : CallF) (qc : CallQ) (ds : List (Option Tmp)) (o : Oper) (l : List Oper) (sl : Slots) (hp : Hp) (p : Qath) : qregP T call qc ds (o :: l) sl hp p =
    gateX (gate ds sl o.guard) (fun _ => qregP1 (qOp T call qc o sl hp p) (fun d => qregP T call qc ds l (putO sl o.dst d))) (fun _ => qregP T call qc ds l (putO sl o.dst (.tuple [])) hp p) := rfl
def qN : QG → QR
  | some (sl, hp, m, p, c) => some (.normal, sl, hp, m, p, c)
  | none => none
def qApp (c1 : List (Bool × Bool)) : QR → QR
  | some (e, sl, hp, m, p, c) => some (e, sl, hp, m, p, c1 ++ c)
  | none => none
def qregD (T : Tab) (call : CallF) (qc : CallQ) (ds : List (Option Tmp)) (l : List Oper) (sl : Slots) (hp : Hp) (p : Qath) : Option Nat → QR
  | some k => match qregP T call qc ds (l.take k) sl hp p with
    | some (sl1, hp1, _, p1, c1) => qApp c1 (qN (qregE T call qc ds (l.drop k) sl1 hp1 p1))
    | none => none
  | none => none
def qSeq (r : QR) (q : Slots → Hp → Qath → QR) : QR := match r with
  | some (.normal, sl1, hp1, m1, p1, c1) => match q sl1 hp1 p1 with
    | some (e, sl2, hp2, m2, p2, c2) => some (e, sl2, hp2, mmin m1 m2, p2, c1 ++ c2)
    | none => none
  | r => r
def qCond (x : Option DV) (a b : Unit → QR) : QR := match x with
  | some (.bool true) => a ()
  | some (.bool false) => b ()
  | _ => none
def qBlock (id : Nat) (r : QR) : QR := match r with
  | some (.exit i, sl1, hp1, m1, p, c) => match Nat.beq i id with
    | true => some (.normal, sl1, hp1, m1, p, c)
    | false => some (.exit i, sl1, hp1, m1, p, c)
  | r => r
def qLeaf (p : Qath) : XR → QR
  | some (e, sl, hp, m) => some (e, sl, hp, m, p, [])
  | none => none
abbrev QF := List (Nat × Nat) → Code → Slots → Hp → Qath → QR
def qEnd (hp : Hp) (T : Tab) (res : List ResultVar) : QR → Option ((DV × Hp × Mut) × List (Bool × Bool))
  | some (.exit _, _, _, _, _, _) => none
  | some (_, sl, hp', mu, _, cs) => match resD T hp' sl res with
    | some ds => some (finish hp hp' mu (one ds), cs)
    | none => none
  | none => none
/-- a call along one path -/
def qcallE (T : Tab) (F : FTab) (C : CallF) (q : QF) : CallQ := fun f args hp p => match C f args hp with
  | some _ => none
  | none => match F f with
    | some fn => match Nat.ble args.length fn.nt with
      | true => qEnd hp T fn.res (q fn.ks fn.body (initS fn.nt args) hp p)
      | false => none
    | none => none
theorem qcallE_ok {T : Tab} {F : FTab} {C : CallF} {q : QF} {x : XF} (hq : ∀ ⦃ks c sl hp p e sl' hp' mu p' cs⦄, q ks c sl hp p = some (e, sl', hp', mu, p', cs) → Asked cs → x ks c sl hp = some (e, sl', hp', mu)) : QOk (qcallE T F C q) (callE T F C x) := by
  intro f args hp p r cs h hc
  unfold qcallE at h
  unfold callE
  split at h
  · cases h
  · rename_i hC
    rw [hC]
    split at h
    · rename_i fn hF
      rw [hF]
      split at h
      · rename_i hl
        simp only [hl]
        unfold qEnd at h
        split at h
        · cases h
        · rename_i e sl hp' mu p' cs' hne hr
          split at h
          · rename_i ds hds
            cases h
            rw [hq hr hc]
            cases e with
            | exit i => exact (hne i rfl).elim
            | normal => simp only [hds]
            | ret => simp only [hds]
          · cases h
        · cases h
      · cases h
    · cases h
def qexec1 (T : Tab) (F : FTab) (C : CallF) (n : Nat) (q : QF) : QF := fun ks c sl hp p => match c with
  | .seq a b => qSeq (q ks a sl hp p) (q ks b)
  | .cond x a b => qCond (ev sl x) (fun _ => q ks a sl hp p) (fun _ => q ks b sl hp p)
  | .region _ ops false => qN (qregE T (callE T F C (exec T F C n)) (qcallE T F C q) (ops.toList.map (·.dst)) ops.toList sl hp p)
  | .region id ops true => qregD T (callE T F C (exec T F C n)) (qcallE T F C q) (ops.toList.map (·.dst)) ops.toList sl hp p (assoc ks id)
  | .block id a => qBlock id (q ks a sl hp p)
  | .loop a => qSeq (q ks a sl hp p) (q ks (.loop a))
  | .scope a => q ks a sl hp p
  | c => qLeaf p (exec T F C (n + 1) ks c sl hp)
def qexec (T : Tab) (F : FTab) (C : CallF) (n : Nat) : QF := Nat.rec (motive := fun _ => QF) (fun _ _ _ _ _ => none) (fun n ih => qexec1 T F C n ih) n
theorem qexec_succ (T : Tab) (F : FTab) (C : CallF) (n : Nat) : qexec T F C (n + 1) = qexec1 T F C n (qexec T F C n) := rfl
theorem qregE_ok {T : Tab} {call : CallF} {qc : CallQ} (hqc : QOk qc call) {ds : List (Option Tmp)} : ∀ {l : List Oper} {sl : Slots} {hp : Hp} {p : Qath} {sl' : Slots} {hp' : Hp} {mu : Mut} {p' : Qath} {cs : List (Bool × Bool)}, qregE T call qc ds l sl hp p = some (sl', hp', mu, p', cs) → Asked cs → regE T call ds l sl hp = some (sl', hp', mu)
  | [], sl, hp, p, sl', hp', mu, p', cs, h, _ => by cases h; rfl
  | o :: l, sl, hp, p, sl', hp', mu, p', cs, h, hc => by
    rw [qregE_cons] at h
    rw [regE_cons]
    unfold gateX at h ⊢
    split at h
    · unfold qregE1 at h
      split at h
      · rename_i d hp1 m1 p1 c1 hop
        split at h
        · rename_i hrest
          cases h
          rw [qOp_ok hqc hop hc.left]
          simp only [regE1, qregE_ok hqc hrest hc.right]
        · cases h
      · cases h
    · exact qregE_ok hqc h hc
    · cases h
theorem qregP_ok {T : Tab} {call : CallF} {qc : CallQ} (hqc : QOk qc call) {ds : List (Option Tmp)} : ∀ {l : List Oper} {sl : Slots} {hp : Hp} {p : Qath} {sl' : Slots} {hp' : Hp} {mu : Mut} {p' : Qath} {cs : List (Bool × Bool)}, qregP T call qc ds l sl hp p = some (sl', hp', mu, p', cs) → Asked cs → regP T call ds l sl hp = some (sl', hp')
  | [], sl, hp, p, sl', hp', mu, p', cs, h, _ => by cases h; rfl
  | o :: l, sl, hp, p, sl', hp', mu, p', cs, h, hc => by
    rw [qregP_cons] at h
    rw [regP_cons]
    unfold gateX at h ⊢
    split at h
    · unfold qregP1 at h
      split at h
      · rename_i d hp1 p1 c1 hop
        split at h
        · rename_i hrest
          cases h
          rw [qOp_ok hqc hop hc.left]
          simp only [regP1, qregP_ok hqc hrest hc.right]
        · cases h
      · cases h
    · exact qregP_ok hqc h hc
    · cases h
theorem qSeq_ok {r : QR} {q : Slots → Hp → Qath → QR} {r' : XR} {q' : Slots → Hp → XR} (hr : ∀ {e sl hp mu p cs}, r = some (e, sl, hp, mu, p, cs) → Asked cs → r' = some (e, sl, hp, mu)) (hq : ∀ {sl hp p e sl' hp' mu p' cs}, q sl hp p = some (e, sl', hp', mu, p', cs) → Asked cs → q' sl hp = some (e, sl', hp', mu))
    {e : Ex} {sl : Slots} {hp : Hp} {mu : Mut} {p : Qath} {cs : List (Bool × Bool)} (h : qSeq r q = some (e, sl, hp, mu, p, cs)) (hc : Asked cs) : seqX r' q' = some (e, sl, hp, mu) := by
  unfold qSeq at h
  split at h
  · split at h
    · rename_i hq1
      cases h
      rw [hr rfl hc.left]
      simp only [seqX, hq hq1 hc.right]
    · cases h
  · rename_i hne
    rw [hr h hc]
    cases e with
    | normal => exact absurd h (fun h => hne _ _ _ _ _ h)
    | exit i => rfl
    | ret => rfl
theorem qexec_ok (T : Tab) (F : FTab) (C : CallF) : ∀ n ⦃ks c sl hp p e sl' hp' mu p' cs⦄, qexec T F C n ks c sl hp p = some (e, sl', hp', mu, p', cs) → Asked cs → exec T F C n ks c sl hp = some (e, sl', hp', mu)
  | 0 => by intro ks c sl hp p e sl' hp' mu p' cs h; cases h
  | n + 1 => by
    have ih := qexec_ok T F C n
    have hqc := qcallE_ok (T := T) (F := F) (C := C) ih
    intro ks c sl hp p e sl' hp' mu p' cs h hc
    rw [qexec_succ] at h
    unfold qexec1 at h
    split at h
    · rw [exec_succ]
      exact qSeq_ok (fun h hc => ih h hc) (fun h hc => ih h hc) h hc
    · rename_i x a b
      rw [exec_succ]
      simp only [exec1]
      unfold qCond at h
      unfold condX
      split at h
      · rename_i hv
        rw [hv]
        exact ih h hc
      · rename_i hv
        rw [hv]
        exact ih h hc
      · cases h
    · rename_i id ops
      rw [exec_succ]
      simp only [exec1]
      unfold qN at h
      split at h
      · rename_i h1
        cases h
        rw [qregE_ok hqc h1 hc]
        rfl
      · cases h
    · rename_i id ops
      rw [exec_succ]
      simp only [exec1]
      unfold qregD at h
      split at h
      · rename_i k hk
        rw [hk]
        split at h
        · rename_i h1
          unfold qApp at h
          split at h
          · rename_i h2
            cases h
            unfold qN at h2
            split at h2
            · rename_i h3
              cases h2
              simp only [regD, qregP_ok hqc h1 hc.left, qregE_ok hqc h3 hc.right]
              rfl
            · cases h2
          · cases h
        · cases h
      · cases h
    · rename_i id a
      rw [exec_succ]
      simp only [exec1]
      unfold qBlock at h
      split at h
      · rename_i h1
        split at h
        · rename_i hb
          cases h
          rw [ih h1 hc]
          simp only [blockX, hb]
        · rename_i hb
          cases h
          rw [ih h1 hc]
          simp only [blockX, hb]
      · rename_i hne
        rw [ih h hc]
        cases e with
        | exit i => exact absurd h (fun h => hne _ _ _ _ _ _ h)
        | normal => rfl
        | ret => rfl
    · rw [exec_succ]
      exact qSeq_ok (fun h hc => ih h hc) (fun h hc => ih h hc) h hc
    · rw [exec_succ]
      exact ih h hc
    · unfold qLeaf at h
      split at h
      · rename_i h1
        cases h
        exact h1
      · cases h
def qcall (T : Tab) (F : FTab) (C : CallF) (n : Nat) : CallQ := qcallE T F C (qexec T F C n)
theorem qcall_ok {T : Tab} {F : FTab} {C : CallF} {n : Nat} {f : FuncId} {args : List DV} {hp : Hp} {p : Qath} {r : DV × Hp × Mut} {cs : List (Bool × Bool)} (h : qcall T F C n f args hp p = some (r, cs)) (hc : Asked cs) : callE T F C (exec T F C n) f args hp = some r :=
  qcallE_ok (qexec_ok T F C n) h hc
end
end Go.Proofs.Ytnhbhdfeenpedaa
