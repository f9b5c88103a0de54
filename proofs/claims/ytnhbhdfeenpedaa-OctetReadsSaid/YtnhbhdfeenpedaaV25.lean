/- One path through a text whose conditions are not known: a list of decisions, and what they ask. No function of the program is named here. -/
import Derived.Test.YtnhbhdfeenpedaaV24
namespace Go.Proofs.Ytnhbhdfeenpedaa
open Go.RowKit

noncomputable section
abbrev Path := List (Option Bool)
abbrev PR := Option (Ex × Slots × Hp × Mut × Path × List (Bool × Bool))
abbrev PF := List (Nat × Nat) → Code → Slots → Hp → Path → PR
def pSeq (r : PR) (q : Slots → Hp → Path → PR) : PR := match r with
  | some (.normal, sl1, hp1, m1, p1, c1) => match q sl1 hp1 p1 with
    | some (e, sl2, hp2, m2, p2, c2) => some (e, sl2, hp2, mmin m1 m2, p2, c1 ++ c2)
    | none => none
  | r => r
def pAskD (d : DV) (p : Path) : DV × Path × List (Bool × Bool) := match d with
  | .bool v => match p with
    | some b :: p => (.bool b, p, [(v, b)])
    | none :: p => (.bool v, p, [])
    | [] => (.bool v, [], [])
  | d => (d, p, [])
abbrev PG := Option (Slots × Hp × Mut × Path × List (Bool × Bool))
def pregE2 (m1 : Mut) (q : DV × Path × List (Bool × Bool)) (k : DV → Path → PG) : PG := match q with
  | (d, p1, c1) => match k d p1 with
    | some (sl2, hp2, m2, p2, c2) => some (sl2, hp2, mmin m1 m2, p2, c1 ++ c2)
    | none => none
def pregE1 (r : Option (DV × Hp × Mut)) (p : Path) (k : DV → Hp → Path → PG) : PG := match r with
  | some (d, hp1, m1) => pregE2 m1 (pAskD d p) (fun d p => k d hp1 p)
  | none => none
def pregE (T : Tab) (call : CallF) (ds : List (Option Tmp)) (l : List Oper) : Slots → Hp → Path → PG :=
  List.rec (motive := fun _ => Slots → Hp → Path → PG) (fun sl hp p => some (sl, hp, none, p, [])) (fun o _ ih sl hp p =>
    gateX (gate ds sl o.guard) (fun _ => pregE1 (opE T call o sl hp) p (fun d => ih (putO sl o.dst d))) (fun _ => ih (putO sl o.dst (.tuple [])) hp p)) l
theorem pregE_cons (T : Tab) (call : CallF) (ds : List (Option Tmp)) (o : Oper) (l : List Oper) (sl : Slots) (hp : Hp) (p : Path) : pregE T call ds (o :: l) sl hp p =
    gateX (gate ds sl o.guard) (fun _ => pregE1 (opE T call o sl hp) p (fun d => pregE T call ds l (putO sl o.dst d))) (fun _ => pregE T call ds l (putO sl o.dst (.tuple [])) hp p) := rfl
def pregP1 (r : Option (DV × Hp × Mut)) (p : Path) (k : DV → Hp → Path → PG) : PG := match r with
  | some (d, hp1, none) => pregE2 none (pAskD d p) (fun d p => k d hp1 p)
  | _ => none
def pregP (T : Tab) (call : CallF) (ds : List (Option Tmp)) (l : List Oper) : Slots → Hp → Path → PG :=
  List.rec (motive := fun _ => Slots → Hp → Path → PG) (fun sl hp p => some (sl, hp, none, p, [])) (fun o _ ih sl hp p =>
    gateX (gate ds sl o.guard) (fun _ => pregP1 (opE T call o sl hp) p (fun d => ih (putO sl o.dst d))) (fun _ => ih (putO sl o.dst (.tuple [])) hp p)) l
theorem pregP_cons (T : Tab) (call : CallF) (ds : List (Option Tmp)) (o : Oper) (l : List Oper) (sl : Slots) (hp : Hp) (p : Path) : pregP T call ds (o :: l) sl hp p =
    gateX (gate ds sl o.guard) (fun _ => pregP1 (opE T call o sl hp) p (fun d => pregP T call ds l (putO sl o.dst d))) (fun _ => pregP T call ds l (putO sl o.dst (.tuple [])) hp p) := rfl
def pN : PG → PR
  | some (sl, hp, m, p, c) => some (.normal, sl, hp, m, p, c)
  | none => none
def pApp (c1 : List (Bool × Bool)) : PR → PR
  | some (e, sl, hp, m, p, c) => some (e, sl, hp, m, p, c1 ++ c)
  | none => none
def pregD (T : Tab) (call : CallF) (ds : List (Option Tmp)) (l : List Oper) (sl : Slots) (hp : Hp) (p : Path) : Option Nat → PR
  | some k => match pregP T call ds (l.take k) sl hp p with
    | some (sl1, hp1, _, p1, c1) => pApp c1 (pN (pregE T call ds (l.drop k) sl1 hp1 p1))
    | none => none
  | none => none
def pCond (x : Option DV) (a b : Unit → PR) : PR := match x with
  | some (.bool true) => a ()
  | some (.bool false) => b ()
  | _ => none
def pBlock (id : Nat) (r : PR) : PR := match r with
  | some (.exit i, sl1, hp1, m1, p, c) => match Nat.beq i id with
    | true => some (.normal, sl1, hp1, m1, p, c)
    | false => some (.exit i, sl1, hp1, m1, p, c)
  | r => r
def pLeaf (p : Path) : XR → PR
  | some (e, sl, hp, m) => some (e, sl, hp, m, p, [])
  | none => none
def pexec1 (T : Tab) (F : FTab) (C : CallF) (n : Nat) (q : PF) : PF := fun ks c sl hp p => match c with
  | .seq a b => pSeq (q ks a sl hp p) (q ks b)
  | .cond x a b => pCond (ev sl x) (fun _ => q ks a sl hp p) (fun _ => q ks b sl hp p)
  | .region _ ops false => pN (pregE T (callE T F C (exec T F C n)) (ops.toList.map (·.dst)) ops.toList sl hp p)
  | .region id ops true => pregD T (callE T F C (exec T F C n)) (ops.toList.map (·.dst)) ops.toList sl hp p (assoc ks id)
  | .block id a => pBlock id (q ks a sl hp p)
  | .loop a => pSeq (q ks a sl hp p) (q ks (.loop a))
  | .scope a => q ks a sl hp p
  | c => pLeaf p (exec T F C (n + 1) ks c sl hp)
def pexec (T : Tab) (F : FTab) (C : CallF) (n : Nat) : PF := Nat.rec (motive := fun _ => PF) (fun _ _ _ _ _ => none) (fun n ih => pexec1 T F C n ih) n
theorem pexec_succ (T : Tab) (F : FTab) (C : CallF) (n : Nat) : pexec T F C (n + 1) = pexec1 T F C n (pexec T F C n) := rfl
def Asked (c : List (Bool × Bool)) : Prop := ∀ x ∈ c, x.1 = x.2
theorem Asked.left {a b : List (Bool × Bool)} (h : Asked (a ++ b)) : Asked a := fun x hx => h x (by simp [hx])
theorem Asked.right {a b : List (Bool × Bool)} (h : Asked (a ++ b)) : Asked b := fun x hx => h x (by simp [hx])
theorem Asked.tail {x : Bool × Bool} {b : List (Bool × Bool)} (h : Asked (x :: b)) : Asked b := fun y hy => h y (by simp [hy])
theorem Asked.nil : Asked [] := fun _ h => by cases h
theorem Asked.cons {v d : Bool} {b : List (Bool × Bool)} (h : v = d) (k : Asked b) : Asked ((v, d) :: b) := fun y hy => by
  rcases List.mem_cons.1 hy with rfl | hy
  · exact h
  · exact k y hy
theorem pAskD_ok {d d' : DV} {p p' : Path} {c : List (Bool × Bool)} (h : pAskD d p = (d', p', c)) (hc : Asked c) : d' = d := by
  unfold pAskD at h
  split at h
  · split at h
    · cases h
      exact congrArg DV.bool (hc _ (List.mem_singleton.2 rfl)).symm
    · cases h; rfl
    · cases h; rfl
  · cases h; rfl
theorem pregE_ok {T : Tab} {call : CallF} {ds : List (Option Tmp)} : ∀ {l : List Oper} {sl : Slots} {hp : Hp} {p : Path} {sl' : Slots} {hp' : Hp} {mu : Mut} {p' : Path} {cs : List (Bool × Bool)}, pregE T call ds l sl hp p = some (sl', hp', mu, p', cs) → Asked cs → regE T call ds l sl hp = some (sl', hp', mu)
  | [], sl, hp, p, sl', hp', mu, p', cs, h, _ => by cases h; rfl
  | o :: l, sl, hp, p, sl', hp', mu, p', cs, h, hc => by
    rw [pregE_cons] at h
    rw [regE_cons]
    unfold gateX at h ⊢
    split at h
    · unfold pregE1 at h
      split at h
      · rename_i d hp1 m1 hop
        unfold pregE2 at h
        split at h
        rename_i d' p1 c1 hask
        split at h
        · rename_i hrest
          cases h
          have := pAskD_ok hask hc.left
          subst this
          rw [hop]
          simp only [regE1, pregE_ok hrest hc.right]
        · cases h
      · cases h
    · exact pregE_ok h hc
    · cases h
theorem pregP_ok {T : Tab} {call : CallF} {ds : List (Option Tmp)} : ∀ {l : List Oper} {sl : Slots} {hp : Hp} {p : Path} {sl' : Slots} {hp' : Hp} {mu : Mut} {p' : Path} {cs : List (Bool × Bool)}, pregP T call ds l sl hp p = some (sl', hp', mu, p', cs) → Asked cs → regP T call ds l sl hp = some (sl', hp')
  | [], sl, hp, p, sl', hp', mu, p', cs, h, _ => by cases h; rfl
  | o :: l, sl, hp, p, sl', hp', mu, p', cs, h, hc => by
    rw [pregP_cons] at h
    rw [regP_cons]
    unfold gateX at h ⊢
    split at h
    · unfold pregP1 at h
      split at h
      · rename_i d hp1 hop
        unfold pregE2 at h
        split at h
        rename_i d' p1 c1 hask
        split at h
        · rename_i hrest
          cases h
          have := pAskD_ok hask hc.left
          subst this
          rw [hop]
          simp only [regP1, pregP_ok hrest hc.right]
        · cases h
      · cases h
    · exact pregP_ok h hc
    · cases h
def POk (q : PF) (x : XF) : Prop := ∀ ⦃ks c sl hp p e sl' hp' mu p' cs⦄, q ks c sl hp p = some (e, sl', hp', mu, p', cs) → Asked cs → x ks c sl hp = some (e, sl', hp', mu)
theorem pSeq_ok {r : PR} {q : Slots → Hp → Path → PR} {r' : XR} {q' : Slots → Hp → XR} (hr : ∀ {e sl hp mu p cs}, r = some (e, sl, hp, mu, p, cs) → Asked cs → r' = some (e, sl, hp, mu)) (hq : ∀ {sl hp p e sl' hp' mu p' cs}, q sl hp p = some (e, sl', hp', mu, p', cs) → Asked cs → q' sl hp = some (e, sl', hp', mu))
    {e : Ex} {sl : Slots} {hp : Hp} {mu : Mut} {p : Path} {cs : List (Bool × Bool)} (h : pSeq r q = some (e, sl, hp, mu, p, cs)) (hc : Asked cs) : seqX r' q' = some (e, sl, hp, mu) := by
  unfold pSeq at h
  split at h
  · split at h
    · rename_i hq1
      cases h
      rw [hr rfl hc.left]
      simp only [seqX, hq hq1 hc.right]
    · cases h
  · rename_i hne
    rw [hr h hc]
    cases e with
    | normal => exact absurd h (fun h => hne _ _ _ _ _ h)
    | exit i => rfl
    | ret => rfl
theorem pexec_ok (T : Tab) (F : FTab) (C : CallF) : ∀ n, POk (pexec T F C n) (exec T F C n)
  | 0 => by intro ks c sl hp p e sl' hp' mu p' cs h; cases h
  | n + 1 => by
    have ih := pexec_ok T F C n
    intro ks c sl hp p e sl' hp' mu p' cs h hc
    rw [pexec_succ] at h
    unfold pexec1 at h
    split at h
    · rw [exec_succ]
      exact pSeq_ok (fun h hc => ih h hc) (fun h hc => ih h hc) h hc
    · rename_i x a b
      rw [exec_succ]
      simp only [exec1]
      unfold pCond at h
      unfold condX
      split at h
      · rename_i hv
        rw [hv]
        exact ih h hc
      · rename_i hv
        rw [hv]
        exact ih h hc
      · cases h
    · rename_i id ops
      rw [exec_succ]
      simp only [exec1]
      unfold pN at h
      split at h
      · rename_i h1
        cases h
        rw [pregE_ok h1 hc]
        rfl
      · cases h
    · rename_i id ops
      rw [exec_succ]
      simp only [exec1]
      unfold pregD at h
      split at h
      · rename_i k hk
        rw [hk]
        split at h
        · rename_i h1
          unfold pApp at h
          split at h
          · rename_i h2
            cases h
            unfold pN at h2
            split at h2
            · rename_i h3
              cases h2
              simp only [regD, pregP_ok h1 hc.left, pregE_ok h3 hc.right]
              rfl
            · cases h2
          · cases h
        · cases h
      · cases h
    · rename_i id a
      rw [exec_succ]
      simp only [exec1]
      unfold pBlock at h
      split at h
      · rename_i h1
        split at h
        · rename_i hb
          cases h
          rw [ih h1 hc]
          simp only [blockX, hb]
        · rename_i hb
          cases h
          rw [ih h1 hc]
          simp only [blockX, hb]
      · rename_i hne
        rw [ih h hc]
        cases e with
        | exit i => exact absurd h (fun h => hne _ _ _ _ _ _ h)
        | normal => rfl
        | ret => rfl
    · rw [exec_succ]
      exact pSeq_ok (fun h hc => ih h hc) (fun h hc => ih h hc) h hc
    · rw [exec_succ]
      exact ih h hc
    · unfold pLeaf at h
      split at h
      · rename_i h1
        cases h
        exact h1
      · cases h
def pEnd (hp : Hp) (T : Tab) (res : List ResultVar) : PR → Option ((DV × Hp × Mut) × List (Bool × Bool))
  | some (.exit _, _, _, _, _, _) => none
  | some (_, sl, hp', mu, _, cs) => match resD T hp' sl res with
    | some ds => some (finish hp hp' mu (one ds), cs)
    | none => none
  | none => none
/-- a call along one path -/
def pcall (T : Tab) (F : FTab) (C : CallF) (n : Nat) (f : FuncId) (args : List DV) (hp : Hp) (p : Path) : Option ((DV × Hp × Mut) × List (Bool × Bool)) := match C f args hp with
  | some _ => none
  | none => match F f with
    | some fn => match Nat.ble args.length fn.nt with
      | true => pEnd hp T fn.res (pexec T F C n fn.ks fn.body (initS fn.nt args) hp p)
      | false => none
    | none => none
theorem pcall_ok {T : Tab} {F : FTab} {C : CallF} {n : Nat} {f : FuncId} {args : List DV} {hp : Hp} {p : Path} {r : DV × Hp × Mut} {cs : List (Bool × Bool)} (h : pcall T F C n f args hp p = some (r, cs)) (hc : Asked cs) : callE T F C (exec T F C n) f args hp = some r := by
  unfold pcall at h
  unfold callE
  split at h
  · cases h
  · rename_i hC
    rw [hC]
    split at h
    · rename_i fn hF
      rw [hF]
      split at h
      · rename_i hl
        simp only [hl]
        unfold pEnd at h
        split at h
        · cases h
        · rename_i e sl hp' mu p' cs' hne hr
          split at h
          · rename_i ds hds
            cases h
            rw [pexec_ok T F C n hr hc]
            cases e with
            | exit i => exact (hne i rfl).elim
            | normal => simp only [hds]
            | ret => simp only [hds]
          · cases h
        · cases h
      · cases h
    · cases h
variable {P : Program} {T : Tab} {F : FTab} {C : CallF}
/-- a law, its arguments given -/
theorem args_ok (hT : TabOk P T) (hmix : P.follows .mixedOrders = true) (hF : FunOk P T F) (hC : CallOk P C) {n : Nat} {f : FuncId} {args : List DV} {hp' : Hp} (h : callE T F C (exec T F C n) f args ⟨0, []⟩ = some (.bool true, hp', none)) (w : World) {vs : List Value} (hv : VRs (ro (· < w.heap.size)) w args vs) :
    Calls P f vs.toArray w fun e w' => e = .returned (.bool true) ∧ Below w.heap.size w w' := by
  obtain ⟨_, _, hc⟩ := callE_ok hT hF hC (exec_ok hT hmix hF hC n).1 _ _ _ _ _ _ h
  have hs : HS w 0 (· < w.heap.size) (ro (· < w.heap.size)) ⟨0, []⟩ w := ⟨Below.refl _ _, fun _ h => h.elim, fun _ h => h.elim, fun _ h => h.elim, fun _ _ _ _ h => h.elim, fun _ h => h, fun _ h => .inl h, Nat.le_refl _⟩
  refine (hc w 0 _ _ w vs trivial hs hv).mono ?_
  rintro e w' ⟨E', v, rfl, hst, hv⟩
  rw [hv.of_bool]
  exact ⟨rfl, hst.hs.bel⟩
/-- an array of integers -/
def intsD (k : IntKind) (xs : List Int) : DV := .agg (xs.map fun a => .int k a)
def intsV (k : IntKind) (xs : List Int) : Value := .agg (xs.map fun a => Value.int k a).toArray
theorem ints_rep (E : Env) (w : World) (k : IntKind) : ∀ xs : List Int, VRs E w (xs.map fun a => .int k a) (xs.map fun a => Value.int k a)
  | [] => .nil _ _
  | _ :: xs => .cons (.int _ _ _) (ints_rep E w k xs)
theorem intsD_rep (E : Env) (w : World) (k : IntKind) (xs : List Int) : VR w E (intsD k xs) (intsV k xs) := (ints_rep E w k xs).agg
end
end Go.Proofs.Ytnhbhdfeenpedaa
