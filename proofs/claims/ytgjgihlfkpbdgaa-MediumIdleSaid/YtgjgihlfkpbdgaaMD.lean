/- Code over abstract data: operations one behind the other. No function of the program is named here. -/
import Derived.Test.YtgjgihlfkpbdgaaMC
import Derived.Test.YtgjgihlfkpbdgaaMA
import Derived.TacticsIn
import Derived.OrdersIn
import Derived.LoopNIn
import Derived.RangeFuncIn
import Derived.RangeFuncRecord
import Derived.RangeFuncLeaves
import Derived.RangeFuncNested
namespace Go.Proofs.Ytgjgihlfkpbdgaa
open Go.RowKit

def FnOk (P : Program) (f : FuncId) : Prop := ∃ fn, P.funcs[f]? = some fn ∧ fn.body.isNone = false ∧ (fn.name == "runtime.NumGoroutine") = false
theorem run_callFunc_ok {P : Program} {f : FuncId} (h : FnOk P f) (args : Array Value) (w : World) : (callFunc f args).run P w = .ok (.enter f args) w := by
  obtain ⟨fn, h1, h2, h3⟩ := h
  simp only [callFunc, Sem.run_bind, run_program, Result.andThen_ok, h1, h2, h3, Bool.false_eq_true, if_false, Sem.run_pure]
/-- in the frame of a call (none), or in that of a round (the block of the loop's record) -/
def Fr (ro : Option Nat) : Fence := { fn := fun _ => True, depth := none, alive := false, round := ro }
/-- what the calls answer is what the program answers -/
def ConOk (P : Program) (c : ConF) : Prop := ∀ f args hp r hp' mu, c f args hp = some (r, hp', mu) → FnOk P f ∧ (∀ base, mutOk base mu → base ≤ hp.n → Ext base hp hp') ∧
  ∀ W0 base S0 E w vs, mutOk base mu → HS W0 base S0 E hp w → VRs E w args vs → Calls P f vs.toArray w fun e w' => ∃ E' v, e = .returned v ∧ Stp W0 base S0 E hp w E' hp' w' ∧ VR w' E' r v
def YldOk (P : Program) (y : YldF) : Prop := ∀ k args hp r hp' mu, y k args hp = some (r, hp', mu) → (∀ base, mutOk base mu → base ≤ hp.n → Ext base hp hp') ∧
  ∀ W0 base S0 E w vs b D, mutOk base mu → HS W0 base S0 E hp w → VRs E w args vs → E.yb k = some (b, D) → ∃ fn tmps assign body, (Instr.yield b vs.toArray).run P w = .ok (.round b fn tmps assign body) w ∧
    RoundIn (Fr none) 0 P b fn tmps assign body w fun e w' => ∃ E' v, e = .returned v ∧ Stp W0 base S0 E hp w E' hp' w' ∧ VR w' E' r v
structure CallOk (P : Program) (call : CallF) : Prop where
  f : ConOk P call.f
  y : YldOk P call.y
/-- a frame: of a round, or of a call; where the world's heap ended when it began -/
structure Fm where
  ro : Option Nat
  fl : Nat
def mark (D : Nat) : Deferred := { target := .collected D, args := #[] }
/-- the marks that loops over functions have left -/
def DfrOk (W0 : World) (fl : Nat) (E : Env) (w : World) (dl : List Deferred) : Prop :=
  fl ≤ w.heap.size ∧ ∃ ds : List Nat, dl = ds.map mark ∧ ds.Nodup ∧ ∀ D ∈ ds, W0.heap.size ≤ D ∧ fl ≤ D ∧ w.heap[D]? = some (.deferred (some [])) ∧ ∀ id b D', E.yb id = some (b, D') → D' ≠ D
theorem DfrOk.nil (W0 : World) {fl : Nat} (E : Env) {w : World} (h : fl ≤ w.heap.size) : DfrOk W0 fl E w [] := ⟨h, [], rfl, List.nodup_nil, fun D h => by cases h⟩
theorem DfrOk.step {W0 : World} {fl : Nat} {E E' : Env} {w w' : World} {dl : List Deferred} (h : DfrOk W0 fl E w dl) (ho : Oth w w') (hy : E'.yb = E.yb) : DfrOk W0 fl E' w' dl := by
  obtain ⟨h0, ds, h1, h2, h3⟩ := h
  exact ⟨Nat.le_trans h0 ho.1, ds, h1, h2, fun D hD => ⟨(h3 D hD).1, (h3 D hD).2.1, ho.2.1 _ _ (h3 D hD).2.2.1, by rw [hy]; exact (h3 D hD).2.2.2⟩⟩
def RoOk (k : Fm) (E : Env) (hp : Hp) (dl : List Deferred) : Prop := ∀ b, k.ro = some b → dl = [] ∧ ∃ id D, E.yb id = some (b, D) ∧ (lfind id hp.ls).isSome = true
theorem RoOk.step {k : Fm} {E E' : Env} {hp hp' : Hp} {dl : List Deferred} (h : RoOk k E hp dl) (hy : E'.yb = E.yb) (hx : ∀ i, (lfind i hp'.ls).map LS.stat = (lfind i hp.ls).map LS.stat) : RoOk k E' hp' dl := fun b hb => by
  obtain ⟨h1, id, D, h2, h3⟩ := h b hb
  refine ⟨h1, id, D, by rw [hy]; exact h2, ?_⟩
  have := congrArg Option.isSome (hx id)
  simp only [Option.isSome_map] at this
  rw [this]
  exact h3
structure Sim (k : Fm) (W0 : World) (base : Nat) (S0 : Nat → Prop) (E : Env) (N : Nat) (sl : Slots) (hp : Hp) (a : Act) (w : World) : Prop where
  hs : HS W0 base S0 E hp w
  dfr : DfrOk W0 k.fl E w a.defers
  ro : RoOk k E hp a.defers
  size : a.tmps.size = N
  sl : ∀ t d, look sl t = some d → VR w E d (a.tmps.getD t undef)
theorem getD_set {a : Array Value} {t s : Nat} {v : Value} (ht : t < a.size) : (a.setIfInBounds t v).getD s undef = if t = s then v else a.getD s undef := by
  by_cases h : t = s
  · subst h; simp [ht]
  · simp [Array.getElem?_setIfInBounds_ne h, h]
section
variable {k : Fm} {P : Program} {T : Tab} {W0 : World} {base : Nat} {S0 : Nat → Prop} {E : Env} {N : Nat} {sl : Slots} {hp : Hp} {a : Act} {w : World}
theorem Sim.step (h : Sim k W0 base S0 E N sl hp a w) {E' : Env} {hp' : Hp} {w' : World} (hst : Stp W0 base S0 E hp w E' hp' w') : Sim k W0 base S0 E' N sl hp' a w' :=
  ⟨hst.hs, h.dfr.step hst.oth hst.yb, h.ro.step hst.yb hst.ext.ls, h.size, fun t d ht => (h.sl t d ht).later hst.later⟩
theorem Sim.put (h : Sim k W0 base S0 E N sl hp a w) {dst : Option Tmp} (hd : ∀ t, dst = some t → t < N) {d : DV} {v : Value} (hv : VR w E d v) : Sim k W0 base S0 E N (putO sl dst d) hp (a.put dst v) w := by
  cases dst with
  | none => exact h
  | some t =>
    refine ⟨h.hs, h.dfr, h.ro, by simpa [Act.put] using h.size, fun s e hs => ?_⟩
    have ht : t < a.tmps.size := by rw [h.size]; exact hd t rfl
    simp only [putO] at hs
    simp only [Act.put]
    rw [getD_set ht]
    rcases look_put hs with ⟨rfl, rfl⟩ | ⟨hne, hs⟩
    · rw [if_pos rfl]; exact hv
    · rw [if_neg hne]; exact h.sl s _ hs
theorem tuple_nil {E : Env} {w : World} {v : Value} (h : VR w E (.tuple []) v) : v = .tuple #[] := by
  obtain ⟨vs, rfl, hvs⟩ := h.of_tuple
  rw [hvs.unnil]
theorem vr_undef (w : World) (E : Env) : VR w E (.tuple []) undef := (VRs.nil E w).tuple
theorem aop_nodefer {o : Oper} (h : aop T hp sl o.op ≠ .fail) : ∀ c, o.op ≠ .defer c := fun c hc => h (by rw [hc]; rfl)
theorem callsIn_fr {ro : Option Nat} {f : FuncId} {args : Array Value} {R : Ending → World → Prop} (h : Calls P f args w R) : CallsIn (Fr ro) (0 - 1) P f args w R := (callsIn_wide (n := 0 - 1)).2 h
theorem calls_fr {ro : Option Nat} {f : FuncId} {args : Array Value} {R : Ending → World → Prop} (h : CallsIn (Fr ro) 0 P f args w R) : Calls P f args w R := (callsIn_wide (n := 0)).1 h
theorem roundIn_fr {ro : Option Nat} {b : Nat} {fn : FuncId} {tmps : Array Value} {assign body : Code} {R : Ending → World → Prop} (h : RoundIn (Fr none) 0 P b fn tmps assign body w R) : RoundIn (Fr ro) (0 - 1) P b fn tmps assign body w R := h
/-- one operation -/
theorem opE_ok {ro : Option Nat} (hT : TabOk P T) {call : CallF} (hcall : CallOk P call) {o : Oper} {d : DV} {hp' : Hp} {mu : Mut} (h : opE T call o sl hp = some (d, hp', mu)) (hs : HS W0 base S0 E hp w) (hsl : ∀ t d, look sl t = some d → VR w E d (a.tmps.getD t undef)) (hmu : mutOk base mu) {K : Act → World → Prop} {Q : Exit → Act → World → Prop}
    (hK : ∀ E' v w', Stp W0 base S0 E hp w E' hp' w' → VR w' E' d v → K (a.put o.dst v) w') : o.wpIn (Fr ro) 0 P a w K Q := by
  have hok := aop_ok (P := P) (o := o) hT hs hsl
  have hnd := aop_nodefer (T := T) (hp := hp) (sl := sl) (o := o)
  unfold opE at h
  refine ⟨fun _ _ => trivial, ?_⟩
  generalize aop T hp sl o.op = out at h hok hnd
  cases out with
  | done r =>
    rw [Oper.semAt_eq (Fr ro).round a.eval o (hnd (by intro e; cases e))]
    cases h
    obtain ⟨nx, u, E', w', hr, hn, hst, hv⟩ := hok hmu
    rw [hr]
    rcases hn with rfl | ⟨rfl, rfl⟩
    · rw [Oper.uponIn_value]; exact hK _ _ _ hst hv
    · rw [Oper.uponIn_skip]; exact hK _ _ _ hst hv
  | call f args =>
    rw [Oper.semAt_eq (Fr ro).round a.eval o (hnd (by intro e; cases e))]
    obtain ⟨vs, hv, he⟩ := hok
    obtain ⟨hf, _, hc⟩ := hcall.f _ _ _ _ _ _ h
    rw [he, run_callFunc_ok hf, Oper.uponIn_enter]
    refine ⟨fun h => (by cases h), (callsIn_fr (hc W0 base S0 E w vs hmu hs hv)).mono ?_⟩
    rintro e w' ⟨E', v, rfl, hst, hr⟩
    exact hK _ _ _ hst hr
  | yld id args =>
    rw [Oper.semAt_eq (Fr ro).round a.eval o (hnd (by intro e; cases e))]
    obtain ⟨vs, b, D, hv, hb, he⟩ := hok
    obtain ⟨_, hc⟩ := hcall.y _ _ _ _ _ _ h
    obtain ⟨fn, tmps, assign, body, hrun, hround⟩ := hc W0 base S0 E w vs b D hmu hs hv hb
    rw [he, hrun, Oper.uponIn_round]
    refine ⟨fun h => (by cases h), (roundIn_fr hround).mono ?_⟩
    rintro e w' ⟨E', v, rfl, hst, hr⟩
    exact hK _ _ _ hst hr
  | fail => cases h

theorem dstsOk_spec {n : Nat} : ∀ {ds : List (Option Tmp)}, dstsOk n ds = true → ∀ t, some t ∈ ds → t < n
  | [], _, t, h => by cases h
  | none :: r, h, t, ht => by
    rcases List.mem_cons.1 ht with h1 | h1
    · cases h1
    · exact dstsOk_spec (ds := r) h t h1
  | some s :: r, h, t, ht => by
    simp only [dstsOk, Bool.and_eq_true] at h
    rcases List.mem_cons.1 ht with h1 | h1
    · cases h1; exact Nat.le_of_ble_eq_true h.1
    · exact dstsOk_spec h.2 t h1
/-- what the gate says is what the region asks -/
theorem gate_ok {ops : Array Oper} {ds : List (Option Tmp)} (hds : ds = ops.toList.map (·.dst)) {o : Oper} {b : Bool} (h : gate ds sl o.guard = some b) (hsl : ∀ t d, look sl t = some d → VR w E d (a.tmps.getD t undef)) : Region.wanted o (yielded ops a.tmps) = b := by
  unfold gate at h
  split at h
  · rename_i hg
    cases h
    simp [Region.wanted, hg]
  · rename_i j want hg
    split at h
    · rename_i t hj
      have hj' : (ops[j]?).bind (·.dst) = some t := by
        rw [hds, List.getElem?_map] at hj
        cases ho : ops.toList[j]? with
        | none => rw [ho] at hj; simp at hj
        | some oj =>
          rw [ho] at hj
          simp at ho hj
          rw [ho]
          exact hj
      have hy : ∀ v, a.tmps.getD t undef = v → yielded ops a.tmps j = (match v with | .bool b => some b | _ => none) := fun v hv => by
        unfold yielded
        rw [hj']
        simp only [Option.bind_some]
        rcases Nat.lt_or_ge t a.tmps.size with hlt | hge
        · rw [Array.getElem?_eq_getElem hlt]
          simp [hlt] at hv
          rw [hv]
          cases v <;> rfl
        · rw [Array.getElem?_eq_none hge]
          simp [Array.getElem?_eq_none hge, undef] at hv
          rw [← hv]
      split at h
      · rename_i hb
        cases h
        have := hy _ (hsl t _ hb).of_bool
        simp [Region.wanted, hg, this]
      · rename_i hb
        cases h
        have := hy _ (hsl t _ hb).of_bool
        simp [Region.wanted, hg, this]
      · rename_i x hb hne1 hne2
        cases h
        have := hy _ (hsl t _ hb).of_bool
        clear hy hsl hj hj'
        cases x <;> simp_all [Region.wanted]
      · rename_i hb
        cases h
        have := hy _ (tuple_nil (hsl t _ hb))
        simp [Region.wanted, hg, this]
      · cases h
    · cases h
theorem regE_ok {ro : Option Nat} (hT : TabOk P T) {call : CallF} (hcall : CallOk P call) {ops : Array Oper} {Q : Exit → Act → World → Prop} {dl : List (Option Tmp)} (hds : dl = ops.toList.map (·.dst)) :
    ∀ (l : List Oper) (sl : Slots) (hp : Hp) (sl' : Slots) (hp' : Hp) (mu : Mut) (E : Env) (a : Act) (w : World), regE T call dl l sl hp = some (sl', hp', mu) → dstsOk N (l.map (·.dst)) = true → Sim k W0 base S0 E N sl hp a w → mutOk base mu →
      (∀ E' a' w', Stp W0 base S0 E hp w E' hp' w' → Sim k W0 base S0 E' N sl' hp' a' w' → Q .normal a' w') → wpListIn (Fr ro) 0 P ops Q l a w
  | [], sl, hp, sl', hp', mu, E, a, w, h, _, hs, _, hQ => by
    cases h
    exact hQ E a w (Stp.refl hs.hs) hs
  | o :: l, sl, hp, sl', hp', mu, E, a, w, h, hl, hs, hmu, hQ => by
    have hd : ∀ t, o.dst = some t → t < N := fun t ht => dstsOk_spec hl t (by simp [ht])
    have hl' : dstsOk N (l.map (·.dst)) = true := by
      simp only [List.map_cons] at hl
      cases ho : o.dst with
      | none => rw [ho] at hl; exact hl
      | some t => rw [ho] at hl; simp only [dstsOk, Bool.and_eq_true] at hl; exact hl.2
    rw [regE_cons] at h
    unfold gateX at h
    unfold wpListIn
    split at h
    · rename_i hg
      have hw := gate_ok (a := a) (w := w) (E := E) hds hg hs.sl
      rw [if_pos hw]
      unfold regE1 at h
      split at h
      · rename_i d hp1 m1 hop
        split at h
        · rename_i sl2 hp2 m2 hrest
          cases h
          obtain ⟨hm1, hm2⟩ := mutOk_mmin hmu
          refine opE_ok hT hcall hop hs.hs hs.sl hm1 fun E' v w' hst hv => ?_
          exact regE_ok hT hcall hds l _ _ _ _ _ E' _ w' hrest hl' ((hs.step hst).put hd hv) hm2 fun E2 a2 w2 hst2 hs2 => hQ E2 a2 w2 (hst.trans hst2) hs2
        · cases h
      · cases h
    · rename_i hg
      have hw := gate_ok (a := a) (w := w) (E := E) hds hg hs.sl
      rw [if_neg (by rw [hw]; simp)]
      exact ⟨fun _ _ => trivial, regE_ok hT hcall hds l _ _ _ _ _ E _ w h hl' (hs.put hd (vr_undef w E)) hmu hQ⟩
    · cases h
end
end Go.Proofs.Ytgjgihlfkpbdgaa
/- What operations on abstract data look at, and what they leave. No function of the program is named here. -/
namespace Go.Proofs.Ytgjgihlfkpbdgaa
open Go.RowKit

section
variable {T : Tab} {hp : Hp} {sl sl' : Slots}
/-- the slots that p names, alone -/
def restr : Slots → (Nat → Bool) → Slots
  | .lf, _ => .lf
  | .nd v l r, p => .nd (match p 0 with | true => v | false => none) (restr l fun k => p (2 * k + 1)) (restr r fun k => p (2 * k + 2))
theorem look_restr : ∀ (s : Slots) (p : Nat → Bool) (n : Nat), look (restr s p) n = match p n with | true => look s n | false => none
  | .lf, p, n => by
    show none = _
    cases p n <;> rfl
  | .nd v l r, p, n => by
    simp only [restr, look_nd]
    by_cases h0 : n = 0
    · subst h0
      rw [if_pos rfl, if_pos rfl]
    · rw [if_neg h0, if_neg h0]
      by_cases h1 : n % 2 = 1
      · rw [if_pos h1, if_pos h1, look_restr l]
        rw [show 2 * ((n - 1) / 2) + 1 = n by omega]
      · rw [if_neg h1, if_neg h1, look_restr r]
        rw [show 2 * ((n - 1) / 2) + 2 = n by omega]
theorem ev_congr {x : Operand} (h : ∀ t, x = .tmp t → look sl t = look sl' t) : ev sl x = ev sl' x := by
  cases x with
  | tmp t => exact h t rfl
  | _ => rfl
theorem evs_congr : ∀ {xs : List Operand}, (∀ x ∈ xs, ev sl x = ev sl' x) → evs sl xs = evs sl' xs
  | [], _ => rfl
  | x :: xs, h => by rw [evs_cons, evs_cons, h x (by simp), evs_congr (fun y hy => h y (by simp [hy]))]
theorem evParts_congr : ∀ {xs : List (Nat × Operand)}, (∀ x ∈ xs, ev sl x.2 = ev sl' x.2) → evParts sl xs = evParts sl' xs
  | [], _ => rfl
  | x :: xs, h => by rw [evParts_cons, evParts_cons, h x (by simp), evParts_congr (fun y hy => h y (by simp [hy]))]
theorem evO_congr {x : Option Operand} (h : ∀ y, x = some y → ev sl y = ev sl' y) : evO sl x = evO sl' x := by
  cases x with
  | none => rfl
  | some y => simp only [evO]; rw [h y rfl]
theorem aop_congr (op : Op) (h : ∀ x ∈ op.operands, ev sl x = ev sl' x) : aop T hp sl op = aop T hp sl' op := by
  cases op <;> simp only [aop, opPick, opAlloc, opBox, opBuild, opBuildSlice, opMakeSlice, opLoad, opStore, opNilCheck, opBinOp, opUnOp, opConvert, opFieldAddr, opField, opIndexAddr, opIndex, opExtract, opMakeFunc, opSlPtr, opSlice, opMakeInterface] <;> try rfl
  case build t parts => rw [evParts_congr (fun x hx => h x.2 (by simp only [Op.operands, List.mem_toArray, List.mem_map]; exact ⟨x, hx, rfl⟩))]
  case buildSlice t n parts => rw [evParts_congr (fun x hx => h x.2 (by simp only [Op.operands, List.mem_toArray, List.mem_map]; exact ⟨x, hx, rfl⟩))]
  case makeFunc f first captured =>
    rw [evs_congr (fun x hx => h x (by simp only [Op.operands, Array.mem_append]; exact .inl (by simpa using hx))), evs_congr (xs := captured.toList) (fun x hx => h x (by simp only [Op.operands, Array.mem_append]; exact .inr (by simpa using hx)))]
  case slice t x lo hi mx =>
    rw [h x (by simp [Op.operands]), evO_congr (x := lo) (fun y hy => h y (by subst hy; simp [Op.operands])), evO_congr (x := hi) (fun y hy => h y (by subst hy; simp [Op.operands])), evO_congr (x := mx) (fun y hy => h y (by subst hy; simp [Op.operands]))]
  case call c =>
    obtain ⟨callee, args, ats⟩ := c
    unfold callD
    have e1 : evs sl args.toList = evs sl' args.toList := evs_congr (fun x hx => h x (by simp only [Op.operands, Call.operands, Array.mem_append]; exact .inr (by simpa using hx)))
    simp only [e1]
    cases callee with
    | value f =>
      have e2 : ev sl f = ev sl' f := h f (by simp [Op.operands, Call.operands])
      simp only [e2]
    | invoke r m => rfl
    | builtin b => rfl
  all_goals
    simp only [Op.operands] at h
    simp at h
    first
      | rw [h]
      | rw [h.1, h.2]
      | rw [h.1, h.2.1, h.2.2]

/-! ### What lies below is left as it is -/
theorem ext_push (base : Nat) (hp : Hp) (o : Ob) (hb : base ≤ hp.n) : Ext base hp (hp.push o) := ⟨by simp [Hp.push], fun id hid => (by rw [Hp.get_push, if_neg (by omega)]), fun _ => rfl, fun _ _ => rfl⟩
theorem ext_put {base : Nat} {hp : Hp} {id : Nat} {o o0 : Ob} (ho : hp.get id = some o0) (hb : base ≤ id) : Ext base hp (hp.put id o) := ⟨Nat.le_refl _, fun j hj => (by rw [Hp.get_put _ _ _ _ ho, if_neg (by omega)]), fun _ => rfl, fun _ _ => rfl⟩
theorem ext_kill {base : Nat} {hp : Hp} {r : Nat} (hb : base ≤ r) : Ext base hp (hp.kill r) := ⟨Nat.le_refl _, fun j hj => (by rw [Hp.get_kill, if_neg (by omega)]), fun _ => rfl, fun _ _ => rfl⟩
theorem storeH_ext {base id off : Nat} {cs : List DV} {hp' : Hp} {mu : Mut} (h : storeH hp id off cs = some (hp', mu)) (hmu : mutOk base mu) : Ext base hp hp' := by
  obtain ⟨o, ho, hle, hk2, hc⟩ := storeH_some h
  rcases hc with ⟨hk, he⟩ | ⟨hk, he⟩ <;> (injection he with he1 he2; subst he1; subst he2)
  · obtain ⟨h1, h2⟩ := mutOk_mmin hmu
    have hgk : (hp.kill o.r).get id = some o := by
      rw [Hp.get_kill, ho]
      simp [Ob.dead, hk2]
    exact (ext_kill h1).trans (ext_put hgk h2)
  · exact ext_put ho hmu
theorem appH_ext {base : Nat} {e : TypeId} {j : TI} {dst : DV} {m : Nat} {news : List DV} {d : DV} {hp' : Hp} {mu : Mut} (h : appH hp e j dst m news = some (d, hp', mu)) (hmu : mutOk base mu) (hb : base ≤ hp.n) : Ext base hp hp' := by
  unfold appH at h
  split at h
  · cases h
  · cases h
  · split at h
    · split at h
      · cases h; exact Ext.refl _ _
      · cases h; exact Ext.refl _ _
      · cases h
    · split at h
      · split at h
        · cases h; exact ext_push _ _ _ hb
        · cases h
      · split at h
        · rename_i o _ ho
          split at h
          · split at h
            · rename_i hst
              cases h
              exact storeH_ext hst hmu
            · cases h
          · split at h
            · cases h; exact ext_push _ _ _ hb
            · cases h
            · split at h
              · cases h
                obtain ⟨h1, h2⟩ := mutOk_mmin hmu
                exact (ext_put ho h2).trans (ext_push _ _ _ hb)
              · cases h
            · cases h
        · cases h
      · cases h
theorem copyH_ext {base : Nat} {j : TI} {dst : DV} {m : Nat} {news : List DV} {d : DV} {hp' : Hp} {mu : Mut} (h : copyH hp j dst m news = some (d, hp', mu)) (hmu : mutOk base mu) : Ext base hp hp' := by
  unfold copyH at h
  split at h
  · cases h; exact Ext.refl _ _
  · split at h
    · cases h; exact Ext.refl _ _
    · split at h
      · rename_i hst
        cases h
        exact storeH_ext hst hmu
      · cases h
    · cases h
  · cases h
theorem keep_ext {base : Nat} {x : Option DV} {d : DV} {hp' : Hp} {mu : Mut} (h : keep hp x = some (d, hp', mu)) : Ext base hp hp' := by
  cases x with
  | none => cases h
  | some y => cases h; exact Ext.refl _ _
theorem outR_some {r : R} {q : DV × Hp × Mut} (h : outR r = .done q) : r = some q := by
  cases r with
  | none => cases h
  | some y => cases h; rfl
theorem builtinD_ext {base : Nat} {b : Builtin} {args : List DV} {ts : List TypeId} {d : DV} {hp' : Hp} {mu : Mut} (h : builtinD T hp b args ts = some (d, hp', mu)) (hmu : mutOk base mu) (hb : base ≤ hp.n) : Ext base hp hp' := by
  unfold builtinD at h
  split at h
  · split at h
    · exact keep_ext h
    · cases h
  · split at h
    · split at h
      · exact keep_ext h
      · cases h
    · cases h
  · split at h
    · split at h
      · split at h
        · split at h
          · exact appH_ext h hmu hb
          · cases h
        · cases h
      · split at h
        · split at h
          · exact appH_ext h hmu hb
          · cases h
        · cases h
      · split at h
        · split at h
          · exact appH_ext h hmu hb
          · cases h
        · cases h
      · cases h
    · cases h
  · split at h
    · split at h
      · split at h
        · split at h
          · exact copyH_ext h hmu
          · cases h
        · cases h
      · cases h
    · cases h
  · exact keep_ext h
  · exact keep_ext h
  · cases h
theorem convD_ext {base : Nat} {s t : TypeId} {x d : DV} {hp' : Hp} {mu : Mut} (h : convD T hp s t x = some (d, hp', mu)) (hb : base ≤ hp.n) : Ext base hp hp' := by
  unfold convD at h
  repeat' (split at h)
  all_goals first | (cases h; done) | (cases h; exact Ext.refl _ _) | (cases h; exact ext_push _ _ _ hb)
theorem aop_ext {base : Nat} {op : Op} {d : DV} {hp' : Hp} {mu : Mut} (h : aop T hp sl op = .done (d, hp', mu)) (hmu : mutOk base mu) (hb : base ≤ hp.n) : Ext base hp hp' := by
  cases op <;> simp only [aop] at h <;> try (cases h; done)
  case move x => exact keep_ext (outR_some h)
  case assign x => exact keep_ext (outR_some h)
  case convert s t x =>
    unfold opConvert at h
    split at h
    · exact convD_ext (outR_some h) hb
    · cases h
  case store t x y =>
    unfold opStore at h
    split at h
    · split at h
      · split at h
        · rename_i hst
          cases h
          exact storeH_ext hst hmu
        · cases h
      · cases h
    · cases h
  case call c =>
    unfold callD at h
    split at h
    · cases h
    · split at h
      · exact builtinD_ext (outR_some h) hmu hb
      · split at h <;> cases h
      · cases h
  all_goals
    simp only [opPick, opAlloc, opBox, opBuild, opBuildSlice, opMakeSlice, opLoad, opNilCheck, opBinOp, opUnOp, opFieldAddr, opField, opIndexAddr, opIndex, opExtract, opMakeFunc, opSlPtr, opSlice, opMakeInterface] at h
    repeat' (split at h)
  all_goals first | (cases h; done) | exact keep_ext (outR_some h) | (cases h; exact Ext.refl _ _) | (cases h; exact ext_push _ _ _ hb) | (unfold mkRow at h; split at h <;> (cases h; exact ext_push _ _ _ hb))
end
end Go.Proofs.Ytgjgihlfkpbdgaa
/- Code over abstract data: operations in any order that the edges allow. No function of the program is named here. -/
namespace Go.Proofs.Ytgjgihlfkpbdgaa
open Go.RowKit

noncomputable section
variable {P : Program} {T : Tab}
theorem aop_dry {hp hp' : Hp} {sl : Slots} {op : Op} {d : DV} {mu : Mut} (hd : dry T op = true) (h : aop T hp sl op = .done (d, hp', mu)) : hp' = hp ∧ mu = none ∧ ∀ hp2, aop T hp2 sl op = .done (d, hp2, none) := by
  have hk : ∀ {x : Option DV}, outR (keep hp x) = .done (d, hp', mu) → hp' = hp ∧ mu = none ∧ ∀ hp2, outR (keep hp2 x) = .done (d, hp2, none) := by
    intro x hx
    cases x with
    | none => cases hx
    | some y => cases hx; exact ⟨rfl, rfl, fun _ => rfl⟩
  cases op <;> simp only [dry, Bool.false_eq_true] at hd <;> simp only [aop] at h ⊢
  case move x => exact hk h
  case assign x => exact hk h
  case slice t x lo hi mx =>
    unfold opSlice at h ⊢
    split at h
    · rename_i i dd lo' hi' mx' h1 h2 h3 h4 h5
      have := hk h
      refine ⟨this.1, this.2.1, fun hp2 => ?_⟩
      have e : sliceD T hp2 i dd lo' hi' mx' = sliceD T hp i dd lo' hi' mx' := by
        rw [h1] at hd
        simp only at hd
        unfold sliceD
        split <;> first | rfl | skip
        rename_i hq
        rw [hq] at hd
        cases hd
      rw [e]
      exact this.2.2 hp2
    · cases h
  all_goals
    simp only [opPick, opBuild, opNilCheck, opBinOp, opUnOp, opFieldAddr, opField, opIndexAddr, opIndex, opExtract, opMakeFunc, opSlPtr] at h ⊢
    repeat' (split at h)
    all_goals first | (cases h; done) | (cases h; exact ⟨rfl, rfl, fun _ => rfl⟩) | exact hk h
theorem dry_not_call {hp : Hp} {sl : Slots} {op : Op} (hd : dry T op = true) (f : FuncId) (args : List DV) : aop T hp sl op ≠ .call f args := by
  intro h
  have hk : ∀ {x : Option DV}, outR (keep hp x) ≠ .call f args := by
    intro x hx
    cases x <;> cases hx
  cases op <;> simp only [dry, Bool.false_eq_true] at hd <;> simp only [aop] at h
  case move x => exact hk h
  case assign x => exact hk h
  all_goals
    simp only [opPick, opBuild, opNilCheck, opBinOp, opUnOp, opFieldAddr, opField, opIndexAddr, opIndex, opExtract, opMakeFunc, opSlPtr, opSlice] at h
    repeat' (split at h)
    all_goals first | (cases h; done) | exact hk h
theorem dry_not_yld {hp : Hp} {sl : Slots} {op : Op} (hd : dry T op = true) (f : Nat) (args : List DV) : aop T hp sl op ≠ .yld f args := by
  intro h
  have hk : ∀ {x : Option DV}, outR (keep hp x) ≠ .yld f args := by
    intro x hx
    cases x <;> cases hx
  cases op <;> simp only [dry, Bool.false_eq_true] at hd <;> simp only [aop] at h
  case move x => exact hk h
  case assign x => exact hk h
  all_goals
    simp only [opPick, opBuild, opNilCheck, opBinOp, opUnOp, opFieldAddr, opField, opIndexAddr, opIndex, opExtract, opMakeFunc, opSlPtr, opSlice] at h
    repeat' (split at h)
    all_goals first | (cases h; done) | exact hk h
structure Rec where
  d : DV
  hp : Hp
  mu : Mut
/-- one operation of the run in the text's order -/
def StepC (T : Tab) (call : CallF) (ds : List (Option Tmp)) (o : Oper) (sl : Slots) (hp : Hp) (r : Rec) : Prop :=
  (gate ds sl o.guard = some true ∧ opE T call o sl hp = some (r.d, r.hp, r.mu)) ∨ (gate ds sl o.guard = some false ∧ r = ⟨.tuple [], hp, none⟩)
def Can (T : Tab) (call : CallF) (ds : List (Option Tmp)) : List Oper → List Rec → Slots → Hp → Prop
  | [], [], _, _ => True
  | o :: l, r :: rs, sl, hp => StepC T call ds o sl hp r ∧ Can T call ds l rs (putO sl o.dst r.d) r.hp
  | _, _, _, _ => False
def slR : List Oper → List Rec → Slots → Slots
  | o :: l, r :: rs, sl => slR l rs (putO sl o.dst r.d)
  | _, _, sl => sl
def hpR : List Rec → Hp → Hp
  | r :: rs, _ => hpR rs r.hp
  | [], hp => hp
variable {call : CallF} {ds : List (Option Tmp)}
theorem regP_can : ∀ {l : List Oper} {sl : Slots} {hp : Hp} {sl' : Slots} {hp' : Hp}, regP T call ds l sl hp = some (sl', hp') → ∃ rs, Can T call ds l rs sl hp ∧ slR l rs sl = sl' ∧ hpR rs hp = hp' ∧ ∀ r ∈ rs, r.mu = none
  | [], sl, hp, sl', hp', h => by cases h; exact ⟨[], trivial, rfl, rfl, fun r hr => by cases hr⟩
  | o :: l, sl, hp, sl', hp', h => by
    rw [regP_cons] at h
    unfold gateX at h
    split at h
    · rename_i hg
      unfold regP1 at h
      split at h
      · rename_i d hp1 hop
        obtain ⟨rs, h1, h2, h3, h4⟩ := regP_can h
        exact ⟨⟨d, hp1, none⟩ :: rs, ⟨.inl ⟨hg, hop⟩, h1⟩, h2, h3, fun r hr => by rcases List.mem_cons.1 hr with rfl | hr; rfl; exact h4 r hr⟩
      · cases h
    · rename_i hg
      obtain ⟨rs, h1, h2, h3, h4⟩ := regP_can h
      exact ⟨⟨.tuple [], hp, none⟩ :: rs, ⟨.inr ⟨hg, rfl⟩, h1⟩, h2, h3, fun r hr => by rcases List.mem_cons.1 hr with rfl | hr; rfl; exact h4 r hr⟩
    · cases h
theorem regE_can : ∀ {l : List Oper} {sl : Slots} {hp : Hp} {sl' : Slots} {hp' : Hp} {mu : Mut}, regE T call ds l sl hp = some (sl', hp', mu) → ∃ rs, Can T call ds l rs sl hp ∧ slR l rs sl = sl' ∧ hpR rs hp = hp' ∧ ∀ base, mutOk base mu → ∀ r ∈ rs, mutOk base r.mu
  | [], sl, hp, sl', hp', mu, h => by cases h; exact ⟨[], trivial, rfl, rfl, fun _ _ r hr => by cases hr⟩
  | o :: l, sl, hp, sl', hp', mu, h => by
    rw [regE_cons] at h
    unfold gateX at h
    split at h
    · rename_i hg
      unfold regE1 at h
      split at h
      · rename_i d hp1 m1 hop
        split at h
        · rename_i sl2 hp2 m2 hrest
          cases h
          obtain ⟨rs, h1, h2, h3, h4⟩ := regE_can hrest
          exact ⟨⟨d, hp1, m1⟩ :: rs, ⟨.inl ⟨hg, hop⟩, h1⟩, h2, h3, fun base hb r hr => by rcases List.mem_cons.1 hr with rfl | hr; exact (mutOk_mmin hb).1; exact h4 base (mutOk_mmin hb).2 r hr⟩
        · cases h
      · cases h
    · rename_i hg
      obtain ⟨rs, h1, h2, h3, h4⟩ := regE_can h
      exact ⟨⟨.tuple [], hp, none⟩ :: rs, ⟨.inr ⟨hg, rfl⟩, h1⟩, h2, h3, fun base hb r hr => by rcases List.mem_cons.1 hr with rfl | hr; trivial; exact h4 base hb r hr⟩
    · cases h
theorem can_append : ∀ {l m : List Oper} {rs qs : List Rec} {sl : Slots} {hp : Hp}, Can T call ds l rs sl hp → Can T call ds m qs (slR l rs sl) (hpR rs hp) → Can T call ds (l ++ m) (rs ++ qs) sl hp ∧ slR (l ++ m) (rs ++ qs) sl = slR m qs (slR l rs sl) ∧ hpR (rs ++ qs) hp = hpR qs (hpR rs hp)
  | [], m, [], qs, sl, hp, _, h => ⟨h, rfl, rfl⟩
  | [], m, _ :: _, qs, sl, hp, h, _ => h.elim
  | _ :: _, m, [], qs, sl, hp, h, _ => h.elim
  | o :: l, m, r :: rs, qs, sl, hp, h, k => by
    obtain ⟨h1, h2, h3⟩ := can_append (l := l) (rs := rs) h.2 k
    exact ⟨⟨h.1, h1⟩, h2, h3⟩
/-- before operation i -/
def slAt (l : List Oper) (rs : List Rec) (sl : Slots) (i : Nat) : Slots := slR (l.take i) (rs.take i) sl
def hpAt (rs : List Rec) (hp : Hp) (i : Nat) : Hp := hpR (rs.take i) hp
theorem can_len : ∀ {l : List Oper} {rs : List Rec} {sl : Slots} {hp : Hp}, Can T call ds l rs sl hp → l.length = rs.length
  | [], [], _, _, _ => rfl
  | [], _ :: _, _, _, h => h.elim
  | _ :: _, [], _, _, h => h.elim
  | _ :: l, _ :: rs, _, _, h => by simp [can_len (l := l) (rs := rs) h.2]
theorem can_at : ∀ {l : List Oper} {rs : List Rec} {sl : Slots} {hp : Hp}, Can T call ds l rs sl hp → ∀ (i : Nat) o, l[i]? = some o → ∃ r, rs[i]? = some r ∧ StepC T call ds o (slAt l rs sl i) (hpAt rs hp i) r ∧ slAt l rs sl (i + 1) = putO (slAt l rs sl i) o.dst r.d ∧ hpAt rs hp (i + 1) = r.hp
  | [], rs, _, _, _, i, o, h => by simp at h
  | _ :: _, [], _, _, h, _, _, _ => h.elim
  | o' :: l, r' :: rs, sl, hp, h, 0, o, ho => by
    simp at ho
    subst ho
    refine ⟨r', rfl, h.1, ?_, ?_⟩
    · simp [slAt, slR]
    · simp [hpAt, hpR]
  | o' :: l, r' :: rs, sl, hp, h, i + 1, o, ho => by
    obtain ⟨r, h1, h2, h3, h4⟩ := can_at (l := l) (rs := rs) h.2 i o (by simpa using ho)
    exact ⟨r, by simpa using h1, h2, h3, h4⟩
end
end Go.Proofs.Ytgjgihlfkpbdgaa
/- Code over abstract data: operations in any order that the edges allow; one step. No function of the program is named here. -/
namespace Go.Proofs.Ytgjgihlfkpbdgaa
open Go.RowKit

noncomputable section
variable {P : Program} {T : Tab} {W0 : World} {base : Nat} {S0 : Nat → Prop} {E : Env} {hp : Hp} {w : World}
def Env.lim (E : Env) (n : Nat) : Env := { E with D := fun id => E.D id ∧ id < n }
theorem Later.lim {E E' : Env} {w w' : World} (h : Later E w E' w') {n m : Nat} (hnm : n ≤ m) : Later (E.lim n) w (E'.lim m) w' :=
  ⟨h.S, fun id hd => ⟨⟨(h.D id hd.1).1, Nat.lt_of_lt_of_le hd.2 hnm⟩, (h.D id hd.1).2⟩, h.cell, h.y⟩
theorem Later.lim_id {E : Env} {w : World} {n : Nat} (h : ∀ id, E.D id → id < n) : Later E w (E.lim n) w := ⟨fun _ h => h, fun id hd => ⟨⟨hd, h id hd⟩, rfl, rfl, rfl, Iff.rfl⟩, fun _ _ => rfl, fun _ _ h => h⟩
/-- the same in a later world, where all that is named is as it was -/
theorem HS.move (h : HS W0 base S0 E hp w) {E' : Env} {w' : World} {hp' : Hp} (hD : ∀ id, E'.D id → E.D id) (hl : Later E w E' w') (hb : Below W0.heap.size W0 w') (hh : ∀ id, E.D id → w'.heap[E.b id]? = w.heap[E.b id]?) (hS : ∀ b, E'.S b → E.S b ∨ w.heap.size ≤ b) (hr : ∀ b, E'.S b → b < w'.heap.size)
    (hg : ∀ id, E.D id → hp'.get id = hp.get id) (hle : base ≤ hp'.n) (hys : YsOk W0 base E' hp' w') : HS W0 base S0 E' hp' w' := by
  refine ⟨hb, fun id hd => ?_, fun id hd hbi => ?_, fun id hd hbi => ?_, fun i j oi oj hi hj hne hbi hoi hoj hk he => ?_, hr, fun b hs => ?_, hle, hys⟩
  · obtain ⟨o, ho, hok⟩ := h.ob id (hD id hd)
    exact ⟨o, by rw [hg id (hD id hd)]; exact ho, hok.keep (hD id hd) hl (hh id (hD id hd))⟩
  · have hd' := hD id hd
    obtain ⟨_, e1, _⟩ := hl.D id hd'
    obtain ⟨q1, q2⟩ := h.own id hd' hbi
    rw [e1]
    refine ⟨q1, fun hs => ?_⟩
    rcases hS _ hs with hs | hs
    · exact q2 hs
    · obtain ⟨o, ho, hok⟩ := h.ob id hd'
      have := hok.lt
      omega
  · have hd' := hD id hd
    obtain ⟨_, e1, _⟩ := hl.D id hd'
    rw [e1]
    exact h.old id hd' hbi
  · have hi' := hD i hi
    have hj' := hD j hj
    obtain ⟨_, e1, e2, _⟩ := hl.D i hi'
    obtain ⟨_, f1, f2, _⟩ := hl.D j hj'
    rw [hg i hi'] at hoi
    rw [hg j hj'] at hoj
    rw [e1, f1] at he
    rw [e2, f2]
    exact h.inj i j oi oj hi' hj' hne hbi hoi hoj hk he
  · rcases hS b hs with hs | hs
    · exact h.olds b hs
    · have := h.bel.size
      exact .inr (by omega)
/-- the run of one operation, or of a call, for itself -/
theorem HS.pure (h : HS W0 base S0 E hp w) : HS w hp.n E.S E hp w := by
  refine ⟨Below.refl _ _, h.ob, fun id hd hb => ?_, fun id hd _ => ?_, fun i j oi oj hi hj hne hb => ?_, h.ro, fun b hs => .inl hs, Nat.le_refl _, h.ys.pure⟩
  · have := h.dlt hd; omega
  · obtain ⟨o, ho, hok⟩ := h.ob id hd
    exact hok.lt
  · have := h.dlt hi; omega
/-- two places put together: E, and from a to b what E' names -/
def mrg (E E' : Env) (a b : Nat) : Env :=
  ⟨E'.S, fun id => if a ≤ id ∧ id < b then E'.b id else E.b id, fun id => if a ≤ id ∧ id < b then E'.base id else E.base id, fun id => if a ≤ id ∧ id < b then E'.sz id else E.sz id, fun id => (a ≤ id ∧ id < b ∧ E'.X id) ∨ (¬ (a ≤ id ∧ id < b) ∧ E.X id), fun id => E.D id ∨ (a ≤ id ∧ id < b ∧ E'.D id), E'.yb⟩
theorem mrg_in (E E' : Env) {a b id : Nat} (h : a ≤ id ∧ id < b) : (mrg E E' a b).b id = E'.b id ∧ (mrg E E' a b).base id = E'.base id ∧ (mrg E E' a b).sz id = E'.sz id ∧ ((mrg E E' a b).X id ↔ E'.X id) :=
  ⟨if_pos h, if_pos h, if_pos h, ⟨fun k => k.elim (·.2.2) (fun k => absurd h k.1), fun k => .inl ⟨h.1, h.2, k⟩⟩⟩
theorem mrg_out (E E' : Env) {a b id : Nat} (h : ¬ (a ≤ id ∧ id < b)) : (mrg E E' a b).b id = E.b id ∧ (mrg E E' a b).base id = E.base id ∧ (mrg E E' a b).sz id = E.sz id ∧ ((mrg E E' a b).X id ↔ E.X id) :=
  ⟨if_neg h, if_neg h, if_neg h, ⟨fun k => k.elim (fun k => absurd ⟨k.1, k.2.1⟩ h) (·.2), fun k => .inr ⟨h, k⟩⟩⟩
theorem mrg_old {E E' : Env} {w w' : World} {a b : Nat} (hS : ∀ x, E.S x → E'.S x) (hc : ∀ p : Addr, E.S p.block → w'.cell? p = w.cell? p) (hD : ∀ id, E.D id → ¬ (a ≤ id ∧ id < b)) (hy : E'.yb = E.yb) : Later E w (mrg E E' a b) w' :=
  ⟨hS, fun id hd => by
    obtain ⟨h1, h2, h3, h4⟩ := mrg_out E E' (hD id hd)
    exact ⟨.inl hd, h1, h2, h3, h4⟩, hc, fun id x hx => (by show E'.yb id = some x; rw [hy]; exact hx)⟩
theorem mrg_new {E E1 E' : Env} {w1 w' : World} {a b : Nat} (hl : Later E1 w1 E' w') (h1 : ∀ id, E1.D id → E.D id ∧ E1.b id = E.b id ∧ E1.base id = E.base id ∧ E1.sz id = E.sz id ∧ (E1.X id ↔ E.X id)) (hD : ∀ id, E.D id → ¬ (a ≤ id ∧ id < b)) (hdom : ∀ id, E'.D id → E1.D id ∨ (a ≤ id ∧ id < b)) : Later E' w' (mrg E E' a b) w' :=
  ⟨fun _ h => h, fun id hd => by
    rcases hdom id hd with h | h
    · obtain ⟨q0, q1, q2, q3, q4⟩ := h1 id h
      obtain ⟨r0, r1, r2, r3, r4⟩ := hl.D id h
      obtain ⟨m1, m2, m3, m4⟩ := mrg_out E E' (hD id q0)
      exact ⟨.inl q0, by rw [m1, r1, q1], by rw [m2, r2, q2], by rw [m3, r3, q3], m4.trans ((r4.trans q4).symm)⟩
    · obtain ⟨m1, m2, m3, m4⟩ := mrg_in E E' h
      exact ⟨.inr ⟨h.1, h.2, hd⟩, m1, m2, m3, m4⟩, fun _ _ => rfl, fun _ _ h => h⟩
/-- a run for itself, put beside what is there -/
theorem HS.merge {Em : Env} {hpM : Hp} (h : HS W0 base S0 Em hpM w) {E1 E' : Env} {hpX hpY : Hp} {w' : World} {a b : Nat} (_hX : HS w a Em.S E1 hpX w) (hY : HS w a Em.S E' hpY w') (hl : Later E1 w E' w') (h1 : ∀ id, E1.D id → Em.D id ∧ E1.b id = Em.b id ∧ E1.base id = Em.base id ∧ E1.sz id = Em.sz id ∧ (E1.X id ↔ Em.X id)) (hS1 : E1.S = Em.S)
    (hdom : ∀ id, E'.D id → E1.D id ∨ (a ≤ id ∧ id < b)) (hD : ∀ id, Em.D id → ¬ (a ≤ id ∧ id < b)) (hg : ∀ id, a ≤ id → id < b → E'.D id → hpM.get id = hpY.get id) (hba : base ≤ a) (hy : E'.yb = Em.yb) : HS W0 base S0 (mrg Em E' a b) hpM w' ∧ Later Em w (mrg Em E' a b) w' ∧ Later E' w' (mrg Em E' a b) w' := by
  have hbel := hY.bel
  have hcell : ∀ p : Addr, Em.S p.block → w'.cell? p = w.cell? p := fun p hp => hl.cell p (by rw [hS1]; exact hp)
  have hSS : ∀ x, Em.S x → E'.S x := fun x hx => hl.S x (by rw [hS1]; exact hx)
  have hold := mrg_old (E := Em) (E' := E') (w := w) (w' := w') (a := a) (b := b) hSS hcell hD hy
  have hnew := mrg_new (E := Em) hl h1 hD hdom
  have hblk : ∀ k, k < w.heap.size → w'.heap[k]? = w.heap[k]? := hbel.block
  have hEb : ∀ id, Em.D id → Em.b id < w.heap.size := fun id hd => by
    obtain ⟨o, ho, hok⟩ := h.ob id hd
    exact hok.lt
  refine ⟨⟨?_, fun id hd => ?_, fun id hd hbi => ?_, fun id hd hbi => ?_, fun i j oi oj hi hj hne hbi hoi hoj hk he => ?_, fun x hx => hY.ro x hx, fun x hx => ?_, h.le, h.ys.keep hold hy rfl (Nat.le_refl _) fun k hk => hblk k (isO_lt hk)⟩, hold, hnew⟩
  · exact h.bel.trans (hbel.mono h.bel.size)
  · rcases hd with hd | ⟨q1, q2, hd⟩
    · obtain ⟨o, ho, hok⟩ := h.ob id hd
      exact ⟨o, ho, hok.keep hd hold (hblk _ hok.lt)⟩
    · obtain ⟨o, ho, hok⟩ := hY.ob id hd
      exact ⟨o, by rw [hg id q1 q2 hd]; exact ho, hok.keep hd hnew rfl⟩
  · rcases hd with hd | ⟨q1, q2, hd⟩
    · obtain ⟨m1, _⟩ := mrg_out Em E' (hD id hd)
      obtain ⟨o1, o2⟩ := h.own id hd hbi
      rw [m1]
      refine ⟨o1, fun hs => ?_⟩
      rcases hY.olds _ hs with hs | hs
      · exact o2 hs
      · have := hEb id hd; omega
    · obtain ⟨m1, _⟩ := mrg_in Em E' ⟨q1, q2⟩
      obtain ⟨o1, o2⟩ := hY.own id hd q1
      rw [m1]
      have := h.bel.size
      exact ⟨by omega, o2⟩
  · rcases hd with hd | ⟨q1, q2, hd⟩
    · obtain ⟨m1, _⟩ := mrg_out Em E' (hD id hd)
      rw [m1]
      exact h.old id hd hbi
    · omega
  · rcases hi with hi | ⟨i1, i2, hi⟩ <;> rcases hj with hj | ⟨j1, j2, hj⟩
    · obtain ⟨m1, m2, _⟩ := mrg_out Em E' (hD i hi)
      obtain ⟨n1, n2, _⟩ := mrg_out Em E' (hD j hj)
      rw [m1, n1] at he
      rw [m2, n2]
      exact h.inj i j oi oj hi hj hne hbi hoi hoj hk he
    · obtain ⟨m1, m2, _⟩ := mrg_out Em E' (hD i hi)
      obtain ⟨n1, n2, _⟩ := mrg_in Em E' ⟨j1, j2⟩
      rw [m1, n1] at he
      have := hEb i hi
      have := (hY.own j hj j1).1
      omega
    · obtain ⟨m1, m2, _⟩ := mrg_in Em E' ⟨i1, i2⟩
      obtain ⟨n1, n2, _⟩ := mrg_out Em E' (hD j hj)
      rw [m1, n1] at he
      have := hEb j hj
      have := (hY.own i hi i1).1
      omega
    · obtain ⟨m1, m2, _⟩ := mrg_in Em E' ⟨i1, i2⟩
      obtain ⟨n1, n2, _⟩ := mrg_in Em E' ⟨j1, j2⟩
      rw [m1, n1] at he
      rw [m2, n2]
      rw [hg i i1 i2 hi] at hoi
      rw [hg j j1 j2 hj] at hoj
      exact hY.inj i j oi oj hi hj hne i1 hoi hoj hk he
  · rcases hY.olds x hx with hx | hx
    · exact h.olds x hx
    · have := h.bel.size
      exact .inr (by omega)
theorem HS.drew (h : HS W0 base S0 E hp w) : HS W0 base S0 E hp { w with drawn := w.drawn + 1 } ∧ Later E w E { w with drawn := w.drawn + 1 } := by
  have hl : Later E w E { w with drawn := w.drawn + 1 } := ⟨fun _ h => h, fun _ h => ⟨h, rfl, rfl, rfl, Iff.rfl⟩, fun _ _ => rfl, fun _ _ h => h⟩
  exact ⟨h.move (fun _ h => h) hl ⟨h.bel.os, h.bel.tape, h.bel.output, h.bel.size, h.bel.block⟩ (fun _ _ => rfl) (fun _ h => .inl h) h.ro (fun _ _ => rfl) h.le (h.ys.keep hl rfl rfl (Nat.le_refl _) fun _ _ => rfl), hl⟩
end
end Go.Proofs.Ytgjgihlfkpbdgaa
/- Code over abstract data: operations in any order that the edges allow. No function of the program is named here. -/
namespace Go.Proofs.Ytgjgihlfkpbdgaa
open Go.RowKit

noncomputable section
variable {P : Program} {T : Tab} {call : CallF} {W0 : World} {base : Nat} {S0 : Nat → Prop} {N : Nat}
theorem step_ext (hcall : CallOk P call) {ds : List (Option Tmp)} {o : Oper} {sl : Slots} {hp : Hp} {r : Rec} (h : StepC T call ds o sl hp r) {b : Nat} (hmu : mutOk b r.mu) (hb : b ≤ hp.n) : Ext b hp r.hp := by
  rcases h with ⟨_, h⟩ | ⟨_, rfl⟩
  · unfold opE at h
    split at h
    · rename_i q hq
      have : q = (r.d, r.hp, r.mu) := by simpa using h
      subst this
      exact aop_ext hq hmu hb
    · rename_i f args hq
      exact (hcall.f _ _ _ _ _ _ h).2.1 b hmu hb
    · exact (hcall.y _ _ _ _ _ _ h).1 b hmu hb
    · cases h
  · exact Ext.refl _ _
/-- the run of a region in the text's order -/
structure Reg (P : Program) (T : Tab) (call : CallF) (ops : Array Oper) (k : Nat) (rs : List Rec) (sl0 : Slots) (hp0 : Hp) (base N : Nat) : Prop where
  can : Can T call (ops.toList.map (·.dst)) ops.toList rs sl0 hp0
  pre : ∀ (j : Nat) r, j < k → rs[j]? = some r → r.mu = none
  mu : ∀ r ∈ rs, mutOk base r.mu
  chk : ChkOk T ops k
  dst : dstsOk N (ops.toList.map (·.dst)) = true
  le : base ≤ hp0.n
variable {ops : Array Oper} {k : Nat} {rs : List Rec} {sl0 : Slots} {hp0 : Hp}
theorem Reg.ext (h : Reg P T call ops k rs sl0 hp0 base N) (hcall : CallOk P call) : ∀ i, i ≤ ops.toList.length → hp0.n ≤ (hpAt rs hp0 i).n ∧ Ext base hp0 (hpAt rs hp0 i)
  | 0, _ => ⟨Nat.le_refl _, Ext.refl _ _⟩
  | i + 1, hi => by
    obtain ⟨h1, h2⟩ := h.ext hcall i (by omega)
    obtain ⟨r, hr, hst, _, he⟩ := can_at h.can i _ (List.getElem?_eq_getElem (show i < ops.toList.length by omega))
    rw [he]
    have hl := h.le
    have := step_ext hcall hst (b := base) (h.mu r (List.mem_of_getElem? hr)) (by omega)
    exact ⟨Nat.le_trans h1 this.1, h2.trans this⟩
theorem Reg.mono (h : Reg P T call ops k rs sl0 hp0 base N) (hcall : CallOk P call) {i j : Nat} (hij : i ≤ j) (hj : j ≤ ops.toList.length) : (hpAt rs hp0 i).n ≤ (hpAt rs hp0 j).n := by
  induction hij with
  | refl => exact Nat.le_refl _
  | step hq ih =>
    rename_i m
    refine Nat.le_trans (ih (by omega)) ?_
    obtain ⟨r, hr, hst, _, he⟩ := can_at h.can m _ (List.getElem?_eq_getElem (show m < ops.toList.length by omega))
    rw [he]
    have hl := h.le
    have := (h.ext hcall m (by omega)).1
    exact (step_ext hcall hst (b := base) (h.mu r (List.mem_of_getElem? hr)) (by omega)).1
/-- among the first k objects are made alone -/
theorem Reg.same (h : Reg P T call ops k rs sl0 hp0 base N) (hcall : CallOk P call) {i j : Nat} (hij : i ≤ j) (hj : j ≤ k) : Ext (hpAt rs hp0 i).n (hpAt rs hp0 i) (hpAt rs hp0 j) := by
  induction hij with
  | refl => exact Ext.refl _ _
  | step hq ih =>
    rename_i m
    have hml : m < ops.toList.length := by have := h.chk.le; omega
    refine (ih (by omega)).trans ?_
    obtain ⟨r, hr, hst, _, he⟩ := can_at h.can m _ (List.getElem?_eq_getElem hml)
    rw [he]
    exact step_ext hcall hst (by rw [h.pre m r (by omega) hr]; trivial) (h.mono hcall hq (by omega))
/-- who writes slot t has come exactly if it stands before i -/
def AtPos (ops : Array Oper) (D : Nat → Prop) (t i : Nat) : Prop := ∀ (j : Nat) o, ops.toList[j]? = some o → o.dst = some t → (D j ↔ j < i)
def Shown (ops : Array Oper) (rs : List Rec) (sl0 : Slots) (D : Nat → Prop) (Ei : Nat → Env) (a : Act) (w : World) : Prop :=
  ∀ t i, i ≤ ops.toList.length → AtPos ops D t i → ∀ d, look (slAt ops.toList rs sl0 i) t = some d → VR w (Ei i) d (a.tmps.getD t undef)
/-- what an operation looks at -/
theorem look_pos (h : ChkOk T ops k) {D : Nat → Prop} (hD : Closed ops.toList D) {i : Nat} {o : Oper} (ho : ops.toList[i]? = some o) (hDi : ¬ D i) (hw : Waits D o) {t : Nat} (ht : t ∈ o.looksAt ops) : AtPos ops D t i := by
  intro j oj hj hdj
  have hlt : Closed ops.toList (· < i) := fun i' o' e ho' hi' he hb => Nat.lt_trans (h.back i' o' e ho' he hb) hi'
  have hlt' : Closed ops.toList (· < j) := fun i' o' e ho' hi' he hb => Nat.lt_trans (h.back i' o' e ho' he hb) hi'
  by_cases e : j = i
  · subst e
    exact ⟨fun h => absurd h hDi, fun h => absurd h (Nat.lt_irrefl _)⟩
  · rcases h.pair i j o oj e ho hj with hb | ⟨hb | hb, _⟩
    · exact ⟨fun _ => hb (· < i) hlt fun e he hb => h.back i o e ho he hb, fun _ => hb D hD hw⟩
    · have h1 : i < j := hb (· < j) hlt' fun e he hb => h.back j oj e hj he hb
      refine ⟨fun hDj => absurd (hb D hD fun e he hbd => hD j oj e hj hDj he hbd) hDi, fun h => by omega⟩
    · exact absurd ht (hb t hdj).1
theorem slR_app : ∀ (l m : List Oper) (rs qs : List Rec) (sl : Slots), l.length = rs.length → slR (l ++ m) (rs ++ qs) sl = slR m qs (slR l rs sl)
  | [], m, [], qs, sl, _ => rfl
  | o :: l, m, r :: rs, qs, sl, h => slR_app l m rs qs (putO sl o.dst r.d) (by simpa using h)
  | [], _, _ :: _, _, _, h => by simp at h
  | _ :: _, _, [], _, _, h => by simp at h
theorem slAt_succ {l : List Oper} {rs : List Rec} {sl : Slots} (h : l.length = rs.length) {i : Nat} {o : Oper} (ho : l[i]? = some o) : ∃ r, rs[i]? = some r ∧ slAt l rs sl (i + 1) = putO (slAt l rs sl i) o.dst r.d := by
  have hi := (List.getElem?_eq_some_iff.1 ho).1
  have hir : i < rs.length := by omega
  refine ⟨rs[i], List.getElem?_eq_getElem hir, ?_⟩
  unfold slAt
  rw [List.take_add_one, List.take_add_one, ho, List.getElem?_eq_getElem hir, slR_app _ _ _ _ _ (by simp; omega)]
  rfl
/-- behind an operation -/
theorem shown_put0 (hlen : ops.toList.length = rs.length) (hchk : ChkOk T ops k) (hds : dstsOk N (ops.toList.map (·.dst)) = true) {D : Nat → Prop} (hD : Closed ops.toList D) {q : Nat} {o : Oper} {r : Rec} (ho : ops.toList[q]? = some o) (hr : rs[q]? = some r) (hDq : ¬ D q) {Ei Ei' : Nat → Env} {a : Act} {w w' : World} {v : Value}
    (hs : Shown ops rs sl0 D Ei a w) (hl : ∀ i, i ≤ ops.toList.length → Later (Ei i) w (Ei' i) w') (hv : ∀ i, q < i → i ≤ ops.toList.length → VR w' (Ei' i) r.d v) (hsz : a.tmps.size = N) : Shown ops rs sl0 (fun j => D j ∨ j = q) Ei' (a.put o.dst v) w' := by
  intro t i hi hat d hd
  have hdst : ∀ t, o.dst = some t → t < N := fun t ht => dstsOk_spec hds t (by rw [← ht]; exact List.mem_map.2 ⟨o, List.mem_of_getElem? ho, rfl⟩)
  by_cases e : o.dst = some t
  · -- its own slot
    have hqi : q < i := (hat q o ho e).1 (.inr rfl)
    have hval : (a.put o.dst v).tmps.getD t undef = v := by
      rw [e]
      simp only [Act.put]
      rw [getD_set (by rw [hsz]; exact hdst t e), if_pos rfl]
    rw [hval]
    -- no other writer stands between
    have hno : ∀ (j : Nat) oj, ops.toList[j]? = some oj → q < j → j < i → oj.dst ≠ some t := by
      intro j oj hj hqj hji hdj
      have hDj : D j := by
        rcases (hat j oj hj hdj).2 hji with h | rfl
        · exact h
        · omega
      rcases hchk.pair q j o oj (by omega) ho hj with hb | ⟨hb | hb, _⟩
      · have : j < q := hb (· < q) (fun i' o' e ho' hi' he hb => Nat.lt_trans (hchk.back i' o' e ho' he hb) hi') fun e he hb => hchk.back q o e ho he hb
        omega
      · exact hDq (hb D hD fun e he hbd => hD j oj e hj hDj he hbd)
      · exact (hb t hdj).2 e
    have key : ∀ m, q + 1 ≤ m → m ≤ i → ∀ d, look (slAt ops.toList rs sl0 m) t = some d → d = r.d := by
      intro m hm
      induction hm with
      | refl =>
        intro _ d hd
        obtain ⟨r', hr', he⟩ := slAt_succ (sl := sl0) hlen ho
        rw [hr] at hr'
        cases hr'
        rw [he, e] at hd
        simp only [putO] at hd
        rcases look_put hd with ⟨_, rfl⟩ | ⟨hne, _⟩
        · rfl
        · exact absurd rfl hne
      | step hq ih =>
        rename_i m
        intro hmi d hd
        have hml : m < ops.toList.length := by omega
        obtain ⟨r', hr', he⟩ := slAt_succ (sl := sl0) hlen (List.getElem?_eq_getElem hml)
        rw [he] at hd
        have hne := hno m _ (List.getElem?_eq_getElem hml) (Nat.lt_of_succ_le hq) (by omega)
        refine ih (by omega) d ?_
        cases hdd : (ops.toList[m]).dst with
        | none => rw [hdd] at hd; exact hd
        | some s =>
          rw [hdd] at hd
          simp only [putO] at hd
          rcases look_put hd with ⟨rfl, _⟩ | ⟨_, hd⟩
          · exact absurd hdd hne
          · exact hd
    rw [key i (by omega) (Nat.le_refl _) d hd]
    exact hv i hqi hi
  · have hval : (a.put o.dst v).tmps.getD t undef = a.tmps.getD t undef := by
      cases hdd : o.dst with
      | none => rfl
      | some s =>
        simp only [Act.put]
        rw [getD_set (by rw [hsz]; exact hdst s hdd), if_neg (fun q => e (by rw [hdd, q]))]
    rw [hval]
    refine (hs t i hi (fun j oj hj hdj => ?_) d hd).later (hl i hi)
    rw [← hat j oj hj hdj]
    refine ⟨.inl, fun h => h.resolve_right fun q => ?_⟩
    subst q
    rw [ho] at hj
    cases hj
    exact e hdj
theorem shown_put (h : Reg P T call ops k rs sl0 hp0 base N) {D : Nat → Prop} (hD : Closed ops.toList D) {q : Nat} {o : Oper} {r : Rec} (ho : ops.toList[q]? = some o) (hr : rs[q]? = some r) (hDq : ¬ D q) {Ei Ei' : Nat → Env} {a : Act} {w w' : World} {v : Value}
    (hs : Shown ops rs sl0 D Ei a w) (hl : ∀ i, i ≤ ops.toList.length → Later (Ei i) w (Ei' i) w') (hv : ∀ i, q < i → i ≤ ops.toList.length → VR w' (Ei' i) r.d v) (hsz : a.tmps.size = N) : Shown ops rs sl0 (fun j => D j ∨ j = q) Ei' (a.put o.dst v) w' :=
  shown_put0 (can_len h.can) h.chk h.dst hD ho hr hDq hs hl hv hsz
end
end Go.Proofs.Ytgjgihlfkpbdgaa
/- Code over abstract data: operations in any order that the edges allow; the theorem. No function of the program is named here. -/
namespace Go.Proofs.Ytgjgihlfkpbdgaa
open Go.RowKit

noncomputable section
theorem countP_lt {α : Type} (p q : α → Bool) : ∀ (l : List α), (∀ x ∈ l, q x = true → p x = true) → (∃ x ∈ l, p x = true ∧ q x = false) → l.countP q < l.countP p
  | [], _, ⟨x, hx, _⟩ => by cases hx
  | y :: l, h, ⟨x, hx, hp, hq⟩ => by
    simp only [List.countP_cons]
    have hmono : l.countP q ≤ l.countP p := List.countP_mono_left fun z hz => h z (by simp [hz])
    rcases List.mem_cons.1 hx with rfl | hx
    · rw [hp, hq]; simp; omega
    · have ih := countP_lt p q l (fun z hz => h z (by simp [hz])) ⟨x, hx, hp, hq⟩
      by_cases hy : q y = true
      · rw [hy, h y (by simp) hy]; simp; omega
      · simp [hy]; omega

variable {P : Program} {T : Tab} {call : CallF} {W0 : World} {base : Nat} {S0 : Nat → Prop} {N : Nat} {ops : Array Oper} {k : Nat} {rs : List Rec} {sl0 : Slots} {hp0 : Hp} {Q : Exit → Act → World → Prop} {E0 : Env} {w0 : World}
theorem getD_set_other {listed : Array Bool} {i j : Nat} (h : i ≠ j) : (listed.setIfInBounds i true).getD j false = listed.getD j false := by
  simp [Array.getElem?_setIfInBounds_ne h]
theorem getD_set_self {listed : Array Bool} {i : Nat} (h : i < listed.size) : (listed.setIfInBounds i true).getD i false = true := by
  simp [h]
theorem mem_ready {md : Region.Mode} {listed : Array Bool} {j : Nat} : j ∈ Region.ready md ops listed ↔ listed.getD j true = false ∧ ∃ o, ops[j]? = some o ∧ ∀ e ∈ o.after, Region.binds md e = true → listed.getD e.on false = true := by
  unfold Region.ready
  rw [List.mem_filter]
  simp only [List.mem_range, Bool.and_eq_true, Bool.not_eq_true']
  constructor
  · rintro ⟨h1, h2, h3⟩
    refine ⟨h2, ?_⟩
    cases ho : ops[j]? with
    | none => rw [ho] at h3; simp at h3
    | some o =>
      rw [ho] at h3
      refine ⟨o, rfl, fun e he hb => ?_⟩
      simp only [Option.map_some, Option.getD_some, Array.all_eq_true'] at h3
      have := h3 e he
      simpa [hb] using this
  · rintro ⟨h1, o, ho, h2⟩
    refine ⟨(Array.getElem?_eq_some_iff.1 ho).1, h1, ?_⟩
    rw [ho]
    simp only [Option.map_some, Option.getD_some, Array.all_eq_true']
    intro e he
    cases hb : Region.binds md e
    · simp
    · simpa using h2 e he hb
theorem rep_false (n j : Nat) : (Array.replicate n false).getD j false = false := by
  rcases Nat.lt_or_ge j n with h | h
  · simp [h]
  · rw [Array.getD_eq_getD_getElem?, Array.getElem?_eq_none (by simpa using h)]; rfl

def seen (ops : Array Oper) (o : Oper) (sl : Slots) : Slots := restr sl fun t => (o.looksAt ops).contains t
theorem seen_look {o : Oper} {sl : Slots} {t : Nat} {d : DV} (h : look (seen ops o sl) t = some d) : t ∈ o.looksAt ops ∧ look sl t = some d := by
  unfold seen at h
  rw [look_restr] at h
  split at h
  · rename_i hc
    exact ⟨by simpa using hc, h⟩
  · cases h
theorem seen_ev {o : Oper} {sl : Slots} {x : Operand} (hx : x ∈ o.op.operands) : ev (seen ops o sl) x = ev sl x := by
  refine ev_congr fun t ht => ?_
  subst ht
  unfold seen
  rw [look_restr]
  have : (o.looksAt ops).contains t = true := by
    rw [List.contains_iff_mem]
    unfold Oper.looksAt
    rw [List.mem_append]
    left
    rw [List.mem_filterMap]
    exact ⟨.tmp t, by simpa using hx, rfl⟩
  rw [this]
theorem seen_opE {o : Oper} {sl : Slots} {hp : Hp} : opE T call o (seen ops o sl) hp = opE T call o sl hp := by
  unfold opE
  rw [aop_congr o.op fun x hx => seen_ev hx]
theorem seen_gate {o : Oper} {sl : Slots} : gate (ops.toList.map (·.dst)) (seen ops o sl) o.guard = gate (ops.toList.map (·.dst)) sl o.guard := by
  unfold gate
  split
  · rfl
  · rename_i j want hg
    split
    · rename_i t hj
      have : look (seen ops o sl) t = look sl t := by
        unfold seen
        rw [look_restr]
        have : (o.looksAt ops).contains t = true := by
          rw [List.contains_iff_mem]
          unfold Oper.looksAt
          rw [List.mem_append]
          right
          rw [hg]
          have hj' : (ops[j]?).bind (·.dst) = some t := by
            rw [List.getElem?_map] at hj
            cases ho : ops.toList[j]? with
            | none => rw [ho] at hj; simp at hj
            | some oj =>
              rw [ho] at hj
              simp at ho hj
              rw [ho]
              exact hj
          simp only [hj']
          simp
        rw [this]
      rw [this]
    · rfl
section
variable {ro : Option Nat} {dl : List Deferred} {fm : Fm}
/-- one operation of the region, somewhere -/
theorem one_ok (hT : TabOk P T) (hcall : CallOk P call) {i : Nat} {o : Oper} (ho : ops.toList[i]? = some o) {sl : Slots} {hp : Hp} {r : Rec} (hst : StepC T call (ops.toList.map (·.dst)) o sl hp r) {W1 : World} {b1 : Nat} {S1 : Nat → Prop} {E : Env} {a : Act} {w : World} (hs : HS W1 b1 S1 E hp w)
    (hsl : ∀ t d, t ∈ o.looksAt ops → look sl t = some d → VR w E d (a.tmps.getD t undef)) (hmu : mutOk b1 r.mu) {K : Act → World → Prop} (hK : ∀ E' v w', Stp W1 b1 S1 E hp w E' r.hp w' → VR w' E' r.d v → K (a.put o.dst v) w') : wpOpIn (Fr ro) 0 P ops Q i K a w := by
  have hoa : ops[i]? = some o := by simpa using ho
  have hsl' : ∀ t d, look (seen ops o sl) t = some d → VR w E d (a.tmps.getD t undef) := fun t d h => hsl t d (seen_look h).1 (seen_look h).2
  unfold wpOpIn
  rw [hoa]
  simp only
  rcases hst with ⟨hg, hop⟩ | ⟨hg, rfl⟩
  · rw [← seen_gate] at hg
    rw [if_pos (gate_ok (a := a) (w := w) (E := E) rfl hg hsl')]
    rw [← seen_opE (ops := ops)] at hop
    exact (opE_ok hT hcall hop hs hsl' hmu hK)
  · rw [← seen_gate] at hg
    have := gate_ok (a := a) (w := w) (E := E) rfl hg hsl'
    rw [if_neg (by rw [this]; simp)]
    exact ⟨fun _ _ => trivial, hK E undef w (Stp.refl hs) (vr_undef w E)⟩
structure Com (dl : List Deferred) (E0 : Env) (w0 : World) (hp0 : Hp) (N : Nat) (E : Env) (a : Act) (w : World) : Prop where
  later : Later E0 w0 E w
  dom : ∀ id, id < hp0.n → E.D id → E0.D id
  defers : a.defers = dl
  size : a.tmps.size = N
  oth : Oth w0 w
  yb : E.yb = E0.yb
theorem Com.next {E E' : Env} {a : Act} {w w' : World} (h : Com dl E0 w0 hp0 N E a w) (hl : Later E w E' w') (hd : ∀ id, id < hp0.n → E'.D id → E.D id) (ho : Oth w w') (hy : E'.yb = E.yb) (dst : Option Tmp) (v : Value) : Com dl E0 w0 hp0 N E' (a.put dst v) w' :=
  ⟨h.later.trans hl, fun id hid hd' => h.dom id hid (hd id hid hd'), by cases dst <;> exact h.defers, by cases dst <;> simpa [Act.put] using h.size, h.oth.trans ho, hy.trans h.yb⟩
structure InvA (dl : List Deferred) (W0 : World) (base : Nat) (S0 : Nat → Prop) (N : Nat) (ops : Array Oper) (k : Nat) (rs : List Rec) (sl0 : Slots) (hp0 : Hp) (E0 : Env) (w0 : World) (D : Nat → Prop) (E : Env) (a : Act) (w : World) : Prop where
  com : Com dl E0 w0 hp0 N E a w
  lt : ∀ j, D j → j < k
  hs : ∀ j, j ≤ k → HS W0 base S0 (E.lim (hpAt rs hp0 j).n) (hpAt rs hp0 j) w
  sl : Shown ops rs sl0 D (fun i => E.lim (hpAt rs hp0 i).n) a w
  ids : ∀ id, E.D id → id < hp0.n ∨ ∃ j, j < k ∧ D j ∧ (hpAt rs hp0 j).n ≤ id ∧ id < (hpAt rs hp0 (j + 1)).n
structure InvB (dl : List Deferred) (W0 : World) (base : Nat) (S0 : Nat → Prop) (N : Nat) (ops : Array Oper) (k : Nat) (rs : List Rec) (sl0 : Slots) (hp0 : Hp) (E0 : Env) (w0 : World) (T : Tab) (D : Nat → Prop) (E : Env) (i : Nat) (a : Act) (w : World) : Prop where
  com : Com dl E0 w0 hp0 N E a w
  le : k ≤ i
  len : i ≤ ops.toList.length
  tail : ∀ j, k ≤ j → (D j ↔ j < i)
  pre : ∀ j o, j < k → ops.toList[j]? = some o → dry T o.op = false → D j
  hs : HS W0 base S0 E (hpAt rs hp0 i) w
  sl : Shown ops rs sl0 D (fun _ => E) a w
variable {D : Nat → Prop} {E : Env} {a : Act} {w : World}
theorem InvA.toB (hR : Reg P T call ops k rs sl0 hp0 base N) (hcall : CallOk P call) (h : InvA dl W0 base S0 N ops k rs sl0 hp0 E0 w0 D E a w) (hpre : ∀ j o, j < k → ops.toList[j]? = some o → dry T o.op = false → D j) (_hE0 : ∀ id, E0.D id → id < hp0.n) :
    InvB dl W0 base S0 N ops k rs sl0 hp0 E0 w0 T D (E.lim (hpAt rs hp0 k).n) k a w := by
  have hk := hR.chk.le
  have hn := (hR.ext hcall k hk).1
  have hlt : ∀ id, E.D id → id < (hpAt rs hp0 k).n := fun id hd => by
    rcases h.ids id hd with h | ⟨j, h1, h2, h3, h4⟩
    · omega
    · have := hR.mono hcall (show j + 1 ≤ k by omega) hk
      omega
  refine ⟨⟨h.com.later.trans (Later.lim_id hlt), fun id hid hd => h.com.dom id hid hd.1, h.com.defers, h.com.size, h.com.oth, h.com.yb⟩, Nat.le_refl _, hk, fun j hj => ⟨fun hd => by have := h.lt j hd; omega, fun hj' => by omega⟩, hpre, h.hs k (Nat.le_refl _), fun t i hi hat d hd => ?_⟩
  exact (h.sl t i hi hat d hd).later ⟨fun _ h => h, fun id hd => ⟨⟨hd.1, hlt id hd.1⟩, rfl, rfl, rfl, Iff.rfl⟩, fun _ _ => rfl, fun _ _ h => h⟩
def Inv (dl : List Deferred) (W0 : World) (base : Nat) (S0 : Nat → Prop) (N : Nat) (ops : Array Oper) (k : Nat) (rs : List Rec) (sl0 : Slots) (hp0 : Hp) (E0 : Env) (w0 : World) (T : Tab) (D : Nat → Prop) (a : Act) (w : World) : Prop :=
  (∃ E, InvA dl W0 base S0 N ops k rs sl0 hp0 E0 w0 D E a w) ∨ ∃ E i, InvB dl W0 base S0 N ops k rs sl0 hp0 E0 w0 T D E i a w
theorem stepB (hT : TabOk P T) (hcall : CallOk P call) (hR : Reg P T call ops k rs sl0 hp0 base N) {i : Nat} (h : InvB dl W0 base S0 N ops k rs sl0 hp0 E0 w0 T D E i a w) (hD : Closed ops.toList D) {q : Nat} {o : Oper} (ho : ops.toList[q]? = some o) (hDq : ¬ D q) (hw : Waits D o) :
    wpOpIn (Fr ro) 0 P ops Q q (Inv dl W0 base S0 N ops k rs sl0 hp0 E0 w0 T (fun j => D j ∨ j = q)) a w := by
  obtain ⟨r, hr, hst, hsl1, hhp1⟩ := can_at hR.can q o ho
  have hql := (List.getElem?_eq_some_iff.1 ho).1
  have hlook : ∀ t d, t ∈ o.looksAt ops → look (slAt ops.toList rs sl0 q) t = some d → VR w E d (a.tmps.getD t undef) := fun t d ht hd => h.sl t q (by omega) (look_pos hR.chk hD ho hDq hw ht) d hd
  by_cases hqk : k ≤ q
  · -- the next one behind
    have hqi : q = i := by
      have h1 : i ≤ q := by
        rcases Nat.lt_or_ge q i with hlt | hge
        · exact absurd ((h.tail q hqk).2 hlt) hDq
        · exact hge
      rcases Nat.lt_or_ge i q with hlt | hge
      · exfalso
        have hDi : D i := by
          have hil : i < ops.toList.length := by omega
          rcases hR.chk.pair q i o _ (by omega) ho (List.getElem?_eq_getElem hil) with hb | ⟨_, hb⟩
          · exact hb D hD hw
          · have := h.le; omega
        have := (h.tail i h.le).1 hDi
        omega
      · omega
    subst hqi
    refine one_ok hT hcall ho hst h.hs hlook (hR.mu r (List.mem_of_getElem? hr)) fun E' v w' hs hv => .inr ⟨E', q + 1, ?_⟩
    have hmono := hR.mono hcall (Nat.le_succ q) (by omega)
    refine ⟨h.com.next hs.later (fun id hid hd => hs.dom id (Nat.lt_of_lt_of_le hid (hR.ext hcall q (by omega)).1) hd) hs.oth hs.yb _ _, by omega, by omega, fun j hj => ?_, fun j oj hj hoj hd => .inl (h.pre j oj hj hoj hd), by rw [hhp1]; exact hs.hs, ?_⟩
    · rw [h.tail j hj]
      omega
    · exact shown_put hR hD ho hr hDq h.sl (fun _ _ => hs.later) (fun _ _ _ => hv) h.com.size
  · -- one that looks at slots alone
    have hdry : dry T o.op = true := by
      cases hd : dry T o.op
      · exact absurd (h.pre q o (by omega) ho hd) hDq
      · rfl
    have hst' : StepC T call (ops.toList.map (·.dst)) o (slAt ops.toList rs sl0 q) (hpAt rs hp0 i) ⟨r.d, hpAt rs hp0 i, none⟩ := by
      rcases hst with ⟨hg, hop⟩ | ⟨hg, hre⟩
      · refine .inl ⟨hg, ?_⟩
        unfold opE at hop ⊢
        split at hop
        · rename_i z hz
          have hzz : z = (r.d, r.hp, r.mu) := by simpa using hop
          subst hzz
          obtain ⟨_, _, h3⟩ := aop_dry hdry hz
          rw [h3]
        · rename_i f args hz
          exact absurd hz (dry_not_call hdry f args)
        · rename_i f args hz
          exact absurd hz (dry_not_yld hdry f args)
        · cases hop
      · exact .inr ⟨hg, by rw [hre]⟩
    refine one_ok hT hcall ho hst' h.hs.pure hlook trivial fun E' v w' hs hv => .inr ⟨mrg E E' (hpAt rs hp0 i).n (hpAt rs hp0 i).n, i, ?_⟩
    have hno : ∀ id, ¬ ((hpAt rs hp0 i).n ≤ id ∧ id < (hpAt rs hp0 i).n) := fun id hh => by omega
    obtain ⟨m1, m2, m3⟩ := HS.merge h.hs (E1 := E) (E' := E') (hpX := hpAt rs hp0 i) (hpY := hpAt rs hp0 i) (a := (hpAt rs hp0 i).n) (b := (hpAt rs hp0 i).n) h.hs.pure hs.hs hs.later (fun id hd => ⟨hd, rfl, rfl, rfl, Iff.rfl⟩) rfl (fun id hd => .inl (hs.dom id (hs.hs.dlt hd) hd)) (fun id _ => hno id) (fun id h1 h2 => by omega) h.hs.le hs.yb
    refine ⟨h.com.next m2 (fun id hid hd => hd.elim (fun hh => hh) (fun hh => by omega)) hs.oth hs.yb _ _, h.le, h.len, fun j hj => ?_, fun j oj hj hoj hd => .inl (h.pre j oj hj hoj hd), m1, ?_⟩
    · rw [h.tail j hj]
      exact ⟨fun hh => hh.elim (fun hh => hh) (fun hh => by omega), fun hh => .inl hh⟩
    · exact shown_put hR hD ho hr hDq h.sl (fun _ _ => m2) (fun _ _ _ => hv.later m3) h.com.size

end
end
end Go.Proofs.Ytgjgihlfkpbdgaa
/- Code over abstract data: operations in any order that the edges allow; the whole. No function of the program is named here. -/
namespace Go.Proofs.Ytgjgihlfkpbdgaa
open Go.RowKit

noncomputable section
section


variable {P : Program} {T : Tab} {call : CallF} {W0 : World} {base : Nat} {S0 : Nat → Prop} {N : Nat} {ops : Array Oper} {k : Nat} {rs : List Rec} {sl0 : Slots} {hp0 : Hp} {Q : Exit → Act → World → Prop} {E0 : Env} {w0 : World} {D : Nat → Prop} {E : Env} {a : Act} {w : World}
variable {ro : Option Nat} {dl : List Deferred} {fm : Fm}
theorem stepA (hT : TabOk P T) (hcall : CallOk P call) (hR : Reg P T call ops k rs sl0 hp0 base N) (h : InvA dl W0 base S0 N ops k rs sl0 hp0 E0 w0 D E a w) (hE0 : ∀ id, E0.D id → id < hp0.n) (hD : Closed ops.toList D) {q : Nat} {o : Oper} (ho : ops.toList[q]? = some o) (hDq : ¬ D q) (hw : Waits D o) :
    wpOpIn (Fr ro) 0 P ops Q q (Inv dl W0 base S0 N ops k rs sl0 hp0 E0 w0 T (fun j => D j ∨ j = q)) a w := by
  obtain ⟨r, hr, hst, hsl1, hhp1⟩ := can_at hR.can q o ho
  have hql := (List.getElem?_eq_some_iff.1 ho).1
  have hkl := hR.chk.le
  by_cases hqk : q < k
  · have hn0 := (hR.ext hcall q (by omega)).1
    have hn1 : (hpAt rs hp0 q).n ≤ (hpAt rs hp0 (q + 1)).n := hR.mono hcall (Nat.le_succ q) (by omega)
    have hlook : ∀ t d, t ∈ o.looksAt ops → look (slAt ops.toList rs sl0 q) t = some d → VR w (E.lim (hpAt rs hp0 q).n) d (a.tmps.getD t undef) := fun t d ht hd => h.sl t q (by omega) (look_pos hR.chk hD ho hDq hw ht) d hd
    have hmu0 : mutOk (hpAt rs hp0 q).n r.mu := by rw [hR.pre q r hqk hr]; trivial
    refine one_ok hT hcall ho hst (h.hs q (by omega)).pure hlook hmu0 fun E' v w' hs hv => .inl ⟨mrg E E' (hpAt rs hp0 q).n (hpAt rs hp0 (q + 1)).n, ?_⟩
    have hs2 : HS w (hpAt rs hp0 q).n E.S E' (hpAt rs hp0 (q + 1)) w' := by rw [hhp1]; exact hs.hs
    have hdom : ∀ id, E'.D id → (E.lim (hpAt rs hp0 q).n).D id ∨ ((hpAt rs hp0 q).n ≤ id ∧ id < (hpAt rs hp0 (q + 1)).n) := fun id hd => by
      rcases Nat.lt_or_ge id (hpAt rs hp0 q).n with hlt | hge
      · exact .inl (hs.dom id hlt hd)
      · exact .inr ⟨hge, hs2.dlt hd⟩
    have hno : ∀ id, E.D id → ¬ ((hpAt rs hp0 q).n ≤ id ∧ id < (hpAt rs hp0 (q + 1)).n) := fun id hd hh => by
      rcases h.ids id hd with h1 | ⟨j, j1, j2, j3, j4⟩
      · omega
      · have hjq : j ≠ q := fun e => hDq (e ▸ j2)
        rcases Nat.lt_or_ge j q with hlt | hge
        · have := hR.mono hcall (show j + 1 ≤ q by omega) (by omega)
          omega
        · have := hR.mono hcall (show q + 1 ≤ j by omega) (by omega)
          omega
    have hSS : ∀ x, E.S x → E'.S x := fun x hx => hs.later.S x hx
    have hcell : ∀ p : Addr, E.S p.block → w'.cell? p = w.cell? p := fun p hp => hs.later.cell p hp
    have hold : Later E w (mrg E E' (hpAt rs hp0 q).n (hpAt rs hp0 (q + 1)).n) w' := mrg_old hSS hcell hno hs.yb
    have hnew : Later E' w' (mrg E E' (hpAt rs hp0 q).n (hpAt rs hp0 (q + 1)).n) w' := mrg_new hs.later (fun id hd => ⟨hd.1, rfl, rfl, rfl, Iff.rfl⟩) hno hdom
    refine ⟨h.com.next hold (fun id hid hd => hd.elim (fun hh => hh) (fun hh => by omega)) hs.oth hs.yb _ _, fun j hj => hj.elim (h.lt j) (fun e => by omega), fun j hj => ?_, ?_, fun id hd => ?_⟩
    · have hHj := h.hs j hj
      by_cases hjq : j ≤ q
      · have hjn := hR.mono hcall hjq (by omega)
        refine hHj.move (fun id hd => ⟨hd.1.elim (fun hh => hh) (fun hh => by have := hd.2; omega), hd.2⟩) (hold.lim (Nat.le_refl _)) (hHj.bel.trans (hs.hs.bel.mono hHj.bel.size)) (fun id hd => ?_) (fun b hb => hs.hs.olds b hb) hs.hs.ro (fun _ _ => rfl) hHj.le (hHj.ys.keep (hold.lim (Nat.le_refl _)) hs.yb rfl (Nat.le_refl _) fun k hk => hs.hs.bel.block k (isO_lt hk))
        obtain ⟨ob, hob, hok⟩ := hHj.ob id hd
        exact hs.hs.bel.block _ hok.lt
      · have hjn := hR.mono hcall (show q + 1 ≤ j by omega) (by omega)
        have hsame := hR.same hcall (show q + 1 ≤ j by omega) hj
        obtain ⟨m1, m2, m3⟩ := HS.merge hHj (E1 := E.lim (hpAt rs hp0 q).n) (E' := E') (hpX := hpAt rs hp0 q) (hpY := hpAt rs hp0 (q + 1)) (a := (hpAt rs hp0 q).n) (b := (hpAt rs hp0 (q + 1)).n) (h.hs q (by omega)).pure hs2 hs.later
          (fun id hd => ⟨⟨hd.1, by have := hd.2; omega⟩, rfl, rfl, rfl, Iff.rfl⟩) rfl hdom (fun id hd => hno id hd.1) (fun id _ hb _ => hsame.2 id hb) (Nat.le_trans hR.le hn0) hs.yb
        have hcl : ∀ id, (mrg (E.lim (hpAt rs hp0 j).n) E' (hpAt rs hp0 q).n (hpAt rs hp0 (q + 1)).n).D id → ((mrg E E' (hpAt rs hp0 q).n (hpAt rs hp0 (q + 1)).n).lim (hpAt rs hp0 j).n).D id := fun id hd => by
          rcases hd with hd | hd
          · exact ⟨.inl hd.1, hd.2⟩
          · exact ⟨.inr hd, by omega⟩
        refine m1.move (E' := (mrg E E' (hpAt rs hp0 q).n (hpAt rs hp0 (q + 1)).n).lim (hpAt rs hp0 j).n) (fun id hd => ?_) ⟨fun _ h => h, fun id hd => ⟨?_, rfl, rfl, rfl, Iff.rfl⟩, fun _ _ => rfl, fun _ _ h => h⟩ m1.bel (fun _ _ => rfl) (fun b hb => .inl hb) m1.ro (fun _ _ => rfl) m1.le ⟨fun id R hR => (m1.ys.ok id R hR).keep ⟨fun _ h => h, fun id hd => ⟨hcl id hd, rfl, rfl, rfl, Iff.rfl⟩, fun _ _ => rfl, fun _ _ h => h⟩ (fun _ _ => rfl) fun b hb _ => hb, m1.ys.inj, m1.ys.lt, m1.ys.gl⟩
        · rcases hd with ⟨hd | hd, hlt⟩
          · exact .inl ⟨hd, hlt⟩
          · exact .inr hd
        · exact hcl id hd
    · refine shown_put hR hD ho hr hDq h.sl (fun i hi => hold.lim (Nat.le_refl _)) (fun i hqi hi => hv.later ?_) h.com.size
      have hin := hR.mono hcall (show q + 1 ≤ i by omega) hi
      exact (Later.lim_id (n := (hpAt rs hp0 i).n) fun id hd => by have := hs2.dlt hd; omega).trans (hnew.lim (Nat.le_refl _))
    · rcases hd with hd | ⟨d1, d2, _⟩
      · exact (h.ids id hd).imp (fun hh => hh) fun ⟨j, j1, j2, j3⟩ => ⟨j, j1, .inl j2, j3⟩
      · exact .inr ⟨q, hqk, .inr rfl, d1, d2⟩
  · -- the first one behind
    have hpre : ∀ j o', j < k → ops.toList[j]? = some o' → dry T o'.op = false → D j := fun j o' hj ho' hd => by
      rcases hR.chk.pair q j o o' (by omega) ho ho' with hb | ⟨_, hb⟩
      · exact hb D hD hw
      · rcases hb with hb | hb | ⟨_, hb⟩
        · omega
        · omega
        · rw [hd] at hb; cases hb
    exact stepB hT hcall hR (h.toB hR hcall hpre hE0) hD ho hDq hw
theorem any_step (hT : TabOk P T) (hcall : CallOk P call) (hR : Reg P T call ops k rs sl0 hp0 base N) (hE0 : ∀ id, E0.D id → id < hp0.n) (h : Inv dl W0 base S0 N ops k rs sl0 hp0 E0 w0 T D a w) (hD : Closed ops.toList D) {q : Nat} {o : Oper} (ho : ops.toList[q]? = some o) (hDq : ¬ D q) (hw : Waits D o) :
    wpOpIn (Fr ro) 0 P ops Q q (Inv dl W0 base S0 N ops k rs sl0 hp0 E0 w0 T (fun j => D j ∨ j = q)) a w := by
  rcases h with ⟨E, h⟩ | ⟨E, i, h⟩
  · exact stepA hT hcall hR h hE0 hD ho hDq hw
  · exact stepB hT hcall hR h hD ho hDq hw
/-- when all have come -/
theorem Inv.done (hR : Reg P T call ops k rs sl0 hp0 base N) (hcall : CallOk P call) (hdf : DfrOk W0 fm.fl E0 w0 dl) (hro : RoOk fm E0 hp0 dl) (hE0 : ∀ id, E0.D id → id < hp0.n) (h : Inv dl W0 base S0 N ops k rs sl0 hp0 E0 w0 T D a w) (hall : ∀ j, j < ops.toList.length → D j) :
    ∃ E, Stp W0 base S0 E0 hp0 w0 E (hpAt rs hp0 ops.toList.length) w ∧ Sim fm W0 base S0 E N (slAt ops.toList rs sl0 ops.toList.length) (hpAt rs hp0 ops.toList.length) a w := by
  have hkl := hR.chk.le
  have key : ∀ E i, InvB dl W0 base S0 N ops k rs sl0 hp0 E0 w0 T D E i a w → ∃ E, Stp W0 base S0 E0 hp0 w0 E (hpAt rs hp0 ops.toList.length) w ∧ Sim fm W0 base S0 E N (slAt ops.toList rs sl0 ops.toList.length) (hpAt rs hp0 ops.toList.length) a w := by
    intro E i h
    have hi : i = ops.toList.length := by
      have h1 := h.len
      rcases Nat.lt_or_ge i ops.toList.length with hlt | hge
      · have := (h.tail i h.le).1 (hall i hlt)
        omega
      · omega
    subst hi
    have hx := (hR.ext hcall _ (Nat.le_refl _)).2
    refine ⟨E, ⟨h.com.later, h.hs, hx, h.com.dom, h.com.oth, h.com.yb⟩, h.hs, (by rw [h.com.defers]; exact hdf.step h.com.oth h.com.yb), (by rw [h.com.defers]; exact hro.step h.com.yb hx.ls), h.com.size, fun t d hd => h.sl t _ (Nat.le_refl _) (fun j o hj _ => ?_) d hd⟩
    have := (List.getElem?_eq_some_iff.1 hj).1
    exact ⟨fun _ => this, fun _ => hall j this⟩
  rcases h with ⟨E, h⟩ | ⟨E, i, h⟩
  · exact key _ _ (h.toB hR hcall (fun j o hj _ _ => hall j (by omega)) hE0)
  · exact key E i h
theorem any_body (hdf : DfrOk W0 fm.fl E0 w0 dl) (hro : RoOk fm E0 hp0 dl) (hT : TabOk P T) (hcall : CallOk P call) (hR : Reg P T call ops k rs sl0 hp0 base N) (hE0 : ∀ id, E0.D id → id < hp0.n)
    (hQ : ∀ E a w, Stp W0 base S0 E0 hp0 w0 E (hpAt rs hp0 ops.toList.length) w → Sim fm W0 base S0 E N (slAt ops.toList rs sl0 ops.toList.length) (hpAt rs hp0 ops.toList.length) a w → Q .normal a w) :
    ∀ (fuel : Nat) (listed : Array Bool) (a : Act) (w : World), listed.size = ops.size → Closed ops.toList (fun j => listed.getD j false = true) → (List.range ops.size).countP (fun j => !listed.getD j false) ≤ fuel →
      Inv dl W0 base S0 N ops k rs sl0 hp0 E0 w0 T (fun j => listed.getD j false = true) a w → wpAnyIn (Fr ro) 0 P .any ops Q fuel listed a w := by
  have hfin : ∀ (listed : Array Bool) (a : Act) (w : World), (∀ j, j < ops.size → listed.getD j false = true) → Inv dl W0 base S0 N ops k rs sl0 hp0 E0 w0 T (fun j => listed.getD j false = true) a w → Q .normal a w := by
    intro listed a w hall h
    obtain ⟨E, h1, h2⟩ := h.done (fm := fm) hR hcall hdf hro hE0 (fun j hj => hall j (by simpa using hj))
    exact hQ E a w h1 h2
  have hleast : ∀ (listed : Array Bool), listed.size = ops.size → Region.ready .any ops listed = [] → ∀ j, j < ops.size → listed.getD j false = true := by
    intro listed hl hr j
    induction j using Nat.strongRecOn with
    | _ j ih =>
      intro hj
      cases hq : listed.getD j false
      · exfalso
        obtain ⟨o, ho⟩ : ∃ o, ops.toList[j]? = some o := ⟨_, List.getElem?_eq_getElem (by simp; omega)⟩
        have : j ∈ Region.ready .any ops listed := by
          rw [mem_ready]
          have hlt : j < listed.size := by omega
          refine ⟨?_, o, by simpa using ho, fun e he hb => ?_⟩
          · rw [Array.getD_eq_getD_getElem?, Array.getElem?_eq_getElem hlt] at hq ⊢
            exact hq
          · have := hR.chk.back j o e ho (by simpa using he) hb
            exact ih e.on this (by omega)
        rw [hr] at this
        cases this
      · rfl
  intro fuel
  induction fuel with
  | zero =>
    intro listed a w hl hcl hf hinv
    have hall : ∀ j, j < ops.size → listed.getD j false = true := fun j hj => by
      cases hq : listed.getD j false
      · exfalso
        have : 0 < (List.range ops.size).countP (fun j => !listed.getD j false) := List.countP_pos_iff.2 ⟨j, by simpa using hj, by rw [hq]; rfl⟩
        omega
      · rfl
    refine ⟨?_, hfin listed a w hall hinv⟩
    rw [List.eq_nil_iff_forall_not_mem]
    intro j hj
    obtain ⟨h1, o, ho, _⟩ := mem_ready.1 hj
    have hlt := (Array.getElem?_eq_some_iff.1 ho).1
    have h2 := hall j hlt
    rw [Array.getD_eq_getD_getElem?, Array.getElem?_eq_getElem (show j < listed.size by omega)] at h1 h2
    simp at h1 h2
    rw [h1] at h2
    cases h2
  | succ fuel ih =>
    intro listed a w hl hcl hf hinv
    refine ⟨fun hr => hfin listed a w (hleast listed hl hr) hinv, fun i hi => ?_⟩
    obtain ⟨h1, o, ho, hwt⟩ := mem_ready.1 hi
    have hilt := (Array.getElem?_eq_some_iff.1 ho).1
    have ho' : ops.toList[i]? = some o := by simpa using ho
    have hDi : ¬ (listed.getD i false = true) := by
      rw [Array.getD_eq_getD_getElem?, Array.getElem?_eq_getElem (show i < listed.size by omega)] at h1 ⊢
      simp at h1 ⊢
      exact h1
    have hw : Waits (fun j => listed.getD j false = true) o := fun e he hb => hwt e (by simpa using he) hb
    have hset : ∀ j, ((listed.setIfInBounds i true).getD j false = true) ↔ (listed.getD j false = true ∨ j = i) := fun j => by
      by_cases e : i = j
      · subst e; rw [getD_set_self (by omega)]; simp
      · rw [getD_set_other e]
        exact ⟨.inl, fun h => h.resolve_right fun h => e h.symm⟩
    refine wpOpIn_mono (fun a' w' h' => ih (listed.setIfInBounds i true) a' w' (by simpa using hl) (fun i' o' e ho' hi' he hb => ?_) ?_ ?_) (any_step hT hcall hR hE0 hinv hcl ho' hDi hw)
    · have hi'' := (hset i').1 hi'
      refine (hset e.on).2 ?_
      rcases hi'' with hi'' | rfl
      · exact .inl (hcl i' o' e ho' hi'' he hb)
      · rename_i hoo
        rw [hoo] at ho'
        cases ho'
        exact .inl (hw e he hb)
    · have := countP_lt (fun j => !listed.getD j false) (fun j => !(listed.setIfInBounds i true).getD j false) (List.range ops.size) (fun j _ h => by
        cases hq : listed.getD j false
        · rfl
        · have := (hset j).2 (.inl hq)
          simp [this] at h) ⟨i, by simpa using hilt, by simpa using hDi, by simp [(hset i).2 (.inr rfl)]⟩
      omega
    · have e : (fun j => (listed.setIfInBounds i true).getD j false = true) = fun j => listed.getD j false = true ∨ j = i := funext fun j => propext (hset j)
      rw [e]
      exact h'
theorem slR_take (l : List Oper) (rs : List Rec) (sl : Slots) (h : l.length = rs.length) : slAt l rs sl l.length = slR l rs sl := by
  unfold slAt
  rw [List.take_length, h, List.take_length]
/-- a region that draws its order -/
theorem regA_ok (hT : TabOk P T) (hmix : P.follows .mixedOrders = true) (hcall : CallOk P call) {id : Nat} {k : Nat} (hc : anyChk T ops k = true) (hds : dstsOk N (ops.toList.map (·.dst)) = true) {sl : Slots} {hp : Hp} {e : Ex} {sl' : Slots} {hp' : Hp} {mu : Mut}
    (h : regA T call (ops.toList.map (·.dst)) ops.toList sl hp k = some (e, sl', hp', mu)) {E : Env} {a : Act} {w : World} (hs : Sim fm W0 base S0 E N sl hp a w) (hmu : mutOk base mu) (hQ : ∀ E' a' w', Stp W0 base S0 E hp w E' hp' w' → Sim fm W0 base S0 E' N sl' hp' a' w' → Q .normal a' w') :
    e = .normal ∧ (Code.region id ops true).wpIn (Fr ro) 0 P Q a w := by
  have hck := anyChk_ok hc
  unfold regA at h
  split at h
  · rename_i sl1 hp1 hpre
    unfold regN at h
    split at h
    · rename_i sl2 hp2 m2 hrest
      cases h
      refine ⟨rfl, ?_⟩
      obtain ⟨rs1, c1, c2, c3, c4⟩ := regP_can hpre
      subst c2
      subst c3
      obtain ⟨rs2, d1, d2, d3, d4⟩ := regE_can hrest
      obtain ⟨f1, f2, f3⟩ := can_append c1 d1
      rw [List.take_append_drop] at f1 f2
      have hlen := can_len f1
      have hl1 := can_len c1
      have hk1 : rs1.length = k := by rw [← hl1, List.length_take]; have := hck.le; omega
      have hR : Reg P T call ops k (rs1 ++ rs2) sl hp base N := by
        refine ⟨f1, fun j r hj hr => ?_, fun r hr => ?_, hck, hds, hs.hs.le⟩
        · rw [List.getElem?_append_left (by omega)] at hr
          exact c4 r (List.mem_of_getElem? hr)
        · rcases List.mem_append.1 hr with hr | hr
          · rw [c4 r hr]; trivial
          · exact d4 base hmu r hr
      have hE0 : ∀ id, E.D id → id < hp.n := fun id hd => hs.hs.dlt hd
      have hhp : hpAt (rs1 ++ rs2) hp ops.toList.length = hp' := by
        unfold hpAt
        rw [hlen, List.take_length, f3, d3]
      have hsl : slAt ops.toList (rs1 ++ rs2) sl ops.toList.length = sl' := by rw [slR_take _ _ _ hlen, f2, d2]
      obtain ⟨hdr, hldr⟩ := hs.hs.drew
      have hk0 := hck.le
      have hext := fun i (hi : i ≤ ops.toList.length) => hR.ext hcall i hi
      have hzero : hpAt (rs1 ++ rs2) hp 0 = hp := by simp [hpAt, hpR]
      refine wpIn_region_any hmix (any_body (ro := ro) (dl := a.defers) (fm := fm) (W0 := W0) (S0 := S0) (w0 := w) hs.dfr hs.ro hT hcall hR hE0 (fun E' a' w' h1 h2 => ?_) ops.size _ a _ (by simp) (fun i o e ho hi => ?_) ?_ (.inl ⟨E, ?_⟩))
      · rw [hhp] at h1 h2
        rw [hsl] at h2
        exact hQ E' a' w' h1 h2
      · have hi : (Array.replicate ops.size false).getD i false = true := hi
        rw [rep_false] at hi
        cases hi
      · refine Nat.le_trans List.countP_le_length ?_
        simp
      · refine ⟨⟨hldr, fun _ _ h => h, rfl, hs.size, ⟨Nat.le_refl _, fun _ _ h => h, fun _ r h => ⟨r, h, rfl⟩⟩, rfl⟩, fun j hj => ?_, fun j hj => ?_, fun t i hi hat d hd => ?_, fun id hd => .inl (hE0 id hd)⟩
        · rw [rep_false] at hj; cases hj
        · have hsame := hR.same hcall (Nat.zero_le j) hj
          rw [hzero] at hsame
          have hle := (hext j (by omega)).1
          refine hdr.move (fun _ h => h.1) (Later.lim_id fun id hd => by have := hE0 id hd; omega) hdr.bel (fun _ _ => rfl) (fun _ h => .inl h) hdr.ro (fun id hd => hsame.2 id (hE0 id hd)) (by have := hs.hs.le; omega) (hdr.ys.keep' (Later.lim_id fun id hd => by have := hE0 id hd; omega) rfl (fun i => ?_) hsame.1 fun _ _ => rfl)
          have h9 := hsame.3 i
          cases h8 : lfind i hp.ls with
          | none =>
            rw [h8] at h9
            cases h7 : lfind i (hpAt (rs1 ++ rs2) hp j).ls with
            | none => rfl
            | some R => rw [h7] at h9; cases h9
          | some R0 => exact (hsame.4 i (hs.hs.ys.lsub h8)).trans h8
        · -- nobody has written yet
          have hno : ∀ (j : Nat) o, j < i → ops.toList[j]? = some o → o.dst ≠ some t := fun j o hj ho hdj => by
            have h9 : (Array.replicate ops.size false).getD j false = true := (hat j o ho hdj).2 hj
            rw [rep_false] at h9
            cases h9
          have key : ∀ m, m ≤ i → ∀ d, look (slAt ops.toList (rs1 ++ rs2) sl m) t = some d → look sl t = some d := by
            intro m
            induction m with
            | zero => intro _ d hd; simpa [slAt, slR] using hd
            | succ m ihm =>
              intro hm d hd
              have hml : m < ops.toList.length := by omega
              obtain ⟨r', hr', _, he, _⟩ := can_at f1 m _ (List.getElem?_eq_getElem hml)
              rw [he] at hd
              refine ihm (by omega) d ?_
              cases hdd : (ops.toList[m]).dst with
              | none => rw [hdd] at hd; exact hd
              | some s =>
                rw [hdd] at hd
                simp only [putO] at hd
                rcases look_put hd with ⟨rfl, _⟩ | ⟨_, hd⟩
                · exact absurd hdd (hno m _ (by omega) (List.getElem?_eq_getElem hml))
                · exact hd
          have hle := (hext i hi).1
          exact ((hs.sl t d (key i (Nat.le_refl _) d hd)).later hldr).later (Later.lim_id fun id hd => by have := hE0 id hd; omega)
    · cases h
  · cases h

end
end
end Go.Proofs.Ytgjgihlfkpbdgaa
