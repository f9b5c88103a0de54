/- Code over abstract data: operations one behind the other. No function of the program is named here. -/
import Derived.Test.YtoghpmeoekbcbaaV15
import Derived.Test.YtoghpmeoekbcbaaV3
import Derived.TacticsIn
import Derived.OrdersIn
import Derived.LoopNIn
import Derived.RangeFuncIn
import Derived.RangeFuncRecord
import Derived.RangeFuncLeaves
import Derived.RangeFuncNested
namespace Go.Proofs.Ytoghpmeoekbcbaa
open Go.RowKit

def FnOk (P : Program) (f : FuncId) : Prop := ∃ fn, P.funcs[f]? = some fn ∧ fn.body.isNone = false ∧ (fn.name == "runtime.NumGoroutine") = false
theorem run_callFunc_ok {P : Program} {f : FuncId} (h : FnOk P f) (args : Array Value) (w : World) : (callFunc f args).run P w = .ok (.enter f args) w := by
  obtain ⟨fn, h1, h2, h3⟩ := h
  simp only [callFunc, Sem.run_bind, run_program, Result.andThen_ok, h1, h2, h3, Bool.false_eq_true, if_false, Sem.run_pure]
/-- in the frame of a call (none), or in that of a round (the block of the loop's record) -/
def Fr (ro : Option Nat) : Fence := { fn := fun _ => True, depth := none, alive := false, round := ro }
/-- what the calls answer is what the program answers -/
def ConOk (P : Program) (c : ConF) : Prop := ∀ f args hp r hp' mu, c f args hp = some (r, hp', mu) → FnOk P f ∧ (∀ base, mutOk base mu → base ≤ hp.n → Ext base hp hp') ∧
  ∀ W0 base S0 E w vs, mutOk base mu → HS W0 base S0 E hp w → VRs E w args vs → Calls P f vs.toArray w fun e w' => ∃ E' v, e = .returned v ∧ Stp W0 base S0 E hp w E' hp' w' ∧ VR w' E' r v
def YldOk (P : Program) (y : YldF) : Prop := ∀ k args hp r hp' mu, y k args hp = some (r, hp', mu) → (∀ base, mutOk base mu → base ≤ hp.n → Ext base hp hp') ∧
  ∀ W0 base S0 E w vs b D, mutOk base mu → HS W0 base S0 E hp w → VRs E w args vs → E.yb k = some (b, D) → ∃ fn tmps assign body, (Instr.yield b vs.toArray).run P w = .ok (.round b fn tmps assign body) w ∧
    RoundIn (Fr none) 0 P b fn tmps assign body w fun e w' => ∃ E' v, e = .returned v ∧ Stp W0 base S0 E hp w E' hp' w' ∧ VR w' E' r v
structure CallOk (P : Program) (call : CallF) : Prop where
  f : ConOk P call.f
  y : YldOk P call.y
/-- a frame: of a round, or of a call; where the world's heap ended when it began -/
structure Fm where
  ro : Option Nat
  fl : Nat
def mark (D : Nat) : Deferred := { target := .collected D, args := #[] }
/-- the marks that loops over functions have left -/
def DfrOk (W0 : World) (fl : Nat) (E : Env) (w : World) (dl : List Deferred) : Prop :=
  fl ≤ w.heap.size ∧ ∃ ds : List Nat, dl = ds.map mark ∧ ds.Nodup ∧ ∀ D ∈ ds, W0.heap.size ≤ D ∧ fl ≤ D ∧ w.heap[D]? = some (.deferred (some [])) ∧ ∀ id b D', E.yb id = some (b, D') → D' ≠ D
theorem DfrOk.nil (W0 : World) {fl : Nat} (E : Env) {w : World} (h : fl ≤ w.heap.size) : DfrOk W0 fl E w [] := ⟨h, [], rfl, List.nodup_nil, fun D h => by cases h⟩
theorem DfrOk.step {W0 : World} {fl : Nat} {E E' : Env} {w w' : World} {dl : List Deferred} (h : DfrOk W0 fl E w dl) (ho : Oth w w') (hy : E'.yb = E.yb) : DfrOk W0 fl E' w' dl := by
  obtain ⟨h0, ds, h1, h2, h3⟩ := h
  exact ⟨Nat.le_trans h0 ho.1, ds, h1, h2, fun D hD => ⟨(h3 D hD).1, (h3 D hD).2.1, ho.2 _ _ (h3 D hD).2.2.1, by rw [hy]; exact (h3 D hD).2.2.2⟩⟩
def RoOk (k : Fm) (E : Env) (hp : Hp) (dl : List Deferred) : Prop := ∀ b, k.ro = some b → dl = [] ∧ ∃ id D, E.yb id = some (b, D) ∧ (lfind id hp.ls).isSome = true
theorem RoOk.step {k : Fm} {E E' : Env} {hp hp' : Hp} {dl : List Deferred} (h : RoOk k E hp dl) (hy : E'.yb = E.yb) (hx : ∀ i, (lfind i hp'.ls).map LS.stat = (lfind i hp.ls).map LS.stat) : RoOk k E' hp' dl := fun b hb => by
  obtain ⟨h1, id, D, h2, h3⟩ := h b hb
  refine ⟨h1, id, D, by rw [hy]; exact h2, ?_⟩
  have := congrArg Option.isSome (hx id)
  simp only [Option.isSome_map] at this
  rw [this]
  exact h3
structure Sim (k : Fm) (W0 : World) (base : Nat) (S0 : Nat → Prop) (E : Env) (N : Nat) (sl : Slots) (hp : Hp) (a : Act) (w : World) : Prop where
  hs : HS W0 base S0 E hp w
  dfr : DfrOk W0 k.fl E w a.defers
  ro : RoOk k E hp a.defers
  size : a.tmps.size = N
  sl : ∀ t d, look sl t = some d → VR w E d (a.tmps.getD t undef)
theorem put_defers (a : Act) (dst : Option Tmp) (v : Value) : (a.put dst v).defers = a.defers := by cases dst <;> rfl
theorem getD_set {a : Array Value} {t s : Nat} {v : Value} (ht : t < a.size) : (a.setIfInBounds t v).getD s undef = if t = s then v else a.getD s undef := by
  by_cases h : t = s
  · subst h; simp [ht]
  · simp [Array.getElem?_setIfInBounds_ne h, h]
section
variable {k : Fm} {P : Program} {T : Tab} {W0 : World} {base : Nat} {S0 : Nat → Prop} {E : Env} {N : Nat} {sl : Slots} {hp : Hp} {a : Act} {w : World}
theorem Sim.step (h : Sim k W0 base S0 E N sl hp a w) {E' : Env} {hp' : Hp} {w' : World} (hst : Stp W0 base S0 E hp w E' hp' w') : Sim k W0 base S0 E' N sl hp' a w' :=
  ⟨hst.hs, h.dfr.step hst.oth hst.yb, h.ro.step hst.yb hst.ext.ls, h.size, fun t d ht => (h.sl t d ht).later hst.later⟩
theorem Sim.put (h : Sim k W0 base S0 E N sl hp a w) {dst : Option Tmp} (hd : ∀ t, dst = some t → t < N) {d : DV} {v : Value} (hv : VR w E d v) : Sim k W0 base S0 E N (putO sl dst d) hp (a.put dst v) w := by
  cases dst with
  | none => exact h
  | some t =>
    refine ⟨h.hs, h.dfr, h.ro, by simpa [Act.put] using h.size, fun s e hs => ?_⟩
    have ht : t < a.tmps.size := by rw [h.size]; exact hd t rfl
    simp only [putO] at hs
    simp only [Act.put]
    rw [getD_set ht]
    rcases look_put hs with ⟨rfl, rfl⟩ | ⟨hne, hs⟩
    · rw [if_pos rfl]; exact hv
    · rw [if_neg hne]; exact h.sl s _ hs
theorem tuple_nil {E : Env} {w : World} {v : Value} (h : VR w E (.tuple []) v) : v = .tuple #[] := by
  obtain ⟨vs, rfl, hvs⟩ := h.of_tuple
  rw [hvs.unnil]
theorem vr_undef (w : World) (E : Env) : VR w E (.tuple []) undef := (VRs.nil E w).tuple
theorem aop_nodefer {o : Oper} (h : aop T hp sl o.op ≠ .fail) : ∀ c, o.op ≠ .defer c := fun c hc => h (by rw [hc]; rfl)
theorem callsIn_fr {ro : Option Nat} {f : FuncId} {args : Array Value} {R : Ending → World → Prop} (h : Calls P f args w R) : CallsIn (Fr ro) (0 - 1) P f args w R := (callsIn_wide (n := 0 - 1)).2 h
theorem calls_fr {ro : Option Nat} {f : FuncId} {args : Array Value} {R : Ending → World → Prop} (h : CallsIn (Fr ro) 0 P f args w R) : Calls P f args w R := (callsIn_wide (n := 0)).1 h
theorem roundIn_fr {ro : Option Nat} {b : Nat} {fn : FuncId} {tmps : Array Value} {assign body : Code} {R : Ending → World → Prop} (h : RoundIn (Fr none) 0 P b fn tmps assign body w R) : RoundIn (Fr ro) (0 - 1) P b fn tmps assign body w R := h
/-- one operation -/
theorem opE_ok {ro : Option Nat} (hT : TabOk P T) {call : CallF} (hcall : CallOk P call) {o : Oper} {d : DV} {hp' : Hp} {mu : Mut} (h : opE T call o sl hp = some (d, hp', mu)) (hs : HS W0 base S0 E hp w) (hsl : ∀ t d, look sl t = some d → VR w E d (a.tmps.getD t undef)) (hmu : mutOk base mu) {K : Act → World → Prop} {Q : Exit → Act → World → Prop}
    (hK : ∀ E' v w', Stp W0 base S0 E hp w E' hp' w' → VR w' E' d v → K (a.put o.dst v) w') : o.wpIn (Fr ro) 0 P a w K Q := by
  have hok := aop_ok (P := P) (o := o) hT hs hsl
  have hnd := aop_nodefer (T := T) (hp := hp) (sl := sl) (o := o)
  unfold opE at h
  refine ⟨fun _ _ => trivial, ?_⟩
  generalize aop T hp sl o.op = out at h hok hnd
  cases out with
  | done r =>
    rw [Oper.semAt_eq (Fr ro).round a.eval o (hnd (by intro e; cases e))]
    cases h
    obtain ⟨nx, u, E', w', hr, hn, hst, hv⟩ := hok hmu
    rw [hr]
    rcases hn with rfl | ⟨rfl, rfl⟩
    · rw [Oper.uponIn_value]; exact hK _ _ _ hst hv
    · rw [Oper.uponIn_skip]; exact hK _ _ _ hst hv
  | call f args =>
    rw [Oper.semAt_eq (Fr ro).round a.eval o (hnd (by intro e; cases e))]
    obtain ⟨vs, hv, he⟩ := hok
    obtain ⟨hf, _, hc⟩ := hcall.f _ _ _ _ _ _ h
    rw [he, run_callFunc_ok hf, Oper.uponIn_enter]
    refine ⟨fun h => (by cases h), (callsIn_fr (hc W0 base S0 E w vs hmu hs hv)).mono ?_⟩
    rintro e w' ⟨E', v, rfl, hst, hr⟩
    exact hK _ _ _ hst hr
  | yld id args =>
    rw [Oper.semAt_eq (Fr ro).round a.eval o (hnd (by intro e; cases e))]
    obtain ⟨vs, b, D, hv, hb, he⟩ := hok
    obtain ⟨_, hc⟩ := hcall.y _ _ _ _ _ _ h
    obtain ⟨fn, tmps, assign, body, hrun, hround⟩ := hc W0 base S0 E w vs b D hmu hs hv hb
    rw [he, hrun, Oper.uponIn_round]
    refine ⟨fun h => (by cases h), (roundIn_fr hround).mono ?_⟩
    rintro e w' ⟨E', v, rfl, hst, hr⟩
    exact hK _ _ _ hst hr
  | fail => cases h

theorem dstsOk_spec {n : Nat} : ∀ {ds : List (Option Tmp)}, dstsOk n ds = true → ∀ t, some t ∈ ds → t < n
  | [], _, t, h => by cases h
  | none :: r, h, t, ht => by
    rcases List.mem_cons.1 ht with h1 | h1
    · cases h1
    · exact dstsOk_spec (ds := r) h t h1
  | some s :: r, h, t, ht => by
    simp only [dstsOk, Bool.and_eq_true] at h
    rcases List.mem_cons.1 ht with h1 | h1
    · cases h1; exact Nat.le_of_ble_eq_true h.1
    · exact dstsOk_spec h.2 t h1
/-- what the gate says is what the region asks -/
theorem gate_ok {ops : Array Oper} {ds : List (Option Tmp)} (hds : ds = ops.toList.map (·.dst)) {o : Oper} {b : Bool} (h : gate ds sl o.guard = some b) (hsl : ∀ t d, look sl t = some d → VR w E d (a.tmps.getD t undef)) : Region.wanted o (yielded ops a.tmps) = b := by
  unfold gate at h
  split at h
  · rename_i hg
    cases h
    simp [Region.wanted, hg]
  · rename_i j want hg
    split at h
    · rename_i t hj
      have hj' : (ops[j]?).bind (·.dst) = some t := by
        rw [hds, List.getElem?_map] at hj
        cases ho : ops.toList[j]? with
        | none => rw [ho] at hj; simp at hj
        | some oj =>
          rw [ho] at hj
          simp at ho hj
          rw [ho]
          exact hj
      have hy : ∀ v, a.tmps.getD t undef = v → yielded ops a.tmps j = (match v with | .bool b => some b | _ => none) := fun v hv => by
        unfold yielded
        rw [hj']
        simp only [Option.bind_some]
        rcases Nat.lt_or_ge t a.tmps.size with hlt | hge
        · rw [Array.getElem?_eq_getElem hlt]
          simp [hlt] at hv
          rw [hv]
          cases v <;> rfl
        · rw [Array.getElem?_eq_none hge]
          simp [Array.getElem?_eq_none hge, undef] at hv
          rw [← hv]
      split at h
      · rename_i hb
        cases h
        have := hy _ (hsl t _ hb).of_bool
        simp [Region.wanted, hg, this]
      · rename_i hb
        cases h
        have := hy _ (hsl t _ hb).of_bool
        simp [Region.wanted, hg, this]
      · rename_i x hb hne1 hne2
        cases h
        have := hy _ (hsl t _ hb).of_bool
        clear hy hsl hj hj'
        cases x <;> simp_all [Region.wanted]
      · rename_i hb
        cases h
        have := hy _ (tuple_nil (hsl t _ hb))
        simp [Region.wanted, hg, this]
      · cases h
    · cases h
theorem regE_ok {ro : Option Nat} (hT : TabOk P T) {call : CallF} (hcall : CallOk P call) {ops : Array Oper} {Q : Exit → Act → World → Prop} {dl : List (Option Tmp)} (hds : dl = ops.toList.map (·.dst)) :
    ∀ (l : List Oper) (sl : Slots) (hp : Hp) (sl' : Slots) (hp' : Hp) (mu : Mut) (E : Env) (a : Act) (w : World), regE T call dl l sl hp = some (sl', hp', mu) → dstsOk N (l.map (·.dst)) = true → Sim k W0 base S0 E N sl hp a w → mutOk base mu →
      (∀ E' a' w', Stp W0 base S0 E hp w E' hp' w' → Sim k W0 base S0 E' N sl' hp' a' w' → Q .normal a' w') → wpListIn (Fr ro) 0 P ops Q l a w
  | [], sl, hp, sl', hp', mu, E, a, w, h, _, hs, _, hQ => by
    cases h
    exact hQ E a w (Stp.refl hs.hs) hs
  | o :: l, sl, hp, sl', hp', mu, E, a, w, h, hl, hs, hmu, hQ => by
    have hd : ∀ t, o.dst = some t → t < N := fun t ht => dstsOk_spec hl t (by simp [ht])
    have hl' : dstsOk N (l.map (·.dst)) = true := by
      simp only [List.map_cons] at hl
      cases ho : o.dst with
      | none => rw [ho] at hl; exact hl
      | some t => rw [ho] at hl; simp only [dstsOk, Bool.and_eq_true] at hl; exact hl.2
    rw [regE_cons] at h
    unfold gateX at h
    unfold wpListIn
    split at h
    · rename_i hg
      have hw := gate_ok (a := a) (w := w) (E := E) hds hg hs.sl
      rw [if_pos hw]
      unfold regE1 at h
      split at h
      · rename_i d hp1 m1 hop
        split at h
        · rename_i sl2 hp2 m2 hrest
          cases h
          obtain ⟨hm1, hm2⟩ := mutOk_mmin hmu
          refine opE_ok hT hcall hop hs.hs hs.sl hm1 fun E' v w' hst hv => ?_
          exact regE_ok hT hcall hds l _ _ _ _ _ E' _ w' hrest hl' ((hs.step hst).put hd hv) hm2 fun E2 a2 w2 hst2 hs2 => hQ E2 a2 w2 (hst.trans hst2) hs2
        · cases h
      · cases h
    · rename_i hg
      have hw := gate_ok (a := a) (w := w) (E := E) hds hg hs.sl
      rw [if_neg (by rw [hw]; simp)]
      exact ⟨fun _ _ => trivial, regE_ok hT hcall hds l _ _ _ _ _ E _ w h hl' (hs.put hd (vr_undef w E)) hmu hQ⟩
    · cases h
end
end Go.Proofs.Ytoghpmeoekbcbaa
