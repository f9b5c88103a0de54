/- A function's answer along a path. No function of the program is named here. -/
import Derived.Test.YtoghpmeoekbcbaaV35
namespace Go.Proofs.Ytoghpmeoekbcbaa
open Go.RowKit

noncomputable section
def zRes (T : Tab) (res : List ResultVar) : ZR → Option (DV × Hp × List Prop)
  | some (.exit _, _, _, _, _) => none
  | some (_, sl, hp, _, cs) => match resD T hp sl res with
    | some ds => some (one ds, hp, cs)
    | none => none
  | none => none
/-- the function f, called with args where no object is, along the path p: its answer, the objects then, what is to be shown -/
def zans (P : Program) (T : Tab) (F : FTab) (C : ConF) (f : FuncId) (args : List DV) (p : Yath) : Option (DV × Hp × List Prop) := match F f with
  | some fn => match Nat.ble args.length fn.nt with
    | true => zRes T fn.res (zz P T F C 1000 fn.ks 1000 fn.body (initS fn.nt args) ⟨0, [], []⟩ p)
    | false => none
  | none => none
variable {P : Program} {T : Tab} {F : FTab} {C : ConF}
theorem zans_ok (hT : TabOk P T) (hmix : P.follows .mixedOrders = true) (hF : FunOk P T F) (hC : ConOk P C) {f : FuncId} {args : List DV} {p : Yath} {d : DV} {hp : Hp} {cs : List Prop} (h : zans P T F C f args p = some (d, hp, cs)) (hc : AskedP cs) : Ans P f args d hp := by
  unfold zans at h
  split at h
  · rename_i fn hfn
    split at h
    · rename_i hl
      unfold zRes at h
      split at h
      · cases h
      · rename_i e sl hp1 p1 cs1 hne hz
        split at h
        · rename_i ds hds
          cases h
          exact ans_of_goes hT hF hfn hl (zz_ok hT hmix hF hC 1000 hz hc) hne hds
        · cases h
      · cases h
    · cases h
  · cases h
/-- the same, where the answer names no object -/
def zflat : Option (DV × Hp × List Prop) → Option (DV × List Prop)
  | some (d, hp, cs) => match flatD d, hp.ls with
    | true, [] => some (d, cs)
    | _, _ => none
  | none => none
theorem zflat_ok (hT : TabOk P T) (hmix : P.follows .mixedOrders = true) (hF : FunOk P T F) (hC : ConOk P C) {f : FuncId} {args : List DV} {p : Yath} {d : DV} {cs : List Prop} (h : zflat (zans P T F C f args p) = some (d, cs)) (hc : AskedP cs) : Ans P f args d ⟨0, [], []⟩ := by
  unfold zflat at h
  split at h
  · rename_i h1
    split at h
    · rename_i hd hl
      cases h
      exact (zans_ok hT hmix hF hC h1 hc).flat hl hd
    · cases h
  · cases h
/-- the same, the objects L being kept -/
def zkeep (L : List Nat) : Option (DV × Hp × List Prop) → Option (DV × Hp × List Prop)
  | some (d, hp, cs) => match ren3 L d, renH L hp with
    | some d', some hp' => some (d', hp', Plain hp :: cs)
    | _, _ => none
  | none => none
theorem zkeep_ok (hT : TabOk P T) (hmix : P.follows .mixedOrders = true) (hF : FunOk P T F) (hC : ConOk P C) {f : FuncId} {args : List DV} {p : Yath} {L : List Nat} {d : DV} {hp : Hp} {cs : List Prop} (h : zkeep L (zans P T F C f args p) = some (d, hp, cs)) (hc : AskedP cs) : Ans P f args d hp := by
  unfold zkeep at h
  split at h
  · rename_i h1
    split at h
    · rename_i h2 h3
      cases h
      exact (zans_ok hT hmix hF hC h1 fun x hx => hc x (List.mem_cons_of_mem _ hx)).see (seenV_ren (Plain.toL (hc _ (List.mem_cons_self ..)) L) h3 h2)
    · cases h
  · cases h
/-- a text's end, the objects L being kept -/
def zgc (L : List Nat) : Option (Ex × Slots × Hp × List Prop) → Option (Ex × Slots × Hp × List Prop)
  | some (e, sl, hp, cs) => match renH L hp with
    | some hp' => some (e, renS L sl, hp', Plain hp :: cs)
    | none => none
  | none => none
theorem zgc_ok (hT : TabOk P T) (hmix : P.follows .mixedOrders = true) (hF : FunOk P T F) (hC : ConOk P C) {ks : List (Nat × Nat)} {live : List Nat} {c : Code} {sl : Slots} {hp : Hp} {p : Yath} {L : List Nat} {e : Ex} {sl' : Slots} {hp' : Hp} {cs : List Prop} (h : zgc L (zsee P T F C ks live c sl hp p) = some (e, sl', hp', cs)) (hc : AskedP cs) : Goes P T ks c sl hp e sl' hp' := by
  unfold zgc at h
  split at h
  · rename_i h1
    split at h
    · rename_i h3
      cases h
      exact (zsee_ok hT hmix hF hC h1 fun x hx => hc x (List.mem_cons_of_mem _ hx)).post (seen_ren (Plain.toL (hc _ (List.mem_cons_self ..)) L) h3)
    · cases h
  · cases h
/-- a law's call, its arguments being seen -/
theorem law_ok {f : FuncId} {args : List DV} (h : Ans P f args (.bool true) ⟨0, [], []⟩) {w : World} {vs : List Value} (hv : VRs (ro fun b => b < w.heap.size) w args vs) : Calls P f vs.toArray w fun e w' => e = .returned (.bool true) ∧ Below w.heap.size w w' := by
  have hs : HS w 0 (fun b => b < w.heap.size) (ro fun b => b < w.heap.size) ⟨0, [], []⟩ w := ⟨Below.refl _ _, fun _ h => h.elim, fun _ h => h.elim, fun _ h => h.elim, fun _ _ _ _ h => h.elim, fun _ h => h, fun _ h => .inl h, Nat.le_refl _, .none rfl fun _ => rfl⟩
  refine (h.2 w _ _ w vs hs hv).mono ?_
  rintro e w' ⟨E', v, rfl, _, hh, hr⟩
  rw [hr.of_bool]
  exact ⟨rfl, hh.bel⟩
/-! ### Tables of contracts -/
def orK (C1 C2 : ConF) : ConF := fun f args hp => match C1 f args hp with
  | some r => some r
  | none => C2 f args hp
theorem orK_ok {C1 C2 : ConF} (h1 : ConOk P C1) (h2 : ConOk P C2) : ConOk P (orK C1 C2) := by
  intro f args hp r hp' mu h
  unfold orK at h
  split at h
  · rename_i heq
    cases h
    exact h1 _ _ _ _ _ _ heq
  · exact h2 _ _ _ _ _ _ h
theorem orK_left {C1 C2 : ConF} {f : FuncId} {args : List DV} {hp : Hp} {r : DV × Hp × Mut} (h : C1 f args hp = some r) : orK C1 C2 f args hp = some r := by
  unfold orK
  rw [h]
theorem orK_right {C1 C2 : ConF} {f : FuncId} {args : List DV} {hp : Hp} {r : DV × Hp × Mut} (h1 : C1 f args hp = none) (h : C2 f args hp = some r) : orK C1 C2 f args hp = some r := by
  unfold orK
  rw [h1]
  exact h
theorem callE_C {T : Tab} {F : FTab} {C : ConF} {q : XF} {f : FuncId} {args : List DV} {hp : Hp} {r : DV × Hp × Mut} (h : C f args hp = some r) : callE T F C q f args hp = some r := by
  unfold callE
  rw [h]
theorem conC_other {α : Type} {f0 f : FuncId} {A : α → List DV} {B : α → DV × Hp} {args : List DV} {hp : Hp} (h : Nat.beq f f0 = false) : conC f0 A B f args hp = none := by
  unfold conC
  rw [h]
/-- a function without arguments that answers a plain datum -/
def fixC (f0 : FuncId) (d : DV) : ConF := fun f args hp => match Nat.beq f f0 with
  | true => match args with
    | [] => some (d, hp, none)
    | _ => none
  | false => none
theorem sh3_plain {d : DV} (h : plain d = true) (k : Nat) : sh3 k d = d := by cases d <;> first | rfl | (simp [plain] at h; done)
theorem fixC_ok {f0 : FuncId} {d : DV} (h : Ans P f0 [] d ⟨0, [], []⟩) (hd : plain d = true) : ConOk P (fixC f0 d) := by
  intro f args hp r hp' mu heq
  unfold fixC at heq
  split at heq
  · rename_i hb
    have hb := Nat.eq_of_beq_eq_true hb
    subst hb
    split at heq
    · cases heq
      refine ⟨h.1, fun base _ _ => Ext.refl _ _, fun W0 base S0 E w vs _ hs hv => ?_⟩
      have := ans_lift (hp := hp) (args := []) (bs := []) h trivial ⟨by cases d <;> first | rfl | (simp [plain] at hd; done), fun id o h => by simp [Hp.get_eq] at h, rfl⟩ hs hv
      rw [sh3_plain hd] at this
      exact this
    · cases heq
  · cases heq
end
end Go.Proofs.Ytoghpmeoekbcbaa
