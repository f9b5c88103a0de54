/- What operations on abstract data look at, and what they leave. No function of the program is named here. -/
import Derived.Test.YtoghpmeoekbcbaaV16
namespace Go.Proofs.Ytoghpmeoekbcbaa
open Go.RowKit

section
variable {T : Tab} {hp : Hp} {sl sl' : Slots}
/-- the slots that p names, alone -/
def restr : Slots → (Nat → Bool) → Slots
  | .lf, _ => .lf
  | .nd v l r, p => .nd (match p 0 with | true => v | false => none) (restr l fun k => p (2 * k + 1)) (restr r fun k => p (2 * k + 2))
theorem look_restr : ∀ (s : Slots) (p : Nat → Bool) (n : Nat), look (restr s p) n = match p n with | true => look s n | false => none
  | .lf, p, n => by
    show none = _
    cases p n <;> rfl
  | .nd v l r, p, n => by
    simp only [restr, look_nd]
    by_cases h0 : n = 0
    · subst h0
      rw [if_pos rfl, if_pos rfl]
    · rw [if_neg h0, if_neg h0]
      by_cases h1 : n % 2 = 1
      · rw [if_pos h1, if_pos h1, look_restr l]
        rw [show 2 * ((n - 1) / 2) + 1 = n by omega]
      · rw [if_neg h1, if_neg h1, look_restr r]
        rw [show 2 * ((n - 1) / 2) + 2 = n by omega]
theorem ev_congr {x : Operand} (h : ∀ t, x = .tmp t → look sl t = look sl' t) : ev sl x = ev sl' x := by
  cases x with
  | tmp t => exact h t rfl
  | _ => rfl
theorem evs_congr : ∀ {xs : List Operand}, (∀ x ∈ xs, ev sl x = ev sl' x) → evs sl xs = evs sl' xs
  | [], _ => rfl
  | x :: xs, h => by rw [evs_cons, evs_cons, h x (by simp), evs_congr (fun y hy => h y (by simp [hy]))]
theorem evParts_congr : ∀ {xs : List (Nat × Operand)}, (∀ x ∈ xs, ev sl x.2 = ev sl' x.2) → evParts sl xs = evParts sl' xs
  | [], _ => rfl
  | x :: xs, h => by rw [evParts_cons, evParts_cons, h x (by simp), evParts_congr (fun y hy => h y (by simp [hy]))]
theorem evO_congr {x : Option Operand} (h : ∀ y, x = some y → ev sl y = ev sl' y) : evO sl x = evO sl' x := by
  cases x with
  | none => rfl
  | some y => simp only [evO]; rw [h y rfl]
theorem aop_congr (op : Op) (h : ∀ x ∈ op.operands, ev sl x = ev sl' x) : aop T hp sl op = aop T hp sl' op := by
  cases op <;> simp only [aop, opPick, opAlloc, opBox, opBuild, opBuildSlice, opMakeSlice, opLoad, opStore, opNilCheck, opBinOp, opUnOp, opConvert, opFieldAddr, opField, opIndexAddr, opIndex, opExtract, opMakeFunc, opSlice, opMakeInterface] <;> try rfl
  case build t parts => rw [evParts_congr (fun x hx => h x.2 (by simp only [Op.operands, List.mem_toArray, List.mem_map]; exact ⟨x, hx, rfl⟩))]
  case buildSlice t n parts => rw [evParts_congr (fun x hx => h x.2 (by simp only [Op.operands, List.mem_toArray, List.mem_map]; exact ⟨x, hx, rfl⟩))]
  case makeFunc f first captured =>
    rw [evs_congr (fun x hx => h x (by simp only [Op.operands, Array.mem_append]; exact .inl (by simpa using hx))), evs_congr (xs := captured.toList) (fun x hx => h x (by simp only [Op.operands, Array.mem_append]; exact .inr (by simpa using hx)))]
  case slice t x lo hi mx =>
    rw [h x (by simp [Op.operands]), evO_congr (x := lo) (fun y hy => h y (by subst hy; simp [Op.operands])), evO_congr (x := hi) (fun y hy => h y (by subst hy; simp [Op.operands])), evO_congr (x := mx) (fun y hy => h y (by subst hy; simp [Op.operands]))]
  case call c =>
    obtain ⟨callee, args, ats⟩ := c
    unfold callD
    have e1 : evs sl args.toList = evs sl' args.toList := evs_congr (fun x hx => h x (by simp only [Op.operands, Call.operands, Array.mem_append]; exact .inr (by simpa using hx)))
    simp only [e1]
    cases callee with
    | value f =>
      have e2 : ev sl f = ev sl' f := h f (by simp [Op.operands, Call.operands])
      simp only [e2]
    | invoke r m => rfl
    | builtin b => rfl
  all_goals
    simp only [Op.operands] at h
    simp at h
    first
      | rw [h]
      | rw [h.1, h.2]
      | rw [h.1, h.2.1, h.2.2]

/-! ### What lies below is left as it is -/
theorem ext_push (base : Nat) (hp : Hp) (o : Ob) (hb : base ≤ hp.n) : Ext base hp (hp.push o) := ⟨by simp [Hp.push], fun id hid => (by rw [Hp.get_push, if_neg (by omega)]), fun _ => rfl, fun _ _ => rfl⟩
theorem ext_put {base : Nat} {hp : Hp} {id : Nat} {o o0 : Ob} (ho : hp.get id = some o0) (hb : base ≤ id) : Ext base hp (hp.put id o) := ⟨Nat.le_refl _, fun j hj => (by rw [Hp.get_put _ _ _ _ ho, if_neg (by omega)]), fun _ => rfl, fun _ _ => rfl⟩
theorem ext_kill {base : Nat} {hp : Hp} {r : Nat} (hb : base ≤ r) : Ext base hp (hp.kill r) := ⟨Nat.le_refl _, fun j hj => (by rw [Hp.get_kill, if_neg (by omega)]), fun _ => rfl, fun _ _ => rfl⟩
theorem storeH_ext {base id off : Nat} {cs : List DV} {hp' : Hp} {mu : Mut} (h : storeH hp id off cs = some (hp', mu)) (hmu : mutOk base mu) : Ext base hp hp' := by
  obtain ⟨o, ho, hle, hk2, hc⟩ := storeH_some h
  rcases hc with ⟨hk, he⟩ | ⟨hk, he⟩ <;> (injection he with he1 he2; subst he1; subst he2)
  · obtain ⟨h1, h2⟩ := mutOk_mmin hmu
    have hgk : (hp.kill o.r).get id = some o := by
      rw [Hp.get_kill, ho]
      simp [Ob.dead, hk2]
    exact (ext_kill h1).trans (ext_put hgk h2)
  · exact ext_put ho hmu
theorem appH_ext {base : Nat} {e : TypeId} {j : TI} {dst : DV} {m : Nat} {news : List DV} {d : DV} {hp' : Hp} {mu : Mut} (h : appH hp e j dst m news = some (d, hp', mu)) (hmu : mutOk base mu) (hb : base ≤ hp.n) : Ext base hp hp' := by
  unfold appH at h
  split at h
  · cases h
  · cases h
  · split at h
    · split at h
      · cases h; exact Ext.refl _ _
      · cases h; exact Ext.refl _ _
      · cases h
    · split at h
      · split at h
        · cases h; exact ext_push _ _ _ hb
        · cases h
      · split at h
        · rename_i o _ ho
          split at h
          · split at h
            · rename_i hst
              cases h
              exact storeH_ext hst hmu
            · cases h
          · split at h
            · cases h; exact ext_push _ _ _ hb
            · cases h
            · split at h
              · cases h
                obtain ⟨h1, h2⟩ := mutOk_mmin hmu
                exact (ext_put ho h2).trans (ext_push _ _ _ hb)
              · cases h
            · cases h
        · cases h
      · cases h
theorem copyH_ext {base : Nat} {j : TI} {dst : DV} {m : Nat} {news : List DV} {d : DV} {hp' : Hp} {mu : Mut} (h : copyH hp j dst m news = some (d, hp', mu)) (hmu : mutOk base mu) : Ext base hp hp' := by
  unfold copyH at h
  split at h
  · cases h; exact Ext.refl _ _
  · split at h
    · cases h; exact Ext.refl _ _
    · split at h
      · rename_i hst
        cases h
        exact storeH_ext hst hmu
      · cases h
    · cases h
  · cases h
theorem keep_ext {base : Nat} {x : Option DV} {d : DV} {hp' : Hp} {mu : Mut} (h : keep hp x = some (d, hp', mu)) : Ext base hp hp' := by
  cases x with
  | none => cases h
  | some y => cases h; exact Ext.refl _ _
theorem outR_some {r : R} {q : DV × Hp × Mut} (h : outR r = .done q) : r = some q := by
  cases r with
  | none => cases h
  | some y => cases h; rfl
theorem builtinD_ext {base : Nat} {b : Builtin} {args : List DV} {ts : List TypeId} {d : DV} {hp' : Hp} {mu : Mut} (h : builtinD T hp b args ts = some (d, hp', mu)) (hmu : mutOk base mu) (hb : base ≤ hp.n) : Ext base hp hp' := by
  unfold builtinD at h
  split at h
  · split at h
    · exact keep_ext h
    · cases h
  · split at h
    · split at h
      · exact keep_ext h
      · cases h
    · cases h
  · split at h
    · split at h
      · split at h
        · split at h
          · exact appH_ext h hmu hb
          · cases h
        · cases h
      · split at h
        · split at h
          · exact appH_ext h hmu hb
          · cases h
        · cases h
      · split at h
        · split at h
          · exact appH_ext h hmu hb
          · cases h
        · cases h
      · cases h
    · cases h
  · split at h
    · split at h
      · split at h
        · split at h
          · exact copyH_ext h hmu
          · cases h
        · cases h
      · cases h
    · cases h
  · exact keep_ext h
  · exact keep_ext h
  · cases h
theorem convD_ext {base : Nat} {s t : TypeId} {x d : DV} {hp' : Hp} {mu : Mut} (h : convD T hp s t x = some (d, hp', mu)) (hb : base ≤ hp.n) : Ext base hp hp' := by
  unfold convD at h
  repeat' (split at h)
  all_goals first | (cases h; done) | (cases h; exact Ext.refl _ _) | (cases h; exact ext_push _ _ _ hb)
theorem aop_ext {base : Nat} {op : Op} {d : DV} {hp' : Hp} {mu : Mut} (h : aop T hp sl op = .done (d, hp', mu)) (hmu : mutOk base mu) (hb : base ≤ hp.n) : Ext base hp hp' := by
  cases op <;> simp only [aop] at h <;> try (cases h; done)
  case move x => exact keep_ext (outR_some h)
  case assign x => exact keep_ext (outR_some h)
  case convert s t x =>
    unfold opConvert at h
    split at h
    · exact convD_ext (outR_some h) hb
    · cases h
  case store t x y =>
    unfold opStore at h
    split at h
    · split at h
      · split at h
        · rename_i hst
          cases h
          exact storeH_ext hst hmu
        · cases h
      · cases h
    · cases h
  case call c =>
    unfold callD at h
    split at h
    · cases h
    · split at h
      · exact builtinD_ext (outR_some h) hmu hb
      · split at h <;> cases h
      · cases h
  all_goals
    simp only [opPick, opAlloc, opBox, opBuild, opBuildSlice, opMakeSlice, opLoad, opNilCheck, opBinOp, opUnOp, opFieldAddr, opField, opIndexAddr, opIndex, opExtract, opMakeFunc, opSlice, opMakeInterface] at h
    repeat' (split at h)
  all_goals first | (cases h; done) | exact keep_ext (outR_some h) | (cases h; exact Ext.refl _ _) | (cases h; exact ext_push _ _ _ hb) | (unfold mkRow at h; split at h <;> (cases h; exact ext_push _ _ _ hb))
end
end Go.Proofs.Ytoghpmeoekbcbaa
