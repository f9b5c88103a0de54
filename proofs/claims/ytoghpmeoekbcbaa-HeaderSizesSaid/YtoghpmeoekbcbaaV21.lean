/- Code over abstract data: operations in any order that the edges allow; the theorem. No function of the program is named here. -/
import Derived.Test.YtoghpmeoekbcbaaV20
namespace Go.Proofs.Ytoghpmeoekbcbaa
open Go.RowKit

noncomputable section
theorem countP_lt {α : Type} (p q : α → Bool) : ∀ (l : List α), (∀ x ∈ l, q x = true → p x = true) → (∃ x ∈ l, p x = true ∧ q x = false) → l.countP q < l.countP p
  | [], _, ⟨x, hx, _⟩ => by cases hx
  | y :: l, h, ⟨x, hx, hp, hq⟩ => by
    simp only [List.countP_cons]
    have hmono : l.countP q ≤ l.countP p := List.countP_mono_left fun z hz => h z (by simp [hz])
    rcases List.mem_cons.1 hx with rfl | hx
    · rw [hp, hq]; simp; omega
    · have ih := countP_lt p q l (fun z hz => h z (by simp [hz])) ⟨x, hx, hp, hq⟩
      by_cases hy : q y = true
      · rw [hy, h y (by simp) hy]; simp; omega
      · simp [hy]; omega

variable {P : Program} {T : Tab} {call : CallF} {W0 : World} {base : Nat} {S0 : Nat → Prop} {N : Nat} {ops : Array Oper} {k : Nat} {rs : List Rec} {sl0 : Slots} {hp0 : Hp} {Q : Exit → Act → World → Prop} {E0 : Env} {w0 : World}
theorem getD_set_other {listed : Array Bool} {i j : Nat} (h : i ≠ j) : (listed.setIfInBounds i true).getD j false = listed.getD j false := by
  simp [Array.getElem?_setIfInBounds_ne h]
theorem getD_set_self {listed : Array Bool} {i : Nat} (h : i < listed.size) : (listed.setIfInBounds i true).getD i false = true := by
  simp [h]
theorem getD_true_of {listed : Array Bool} {i : Nat} (h : i < listed.size) : listed.getD i true = listed.getD i false := by simp [h]
theorem mem_ready {md : Region.Mode} {listed : Array Bool} {j : Nat} : j ∈ Region.ready md ops listed ↔ listed.getD j true = false ∧ ∃ o, ops[j]? = some o ∧ ∀ e ∈ o.after, Region.binds md e = true → listed.getD e.on false = true := by
  unfold Region.ready
  rw [List.mem_filter]
  simp only [List.mem_range, Bool.and_eq_true, Bool.not_eq_true']
  constructor
  · rintro ⟨h1, h2, h3⟩
    refine ⟨h2, ?_⟩
    cases ho : ops[j]? with
    | none => rw [ho] at h3; simp at h3
    | some o =>
      rw [ho] at h3
      refine ⟨o, rfl, fun e he hb => ?_⟩
      simp only [Option.map_some, Option.getD_some, Array.all_eq_true'] at h3
      have := h3 e he
      simpa [hb] using this
  · rintro ⟨h1, o, ho, h2⟩
    refine ⟨(Array.getElem?_eq_some_iff.1 ho).1, h1, ?_⟩
    rw [ho]
    simp only [Option.map_some, Option.getD_some, Array.all_eq_true']
    intro e he
    cases hb : Region.binds md e
    · simp
    · simpa using h2 e he hb
theorem ready_mem {listed : Array Bool} (hl : listed.size = ops.size) {j : Nat} {o : Oper} (ho : ops.toList[j]? = some o) (hj : listed.getD j false = false) (hw : Waits (fun j => listed.getD j false = true) o) : j ∈ Region.ready .any ops listed := by
  have hlt : j < ops.size := by have := (List.getElem?_eq_some_iff.1 ho).1; simpa using this
  rw [mem_ready]
  refine ⟨by rw [getD_true_of (by omega)]; exact hj, o, by simpa using ho, fun e he hb => hw e (by simpa using he) hb⟩
theorem ready_of {listed : Array Bool} (hl : listed.size = ops.size) {j : Nat} (h : j ∈ Region.ready .any ops listed) : ∃ o, ops.toList[j]? = some o ∧ listed.getD j false = false ∧ Waits (fun j => listed.getD j false = true) o := by
  obtain ⟨h1, o, h2, h3⟩ := mem_ready.1 h
  have hlt : j < ops.size := (Array.getElem?_eq_some_iff.1 h2).1
  refine ⟨o, by simpa using h2, by rw [← getD_true_of (by omega)]; exact h1, fun e he hb => h3 e (by simpa using he) hb⟩
theorem rep_false (n j : Nat) : (Array.replicate n false).getD j false = false := by
  rcases Nat.lt_or_ge j n with h | h
  · simp [h]
  · rw [Array.getD_eq_getD_getElem?, Array.getElem?_eq_none (by simpa using h)]; rfl

def seen (ops : Array Oper) (o : Oper) (sl : Slots) : Slots := restr sl fun t => (o.looksAt ops).contains t
theorem seen_look {o : Oper} {sl : Slots} {t : Nat} {d : DV} (h : look (seen ops o sl) t = some d) : t ∈ o.looksAt ops ∧ look sl t = some d := by
  unfold seen at h
  rw [look_restr] at h
  split at h
  · rename_i hc
    exact ⟨by simpa using hc, h⟩
  · cases h
theorem seen_ev {o : Oper} {sl : Slots} {x : Operand} (hx : x ∈ o.op.operands) : ev (seen ops o sl) x = ev sl x := by
  refine ev_congr fun t ht => ?_
  subst ht
  unfold seen
  rw [look_restr]
  have : (o.looksAt ops).contains t = true := by
    rw [List.contains_iff_mem]
    unfold Oper.looksAt
    rw [List.mem_append]
    left
    rw [List.mem_filterMap]
    exact ⟨.tmp t, by simpa using hx, rfl⟩
  rw [this]
theorem seen_opE {o : Oper} {sl : Slots} {hp : Hp} : opE T call o (seen ops o sl) hp = opE T call o sl hp := by
  unfold opE
  rw [aop_congr o.op fun x hx => seen_ev hx]
theorem seen_gate {o : Oper} {sl : Slots} : gate (ops.toList.map (·.dst)) (seen ops o sl) o.guard = gate (ops.toList.map (·.dst)) sl o.guard := by
  unfold gate
  split
  · rfl
  · rename_i j want hg
    split
    · rename_i t hj
      have : look (seen ops o sl) t = look sl t := by
        unfold seen
        rw [look_restr]
        have : (o.looksAt ops).contains t = true := by
          rw [List.contains_iff_mem]
          unfold Oper.looksAt
          rw [List.mem_append]
          right
          rw [hg]
          have hj' : (ops[j]?).bind (·.dst) = some t := by
            rw [List.getElem?_map] at hj
            cases ho : ops.toList[j]? with
            | none => rw [ho] at hj; simp at hj
            | some oj =>
              rw [ho] at hj
              simp at ho hj
              rw [ho]
              exact hj
          simp only [hj']
          simp
        rw [this]
      rw [this]
    · rfl
section
variable {ro : Option Nat} {dl : List Deferred} {fm : Fm}
/-- one operation of the region, somewhere -/
theorem one_ok (hT : TabOk P T) (hcall : CallOk P call) {i : Nat} {o : Oper} (ho : ops.toList[i]? = some o) {sl : Slots} {hp : Hp} {r : Rec} (hst : StepC T call (ops.toList.map (·.dst)) o sl hp r) {W1 : World} {b1 : Nat} {S1 : Nat → Prop} {E : Env} {a : Act} {w : World} (hs : HS W1 b1 S1 E hp w)
    (hsl : ∀ t d, t ∈ o.looksAt ops → look sl t = some d → VR w E d (a.tmps.getD t undef)) (hmu : mutOk b1 r.mu) {K : Act → World → Prop} (hK : ∀ E' v w', Stp W1 b1 S1 E hp w E' r.hp w' → VR w' E' r.d v → K (a.put o.dst v) w') : wpOpIn (Fr ro) 0 P ops Q i K a w := by
  have hoa : ops[i]? = some o := by simpa using ho
  have hsl' : ∀ t d, look (seen ops o sl) t = some d → VR w E d (a.tmps.getD t undef) := fun t d h => hsl t d (seen_look h).1 (seen_look h).2
  unfold wpOpIn
  rw [hoa]
  simp only
  rcases hst with ⟨hg, hop⟩ | ⟨hg, rfl⟩
  · rw [← seen_gate] at hg
    rw [if_pos (gate_ok (a := a) (w := w) (E := E) rfl hg hsl')]
    rw [← seen_opE (ops := ops)] at hop
    exact (opE_ok hT hcall hop hs hsl' hmu hK)
  · rw [← seen_gate] at hg
    have := gate_ok (a := a) (w := w) (E := E) rfl hg hsl'
    rw [if_neg (by rw [this]; simp)]
    exact ⟨fun _ _ => trivial, hK E undef w (Stp.refl hs) (vr_undef w E)⟩
structure Com (dl : List Deferred) (E0 : Env) (w0 : World) (hp0 : Hp) (N : Nat) (E : Env) (a : Act) (w : World) : Prop where
  later : Later E0 w0 E w
  dom : ∀ id, id < hp0.n → E.D id → E0.D id
  defers : a.defers = dl
  size : a.tmps.size = N
  oth : Oth w0 w
  yb : E.yb = E0.yb
theorem Com.next {E E' : Env} {a : Act} {w w' : World} (h : Com dl E0 w0 hp0 N E a w) (hl : Later E w E' w') (hd : ∀ id, id < hp0.n → E'.D id → E.D id) (ho : Oth w w') (hy : E'.yb = E.yb) (dst : Option Tmp) (v : Value) : Com dl E0 w0 hp0 N E' (a.put dst v) w' :=
  ⟨h.later.trans hl, fun id hid hd' => h.dom id hid (hd id hid hd'), by cases dst <;> exact h.defers, by cases dst <;> simpa [Act.put] using h.size, h.oth.trans ho, hy.trans h.yb⟩
structure InvA (dl : List Deferred) (W0 : World) (base : Nat) (S0 : Nat → Prop) (N : Nat) (ops : Array Oper) (k : Nat) (rs : List Rec) (sl0 : Slots) (hp0 : Hp) (E0 : Env) (w0 : World) (D : Nat → Prop) (E : Env) (a : Act) (w : World) : Prop where
  com : Com dl E0 w0 hp0 N E a w
  lt : ∀ j, D j → j < k
  hs : ∀ j, j ≤ k → HS W0 base S0 (E.lim (hpAt rs hp0 j).n) (hpAt rs hp0 j) w
  sl : Shown ops rs sl0 D (fun i => E.lim (hpAt rs hp0 i).n) a w
  ids : ∀ id, E.D id → id < hp0.n ∨ ∃ j, j < k ∧ D j ∧ (hpAt rs hp0 j).n ≤ id ∧ id < (hpAt rs hp0 (j + 1)).n
structure InvB (dl : List Deferred) (W0 : World) (base : Nat) (S0 : Nat → Prop) (N : Nat) (ops : Array Oper) (k : Nat) (rs : List Rec) (sl0 : Slots) (hp0 : Hp) (E0 : Env) (w0 : World) (T : Tab) (D : Nat → Prop) (E : Env) (i : Nat) (a : Act) (w : World) : Prop where
  com : Com dl E0 w0 hp0 N E a w
  le : k ≤ i
  len : i ≤ ops.toList.length
  tail : ∀ j, k ≤ j → (D j ↔ j < i)
  pre : ∀ j o, j < k → ops.toList[j]? = some o → dry T o.op = false → D j
  hs : HS W0 base S0 E (hpAt rs hp0 i) w
  sl : Shown ops rs sl0 D (fun _ => E) a w
variable {D : Nat → Prop} {E : Env} {a : Act} {w : World}
theorem InvA.toB (hR : Reg P T call ops k rs sl0 hp0 base N) (hcall : CallOk P call) (h : InvA dl W0 base S0 N ops k rs sl0 hp0 E0 w0 D E a w) (hpre : ∀ j o, j < k → ops.toList[j]? = some o → dry T o.op = false → D j) (_hE0 : ∀ id, E0.D id → id < hp0.n) :
    InvB dl W0 base S0 N ops k rs sl0 hp0 E0 w0 T D (E.lim (hpAt rs hp0 k).n) k a w := by
  have hk := hR.chk.le
  have hn := (hR.ext hcall k hk).1
  have hlt : ∀ id, E.D id → id < (hpAt rs hp0 k).n := fun id hd => by
    rcases h.ids id hd with h | ⟨j, h1, h2, h3, h4⟩
    · omega
    · have := hR.mono hcall (show j + 1 ≤ k by omega) hk
      omega
  refine ⟨⟨h.com.later.trans (Later.lim_id hlt), fun id hid hd => h.com.dom id hid hd.1, h.com.defers, h.com.size, h.com.oth, h.com.yb⟩, Nat.le_refl _, hk, fun j hj => ⟨fun hd => by have := h.lt j hd; omega, fun hj' => by omega⟩, hpre, h.hs k (Nat.le_refl _), fun t i hi hat d hd => ?_⟩
  exact (h.sl t i hi hat d hd).later ⟨fun _ h => h, fun id hd => ⟨⟨hd.1, hlt id hd.1⟩, rfl, rfl, rfl, Iff.rfl⟩, fun _ _ => rfl, fun _ _ h => h⟩
def Inv (dl : List Deferred) (W0 : World) (base : Nat) (S0 : Nat → Prop) (N : Nat) (ops : Array Oper) (k : Nat) (rs : List Rec) (sl0 : Slots) (hp0 : Hp) (E0 : Env) (w0 : World) (T : Tab) (D : Nat → Prop) (a : Act) (w : World) : Prop :=
  (∃ E, InvA dl W0 base S0 N ops k rs sl0 hp0 E0 w0 D E a w) ∨ ∃ E i, InvB dl W0 base S0 N ops k rs sl0 hp0 E0 w0 T D E i a w
theorem stepB (hT : TabOk P T) (hcall : CallOk P call) (hR : Reg P T call ops k rs sl0 hp0 base N) {i : Nat} (h : InvB dl W0 base S0 N ops k rs sl0 hp0 E0 w0 T D E i a w) (hD : Closed ops.toList D) {q : Nat} {o : Oper} (ho : ops.toList[q]? = some o) (hDq : ¬ D q) (hw : Waits D o) :
    wpOpIn (Fr ro) 0 P ops Q q (Inv dl W0 base S0 N ops k rs sl0 hp0 E0 w0 T (fun j => D j ∨ j = q)) a w := by
  obtain ⟨r, hr, hst, hsl1, hhp1⟩ := can_at hR.can q o ho
  have hql := (List.getElem?_eq_some_iff.1 ho).1
  have hlook : ∀ t d, t ∈ o.looksAt ops → look (slAt ops.toList rs sl0 q) t = some d → VR w E d (a.tmps.getD t undef) := fun t d ht hd => h.sl t q (by omega) (look_pos hR.chk hD ho hDq hw ht) d hd
  by_cases hqk : k ≤ q
  · -- the next one behind
    have hqi : q = i := by
      have h1 : i ≤ q := by
        rcases Nat.lt_or_ge q i with hlt | hge
        · exact absurd ((h.tail q hqk).2 hlt) hDq
        · exact hge
      rcases Nat.lt_or_ge i q with hlt | hge
      · exfalso
        have hDi : D i := by
          have hil : i < ops.toList.length := by omega
          rcases hR.chk.pair q i o _ (by omega) ho (List.getElem?_eq_getElem hil) with hb | ⟨_, hb⟩
          · exact hb D hD hw
          · have := h.le; omega
        have := (h.tail i h.le).1 hDi
        omega
      · omega
    subst hqi
    refine one_ok hT hcall ho hst h.hs hlook (hR.mu r (List.mem_of_getElem? hr)) fun E' v w' hs hv => .inr ⟨E', q + 1, ?_⟩
    have hmono := hR.mono hcall (Nat.le_succ q) (by omega)
    refine ⟨h.com.next hs.later (fun id hid hd => hs.dom id (Nat.lt_of_lt_of_le hid (hR.ext hcall q (by omega)).1) hd) hs.oth hs.yb _ _, by omega, by omega, fun j hj => ?_, fun j oj hj hoj hd => .inl (h.pre j oj hj hoj hd), by rw [hhp1]; exact hs.hs, ?_⟩
    · rw [h.tail j hj]
      omega
    · exact shown_put hR hD ho hr hDq h.sl (fun _ _ => hs.later) (fun _ _ _ => hv) h.com.size
  · -- one that looks at slots alone
    have hdry : dry T o.op = true := by
      cases hd : dry T o.op
      · exact absurd (h.pre q o (by omega) ho hd) hDq
      · rfl
    have hst' : StepC T call (ops.toList.map (·.dst)) o (slAt ops.toList rs sl0 q) (hpAt rs hp0 i) ⟨r.d, hpAt rs hp0 i, none⟩ := by
      rcases hst with ⟨hg, hop⟩ | ⟨hg, hre⟩
      · refine .inl ⟨hg, ?_⟩
        unfold opE at hop ⊢
        split at hop
        · rename_i z hz
          have hzz : z = (r.d, r.hp, r.mu) := by simpa using hop
          subst hzz
          obtain ⟨_, _, h3⟩ := aop_dry hdry hz
          rw [h3]
        · rename_i f args hz
          exact absurd hz (dry_not_call hdry f args)
        · rename_i f args hz
          exact absurd hz (dry_not_yld hdry f args)
        · cases hop
      · exact .inr ⟨hg, by rw [hre]⟩
    refine one_ok hT hcall ho hst' h.hs.pure hlook trivial fun E' v w' hs hv => .inr ⟨mrg E E' (hpAt rs hp0 i).n (hpAt rs hp0 i).n, i, ?_⟩
    have hno : ∀ id, ¬ ((hpAt rs hp0 i).n ≤ id ∧ id < (hpAt rs hp0 i).n) := fun id hh => by omega
    obtain ⟨m1, m2, m3⟩ := HS.merge h.hs (E1 := E) (E' := E') (hpX := hpAt rs hp0 i) (hpY := hpAt rs hp0 i) (a := (hpAt rs hp0 i).n) (b := (hpAt rs hp0 i).n) h.hs.pure hs.hs hs.later (fun id hd => ⟨hd, rfl, rfl, rfl, Iff.rfl⟩) rfl (fun id hd => .inl (hs.dom id (hs.hs.dlt hd) hd)) (fun id _ => hno id) (fun id h1 h2 => by omega) h.hs.le hs.yb
    refine ⟨h.com.next m2 (fun id hid hd => hd.elim (fun hh => hh) (fun hh => by omega)) hs.oth hs.yb _ _, h.le, h.len, fun j hj => ?_, fun j oj hj hoj hd => .inl (h.pre j oj hj hoj hd), m1, ?_⟩
    · rw [h.tail j hj]
      exact ⟨fun hh => hh.elim (fun hh => hh) (fun hh => by omega), fun hh => .inl hh⟩
    · exact shown_put hR hD ho hr hDq h.sl (fun _ _ => m2) (fun _ _ _ => hv.later m3) h.com.size

end
end
end Go.Proofs.Ytoghpmeoekbcbaa
