/- Operations on abstract data are what the model does: values. No function of the program is named here. -/
import Derived.Test.YtgjgihlfkpbdgaaMA
import Derived.Laws.IdiomStrings
import Derived.Laws.MakeOwn
namespace Go.Proofs.Ytgjgihlfkpbdgaa
open Go.RowKit

section
variable {P : Program} {E : Env} {w : World}
theorem cellsD_ok {d : DV} {v : Value} {cs : List DV} (h : VR w E d v) (hc : cellsD d = some cs) : VRs E w cs v.cells.toList ∧ (∀ u ∈ v.cells.toList, u.oneCell' = true) ∧ scals cs = true := by
  unfold cellsD at hc
  split at hc
  · rename_i ds
    split at hc
    · rename_i hs
      cases hc
      obtain ⟨vs, rfl, h1⟩ := h.of_agg
      exact ⟨by simpa [Value.cells] using h1, by simpa [Value.cells] using scals_one h1 hs, hs⟩
    · cases hc
  · split at hc
    · rename_i hs
      cases hc
      obtain ⟨h1, h2⟩ := scal_one h hs
      rw [h2]
      exact ⟨VRs.cons h (.nil _ _), by simpa using h1, by simp [scals, hs]⟩
    · cases hc
theorem cv1_ok {v : Value} {d : DV} (h : cv1 v = some d) : VR w E d v := by
  unfold cv1 at h
  split at h <;> first | (cases h; constructor) | cases h
theorem cvs_ok : ∀ {vs : List Value} {ds : List DV}, cvs vs = some ds → VRs E w ds vs
  | [], ds, h => by simp [cvs] at h; subst h; exact .nil _ _
  | v :: vs, ds, h => by
    simp only [cvs] at h
    split at h
    · rename_i d ds' h1 h2
      cases h
      exact .cons (cv1_ok h1) (cvs_ok h2)
    · cases h
theorem cv_ok {v : Value} {d : DV} (h : cv v = some d) : VR w E d v := by
  unfold cv at h
  split at h
  · rename_i cs
    split at h
    · rename_i ds hd
      cases h
      have := VRs.agg (cvs_ok (E := E) (w := w) hd)
      simpa using this
    · cases h
  · exact cv1_ok h
theorem ev_ok {sl : Slots} {a : Act} (hgl : GlOk E.S w) (hsl : ∀ t d, look sl t = some d → VR w E d (a.tmps.getD t undef)) {x : Operand} {d : DV} (h : ev sl x = some d) : VR w E d (a.eval x) := by
  cases x with
  | tmp t => exact hsl t d h
  | const v => exact cv_ok h
  | global g =>
    simp only [ev] at h
    split at h
    · rename_i cs hg
      cases h
      exact (hgl g cs hg).later (Later.ro_up E w)
    · cases h
  | func f => simp [ev] at h; subst h; exact .fn _ f [] [] [] [] rfl rfl (fun j d v h => by simp at h) (fun j d v h => by simp at h)
theorem evs_ok {sl : Slots} {a : Act} (hgl : GlOk E.S w) (hsl : ∀ t d, look sl t = some d → VR w E d (a.tmps.getD t undef)) : ∀ {xs : List Operand} {ds : List DV}, evs sl xs = some ds → VRs E w ds (xs.map a.eval)
  | [], ds, h => by cases h; exact .nil _ _
  | x :: xs, ds, h => by
    rw [evs_cons] at h
    unfold evs1 at h
    split at h
    · rename_i d ds' h1 h2
      cases h
      exact .cons (ev_ok hgl hsl h1) (evs_ok hgl hsl h2)
    · cases h
/-! ### The table of types -/
theorem run_sizeOf' {t : TypeId} {i : TypeInfo} (h : P.info? t = some i) : (sizeOf t).run P w = .ok i.size w := by simp [sizeOf, typeInfo, h]
theorem run_isAgg {t : TypeId} {d : TypeDesc} {i : TI} (hu : P.underlying t = some d) (hd : tdOk P i.td d) : (isAgg t).run P w = .ok (isAggT i) w := by
  simp only [isAgg, Sem.run_bind, run_underlying hu, Result.andThen_ok]
  unfold isAggT
  generalize i.td = td at hd
  cases td <;> cases d <;> simp_all [tdOk]
/-- cells that lie in a row -/
def Lies (E : Env) (w : World) (b off : Nat) (cs : List DV) : Prop := ∀ (j : Nat) (d : DV), cs[j]? = some d → ∃ v, w.cell? ⟨b, off + j, none⟩ = some v ∧ VR w E d v
theorem Lies.drop {b off : Nat} {cs : List DV} (h : Lies E w b off cs) (n : Nat) : Lies E w b (off + n) (cs.drop n) := fun j d hj => by
  rw [Nat.add_assoc]
  exact h (n + j) d (by simpa using hj)
theorem Lies.take {b off : Nat} {cs : List DV} (h : Lies E w b off cs) (n : Nat) : Lies E w b off (cs.take n) := fun j d hj => by
  rw [List.getElem?_take] at hj
  split at hj
  · exact h j d hj
  · cases hj
theorem Lies.of_ob {id : Nat} {o : Ob} (h : ObOk E w id o) : Lies E w (E.b id) (E.base id) o.cs := fun j d hj => by
  obtain ⟨_, _, vs, hb, h1, h2, h3⟩ := h
  obtain ⟨v, hv, hd⟩ := h3.get hj
  refine ⟨v, ?_, hd⟩
  rw [hb.cell]
  rw [List.getElem?_take] at hv
  split at hv
  · simpa using hv
  · cases hv
theorem Lies.vals {b off : Nat} {cs : List DV} (h : Lies E w b off cs) : ∃ vs : List Value, VRs E w cs vs ∧ ∀ j v, vs[j]? = some v → w.cell? ⟨b, off + j, none⟩ = some v := by
  induction cs generalizing off with
  | nil => exact ⟨[], .nil _ _, fun j v hj => by simp at hj⟩
  | cons d cs ih =>
    obtain ⟨v, hv, hd⟩ := h 0 d rfl
    obtain ⟨vs, h1, h2⟩ := ih (off := off + 1) (fun j d hj => by
      obtain ⟨v, hv, hd⟩ := h (j + 1) d (by simpa using hj)
      exact ⟨v, by rw [show off + 1 + j = off + (j + 1) by omega]; exact hv, hd⟩)
    refine ⟨v :: vs, .cons hd h1, fun j u hj => ?_⟩
    cases j with
    | zero => simp at hj; subst hj; exact hv
    | succ j => rw [show off + (j + 1) = off + 1 + j by omega]; exact h2 j u (by simpa using hj)

theorem part_ok {t : TypeId} {info : TypeInfo} {d : TypeDesc} {i : TI} (hi : P.info? t = some info) (hu : P.underlying t = some d) (hs : info.size = i.size) (hd : tdOk P i.td d) {cs : List DV} {vs : List Value} (h : VRs E w cs vs) (off : Nat) {e : DV}
    (hp : partD i cs off = some e) : ∃ u, (part t vs.toArray off).run P w = .ok u w ∧ VR w E e u := by
  unfold partD at hp
  simp only [part, Sem.run_bind, run_isAgg hu hd, Result.andThen_ok]
  rcases ha : isAggT i with _ | _
  rotate_left
  · rw [ha] at hp
    simp only at hp
    split at hp
    · cases hp
      refine ⟨.agg ((vs.drop off).take i.size).toArray, ?_, (h.drop off |>.take i.size).agg⟩
      simp only [if_true, Sem.run_bind, run_sizeOf' hi, Result.andThen_ok, Sem.run_pure, hs]
      congr 2
      simp [List.extract_toArray, List.extract_eq_take_drop]
    · cases hp
  · rw [ha] at hp
    simp only at hp
    · have hd' := hp
      rw [nth_eq] at hd'
      obtain ⟨u, hu', hv⟩ := h.get hd'
      refine ⟨u, ?_, hv⟩
      simp [hu']
theorem load_ok {t : TypeId} {info : TypeInfo} {d : TypeDesc} {i : TI} (hi : P.info? t = some info) (hu : P.underlying t = some d) (hs : info.size = i.size) (hd : tdOk P i.td d) {cs : List DV} {b base : Nat} (h : Lies E w b base cs) (off : Nat) {e : DV}
    (hp : partD i cs off = some e) : ∃ u, (loadVar t ⟨b, base + off, none⟩).run P w = .ok u w ∧ VR w E e u := by
  unfold partD at hp
  simp only [loadVar, Sem.run_bind, run_isAgg hu hd, Result.andThen_ok]
  rcases ha : isAggT i with _ | _
  rotate_left
  · rw [ha] at hp
    simp only at hp
    split at hp
    · rename_i hle
      have hle := Nat.le_of_ble_eq_true hle
      cases hp
      obtain ⟨vs, h1, h2⟩ := ((h.drop off).take i.size).vals
      refine ⟨.agg vs.toArray, ?_, h1.agg⟩
      have hlen : vs.length = i.size := by rw [← h1.1]; simp; omega
      have hl := run_loadCells_list (P := P) w ⟨b, base + off, none⟩ vs (fun j v hj => by rw [add_none]; exact h2 j v hj)
      simp only [if_true, Sem.run_bind, run_sizeOf' hi, Result.andThen_ok, hs, ← hlen, hl, Sem.run_pure]
    · cases hp
  · rw [ha] at hp
    simp only at hp
    · have hd' := hp
      rw [nth_eq] at hd'
      obtain ⟨u, hc, hv⟩ := h off _ hd'
      refine ⟨u, ?_, hv⟩
      simp [hc]
end
end Go.Proofs.Ytgjgihlfkpbdgaa
/- Operations on abstract data are what the model does: arithmetic, comparisons, aggregates. No function of the program is named here. -/
namespace Go.Proofs.Ytgjgihlfkpbdgaa
open Go.RowKit

theorem eqBytes_eq : ∀ (l m : List UInt8), eqBytes l m = (l == m)
  | [], [] => rfl
  | [], _ :: _ => rfl
  | _ :: _, [] => rfl
  | a :: l, b :: m => by
    unfold eqBytes
    by_cases h : a.toNat = b.toNat
    · rw [beqT h]
      have : a = b := UInt8.toNat_inj.1 h
      subst this
      simp only [eqBytes_eq l m]
      simp
    · rw [beqF h]
      have : a ≠ b := fun e => h (by rw [e])
      simp [this]
theorem ltBytes_eq : ∀ (l m : List UInt8), ltBytes l m = Op.bytesLess l m
  | [], [] => rfl
  | [], _ :: _ => rfl
  | _ :: _, [] => rfl
  | a :: l, b :: m => by
    unfold ltBytes Op.bytesLess
    by_cases h : a.toNat < b.toNat
    · rw [bltT h]
      have : a < b := h
      simp [this]
    · rw [bltF h]
      have h' : ¬ a < b := h
      by_cases e : a.toNat = b.toNat
      · rw [beqT e]
        have : a = b := UInt8.toNat_inj.1 e
        subst this
        simp [ltBytes_eq l m]
      · rw [beqF e]
        have : a ≠ b := fun q => e (by rw [q])
        simp [h', this]
theorem eqB_eq (a b : ByteArray) : eqBytes a.data.toList b.data.toList = (a.toList == b.toList) := by rw [eqBytes_eq, ByteArray.toList_eq, ByteArray.toList_eq]
theorem ltB_eq (a b : ByteArray) : ltBytes a.data.toList b.data.toList = Op.bytesLess a.toList b.toList := by rw [ltBytes_eq, ByteArray.toList_eq, ByteArray.toList_eq]
theorem lenB_eq (a : ByteArray) : lenB a = a.size := rfl
theorem catS_eq (a b : ByteArray) : catS a b = a ++ b := by
  obtain ⟨⟨x⟩⟩ := a
  obtain ⟨⟨y⟩⟩ := b
  apply ByteArray.ext
  simp [catS]

section
variable {P : Program} {T : Tab} {E : Env} {w : World} {a : Act} {o : Oper}
/-- the operation yields a value that shows d, and nothing changes -/
def ValOk (P : Program) (E : Env) (w : World) (a : Act) (o : Oper) (d : DV) : Prop := ∃ u, (execOp a.eval o).run P w = .ok (.value u) w ∧ VR w E d u
theorem ValOk.mk {d : DV} {u : Value} (h : (execOp a.eval o).run P w = .ok (.value u) w) (hd : VR w E d u) : ValOk P E w a o d := ⟨u, h, hd⟩
theorem ar_ok {k : IntKind} {n : Int} (h : (execOp a.eval o).run P w = .ok (.value (.int k (k.wrap n))) w) : ValOk P E w a o (ar k n) := ⟨_, h, .int _ _ _⟩
theorem guardO_some {b : Bool} {d r : DV} (h : guardO b d = some r) : b = true ∧ r = d := by
  cases b
  · cases h
  · cases h; exact ⟨rfl, rfl⟩
theorem binI_ok {op : BinOp} {k : IntKind} {x y : Int} {d : DV} (hd : binI op k x y = some d)
    (h : ∀ r : Result Value, (binOp op 0 (.int k x) (.int k y)).run P w = r → (execOp a.eval o).run P w = r.andThen fun v w => .ok (.value v) w) : ValOk P E w a o d := by
  unfold binI at hd
  cases op <;> simp only [Option.some.injEq, reduceCtorEq] at hd <;> try subst hd
  case add => exact ar_ok (h (.ok (.int k (k.wrap (x + y))) w) (by simp [binOp, Op.intArith]))
  case sub => exact ar_ok (h (.ok (.int k (k.wrap (x - y))) w) (by simp [binOp, Op.intArith]))
  case mul => exact ar_ok (h (.ok (.int k (k.wrap (x * y))) w) (by simp [binOp, Op.intArith]))
  case quo =>
    obtain ⟨hy, rfl⟩ := guardO_some hd
    have hy : y ≠ 0 := by simpa using hy
    exact ⟨_, h (.ok (.int k (quoD k x y)) w) (by simp [binOp, Op.intDiv, hy, quoD]), .int _ _ _⟩
  case rem =>
    obtain ⟨hy, rfl⟩ := guardO_some hd
    have hy : y ≠ 0 := by simpa using hy
    exact ⟨_, h (.ok (.int k (x.tmod y)) w) (by simp [binOp, Op.intDiv, hy]), .int _ _ _⟩
  case and => exact ⟨_, h (.ok (.int k (bitD .and k x y)) w) (by simp [binOp, Op.intBits, bitD]), .int _ _ _⟩
  case or => exact ⟨_, h (.ok (.int k (bitD .or k x y)) w) (by simp [binOp, Op.intBits, bitD]), .int _ _ _⟩
  case xor => exact ⟨_, h (.ok (.int k (bitD .xor k x y)) w) (by simp [binOp, Op.intBits, bitD]), .int _ _ _⟩
  case andNot => exact ⟨_, h (.ok (.int k (bitD .andNot k x y)) w) (by simp [binOp, Op.intBits, bitD]), .int _ _ _⟩
  case eql => exact ⟨_, h (.ok (.bool (x == y)) w) (by simp [binOp, Op.intCmp]), .bool _ _⟩
  case neq => exact ⟨_, h (.ok (.bool (x != y)) w) (by simp [binOp, Op.intCmp]), .bool _ _⟩
  case lss => exact ⟨_, h (.ok (.bool (decide (x < y))) w) (by simp [binOp, Op.intCmp]), .bool _ _⟩
  case leq => exact ⟨_, h (.ok (.bool (decide (x ≤ y))) w) (by simp [binOp, Op.intCmp]), .bool _ _⟩
  case gtr => exact ⟨_, h (.ok (.bool (decide (x > y))) w) (by simp [binOp, Op.intCmp]), .bool _ _⟩
  case geq => exact ⟨_, h (.ok (.bool (decide (x ≥ y))) w) (by simp [binOp, Op.intCmp]), .bool _ _⟩
theorem binS_ok {op : BinOp} {x y : ByteArray} {d : DV} (hd : binS op x y = some d)
    (h : ∀ r : Result Value, (Op.stringOp op x y).run P w = r → (execOp a.eval o).run P w = r.andThen fun v w => .ok (.value v) w) : ValOk P E w a o d := by
  unfold binS at hd
  simp only [eqB_eq, ltB_eq, lenB_eq, catS_eq] at hd
  cases op <;> simp only [Option.some.injEq, reduceCtorEq] at hd <;> try subst hd
  case add =>
    obtain ⟨hc, rfl⟩ := guardO_some hd
    have hc := Nat.le_of_ble_eq_true hc
    have hm : IntKind.i64.max = 9223372036854775807 := rfl
    exact ⟨_, h (.ok (.string (x ++ y)) w) (by
      simp only [Op.stringOp, Sem.run_ite]
      rw [if_neg (by omega)]
      rfl), .str _ _⟩
  case eql => exact ⟨_, h (.ok (.bool (x.toList == y.toList)) w) (by simp [Op.stringOp]), .bool _ _⟩
  case neq => exact ⟨_, h (.ok (.bool (!(x.toList == y.toList))) w) (by simp [Op.stringOp]), .bool _ _⟩
  case lss => exact ⟨_, h (.ok (.bool (Op.bytesLess x.toList y.toList)) w) (by simp [Op.stringOp]), .bool _ _⟩
  case gtr => exact ⟨_, h (.ok (.bool (!(Op.bytesLess x.toList y.toList || x.toList == y.toList))) w) (by simp [Op.stringOp]), .bool _ _⟩
theorem eqGuard_int (op : BinOp) (t : TypeId) (x y : Operand) (k k' : IntKind) (m n : Int) : (eqGuard op t x y (.int k m) (.int k' n)).run P w = .ok () w := by
  unfold eqGuard
  cases op <;> simp
theorem eqGuard_str (op : BinOp) (t : TypeId) (x y : Operand) (m n : ByteArray) : (eqGuard op t x y (.string m) (.string n)).run P w = .ok () w := by
  unfold eqGuard
  cases op <;> simp

/-! ### Equality -/
theorem part_run {t : TypeId} {i : TI} (hi : TiOk P t i) {cs : List DV} {vs : List Value} (h : VRs E w cs vs) {off : Nat} {e : DV} (hp : partD i cs off = some e) : ∃ u, (part t vs.toArray off).run P w = .ok u w ∧ VR w E e u := by
  obtain ⟨info, d, h1, h2, h3, _, h4, _⟩ := hi
  exact part_ok h1 h2 h3 h4 h off hp
theorem load_run {t : TypeId} {i : TI} (hi : TiOk P t i) {cs : List DV} {b base : Nat} (h : Lies E w b base cs) {off : Nat} {e : DV} (hp : partD i cs off = some e) : ∃ u, (loadVar t ⟨b, base + off, none⟩).run P w = .ok u w ∧ VR w E e u := by
  obtain ⟨info, d, h1, h2, h3, _, h4, _⟩ := hi
  exact load_ok h1 h2 h3 h4 h off hp
theorem eqItems_ok {q : TypeId → DV → DV → Option Bool} {e : TypeId} {j : TI} (hj : TiOk P e j) {D : Nat}
    (hq : ∀ x y b u v, q e x y = some b → VR w E x u → VR w E y v → (Op.equalIn D e u v).run P w = .ok b w) {xs ys : List DV} {us vs : List Value} (hu : VRs E w xs us) (hv : VRs E w ys vs) :
    ∀ {l : List Nat} {b : Bool}, eqItems T q e j.size j xs ys l = some b → (Op.eqItems D e j.size us.toArray vs.toArray l).run P w = .ok b w
  | [], b, h => by cases h; simp [Op.eqItems]
  | n :: l, b, h => by
    unfold eqItems at h
    split at h
    · rename_i x y hx hy
      obtain ⟨u, h1, h2⟩ := part_run hj hu hx
      obtain ⟨v, h3, h4⟩ := part_run hj hv hy
      obtain ⟨c, d, hqq, hrest, hcd⟩ := andO_ok h
      rw [hcd]
      have h5 := hq _ _ _ _ _ hqq h2 h4
      have ih := eqItems_ok hj hq hu hv hrest
      simp only [Op.eqItems, Sem.run_bind, h1, h3, h5, Result.andThen_ok]
      cases c <;> simp [ih]
    · cases h
theorem eqFields_ok (hT : TabOk P T) {q : TypeId → DV → DV → Option Bool} {D : Nat}
    (hq : ∀ e x y b u v, q e x y = some b → VR w E x u → VR w E y v → (Op.equalIn D e u v).run P w = .ok b w) {xs ys : List DV} {us vs : List Value} (hu : VRs E w xs us) (hv : VRs E w ys vs) :
    ∀ {l : List (Nat × Nat × Nat)} {gl : List Field} {b : Bool}, l.length = gl.length → (∀ (j t off sz : Nat), l[j]? = some (t, off, sz) → ∃ f, gl[j]? = some f ∧ f.type = t ∧ f.offset = off ∧ f.name ≠ "_") →
      eqFields T q xs ys l = some b → (Op.eqFields D us.toArray vs.toArray gl).run P w = .ok b w
  | [], [], b, _, _, h => by cases h; simp [Op.eqFields]
  | [], _ :: _, b, hl, _, h => by simp at hl
  | _ :: _, [], b, hl, _, h => by simp at hl
  | (t, off, sz) :: l, g :: gl, b, hl, hg, h => by
    obtain ⟨f, hf, rfl, rfl, hn⟩ := hg 0 t off sz rfl
    simp at hf
    subst hf
    unfold eqFields at h
    split at h
    · cases h
    · rename_i i hi
      split at h
      · rename_i x y hx hy
        obtain ⟨u, h1, h2⟩ := part_run (hT _ _ hi) hu hx
        obtain ⟨v, h3, h4⟩ := part_run (hT _ _ hi) hv hy
        obtain ⟨c, d, hqq, hrest, hcd⟩ := andO_ok h
        rw [hcd]
        have h5 := hq _ _ _ _ _ _ hqq h2 h4
        have ih := eqFields_ok hT hq hu hv (by simpa using hl) (fun j t off sz hj => by simpa using hg (j + 1) t off sz (by simpa using hj)) hrest
        simp only [Op.eqFields, hn, ne_eq, not_false_eq_true, if_true, Sem.run_bind, h1, h3, h5, Result.andThen_ok]
        cases c <;> simp [ih]
      · cases h
theorem eqD_ok (hT : TabOk P T) : ∀ (f : Nat) (t : TypeId) (x y : DV) (b : Bool) (u v : Value) (D : Nat), eqD T f t x y = some b → VR w E x u → VR w E y v → (Op.equalIn (D + f) t u v).run P w = .ok b w
  | 0, t, x, y, b, u, v, D, h, _, _ => by cases h
  | f + 1, t, x, y, b, u, v, D, h, hx, hy => by
    unfold eqD at h
    split at h
    · cases h
    · rename_i i hi
      obtain ⟨info, dd, h1, h2, h3, h3', h4, h5, h6⟩ := hT _ _ hi
      split at h
      · rename_i k k1 m k2 n htd
        rw [htd] at h4
        cases dd <;> first | (simp [tdOk] at h4; done) | skip
        split at h
        · rename_i hk
          cases h
          subst hk
          rw [hx.of_int, hy.of_int]
          rw [show D + (f + 1) = (D + f) + 1 by omega]
          simp [Op.equalIn, run_underlying h2]
        · cases h
      · rename_i m n htd
        rw [htd] at h4
        cases dd <;> first | (simp [tdOk] at h4; done) | skip
        cases h
        rw [hx.of_bool, hy.of_bool]
        exact run_equalIn_bool' w (D + f) t m n h2
      · rename_i m n htd
        rw [htd] at h4
        cases dd <;> first | (simp [tdOk] at h4; done) | skip
        cases h
        rw [hx.of_str, hy.of_str, eqB_eq]
        exact run_equalIn_string w (D + f) t m n h2
      · rename_i n e xs ys htd
        rw [htd] at h4
        cases dd <;> first | (simp [tdOk] at h4; done) | skip
        obtain ⟨rfl, rfl⟩ := h4
        split at h
        · rename_i j hj
          obtain ⟨einfo, ed, e1, e2, e3, _⟩ := hT _ _ hj
          obtain ⟨us, rfl, hu⟩ := hx.of_agg
          obtain ⟨vs, rfl, hv⟩ := hy.of_agg
          have hc : P.cellsOf e = j.size := by simp [Program.cellsOf, e1, e3]
          rw [show D + (f + 1) = (D + f) + 1 by omega, run_equalIn_array w (D + f) us.toArray vs.toArray h2 e1, hc, List.range_eq_range']
          exact eqItems_ok (hT _ _ hj) (fun x y b u v hq hx hy => eqD_ok hT f e x y b u v D hq hx hy) hu hv h
        · cases h
      · rename_i fs xs ys htd
        rw [htd] at h4
        cases dd <;> first | (simp [tdOk] at h4; done) | skip
        rename_i gs
        split at h
        · rename_i hcmp
          obtain ⟨us, rfl, hu⟩ := hx.of_agg
          obtain ⟨vs, rfl, hv⟩ := hy.of_agg
          have hfo : P.fieldsOf t = gs := by simp [Program.fieldsOf, h2]
          rw [show D + (f + 1) = (D + f) + 1 by omega, run_equalIn_struct w (D + f) t us.toArray vs.toArray (by rw [hfo]; exact h2) (h6 hcmp).2, hfo]
          exact eqFields_ok hT (fun e x y b u v hq hx hy => eqD_ok hT f e x y b u v D hq hx hy) hu hv (by simpa using h4.1) (fun j t off sz hj => by
            obtain ⟨fl, q1, q2, q3, q4, q5, q6⟩ := h4.2 j t off sz hj
            exact ⟨fl, by simpa using q1, q2, q3, q6⟩) h
        · cases h
      · cases h
theorem orB_some {a b : Option Bool} {r : Bool} (h : orB a b = some r) : a = some r ∨ b = some r := by
  cases a with
  | some x => exact .inl h
  | none => exact .inr h
theorem boolOp_some {op : BinOp} {b : Option Bool} {d : DV} (h : boolOp op b = some d) : ∃ x, b = some x ∧ ((op = .eql ∧ d = .bool x) ∨ (op = .neq ∧ d = .bool (!x))) := by
  unfold boolOp at h
  split at h
  · cases h; exact ⟨_, rfl, .inl ⟨rfl, rfl⟩⟩
  · cases h; exact ⟨_, rfl, .inr ⟨rfl, rfl⟩⟩
  · cases h
theorem eqNil_ok {t : TypeId} {i : TI} (hi : TiOk P t i) {x y : DV} {u v : Value} (hx : VR w E x u) (hy : VR w E y v) {b : Bool} (h : eqNil i x y = some b) (D : Nat) : (Op.equalIn (D + 1) t u v).run P w = .ok b w := by
  obtain ⟨info, dd, h1, h2, h3, h3', h4, h5, h6⟩ := hi
  unfold eqNil at h
  split at h <;> first | (cases h; done) | skip
  all_goals
    rename_i htd
    rw [htd] at h4
    cases dd <;> first | (simp [tdOk] at h4; done) | skip
    cases h
    first
      | (cases hx; cases hy; simp [Op.equalIn, run_underlying h2]; done)
      | (obtain ⟨A, c, b', off, g, rfl, _, _, _, hA, _⟩ := hx.of_list
         obtain ⟨rfl, _⟩ := hA (by simp)
         cases hy
         simp [Op.equalIn, run_underlying h2]
         done)
      | (obtain ⟨A, c, b', off, g, rfl, _, _, _, hA, _⟩ := hy.of_list
         obtain ⟨rfl, _⟩ := hA (by simp)
         cases hx
         simp [Op.equalIn, run_underlying h2]
         done)
theorem eqGuard_cmp (op : BinOp) (t : TypeId) (x y : Operand) {u v : Value} (hg : P.eqGuardType P.depth t = false) (hu : u ≠ .nilIface) : (eqGuard op t x y u v).run P w = .ok () w := by
  unfold eqGuard
  cases op <;> simp
  all_goals
    split
    · exact absurd rfl hu
    · simp [hg]
    · simp
def cmpV : Value → Bool
  | .bool _ | .slice _ _ _ | .pointer _ | .func _ _ _ | .nilFunc | .agg _ => true
  | _ => false
theorem eqD_shape {f : Nat} {t : TypeId} {x y : DV} {b : Bool} (h : eqD T f t x y = some b) : (∃ k m n, x = .int k m ∧ y = .int k n) ∨ (∃ m n, x = .str m ∧ y = .str n) ∨ (∃ m n, x = .bool m ∧ y = .bool n) ∨ (∃ m n, x = .agg m ∧ y = .agg n) := by
  cases f with
  | zero => cases h
  | succ f =>
    unfold eqD at h
    split at h
    · cases h
    · split at h
      · split at h
        · rename_i hk
          subst hk
          exact .inl ⟨_, _, _, rfl, rfl⟩
        · cases h
      · exact .inr (.inr (.inl ⟨_, _, rfl, rfl⟩))
      · exact .inr (.inl ⟨_, _, rfl, rfl⟩)
      · exact .inr (.inr (.inr ⟨_, _, rfl, rfl⟩))
      · exact .inr (.inr (.inr ⟨_, _, rfl, rfl⟩))
      · cases h
theorem eqNil_shape {i : TI} {x y : DV} {u v : Value} {b : Bool} (h : eqNil i x y = some b) (hx : VR w E x u) (hy : VR w E y v) : cmpV u = true ∧ cmpV v = true := by
  unfold eqNil at h
  split at h <;> first | (cases h; done) | (cases hx; cases hy; exact ⟨rfl, rfl⟩)
theorem binOp_cmp (t : TypeId) {u v : Value} {b : Bool} (hu : cmpV u = true) (hv : cmpV v = true) (h : (Op.equalIn 10000 t u v).run P w = .ok b w) : (binOp .eql t u v).run P w = .ok (.bool b) w ∧ (binOp .neq t u v).run P w = .ok (.bool (!b)) w := by
  have h' : (Op.equal t u v).run P w = .ok b w := h
  have e1 : binOp .eql t u v = (do pure (.bool (← Op.equal t u v)) : Sem Value) := by
    cases u <;> first | (cases hu; done) | skip
    all_goals (cases v <;> first | (cases hv; done) | rfl)
  have e2 : binOp .neq t u v = (do pure (.bool (!(← Op.equal t u v))) : Sem Value) := by
    cases u <;> first | (cases hu; done) | skip
    all_goals (cases v <;> first | (cases hv; done) | rfl)
  rw [e1, e2]
  constructor
  · simp [h']
  · simp [h']
theorem bin_ok (hT : TabOk P T) {op : BinOp} {t yt : TypeId} {x y : Operand} (ho : o.op = .binOp op t x y yt) {d e r : DV} (hx : VR w E d (a.eval x)) (hy : VR w E e (a.eval y)) (hr : binD T op t d e = some r) : ValOk P E w a o r := by
  unfold binD at hr
  split at hr
  · rename_i k m k' n
    have hx := hx.of_int
    have hy := hy.of_int
    split at hr
    · rename_i hs
      obtain ⟨hn, rfl⟩ := guardO_some hr
      have hn' : ¬ n < 0 := by have := of_decide_eq_true hn; omega
      cases op <;> first | (simp [isShift] at hs; done) | skip
      · exact ⟨.int k (shlD k m n), by simp [execOp, ho, hx, hy, eqGuard_int, binOp, Op.shift, hn', shlD], .int _ _ _⟩
      · exact ⟨.int k (shrD k m n), by simp [execOp, ho, hx, hy, eqGuard_int, binOp, Op.shift, hn', shrD], .int _ _ _⟩
    · rename_i hs
      split at hr
      · rename_i hk
        subst hk
        refine binI_ok hr fun r' hr' => ?_
        have hb : (binOp op t (.int k m) (.int k n)).run P w = r' := by
          rw [← hr']
          cases op <;> rfl
        simp only [execOp, ho, hx, hy, Sem.run_bind, eqGuard_int, Result.andThen_ok, hb]
        rfl
      · cases hr
  · rename_i m n
    have hx := hx.of_str
    have hy := hy.of_str
    refine binS_ok hr fun r' hr' => ?_
    have hb : (binOp op t (.string m) (.string n)).run P w = r' := by
      rw [← hr']
      cases op <;> rfl
    simp only [execOp, ho, hx, hy, Sem.run_bind, eqGuard_str, Result.andThen_ok, hb]
    rfl
  · rename_i hni hns
    split at hr
    · rename_i i hi
      split at hr
      · rename_i hcmp
        have hti := hT _ _ hi
        have hg := (hti.choose_spec.choose_spec.2.2.2.2.2.2 hcmp).1
        obtain ⟨b, hb, hd⟩ := boolOp_some hr
        have key : cmpV (a.eval x) = true ∧ cmpV (a.eval y) = true ∧ (Op.equalIn 10000 t (a.eval x) (a.eval y)).run P w = .ok b w := by
          rcases orB_some hb with h | h
          · obtain ⟨h1, h2⟩ := eqNil_shape h hx hy
            exact ⟨h1, h2, eqNil_ok hti hx hy h 9999⟩
          · have h3 := eqD_ok hT 20 t d e b _ _ 9980 h hx hy
            rcases eqD_shape h with ⟨k, m, n, rfl, rfl⟩ | ⟨m, n, rfl, rfl⟩ | ⟨m, n, rfl, rfl⟩ | ⟨m, n, rfl, rfl⟩
            · exact (hni _ _ _ _ rfl rfl).elim
            · exact (hns _ _ rfl rfl).elim
            · exact ⟨by rw [hx.of_bool]; rfl, by rw [hy.of_bool]; rfl, h3⟩
            · obtain ⟨us, h1, _⟩ := hx.of_agg
              obtain ⟨vs, h2, _⟩ := hy.of_agg
              exact ⟨by rw [h1]; rfl, by rw [h2]; rfl, h3⟩
        obtain ⟨k1, k2, k3⟩ := key
        obtain ⟨q1, q2⟩ := binOp_cmp t k1 k2 k3
        have hgu := eqGuard_cmp (w := w) op t x y (u := a.eval x) (v := a.eval y) hg (fun e => by rw [e] at k1; cases k1)
        rcases hd with ⟨rfl, rfl⟩ | ⟨rfl, rfl⟩
        · exact ⟨.bool b, by simp [execOp, ho, hgu, q1], .bool _ _⟩
        · exact ⟨.bool (!b), by simp [execOp, ho, hgu, q2], .bool _ _⟩
      · cases hr
    · cases hr
theorem un_ok {op : UnOp} {t : TypeId} {x : Operand} (ho : o.op = .unOp op t x) {d r : DV} (hx : VR w E d (a.eval x)) (hr : unD op d = some r) : ValOk P E w a o r := by
  unfold unD at hr
  split at hr
  · rename_i b
    have hx := hx.of_bool
    cases op <;> first | (cases hr; done) | skip
    cases hr
    exact ⟨.bool (!b), by simp [execOp, ho, hx, Op.unary], .bool _ _⟩
  · rename_i k n
    have hx := hx.of_int
    cases op <;> first | (cases hr; done) | skip
    · cases hr
      exact ar_ok (by simp [execOp, ho, hx, Op.unary, Op.intArith])
    · cases hr
      refine ⟨.int k (bitD .xor k (match k.signed with | true => -1 | false => k.max) n), ?_, .int _ _ _⟩
      cases hk : k.signed <;> simp [execOp, ho, hx, Op.unary, Op.intBits, bitD, hk]
  · cases hr
end
end Go.Proofs.Ytgjgihlfkpbdgaa
/- Steps of the heap of objects. No function of the program is named here. -/
namespace Go.Proofs.Ytgjgihlfkpbdgaa
open Go.RowKit

theorem run_storeCells_bx (P : Program) (g o : Nat) (t : TypeId) (lo hi : Nat) : ∀ (vs : List Value) (i : Nat) (cur : Array Value) (w : World), w.heap[g]? = some (.cells cur t (lo, hi)) → (hi = 0 ∨ cur.size ≤ lo) → o + i + vs.length ≤ cur.size → (∀ v ∈ vs, v.oneCell' = true) →
    (storeCells ⟨g, o, none⟩ vs i).run P w = .ok () (w.setRow g (cur.toList.take (o + i) ++ vs ++ cur.toList.drop (o + i + vs.length)).toArray)
  | [], i, cur, w, hg, _, _, _ => by
    simp only [storeCells, List.append_nil, List.length_nil, Nat.add_zero, List.take_append_drop, Array.toArray_toList]
    rw [setRow_self w g cur t (lo, hi) hg]
    rfl
  | v :: rest, i, cur, w, hg, hm, hl, h1 => by
    have hi' : o + i < cur.size := by simp at hl; omega
    have hcell : w.cell? ⟨g, o + i, none⟩ = some cur[o + i] := by simp [World.cell?, hg, hi']
    have hfro : w.frozen? ⟨g, o + i, none⟩ = false := by
      simp only [World.frozen?, hg, Bool.and_eq_false_iff, decide_eq_false_iff_not]
      omega
    have hst : (store ((⟨g, o, none⟩ : Addr).add i) v).run P w = .ok () (w.setRow g (cur.setIfInBounds (o + i) v)) := by
      rw [add_none, run_store P w _ v _ (h1 v (by simp)), hcell]
      simp [hfro, setCell_eq_setRow w g (o + i) cur t (lo, hi) v hg]
    have ih := run_storeCells_bx P g o t lo hi rest (i + 1) (cur.setIfInBounds (o + i) v) (w.setRow g (cur.setIfInBounds (o + i) v)) (setRow_heap w g cur _ t _ hg) (by simpa using hm) (by simp at hl ⊢; omega) (fun x hx => h1 x (by simp [hx]))
    simp only [storeCells, Sem.run_bind, hst, Result.andThen_ok, ih, setRow_setRow]
    congr 3
    have e := list_seg_step cur.toList (o + i) v rest (by simp at hl ⊢; omega)
    simpa [Array.toList_setIfInBounds, Nat.add_assoc] using e

/-- cells laid over others -/
def layV (old : List Value) (off : Nat) (cs : List Value) : List Value := old.take off ++ cs ++ old.drop (off + cs.length)
theorem layV_length {old : List Value} {off : Nat} {cs : List Value} (h : off + cs.length ≤ old.length) : (layV old off cs).length = old.length := by
  simp [layV]
  omega
theorem layD_length {old : List DV} {off : Nat} {cs : List DV} (h : off + cs.length ≤ old.length) : (layD old off cs).length = old.length := by
  simp [layD]
  omega
theorem layV_drop {old : List Value} {off k : Nat} {cs : List Value} (hk : k ≤ off) (h : off + cs.length ≤ old.length) : (layV old off cs).drop k = layV (old.drop k) (off - k) cs := by
  unfold layV
  rw [List.append_assoc, List.drop_append_of_le_length (by simp; omega), List.drop_take, List.drop_drop, List.append_assoc]
  congr 3
  omega
theorem layV_take {old : List Value} {off k : Nat} {cs : List Value} (hk : off + cs.length ≤ k) (h : off + cs.length ≤ old.length) : (layV old off cs).take k = layV (old.take k) off cs := by
  unfold layV
  have h1 : (old.take off ++ cs).length = off + cs.length := by simp; omega
  rw [List.take_append, h1, List.take_of_length_le (by omega), List.take_take, List.drop_take, Nat.min_eq_left (by omega)]
theorem layV_before {old : List Value} {off k : Nat} {cs : List Value} (hk : k ≤ off) (h : off + cs.length ≤ old.length) : (layV old off cs).take k = old.take k := by
  unfold layV
  rw [List.append_assoc, List.take_append_of_le_length (by simp; omega), List.take_take, Nat.min_eq_left hk]
theorem VRs.lay {E : Env} {w : World} {ds es : List DV} {vs us : List Value} (h : VRs E w ds vs) (k : VRs E w es us) (off : Nat) : VRs E w (layD ds off es) (layV vs off us) := by
  unfold layD layV
  rw [k.1]
  exact ((h.take off).append k).append (h.drop _)

theorem scals_lay {a b : List DV} (ha : scals a = true) (hb : scals b = true) (off : Nat) : scals (layD a off b) = true := by
  unfold layD
  rw [scals_append, scals_append, hb, scals_sub ha (fun d hd => List.mem_of_mem_take hd), scals_sub ha (fun d hd => List.mem_of_mem_drop hd)]
  rfl
section
variable {W0 : World} {base : Nat} {S0 : Nat → Prop} {E : Env} {hp : Hp} {w : World}
structure Stp (W0 : World) (base : Nat) (S0 : Nat → Prop) (E : Env) (hp : Hp) (w : World) (E' : Env) (hp' : Hp) (w' : World) : Prop where
  later : Later E w E' w'
  hs : HS W0 base S0 E' hp' w'
  ext : Ext base hp hp'
  dom : ∀ id, id < hp.n → E'.D id → E.D id
  oth : Oth w w'
  yb : E'.yb = E.yb
theorem Stp.refl (h : HS W0 base S0 E hp w) : Stp W0 base S0 E hp w E hp w := ⟨Later.refl _ _, h, Ext.refl _ _, fun _ _ h => h, Oth.refl _, rfl⟩
theorem Stp.trans {E1 E2 : Env} {hp1 hp2 : Hp} {w1 w2 : World} (h : Stp W0 base S0 E hp w E1 hp1 w1) (k : Stp W0 base S0 E1 hp1 w1 E2 hp2 w2) : Stp W0 base S0 E hp w E2 hp2 w2 := ⟨h.later.trans k.later, k.hs, h.ext.trans k.ext, fun id hid hd => h.dom id hid (k.dom id (Nat.lt_of_lt_of_le hid h.ext.1) hd), h.oth.trans k.oth, k.yb.trans h.yb⟩
/-- what is a loop's or deferred calls' is no cells -/
theorem isO_lt {w : World} {k : Nat} (h : (∃ r, w.heap[k]? = some (Obj.loop r)) ∨ (∃ x, w.heap[k]? = some (Obj.deferred x))) : k < w.heap.size := by
  rcases h with ⟨r, h⟩ | ⟨x, h⟩ <;> exact (Array.getElem?_eq_some_iff.1 h).1
theorem isO_ne {w : World} {k b : Nat} {c : Array Value} {t : TypeId} {m : Nat × Nat} (h : (∃ r, w.heap[k]? = some (Obj.loop r)) ∨ (∃ x, w.heap[k]? = some (Obj.deferred x))) (hb : w.heap[b]? = some (.cells c t m)) : k ≠ b := by
  intro e
  subst e
  rw [hb] at h
  rcases h with ⟨r, h⟩ | ⟨x, h⟩ <;> cases h
def Env.add (E : Env) (id b bs sz : Nat) (X : Prop) : Env :=
  ⟨E.S, fun i => if i = id then b else E.b i, fun i => if i = id then bs else E.base i, fun i => if i = id then sz else E.sz i, fun i => (i = id ∧ X) ∨ (i ≠ id ∧ E.X i), fun i => E.D i ∨ i = id, E.yb⟩
theorem HS.fresh (h : HS W0 base S0 E hp w) : ¬ E.D hp.n := fun hd => by
  obtain ⟨o, ho, _⟩ := h.ob _ hd
  have := Hp.get_lt ho
  omega
theorem HS.dlt (h : HS W0 base S0 E hp w) {id : Nat} (hd : E.D id) : id < hp.n := by
  obtain ⟨o, ho, _⟩ := h.ob _ hd
  exact Hp.get_lt ho
theorem Env.later_add {w' : World} (E : Env) (w : World) (id b bs sz : Nat) (X : Prop) (hn : ¬ E.D id) (hc : ∀ p : Addr, E.S p.block → w'.cell? p = w.cell? p) : Later E w (E.add id b bs sz X) w' :=
  ⟨fun _ h => h, fun i hd => by
    have hne : i ≠ id := fun e => hn (e ▸ hd)
    exact ⟨.inl hd, if_neg hne, if_neg hne, if_neg hne, ⟨fun h => h.elim (fun h => absurd h.1 hne) (·.2), fun h => .inr ⟨hne, h⟩⟩⟩, hc, fun _ _ h => h⟩
theorem Env.add_at (E : Env) (id b bs sz : Nat) (X : Prop) : (E.add id b bs sz X).D id ∧ (E.add id b bs sz X).b id = b ∧ (E.add id b bs sz X).base id = bs ∧ (E.add id b bs sz X).sz id = sz ∧ ((E.add id b bs sz X).X id ↔ X) :=
  ⟨.inr rfl, if_pos rfl, if_pos rfl, if_pos rfl, ⟨fun h => h.elim (·.2) (fun h => absurd rfl h.1), fun h => .inl ⟨rfl, h⟩⟩⟩
theorem Env.add_other (E : Env) {id i : Nat} (b bs sz : Nat) (X : Prop) (hne : i ≠ id) : (E.add id b bs sz X).b i = E.b i ∧ (E.add id b bs sz X).base i = E.base i ∧ (E.add id b bs sz X).sz i = E.sz i ∧ ((E.add id b bs sz X).X i ↔ E.X i) ∧ ((E.add id b bs sz X).D i ↔ E.D i) :=
  ⟨if_neg hne, if_neg hne, if_neg hne, ⟨fun h => h.elim (fun h => absurd h.1 hne) (·.2), fun h => .inr ⟨hne, h⟩⟩, ⟨fun h => h.resolve_right hne, .inl⟩⟩

/-- a new block, a new object -/
theorem stp_push (h : HS W0 base S0 E hp w) {w' : World} {t : TypeId} {vs : List Value} {lo hi : Nat} (hw : w'.heap = w.heap.push (.cells vs.toArray t (lo, hi))) (hm : hi = 0 ∨ vs.length ≤ lo) (h1 : w'.os = w.os) (h2 : w'.tape = w.tape) (h3 : w'.output = w.output)
    (k r : Nat) {cs : List DV} (hl : cs.length ≤ vs.length) (hcs : VRs E w cs (vs.take cs.length)) (hsc : scals cs = true) (hm2 : hi = 0 → lo = 0 := by first | exact fun _ => rfl | (intro h; simp at h)) :
    Stp W0 base S0 E hp w (E.add hp.n w.heap.size 0 vs.length (k = 0)) (hp.push ⟨k, r, t, cs⟩) w' := by
  have hold : ∀ i, i < w.heap.size → w'.heap[i]? = w.heap[i]? := fun i hi => by rw [hw, Array.getElem?_push, if_neg (by omega)]
  have hcell : ∀ p : Addr, E.S p.block → w'.cell? p = w.cell? p := fun p hp => World.cell?_of_block (hold _ (h.ro _ hp))
  have hlater := Env.later_add E w hp.n w.heap.size 0 vs.length (k = 0) h.fresh hcell
  obtain ⟨a1, a2, a3, a4, a5⟩ := Env.add_at E hp.n w.heap.size 0 vs.length (k = 0)
  have hcase : ∀ i, (E.add hp.n w.heap.size 0 vs.length (k = 0)).D i → i = hp.n ∨ (i ≠ hp.n ∧ E.D i) := fun i hd => by
    by_cases e : i = hp.n
    · exact .inl e
    · exact .inr ⟨e, hd.resolve_right e⟩
  refine ⟨hlater, ⟨?_, fun i hd => ?_, fun i hd hb => ?_, fun i hd hb => ?_, fun i j oi oj hdi hdj hne hb hoi hoj hk2 he => ?_, fun b hs => ?_, h.olds, by simp [Hp.push]; have := h.le; omega, h.ys.keep hlater rfl rfl (by simp [Hp.push]) fun k hk => hold k (isO_lt hk)⟩, ⟨by simp [Hp.push], fun i hi => ?_, fun _ => rfl, fun _ _ => rfl⟩, fun i hi hd => hd.resolve_right (by omega), ⟨by rw [hw]; simp, fun k x hk => (hold k (isO_lt (.inr ⟨x, hk⟩))).trans hk, fun k r hk => ⟨r, (hold k (isO_lt (.inl ⟨r, hk⟩))).trans hk, rfl⟩⟩, rfl⟩
  · refine h.bel.trans ⟨h1, h2, h3, by rw [hw]; simp, fun i hi => ?_⟩
    have := h.bel.size
    exact hold i (by omega)
  · rcases hcase i hd with rfl | ⟨hne, hd⟩
    · refine ⟨_, by rw [Hp.get_push, if_pos rfl], a5.symm, hsc, vs, ?_, a4.symm, by rw [a3]; simp; omega, ?_⟩
      · rw [a2]
        exact ⟨lo, hi, by rw [hw]; simp, hm, hm2⟩
      · rw [a3]
        exact (by simpa using hcs : VRs E w cs ((vs.drop 0).take cs.length)).later hlater
    · obtain ⟨o, ho, hok⟩ := h.ob i hd
      exact ⟨o, by rw [Hp.get_push, if_neg hne]; exact ho, hok.keep hd hlater (hold _ hok.lt)⟩
  · rcases hcase i hd with rfl | ⟨hne, hd⟩
    · rw [a2]
      exact ⟨h.bel.size, fun hs => Nat.lt_irrefl _ (h.ro _ hs)⟩
    · rw [(Env.add_other E _ _ _ _ hne).1]
      exact h.own i hd hb
  · rcases hcase i hd with rfl | ⟨hne, hd⟩
    · have := h.le
      omega
    · rw [(Env.add_other E _ _ _ _ hne).1]
      exact h.old i hd hb
  · rw [Hp.get_push] at hoi hoj
    rcases hcase i hdi with rfl | ⟨hni, hdi⟩ <;> rcases hcase j hdj with rfl | ⟨hnj, hdj⟩
    · exact absurd rfl hne
    · rw [a2, (Env.add_other E _ _ _ _ hnj).1] at he
      obtain ⟨o, _, hok⟩ := h.ob j hdj
      have := hok.lt
      omega
    · rw [a2, (Env.add_other E _ _ _ _ hni).1] at he
      obtain ⟨o, _, hok⟩ := h.ob i hdi
      have := hok.lt
      omega
    · rw [if_neg hni] at hoi
      rw [if_neg hnj] at hoj
      rw [(Env.add_other E _ _ _ _ hni).1, (Env.add_other E _ _ _ _ hnj).1] at he
      rw [(Env.add_other E _ _ _ _ hni).2.1, (Env.add_other E _ _ _ _ hnj).2.1]
      exact h.inj i j oi oj hdi hdj hne hb hoi hoj hk2 he
  · have := h.ro b hs
    rw [hw]
    simp
    omega
  · have := h.le
    rw [Hp.get_push, if_neg (by omega)]

theorem storeH_some {id off : Nat} {cs : List DV} {r : Hp × Mut} (h : storeH hp id off cs = some r) : ∃ o, hp.get id = some o ∧ off + cs.length ≤ o.cs.length ∧ o.k ≠ 2 ∧
    ((o.k = 3 ∧ r = ((hp.kill o.r).put id ⟨1, o.r, o.t, layD o.cs off cs⟩, mmin (some o.r) (some id))) ∨ (o.k ≠ 3 ∧ r = (hp.put id ⟨o.k, o.r, o.t, layD o.cs off cs⟩, some id))) := by
  unfold storeH at h
  split at h
  · rename_i o ho
    split at h
    · rename_i hb hk
      cases h
      exact ⟨o, ho, Nat.le_of_ble_eq_true hb, by omega, .inl ⟨hk, rfl⟩⟩
    · cases h
    · rename_i hb h3 h2
      cases h
      exact ⟨o, ho, Nat.le_of_ble_eq_true hb, h2, .inr ⟨h3, rfl⟩⟩
    · cases h
  · cases h
/-- a store into an object -/
theorem stp_store (h : HS W0 base S0 E hp w) {id off : Nat} {cs : List DV} {hp' : Hp} {mu : Mut} (hst : storeH hp id off cs = some (hp', mu)) (hmu : mutOk base mu) (hd : E.D id) {us : List Value} (hu : VRs E w cs us) (P : Program) (hsc : scals cs = true) :
    ∃ w', (storeCells ⟨E.b id, E.base id + off, none⟩ us).run P w = .ok () w' ∧ Stp W0 base S0 E hp w E hp' w' := by
  obtain ⟨o, ho, hle, hk2, hcase⟩ := storeH_some hst
  obtain ⟨o', ho', hx, hsc0, vs, ⟨lo, hi, hb, hm, hm2⟩, hsz, hbl, hvs⟩ := h.ob id hd
  rw [ho] at ho'
  cases ho'
  have h1 := scals_one hu hsc
  have hbid : base ≤ id := by
    rcases hcase with ⟨_, he⟩ | ⟨_, he⟩ <;> (injection he with _ he; subst he)
    · exact (mutOk_mmin hmu).2
    · exact hmu
  obtain ⟨hW, hS⟩ := h.own id hd hbid
  have hul : us.length = cs.length := hu.1.symm
  have hrun := run_storeCells_bx P (E.b id) (E.base id + off) o.t lo hi us 0 vs.toArray w hb (by simpa using hm) (by simp; omega) h1
  simp only [Nat.add_zero] at hrun
  refine ⟨_, hrun, ?_⟩
  have hnew : (vs.toArray.toList.take (E.base id + off) ++ us ++ vs.toArray.toList.drop (E.base id + off + us.length)) = layV vs (E.base id + off) us := by simp [layV]
  rw [hnew]
  generalize hwq : w.setRow (E.b id) (layV vs (E.base id + off) us).toArray = w'
  have hoth : ∀ k, k ≠ E.b id → w'.heap[k]? = w.heap[k]? := fun k hk => by rw [← hwq]; exact setRow_other w _ _ _ hk
  have hat : w'.heap[E.b id]? = some (.cells (layV vs (E.base id + off) us).toArray o.t (lo, hi)) := by rw [← hwq]; exact setRow_heap w _ _ _ _ _ hb
  have hlater : Later E w E w' := ⟨fun _ h => h, fun _ h => ⟨h, rfl, rfl, rfl, Iff.rfl⟩, fun p hp => World.cell?_of_block (hoth _ (fun e => hS (e ▸ hp))), fun _ _ h => h⟩
  have hsize : w'.heap.size = w.heap.size := by rw [← hwq]; simp
  have hlen : (layV vs (E.base id + off) us).length = vs.length := layV_length (by omega)
  -- the objects of the new heap
  have hget : ∀ j oj, hp'.get j = some oj → (j = id ∧ oj.t = o.t ∧ oj.cs = layD o.cs off cs ∧ oj.k ≠ 2 ∧ (oj.k = 0 ↔ o.k = 0) ∧ (oj.k = 3 → False) ∧ True) ∨ (j ≠ id ∧ ∃ o0, hp.get j = some o0 ∧ oj.k = o0.k ∧ oj.r = o0.r ∧ oj.t = o0.t ∧ (oj = o0 ∨ (oj = o0.dead)) ∧ (o0.k = 2 → o.k = 3 → o.r ≤ j → oj.cs = [])) := by
    intro j oj hj
    rcases hcase with ⟨hk, he⟩ | ⟨hk, he⟩ <;> (injection he with he1 he2; subst he1)
    · have hgk : (hp.kill o.r).get id = some o := by
        rw [Hp.get_kill, ho]
        simp [Ob.dead, hk2]
      rw [Hp.get_put _ _ _ _ hgk] at hj
      by_cases e : j = id
      · rw [if_pos e] at hj
        cases hj
        exact .inl ⟨e, rfl, rfl, by simp, by simp [hk], by simp, trivial⟩
      · rw [if_neg e, Hp.get_kill] at hj
        refine .inr ⟨e, ?_⟩
        by_cases hr : o.r ≤ j
        · rw [if_pos hr] at hj
          cases hg : hp.get j with
          | none => rw [hg] at hj; cases hj
          | some o0 =>
            rw [hg] at hj
            cases hj
            refine ⟨o0, rfl, ?_, ?_, ?_, .inr rfl, fun h2 _ _ => by simp [Ob.dead, h2]⟩
            all_goals (unfold Ob.dead; split <;> simp_all)
        · rw [if_neg hr] at hj
          exact ⟨oj, hj, rfl, rfl, rfl, .inl rfl, fun _ _ h => absurd h hr⟩
    · rw [Hp.get_put _ _ _ _ ho] at hj
      by_cases e : j = id
      · rw [if_pos e] at hj
        cases hj
        exact .inl ⟨e, rfl, rfl, hk2, Iff.rfl, fun h => absurd h hk, trivial⟩
      · rw [if_neg e] at hj
        exact .inr ⟨e, oj, hj, rfl, rfl, rfl, .inl rfl, fun _ h => absurd h hk⟩
  have hdom : ∀ j oj, hp.get j = some oj → ∃ oj', hp'.get j = some oj' := by
    intro j oj hj
    rcases hcase with ⟨hk, he⟩ | ⟨hk, he⟩ <;> (injection he with he1 he2; subst he1)
    · have hgk : (hp.kill o.r).get id = some o := by
        rw [Hp.get_kill, ho]
        simp [Ob.dead, hk2]
      rw [Hp.get_put _ _ _ _ hgk, Hp.get_kill, hj]
      by_cases e : j = id
      · exact ⟨_, if_pos e⟩
      · rw [if_neg e]
        by_cases hr : o.r ≤ j
        · exact ⟨_, if_pos hr⟩
        · exact ⟨_, if_neg hr⟩
    · rw [Hp.get_put _ _ _ _ ho, hj]
      by_cases e : j = id
      · exact ⟨_, if_pos e⟩
      · exact ⟨_, if_neg e⟩
  have hn : hp'.n = hp.n := by
    rcases hcase with ⟨hk, he⟩ | ⟨hk, he⟩ <;> (injection he with he1 he2; subst he1; rfl)
  have hls : hp'.ls = hp.ls := by
    rcases hcase with ⟨hk, he⟩ | ⟨hk, he⟩ <;> (injection he with he1 he2; subst he1; rfl)
  refine ⟨hlater, ⟨?_, fun j hdj => ?_, h.own, h.old, fun i j oi oj hdi hdj hne hbi hoi hoj hki he => ?_, fun b hb => by rw [hsize]; exact h.ro b hb, h.olds, by rw [hn]; exact h.le, h.ys.keep hlater rfl hls (by rw [hn]; exact Nat.le_refl _) fun k hk => hoth k (isO_ne hk hb)⟩, ⟨by rw [hn]; exact Nat.le_refl _, fun j hj => ?_, fun _ => (by rw [hls]), fun _ _ => (by rw [hls])⟩, fun _ _ h => h, ⟨by rw [hsize]; exact Nat.le_refl _, fun k x hk => (hoth k (isO_ne (.inr ⟨x, hk⟩) hb)).trans hk, fun k r hk => ⟨r, (hoth k (isO_ne (.inl ⟨r, hk⟩) hb)).trans hk, rfl⟩⟩, rfl⟩
  · refine h.bel.trans ⟨?_, ?_, ?_, by rw [hsize]; exact Nat.le_refl _, fun k hk => hoth k (by omega)⟩ <;> (rw [← hwq]; rfl)
  · obtain ⟨o0, ho0, hok0⟩ := h.ob j hdj
    obtain ⟨oj, hoj⟩ := hdom j o0 ho0
    refine ⟨oj, hoj, ?_⟩
    rcases hget j oj hoj with ⟨rfl, e1, e2, e3, e4, _⟩ | ⟨hne, o1, ho1, e1, e2, e3, e4, e5⟩
    · refine ⟨e4.trans hx, by rw [e2]; exact scals_lay hsc0 hsc off, layV vs (E.base j + off) us, ⟨lo, hi, by rw [e1]; exact hat, by rw [hlen]; exact hm, hm2⟩, hlen.trans hsz, by rw [e2, layD_length hle, hlen]; exact hbl, ?_⟩
      rw [e2, layD_length hle, layV_drop (by omega) (by omega), show E.base j + off - E.base j = off by omega]
      rw [layV_take (by omega) (by simp; omega)]
      exact (hvs.lay hu off).later hlater
    · rw [ho0] at ho1
      cases ho1
      by_cases hbe : E.b j = E.b id
      · -- another object of the same block
        obtain ⟨q1, q2⟩ := h.inj id j o o0 hd hdj (fun e => hne e.symm) hbid ho ho0 hk2 hbe.symm
        have hcs0 : oj.cs = [] := by
          rcases q2 with q2 | ⟨q2, q3, q4⟩
          · rcases e4 with rfl | rfl
            · exact q2
            · simp [Ob.dead, q1]
          · exact e5 q1 q2 q3
        obtain ⟨hx0, hsq0, vs0, ⟨lo0, hi0, hb0, hm0⟩, hsz0, hbl0, hvs0⟩ := hok0
        rw [hbe, hb] at hb0
        injection hb0 with hb0
        injection hb0 with hb1 hb2 hb3
        have hvv : vs0 = vs := by
          have := congrArg Array.toList hb1
          simpa using this.symm
        subst hvv
        refine ⟨by rw [e1]; exact hx0, by rw [hcs0]; rfl, layV vs0 (E.base id + off) us, ⟨lo, hi, by rw [hbe, e3, ← hb2]; exact hat, by rw [hlen]; exact hm, hm2⟩, hlen.trans hsz0, by rw [hcs0, hlen]; simp; omega, by rw [hcs0]; simpa using VRs.nil E w'⟩
      · rcases e4 with rfl | rfl
        · exact hok0.keep hdj hlater (hoth _ hbe)
        · exact (hok0.keep hdj hlater (hoth _ hbe)).dead
  · rcases hget i oi hoi with ⟨rfl, e1, e2, e3, e4, e5, _⟩ | ⟨hni, o1, ho1, e1, e2, e3, e4, e5⟩ <;> rcases hget j oj hoj with ⟨rfl, f1, f2, f3, f4, f5, _⟩ | ⟨hnj, o2, ho2, f1, f2, f3, f4, f5⟩
    · exact absurd rfl hne
    · obtain ⟨q1, q2⟩ := h.inj i j o o2 hdi hdj hne hbi ho ho2 hk2 he
      refine ⟨f1.trans q1, .inl ?_⟩
      rcases q2 with q2 | ⟨q2, q3, q4⟩
      · rcases f4 with rfl | rfl
        · exact q2
        · simp [Ob.dead, q1]
      · exact f5 q1 q2 q3
    · obtain ⟨q1, q2⟩ := h.inj i j o1 o hdi hdj hne hbi ho1 ho (by rw [← e1]; exact hki) he
      exact absurd q1 hk2
    · obtain ⟨q1, q2⟩ := h.inj i j o1 o2 hdi hdj hne hbi ho1 ho2 (by rw [← e1]; exact hki) he
      refine ⟨f1.trans q1, ?_⟩
      have hoi1 : oi = o1 := by
        rcases e4 with rfl | rfl
        · rfl
        · unfold Ob.dead
          rw [if_neg (by rw [← e1]; exact hki)]
      rcases f4 with rfl | rfl
      · rw [hoi1]; exact q2
      · left
        rw [show o2.dead = ⟨2, o2.r, o2.t, []⟩ by unfold Ob.dead; rw [if_pos q1]]
  · rcases hcase with ⟨hk, he⟩ | ⟨hk, he⟩ <;> (injection he with he1 he2; subst he1; subst he2)
    · have hgk : (hp.kill o.r).get id = some o := by
        rw [Hp.get_kill, ho]
        simp [Ob.dead, hk2]
      have := (mutOk_mmin hmu).1
      have hr : base ≤ o.r := this
      rw [Hp.get_put _ _ _ _ hgk, if_neg (by omega), Hp.get_kill, if_neg (by omega)]
    · rw [Hp.get_put _ _ _ _ ho, if_neg (by omega)]
end
end Go.Proofs.Ytgjgihlfkpbdgaa
/- Steps of the heap of objects: rows that grow. No function of the program is named here. -/
namespace Go.Proofs.Ytgjgihlfkpbdgaa
open Go.RowKit

section
variable {P : Program} {W0 : World} {base : Nat} {S0 : Nat → Prop} {E : Env} {hp : Hp} {w : World}
theorem rootOf_le (k r id : Nat) : rootOf k r id ≤ id ∧ (k = 3 → rootOf k r id ≤ r) := by
  by_cases hk : k = 3
  · subst hk
    by_cases h : r ≤ id
    · have : rootOf 3 r id = r := by simp [rootOf, bleT h]
      rw [this]
      exact ⟨h, fun _ => Nat.le_refl _⟩
    · have : rootOf 3 r id = id := by simp [rootOf, bleF h]
      rw [this]
      exact ⟨Nat.le_refl _, fun _ => by omega⟩
  · have : rootOf k r id = id := by
      unfold rootOf
      split
      · exact absurd rfl hk
      · rfl
    rw [this]
    exact ⟨Nat.le_refl _, fun h => absurd h hk⟩
/-- an object is to be read alone from now on -/
theorem stp_stale (h : HS W0 base S0 E hp w) {id : Nat} (hd : E.D id) {o : Ob} (ho : hp.get id = some o) (hk0 : o.k ≠ 0) (hk2 : o.k ≠ 2) (hb : base ≤ id) : Stp W0 base S0 E hp w E (hp.put id ⟨2, o.r, o.t, o.cs⟩) w := by
  have hget : ∀ j, (hp.put id ⟨2, o.r, o.t, o.cs⟩).get j = if j = id then some ⟨2, o.r, o.t, o.cs⟩ else hp.get j := fun j => Hp.get_put _ _ _ _ ho
  refine ⟨Later.refl _ _, ⟨h.bel, fun j hj => ?_, h.own, h.old, fun i j oi oj hdi hdj hne hbi hoi hoj hki he => ?_, h.ro, h.olds, h.le, h.ys.keep (Later.refl _ _) rfl rfl (Nat.le_refl _) fun _ _ => rfl⟩, ⟨Nat.le_refl _, fun j hj => ?_, fun _ => rfl, fun _ _ => rfl⟩, fun _ _ h => h, Oth.refl _, rfl⟩
  · obtain ⟨oj, hoj, hok⟩ := h.ob j hj
    rw [hget]
    by_cases e : j = id
    · subst e
      rw [ho] at hoj
      cases hoj
      obtain ⟨hx, rest⟩ := hok
      exact ⟨_, if_pos rfl, ⟨fun h => absurd h (by simp), fun h => absurd (hx.2 h) hk0⟩, rest⟩
    · exact ⟨oj, by rw [if_neg e]; exact hoj, hok⟩
  · rw [hget] at hoi hoj
    by_cases ei : i = id
    · rw [if_pos ei] at hoi
      cases hoi
      exact absurd rfl hki
    · rw [if_neg ei] at hoi
      by_cases ej : j = id
      · subst ej
        obtain ⟨q1, _⟩ := h.inj i j oi o hdi hdj hne hbi hoi ho hki he
        exact absurd q1 hk2
      · rw [if_neg ej] at hoj
        exact h.inj i j oi oj hdi hdj hne hbi hoi hoj hki he
  · rw [hget, if_neg (by omega)]
/-- a row grows in its own block -/
theorem stp_slide (h : HS W0 base S0 E hp w) {id : Nat} (hd : E.D id) {o : Ob} (ho : hp.get id = some o) (hk0 : o.k ≠ 0) (hk2 : o.k ≠ 2) {off : Nat} (hoff : off ≤ o.cs.length) {cs : List DV} {us : List Value} (hu : VRs E w cs us) (hsc : scals cs = true)
    (hroom : E.base id + (o.cs.length + cs.length) ≤ E.sz id) (hmu : mutOk base (mmin (some (rootOf o.k o.r id)) (some id))) :
    ∃ w', (storeCells ⟨E.b id, E.base id + o.cs.length, none⟩ us).run P w = .ok () w' ∧
      Stp W0 base S0 E hp w (E.add hp.n (E.b id) (E.base id + off) (E.sz id) False) ((hp.put id ⟨2, o.r, o.t, o.cs⟩).push ⟨3, rootOf o.k o.r id, o.t, o.cs.drop off ++ cs⟩) w' := by
  obtain ⟨hmr, hbid⟩ := mutOk_mmin hmu
  have hmr : base ≤ rootOf o.k o.r id := hmr
  have hbid : base ≤ id := hbid
  obtain ⟨hrl, hrr⟩ := rootOf_le o.k o.r id
  obtain ⟨o', ho', hx, hsc0, vs, ⟨lo, hi, hb, hm, hm2⟩, hsz, hbl, hvs⟩ := h.ob id hd
  have h1 := scals_one hu hsc
  rw [ho] at ho'
  cases ho'
  obtain ⟨hW, hS⟩ := h.own id hd hbid
  have hul : us.length = cs.length := hu.1.symm
  have hrun := run_storeCells_bx P (E.b id) (E.base id + o.cs.length) o.t lo hi us 0 vs.toArray w hb (by simpa using hm) (by simp; omega) h1
  simp only [Nat.add_zero] at hrun
  refine ⟨_, hrun, ?_⟩
  have hnew : (vs.toArray.toList.take (E.base id + o.cs.length) ++ us ++ vs.toArray.toList.drop (E.base id + o.cs.length + us.length)) = layV vs (E.base id + o.cs.length) us := by simp [layV]
  rw [hnew]
  generalize hwq : w.setRow (E.b id) (layV vs (E.base id + o.cs.length) us).toArray = w'
  have hoth : ∀ k, k ≠ E.b id → w'.heap[k]? = w.heap[k]? := fun k hk => by rw [← hwq]; exact setRow_other w _ _ _ hk
  have hat : w'.heap[E.b id]? = some (.cells (layV vs (E.base id + o.cs.length) us).toArray o.t (lo, hi)) := by rw [← hwq]; exact setRow_heap w _ _ _ _ _ hb
  have hcell : ∀ p : Addr, E.S p.block → w'.cell? p = w.cell? p := fun p hp => World.cell?_of_block (hoth _ (fun e => hS (e ▸ hp)))
  have hsize : w'.heap.size = w.heap.size := by rw [← hwq]; simp
  have hlen : (layV vs (E.base id + o.cs.length) us).length = vs.length := layV_length (by omega)
  have hlater0 : Later E w E w' := ⟨fun _ h => h, fun _ h => ⟨h, rfl, rfl, rfl, Iff.rfl⟩, hcell, fun _ _ h => h⟩
  have hlater := Env.later_add (w' := w') E w hp.n (E.b id) (E.base id + off) (E.sz id) False h.fresh hcell
  obtain ⟨a1, a2, a3, a4, a5⟩ := Env.add_at E hp.n (E.b id) (E.base id + off) (E.sz id) False
  have hidn : id ≠ hp.n := fun e => h.fresh (e ▸ hd)
  have hcase : ∀ i, (E.add hp.n (E.b id) (E.base id + off) (E.sz id) False).D i → i = hp.n ∨ (i ≠ hp.n ∧ E.D i) := fun i hd => by
    by_cases e : i = hp.n
    · exact .inl e
    · exact .inr ⟨e, hd.resolve_right e⟩
  have hget : ∀ j, ((hp.put id ⟨2, o.r, o.t, o.cs⟩).push ⟨3, rootOf o.k o.r id, o.t, o.cs.drop off ++ cs⟩).get j = if j = hp.n then some ⟨3, rootOf o.k o.r id, o.t, o.cs.drop off ++ cs⟩ else if j = id then some ⟨2, o.r, o.t, o.cs⟩ else hp.get j := fun j => by
    rw [Hp.get_push, Hp.get_put _ _ _ _ ho]
    rfl
  -- what shows at the old places of the block
  have hshow : VRs (E.add hp.n (E.b id) (E.base id + off) (E.sz id) False) w' (o.cs ++ cs) (((layV vs (E.base id + o.cs.length) us).drop (E.base id)).take (o.cs.length + cs.length)) := by
    rw [layV_drop (by omega) (by omega), show E.base id + o.cs.length - E.base id = o.cs.length by omega, layV_take (by omega) (by simp; omega)]
    have e1 : layV ((vs.drop (E.base id)).take (o.cs.length + cs.length)) o.cs.length us = (vs.drop (E.base id)).take o.cs.length ++ us := by
      unfold layV
      have h3 : ((vs.drop (E.base id)).take (o.cs.length + cs.length)).drop (o.cs.length + us.length) = [] := List.drop_eq_nil_of_le (by simp; omega)
      rw [List.take_take, Nat.min_eq_left (by omega), h3, List.append_nil]
    rw [e1]
    exact (hvs.append hu).later hlater
  refine ⟨hlater, ⟨?_, fun j hdj => ?_, fun i hdi hbi => ?_, fun i hdi hbi => ?_, fun i j oi oj hdi hdj hne hbi hoi hoj hki he => ?_, fun b hb => by rw [hsize]; exact h.ro b hb, h.olds, by simp [Hp.push, Hp.put]; have := h.le; omega, h.ys.keep hlater rfl rfl (by simp [Hp.push, Hp.put]) fun k hk => hoth k (isO_ne hk hb)⟩, ⟨by simp [Hp.push, Hp.put], fun j hj => ?_, fun _ => rfl, fun _ _ => rfl⟩, fun i hi hd => hd.resolve_right (by omega), ⟨by rw [hsize]; exact Nat.le_refl _, fun k x hk => (hoth k (isO_ne (.inr ⟨x, hk⟩) hb)).trans hk, fun k r hk => ⟨r, (hoth k (isO_ne (.inl ⟨r, hk⟩) hb)).trans hk, rfl⟩⟩, rfl⟩
  · refine h.bel.trans ⟨?_, ?_, ?_, by rw [hsize]; exact Nat.le_refl _, fun k hk => hoth k (by omega)⟩ <;> (rw [← hwq]; rfl)
  · rw [hget]
    rcases hcase j hdj with rfl | ⟨hnj, hdj⟩
    · refine ⟨_, if_pos rfl, ⟨fun h => absurd h (by simp), fun h => (a5.1 h).elim⟩, by
        show scals (o.cs.drop off ++ cs) = true
        rw [scals_append, hsc, scals_sub hsc0 (fun d hd => List.mem_of_mem_drop hd)]
        rfl, layV vs (E.base id + o.cs.length) us, ⟨lo, hi, by rw [a2]; exact hat, by rw [hlen]; exact hm, hm2⟩, by rw [a4, hlen]; exact hsz, by rw [a3, hlen]; simp; omega, ?_⟩
      rw [a3]
      have := hshow.drop off
      rw [List.drop_append_of_le_length hoff] at this
      have e2 : (((layV vs (E.base id + o.cs.length) us).drop (E.base id)).take (o.cs.length + cs.length)).drop off = ((layV vs (E.base id + o.cs.length) us).drop (E.base id + off)).take (o.cs.drop off ++ cs).length := by
        rw [List.drop_take, List.drop_drop]
        congr 1
        simp
        omega
      rw [← e2]
      exact this
    · rw [if_neg hnj]
      obtain ⟨n1, n2, n3, n4, n5⟩ := Env.add_other E (E.b id) (E.base id + off) (E.sz id) False hnj
      by_cases ej : j = id
      · subst ej
        refine ⟨_, if_pos rfl, ⟨fun h => absurd h (by simp), fun h => absurd (hx.2 (n4.1 h)) hk0⟩, hsc0, layV vs (E.base j + o.cs.length) us, ⟨lo, hi, by rw [n1]; exact hat, by rw [hlen]; exact hm, hm2⟩, by rw [n3, hlen]; exact hsz, by rw [n2, hlen]; exact hbl, ?_⟩
        rw [n2]
        have := hshow.take o.cs.length
        rw [List.take_left, List.take_take, Nat.min_eq_left (by omega)] at this
        exact this
      · rw [if_neg ej]
        obtain ⟨oj, hoj, hokj⟩ := h.ob j hdj
        refine ⟨oj, hoj, ?_⟩
        by_cases hbe : E.b j = E.b id
        · obtain ⟨q1, q2⟩ := h.inj id j o oj hd hdj (fun e => ej e.symm) hbid ho hoj hk2 hbe.symm
          obtain ⟨hxj, hscj, vsj, ⟨loj, hij, hbj, hmj⟩, hszj, hblj, hvsj⟩ := hokj
          rw [hbe, hb] at hbj
          injection hbj with hbj
          injection hbj with hb1 hb2 hb3
          have hvv : vsj = vs := by
            have := congrArg Array.toList hb1
            simpa using this.symm
          subst hvv
          refine ⟨hxj.trans n4.symm, hscj, layV vsj (E.base id + o.cs.length) us, ⟨lo, hi, by rw [n1, hbe, ← hb2]; exact hat, by rw [hlen]; exact hm, hm2⟩, by rw [n3, hlen]; exact hszj, by rw [n2, hlen]; exact hblj, ?_⟩
          rw [n2]
          rcases q2 with q2 | ⟨q2, q3, q4⟩
          · rw [q2]; simpa using VRs.nil _ w'
          · have e3 : ((layV vsj (E.base id + o.cs.length) us).drop (E.base j)).take oj.cs.length = (vsj.drop (E.base j)).take oj.cs.length := by
              have e4 := layV_before (old := vsj) (off := E.base id + o.cs.length) (cs := us) (k := E.base j + oj.cs.length) q4 (by omega)
              have e5 := congrArg (List.drop (E.base j)) e4
              rw [List.drop_take, List.drop_take, show E.base j + oj.cs.length - E.base j = oj.cs.length by omega] at e5
              exact e5
            rw [e3]
            exact hvsj.later hlater
        · exact hokj.keep hdj hlater (hoth _ hbe)
  · rcases hcase i hdi with rfl | ⟨hni, hdi⟩
    · rw [a2]
      exact ⟨hW, hS⟩
    · rw [(Env.add_other E _ _ _ _ hni).1]
      exact h.own i hdi hbi
  · rcases hcase i hdi with rfl | ⟨hni, hdi⟩
    · have := h.le
      omega
    · rw [(Env.add_other E _ _ _ _ hni).1]
      exact h.old i hdi hbi
  · rw [hget] at hoi hoj
    rcases hcase i hdi with rfl | ⟨hni, hdi2⟩ <;> rcases hcase j hdj with rfl | ⟨hnj, hdj2⟩
    · exact absurd rfl hne
    · rw [if_pos rfl] at hoi
      cases hoi
      obtain ⟨n1, n2, n3, n4, n5⟩ := Env.add_other E (E.b id) (E.base id + off) (E.sz id) False hnj
      rw [if_neg hnj] at hoj
      rw [a2, n1] at he
      rw [a3, n2]
      by_cases ej : j = id
      · subst ej
        rw [if_pos rfl] at hoj
        cases hoj
        exact ⟨rfl, .inr ⟨rfl, hrl, by simp; omega⟩⟩
      · rw [if_neg ej] at hoj
        obtain ⟨q1, q2⟩ := h.inj id j o oj hd hdj2 (fun e => ej e.symm) hbid ho hoj hk2 he
        refine ⟨q1, q2.imp_right fun ⟨q2, q3, q4⟩ => ⟨rfl, ?_, ?_⟩⟩
        · show rootOf o.k o.r id ≤ j
          have := hrr q2
          omega
        · simp
          omega
    · obtain ⟨n1, n2, n3, n4, n5⟩ := Env.add_other E (E.b id) (E.base id + off) (E.sz id) False hni
      rw [if_neg hni] at hoi
      rw [n1, a2] at he
      by_cases ei : i = id
      · rw [if_pos ei] at hoi
        cases hoi
        exact absurd rfl hki
      · rw [if_neg ei] at hoi
        obtain ⟨q1, _⟩ := h.inj i id oi o hdi2 hd ei hbi hoi ho hki he
        exact absurd q1 hk2
    · obtain ⟨n1, n2, _⟩ := Env.add_other E (E.b id) (E.base id + off) (E.sz id) False hni
      obtain ⟨m1, m2, _⟩ := Env.add_other E (E.b id) (E.base id + off) (E.sz id) False hnj
      rw [if_neg hni] at hoi
      rw [if_neg hnj] at hoj
      rw [n1, m1] at he
      rw [n2, m2]
      by_cases ei : i = id
      · rw [if_pos ei] at hoi
        cases hoi
        exact absurd rfl hki
      · rw [if_neg ei] at hoi
        by_cases ej : j = id
        · subst ej
          obtain ⟨q1, _⟩ := h.inj i j oi o hdi2 hdj2 hne hbi hoi ho hki he
          exact absurd q1 hk2
        · rw [if_neg ej] at hoj
          exact h.inj i j oi oj hdi2 hdj2 hne hbi hoi hoj hki he
  · have := h.le
    rw [hget, if_neg (by omega), if_neg (by omega)]
/-! ### A block is marked as one that a string was turned into -/
theorem freeze_at {w : World} {b n lo hi : Nat} {c : Array Value} {t : TypeId} (h : w.heap[b]? = some (.cells c t (lo, hi))) : (w.freeze ⟨b, n, none⟩ 1).heap[b]? = some (.cells c t (if lo == hi then (n, n + 1) else (min lo n, max hi (n + 1)))) := by
  unfold World.freeze
  rw [if_neg (by decide)]
  simp only [Array.getElem?_modify, h, if_pos, Option.map_some]
theorem freeze_other {w : World} {b n k : Nat} (h : k ≠ b) : (w.freeze ⟨b, n, none⟩ 1).heap[k]? = w.heap[k]? := by
  unfold World.freeze
  rw [if_neg (by decide)]
  simp only [Array.getElem?_modify, if_neg (Ne.symm h)]
theorem stp_mark (h : HS W0 base S0 E hp w) {id : Nat} (hd : E.D id) (hb : base ≤ id) (P : Program) (off : Nat) : ∃ w', (markStringish ⟨E.b id, off, none⟩).run P w = .ok () w' ∧ Stp W0 base S0 E hp w E hp w' := by
  obtain ⟨o, ho, hx, hsc, vs, ⟨lo, hi, hat, hm, hm2⟩, hsz, hbl, hvs⟩ := h.ob id hd
  refine ⟨w.freeze ⟨E.b id, vs.length, none⟩ 1, ?_, ?_⟩
  · have hsh : w.shape? (E.b id) = some (o.t, vs.length) := by simp only [World.shape?, hat]; simp
    simp [markStringish, shape, Sem.run, hsh, freeze]
  generalize hw' : w.freeze ⟨E.b id, vs.length, none⟩ 1 = w'
  have hnew : w'.heap[E.b id]? = some (.cells vs.toArray o.t (if lo == hi then (vs.length, vs.length + 1) else (min lo vs.length, max hi (vs.length + 1)))) := by rw [← hw']; exact freeze_at hat
  have hoth : ∀ k, k ≠ E.b id → w'.heap[k]? = w.heap[k]? := fun k hk => by rw [← hw']; exact freeze_other hk
  have hsize : w'.heap.size = w.heap.size := by
    rw [← hw']
    unfold World.freeze
    rw [if_neg (by decide)]
    simp
  obtain ⟨hW, hS⟩ := h.own id hd hb
  have hcell : ∀ p : Addr, w'.cell? p = w.cell? p := fun p => by
    by_cases hp : p.block = E.b id
    · simp only [World.cell?, hp, hat, hnew]
    · exact World.cell?_of_block (hoth _ hp)
  have hlater : Later E w E w' := ⟨fun _ h => h, fun _ h => ⟨h, rfl, rfl, rfl, Iff.rfl⟩, fun p _ => hcell p, fun _ _ h => h⟩
  have hbx : ∀ {g : Nat} {t : TypeId} {us : List Value}, Bx w g t us → Bx w' g t us := fun {g t us} hg => by
    by_cases e : g = E.b id
    · subst e
      obtain ⟨lo1, hi1, h1, h2, h3⟩ := hg
      rw [hat] at h1
      injection h1 with h1
      injection h1 with h4 h5 h6
      have hu : us = vs := by
        have := congrArg Array.toList h4
        simpa using this.symm
      subst hu
      subst h5
      cases h6
      by_cases hlh : (lo == hi) = true
      · rw [if_pos hlh] at hnew
        exact ⟨_, _, hnew, .inr (Nat.le_refl _), fun hz => absurd hz (by omega)⟩
      · rw [if_neg hlh] at hnew
        have : us.length ≤ lo := by
          rcases hm with hm | hm
          · exact absurd (by rw [hm, hm2 hm]; rfl) hlh
          · exact hm
        exact ⟨_, _, hnew, .inr (by omega), fun hz => absurd hz (by omega)⟩
    · exact hg.keep (hoth _ e)
  refine ⟨hlater, ⟨?_, fun j hj => ?_, h.own, h.old, h.inj, fun b hb => by rw [hsize]; exact h.ro b hb, h.olds, h.le, h.ys.keep hlater rfl rfl (Nat.le_refl _) fun k hk => hoth k (isO_ne hk hat)⟩, Ext.refl _ _, fun _ _ h => h, ⟨by rw [hsize]; exact Nat.le_refl _, fun k x hk => (hoth k (isO_ne (.inr ⟨x, hk⟩) hat)).trans hk, fun k r hk => ⟨r, (hoth k (isO_ne (.inl ⟨r, hk⟩) hat)).trans hk, rfl⟩⟩, rfl⟩
  · refine h.bel.trans ⟨?_, ?_, ?_, by rw [hsize]; exact Nat.le_refl _, fun k hk => hoth k (by omega)⟩ <;> (rw [← hw']; unfold World.freeze; rw [if_neg (by decide)])
  · obtain ⟨oj, hoj, k0, k1, vsj, k2, k3, k4, k5⟩ := h.ob j hj
    exact ⟨oj, hoj, k0, k1, vsj, hbx k2, k3, k4, k5.later hlater⟩
end
end Go.Proofs.Ytgjgihlfkpbdgaa
/- Operations on abstract data are what the model does: slices. No function of the program is named here. -/
namespace Go.Proofs.Ytgjgihlfkpbdgaa
open Go.RowKit

section
variable {P : Program} {T : Tab} {W0 : World} {base : Nat} {S0 : Nat → Prop} {E : Env} {hp : Hp} {w : World}
/-- what a slice or a string holds: m elements, the cells us -/
structure Src (P : Program) (w : World) (v : Value) (s m : Nat) (us : List Value) : Prop where
  len : us.length = m * s
  lenOf : ∀ w1 : World, (Builtin.lenOf v).run P w1 = .ok m w1
  read : ∀ (w1 : World) (k : Nat), k ≤ m → w1.heap = w.heap → (Builtin.firstCells s k v).run P w1 = .ok (us.take (k * s)).toArray w1
theorem src_slice {A : Option Addr} {m c s : Nat} {us : List Value} (hl : us.length = m * s) (h : ∀ (j : Nat) u, us[j]? = some u → ∃ a, A = some a ∧ w.cell? (a.add j) = some u) (hA : A = none → m = 0) : Src P w (.slice A m c) s m us := by
  refine ⟨hl, fun w1 => by simp [Builtin.lenOf], fun w1 k hk hw => ?_⟩
  cases A with
  | none =>
    have hm := hA rfl
    subst hm
    have : us = [] := List.eq_nil_of_length_eq_zero (by simpa using hl)
    subst this
    simp [Builtin.firstCells]
  | some a =>
    have hks : (us.take (k * s)).length = k * s := by
      have : k * s ≤ m * s := Nat.mul_le_mul_right s hk
      simp
      omega
    refine run_firstCells_some (P := P) w1 s k a m c (us.take (k * s)) hks fun j v hv => ?_
    rw [List.getElem?_take] at hv
    split at hv
    · obtain ⟨a', ha, hc⟩ := h j v hv
      cases ha
      rw [← hc]
      exact World.cell?_of_block (by rw [hw])
    · cases hv
theorem bytes_VRs (E : Env) (w : World) (l : List UInt8) : VRs E w (l.map fun c => .int .u8 (c.toNat : Int)) (l.map fun c => Value.int .u8 (c.toNat : Int)) := by
  induction l with
  | nil => exact .nil _ _
  | cons c l ih => exact .cons (.int _ _ _) ih
theorem cont_ok (hs : HS W0 base S0 E hp w) {s : Nat} {x : DV} {v : Value} {m : Nat} {cs : List DV} (hx : VR w E x v) (hc : contD hp s x = some (m, cs)) :
    ∃ us, Src P w v s m us ∧ VRs E w cs us ∧ scals cs = true := by
  unfold contD at hc
  split at hc
  · cases hc
    rw [hx.of_nil]
    exact ⟨[], src_slice (by simp) (fun j u h => by simp at h) (fun _ => rfl), .nil _ _, rfl⟩
  · rename_i s' xs
    split at hc
    · rename_i hb
      have hb := Nat.eq_of_beq_eq_true hb
      subst hb
      cases hc
      obtain ⟨A, c, b, off, g, rfl, h1, h2, h3, h4, h5, h6, h7, h8⟩ := hx.of_list
      have hlen : ∀ y ∈ xs, y.length = s' := fun y hy => by
        obtain ⟨i, hi, rfl⟩ := List.getElem_of_mem hy
        exact h5 i _ (List.getElem?_eq_getElem hi)
      have hl : Lies E w b off xs.flatten := by
        intro j d hj
        have key : ∀ (zs : List (List DV)) (k j : Nat), (∀ y ∈ zs, y.length = s') → (∀ (i : Nat) (cs : List DV), zs[i]? = some cs → xs[k + i]? = some cs) → ∀ d, zs.flatten[j]? = some d → ∃ v, w.cell? ⟨b, off + (k * s' + j), none⟩ = some v ∧ VR w E d v := by
          intro zs
          induction zs with
          | nil => intro k j _ _ d hd; simp at hd
          | cons z zs ih =>
            intro k j hz hzy d hd
            rw [List.flatten_cons, List.getElem?_append] at hd
            have hzl := hz z (by simp)
            split at hd
            · exact ⟨_, h6 k z j d (by simpa using hzy 0 z rfl) hd, (h7 k z j d (by simpa using hzy 0 z rfl) hd).up⟩
            · rename_i hnlt
              obtain ⟨v, hv, hvd⟩ := ih (k + 1) (j - z.length) (fun y hy => hz y (by simp [hy])) (fun i cs hi => by
                have := hzy (i + 1) cs (by simpa using hi)
                rwa [show k + 1 + i = k + (i + 1) by omega]) d hd
              refine ⟨v, ?_, hvd⟩
              rw [← hv]
              congr 2
              rw [hzl, Nat.add_mul] at *
              omega
        simpa using key xs 0 j hlen (fun i cs hi => by simpa using hi) d hj
      obtain ⟨vs, hv1, hv2⟩ := hl.vals
      have hfl : xs.flatten.length = xs.length * s' := by
        clear hl hv1 hv2 h1 h2 h3 h4 h5 h6 h7 h8 hx
        induction xs with
        | nil => simp
        | cons y ys ih => rw [List.flatten_cons, List.length_append, ih (fun z hz => hlen z (by simp [hz])), hlen y (by simp), List.length_cons, Nat.add_mul]; omega
      refine ⟨vs, src_slice (by rw [← hv1.1, hfl]) (fun j u hj => ?_) (fun hA => ?_), hv1, ?_⟩
      · have hpos : 0 < xs.length := by
          rcases Nat.eq_zero_or_pos xs.length with h0 | h0
          · rw [h0, Nat.zero_mul] at hfl
            have := (List.getElem?_eq_some_iff.1 hj).1
            have := hv1.1
            omega
          · exact h0
        exact ⟨_, (h4 hpos).1, by rw [add_none]; exact hv2 j u hj⟩
      · have := h3 hA
        omega
      · rw [scals_iff]
        intro d hd
        obtain ⟨y, hy, hdy⟩ := List.mem_flatten.1 hd
        exact (scals_iff y).1 (h8 y hy) d hdy
    · cases hc
  · rename_i id off s' n c
    obtain ⟨A, c', rfl, hd, h1, h2, h3, h4, h5⟩ := hx.of_sl
    split at hc
    · rename_i hb
      cases hc
      exact ⟨[], src_slice (by simp) (fun j u h => by simp at h) (fun h => by cases h), .nil _ _, rfl⟩
    · rename_i n hb
      have hb := Nat.eq_of_beq_eq_true hb
      subst hb
      split at hc
      · rename_i o ho
        split at hc
        · rename_i hble
          have hle := Nat.le_of_ble_eq_true hble
          cases hc
          obtain ⟨o', ho', hok⟩ := hs.ob id hd
          rw [ho] at ho'
          cases ho'
          have hl := ((Lies.of_ob hok).drop off).take ((n + 1) * s')
          obtain ⟨vs, hv1, hv2⟩ := hl.vals
          obtain ⟨hA, hsz⟩ := h5 (by omega)
          subst hA
          refine ⟨vs, src_slice (by rw [← hv1.1]; simp; omega) (fun j u hj => ⟨_, rfl, by rw [add_none]; exact hv2 j u hj⟩) (fun h => by cases h), hv1, scals_sub hok.2.1 fun d hd => List.mem_of_mem_drop (List.mem_of_mem_take hd)⟩
        · cases hc
      · cases hc
    · cases hc
  · rename_i b
    split at hc
    · cases hc
      rw [hx.of_str]
      refine ⟨b.data.toList.map fun c => Value.int .u8 (c.toNat : Int), ⟨by simp [lenB], fun w1 => by simp [Builtin.lenOf, lenB_eq], fun w1 k hk hw => ?_⟩, bytes_VRs _ _ _, ?_⟩
      · have : (b.extract 0 k).data.map (fun c : UInt8 => Value.int .u8 (c.toNat : Int)) = ((b.data.toList.map fun c : UInt8 => Value.int .u8 (c.toNat : Int)).take (k * 1)).toArray := by
          apply Array.toList_inj.1
          simp [ByteArray.data_extract, List.extract_eq_take_drop]
        simp only [Builtin.firstCells, Sem.run_pure]
        rw [← this]
      · rw [scals_iff]
        intro d hd
        obtain ⟨c, _, rfl⟩ := List.mem_map.1 hd
        rfl
    · cases hc
  · cases hc

/-- what append is given: a slice, a string, or as many zeros -/
structure ASrc (P : Program) (w : World) (d' : TypeDesc) (i : TypeInfo) (v : Value) (m : Nat) (us : List Value) : Prop where
  len : us.length = m * i.size
  how : ((∀ k, d' ≠ .int k) ∧ Src P w v i.size m us) ∨ ∃ k kv z, d' = .int k ∧ i.zero = some z ∧ v = .int kv (m : Int) ∧ us = (Builtin.zeroCells z.cells m).toList ∧ m ≤ 9223372036854775807 ∧ m * i.bytes ≤ 140737488355328
theorem wrap_small {m : Nat} (h : m ≤ 9223372036854775807) : IntKind.i64.wrap (m : Int) = m := by
  rw [IntKind.wrap_i64]
  omega
theorem run_append_room' {t t' ty e : TypeId} {i : TypeInfo} {d' : TypeDesc} (ht : P.underlying t = some (.slice e)) (ht' : P.underlying t' = some d') (hi : P.info? e = some i) {n c' m : Nat} {v : Value} {us : List Value} (hv : ASrc P w d' i v m us)
    (A : Option Addr) (hroom : n + m ≤ c') : (Builtin.append_ #[t, t'] ty #[.slice A n c', v]).run P w = match A with
      | some a => ((storeCells (a.add (n * i.size)) us).run P w).andThen fun _ w' => .ok (.slice (some a) (n + m) c') w'
      | none => .ok (.slice none (n + m) c') w := by
  obtain ⟨hlen, hv | ⟨k, kv, z, rfl, hz, rfl, rfl, hm, hb⟩⟩ := hv
  · obtain ⟨hd', hv⟩ := hv
    have hf := hv.read w m (Nat.le_refl _) rfl
    rw [List.take_of_length_le (by rw [hv.len]; exact Nat.le_refl _)] at hf
    have hz : (match d' with | .int _ => true | _ => false) = false := by
      cases d' <;> first | rfl | exact absurd rfl (hd' _)
    cases A with
    | none =>
      simp only [Builtin.append_]
      simp [run_underlying ht, run_underlying ht', sizeOf, typeInfo, hi, hv.lenOf, hroom, hf]
    | some a =>
      simp only [Builtin.append_]
      simp [run_underlying ht, run_underlying ht', sizeOf, typeInfo, hi, hv.lenOf, hroom, hf]
  · have h0 : ¬ ((m : Int) < 0) := by omega
    have hb' : ¬ (281474976710656 < (m : Int) * (i.bytes : Int)) := by
      have : (m : Int) * (i.bytes : Int) = ((m * i.bytes : Nat) : Int) := by push_cast; rfl
      omega
    by_cases hms : m * i.size = 0
    · have hus : (Builtin.zeroCells z.cells m).toList = [] := List.eq_nil_of_length_eq_zero (by rw [hlen, hms])
      cases A with
      | none =>
        simp only [Builtin.append_]
        simp [run_underlying ht, run_underlying ht', sizeOf, typeInfo, hi, asInt, asIntOf, wrap_small hm, h0, hb', hroom, hms]
      | some a =>
        simp only [Builtin.append_]
        simp [run_underlying ht, run_underlying ht', sizeOf, typeInfo, hi, asInt, asIntOf, wrap_small hm, h0, hb', hroom, hms, hus, storeCells]
    · cases A with
      | none =>
        simp only [Builtin.append_]
        simp [run_underlying ht, run_underlying ht', sizeOf, typeInfo, zeroValue, hz, hi, asInt, asIntOf, wrap_small hm, h0, hb', hroom]
      | some a =>
        simp only [Builtin.append_]
        simp [run_underlying ht, run_underlying ht', sizeOf, typeInfo, zeroValue, hz, hi, asInt, asIntOf, wrap_small hm, h0, hb', hroom, hms]
theorem run_append_room_some {t t' ty e : TypeId} {i : TypeInfo} {d' : TypeDesc} (ht : P.underlying t = some (.slice e)) (ht' : P.underlying t' = some d') (hi : P.info? e = some i) {n c' m : Nat} {v : Value} {us : List Value} (hv : ASrc P w d' i v m us)
    (A : Addr) (hroom : n + m ≤ c') : (Builtin.append_ #[t, t'] ty #[.slice (some A) n c', v]).run P w = ((storeCells (A.add (n * i.size)) us).run P w).andThen fun _ w' => .ok (.slice (some A) (n + m) c') w' :=
  run_append_room' ht ht' hi hv (some A) hroom
theorem run_append_grow' {t t' ty e : TypeId} {i : TypeInfo} {z : Value} {d' : TypeDesc} (ht : P.underlying t = some (.slice e)) (ht' : P.underlying t' = some d') (hi : P.info? e = some i) (hz : i.zero = some z) {n c' m : Nat} {v x : Value} {us os : List Value} (hv : ASrc P w d' i v m us)
    {A : Option Addr} (hx : x = .slice A n c') (ho : Src P w x i.size n os) (hg : c' < n + m) (h63 : n + m ≤ 9223372036854775807) (hfit : (n + m) * i.bytes ≤ 140737488355328) : ∃ C, (Builtin.append_ #[t, t'] ty #[x, v]).run P w = .ok (.slice (some ⟨w.heap.size, 0, none⟩) (n + m) (grownCap w (n + m) c' e)) (w.drew.alloc (.cells C e)) ∧
      C = os.toArray ++ us.toArray ++ Builtin.zeroCells z.cells (grownCap w (n + m) c' e - (n + m)) := by
  subst hx
  have hfo := ho.read w.drew n (Nat.le_refl _) rfl
  rw [List.take_of_length_le (by rw [ho.len]; exact Nat.le_refl _)] at hfo
  have hn : ¬ (n + m ≤ c') := by omega
  have h63' : ¬ (9223372036854775807 < ((n : Int) + (m : Int))) := by omega
  have h48' : ¬ (281474976710656 < Builtin.nextslicecap (n + m) c' * i.bytes) := by have := growslice_fits (bytes := i.bytes) hg hfit; omega
  obtain ⟨hlen, hv | ⟨k, kv, z', rfl, hz', rfl, rfl, hm, hb⟩⟩ := hv
  · obtain ⟨hd', hv⟩ := hv
    have hf := hv.read w.drew m (Nat.le_refl _) rfl
    rw [List.take_of_length_le (by rw [hv.len]; exact Nat.le_refl _)] at hf
    have hz' : (match d' with | .int _ => true | _ => false) = false := by
      cases d' <;> first | rfl | exact absurd rfl (hd' _)
    refine ⟨_, ?_, rfl⟩
    simp only [Builtin.append_]
    simp [run_underlying ht, run_underlying ht', sizeOf, typeInfo, zeroValue, hi, hz, hv.lenOf, hn, h63', h48', Question.forced, hf, hfo, newRow, grownCap]
    congr 2
    apply Array.ext'
    simp
  · rw [hz] at hz'
    cases hz'
    have h0 : ¬ ((m : Int) < 0) := by omega
    have hb' : ¬ (281474976710656 < (m : Int) * (i.bytes : Int)) := by
      have : (m : Int) * (i.bytes : Int) = ((m * i.bytes : Nat) : Int) := by push_cast; rfl
      omega
    refine ⟨_, ?_, rfl⟩
    by_cases hms : m * i.size = 0
    · have hus : (Builtin.zeroCells z.cells m).toList = [] := List.eq_nil_of_length_eq_zero (by rw [hlen, hms])
      have hus2 : Builtin.zeroCells z.cells m = #[] := Array.toList_inj.1 hus
      simp only [Builtin.append_]
      simp [run_underlying ht, run_underlying ht', sizeOf, typeInfo, zeroValue, hi, hz, asInt, asIntOf, wrap_small hm, h0, hb', hn, h63', h48', Question.forced, hfo, newRow, grownCap, hus2]
    · simp only [Builtin.append_]
      simp [run_underlying ht, run_underlying ht', sizeOf, typeInfo, zeroValue, hi, hz, asInt, asIntOf, wrap_small hm, h0, hb', hms, hn, h63', h48', Question.forced, hfo, newRow, grownCap]
end
end Go.Proofs.Ytgjgihlfkpbdgaa
