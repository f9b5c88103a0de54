/- Operations on abstract data are what the model does: arithmetic, comparisons, aggregates. No function of the program is named here. -/
import Derived.Test.YtoghpmeoekbcbaaV5
namespace Go.Proofs.Ytoghpmeoekbcbaa
open Go.RowKit

theorem eqBytes_eq : ∀ (l m : List UInt8), eqBytes l m = (l == m)
  | [], [] => rfl
  | [], _ :: _ => rfl
  | _ :: _, [] => rfl
  | a :: l, b :: m => by
    unfold eqBytes
    by_cases h : a.toNat = b.toNat
    · rw [beqT h]
      have : a = b := UInt8.toNat_inj.1 h
      subst this
      simp only [eqBytes_eq l m]
      simp
    · rw [beqF h]
      have : a ≠ b := fun e => h (by rw [e])
      simp [this]
theorem ltBytes_eq : ∀ (l m : List UInt8), ltBytes l m = Op.bytesLess l m
  | [], [] => rfl
  | [], _ :: _ => rfl
  | _ :: _, [] => rfl
  | a :: l, b :: m => by
    unfold ltBytes Op.bytesLess
    by_cases h : a.toNat < b.toNat
    · rw [bltT h]
      have : a < b := h
      simp [this]
    · rw [bltF h]
      have h' : ¬ a < b := h
      by_cases e : a.toNat = b.toNat
      · rw [beqT e]
        have : a = b := UInt8.toNat_inj.1 e
        subst this
        simp [ltBytes_eq l m]
      · rw [beqF e]
        have : a ≠ b := fun q => e (by rw [q])
        simp [h', this]
theorem eqB_eq (a b : ByteArray) : eqBytes a.data.toList b.data.toList = (a.toList == b.toList) := by rw [eqBytes_eq, ByteArray.toList_eq, ByteArray.toList_eq]
theorem ltB_eq (a b : ByteArray) : ltBytes a.data.toList b.data.toList = Op.bytesLess a.toList b.toList := by rw [ltBytes_eq, ByteArray.toList_eq, ByteArray.toList_eq]
theorem lenB_eq (a : ByteArray) : lenB a = a.size := rfl
theorem catS_eq (a b : ByteArray) : catS a b = a ++ b := by
  obtain ⟨⟨x⟩⟩ := a
  obtain ⟨⟨y⟩⟩ := b
  apply ByteArray.ext
  simp [catS]

section
variable {P : Program} {T : Tab} {E : Env} {w : World} {a : Act} {o : Oper}
/-- the operation yields a value that shows d, and nothing changes -/
def ValOk (P : Program) (E : Env) (w : World) (a : Act) (o : Oper) (d : DV) : Prop := ∃ u, (execOp a.eval o).run P w = .ok (.value u) w ∧ VR w E d u
theorem ValOk.mk {d : DV} {u : Value} (h : (execOp a.eval o).run P w = .ok (.value u) w) (hd : VR w E d u) : ValOk P E w a o d := ⟨u, h, hd⟩
theorem ar_ok {k : IntKind} {n : Int} (h : (execOp a.eval o).run P w = .ok (.value (.int k (k.wrap n))) w) : ValOk P E w a o (ar k n) := ⟨_, h, .int _ _ _⟩
theorem guardO_some {b : Bool} {d r : DV} (h : guardO b d = some r) : b = true ∧ r = d := by
  cases b
  · cases h
  · cases h; exact ⟨rfl, rfl⟩
theorem binI_ok {op : BinOp} {k : IntKind} {x y : Int} {d : DV} (hd : binI op k x y = some d)
    (h : ∀ r : Result Value, (binOp op 0 (.int k x) (.int k y)).run P w = r → (execOp a.eval o).run P w = r.andThen fun v w => .ok (.value v) w) : ValOk P E w a o d := by
  unfold binI at hd
  cases op <;> simp only [Option.some.injEq, reduceCtorEq] at hd <;> try subst hd
  case add => exact ar_ok (h (.ok (.int k (k.wrap (x + y))) w) (by simp [binOp, Op.intArith]))
  case sub => exact ar_ok (h (.ok (.int k (k.wrap (x - y))) w) (by simp [binOp, Op.intArith]))
  case mul => exact ar_ok (h (.ok (.int k (k.wrap (x * y))) w) (by simp [binOp, Op.intArith]))
  case quo =>
    obtain ⟨hy, rfl⟩ := guardO_some hd
    have hy : y ≠ 0 := by simpa using hy
    exact ⟨_, h (.ok (.int k (quoD k x y)) w) (by simp [binOp, Op.intDiv, hy, quoD]), .int _ _ _⟩
  case rem =>
    obtain ⟨hy, rfl⟩ := guardO_some hd
    have hy : y ≠ 0 := by simpa using hy
    exact ⟨_, h (.ok (.int k (x.tmod y)) w) (by simp [binOp, Op.intDiv, hy]), .int _ _ _⟩
  case and => exact ⟨_, h (.ok (.int k (bitD .and k x y)) w) (by simp [binOp, Op.intBits, bitD]), .int _ _ _⟩
  case or => exact ⟨_, h (.ok (.int k (bitD .or k x y)) w) (by simp [binOp, Op.intBits, bitD]), .int _ _ _⟩
  case xor => exact ⟨_, h (.ok (.int k (bitD .xor k x y)) w) (by simp [binOp, Op.intBits, bitD]), .int _ _ _⟩
  case andNot => exact ⟨_, h (.ok (.int k (bitD .andNot k x y)) w) (by simp [binOp, Op.intBits, bitD]), .int _ _ _⟩
  case eql => exact ⟨_, h (.ok (.bool (x == y)) w) (by simp [binOp, Op.intCmp]), .bool _ _⟩
  case neq => exact ⟨_, h (.ok (.bool (x != y)) w) (by simp [binOp, Op.intCmp]), .bool _ _⟩
  case lss => exact ⟨_, h (.ok (.bool (decide (x < y))) w) (by simp [binOp, Op.intCmp]), .bool _ _⟩
  case leq => exact ⟨_, h (.ok (.bool (decide (x ≤ y))) w) (by simp [binOp, Op.intCmp]), .bool _ _⟩
  case gtr => exact ⟨_, h (.ok (.bool (decide (x > y))) w) (by simp [binOp, Op.intCmp]), .bool _ _⟩
  case geq => exact ⟨_, h (.ok (.bool (decide (x ≥ y))) w) (by simp [binOp, Op.intCmp]), .bool _ _⟩
theorem binS_ok {op : BinOp} {x y : ByteArray} {d : DV} (hd : binS op x y = some d)
    (h : ∀ r : Result Value, (Op.stringOp op x y).run P w = r → (execOp a.eval o).run P w = r.andThen fun v w => .ok (.value v) w) : ValOk P E w a o d := by
  unfold binS at hd
  simp only [eqB_eq, ltB_eq, lenB_eq, catS_eq] at hd
  cases op <;> simp only [Option.some.injEq, reduceCtorEq] at hd <;> try subst hd
  case add =>
    obtain ⟨hc, rfl⟩ := guardO_some hd
    have hc := Nat.le_of_ble_eq_true hc
    have hm : IntKind.i64.max = 9223372036854775807 := rfl
    exact ⟨_, h (.ok (.string (x ++ y)) w) (by
      simp only [Op.stringOp, Sem.run_ite]
      rw [if_neg (by omega)]
      rfl), .str _ _⟩
  case eql => exact ⟨_, h (.ok (.bool (x.toList == y.toList)) w) (by simp [Op.stringOp]), .bool _ _⟩
  case neq => exact ⟨_, h (.ok (.bool (!(x.toList == y.toList))) w) (by simp [Op.stringOp]), .bool _ _⟩
  case lss => exact ⟨_, h (.ok (.bool (Op.bytesLess x.toList y.toList)) w) (by simp [Op.stringOp]), .bool _ _⟩
  case gtr => exact ⟨_, h (.ok (.bool (!(Op.bytesLess x.toList y.toList || x.toList == y.toList))) w) (by simp [Op.stringOp]), .bool _ _⟩
theorem eqGuard_int (op : BinOp) (t : TypeId) (x y : Operand) (k k' : IntKind) (m n : Int) : (eqGuard op t x y (.int k m) (.int k' n)).run P w = .ok () w := by
  unfold eqGuard
  cases op <;> simp
theorem eqGuard_str (op : BinOp) (t : TypeId) (x y : Operand) (m n : ByteArray) : (eqGuard op t x y (.string m) (.string n)).run P w = .ok () w := by
  unfold eqGuard
  cases op <;> simp

/-! ### Equality -/
theorem part_run {t : TypeId} {i : TI} (hi : TiOk P t i) {cs : List DV} {vs : List Value} (h : VRs E w cs vs) {off : Nat} {e : DV} (hp : partD i cs off = some e) : ∃ u, (part t vs.toArray off).run P w = .ok u w ∧ VR w E e u := by
  obtain ⟨info, d, h1, h2, h3, _, h4, _⟩ := hi
  exact part_ok h1 h2 h3 h4 h off hp
theorem load_run {t : TypeId} {i : TI} (hi : TiOk P t i) {cs : List DV} {b base : Nat} (h : Lies E w b base cs) {off : Nat} {e : DV} (hp : partD i cs off = some e) : ∃ u, (loadVar t ⟨b, base + off, none⟩).run P w = .ok u w ∧ VR w E e u := by
  obtain ⟨info, d, h1, h2, h3, _, h4, _⟩ := hi
  exact load_ok h1 h2 h3 h4 h off hp
theorem eqItems_ok {q : TypeId → DV → DV → Option Bool} {e : TypeId} {j : TI} (hj : TiOk P e j) {D : Nat}
    (hq : ∀ x y b u v, q e x y = some b → VR w E x u → VR w E y v → (Op.equalIn D e u v).run P w = .ok b w) {xs ys : List DV} {us vs : List Value} (hu : VRs E w xs us) (hv : VRs E w ys vs) :
    ∀ {l : List Nat} {b : Bool}, eqItems T q e j.size j xs ys l = some b → (Op.eqItems D e j.size us.toArray vs.toArray l).run P w = .ok b w
  | [], b, h => by cases h; simp [Op.eqItems]
  | n :: l, b, h => by
    unfold eqItems at h
    split at h
    · rename_i x y hx hy
      obtain ⟨u, h1, h2⟩ := part_run hj hu hx
      obtain ⟨v, h3, h4⟩ := part_run hj hv hy
      obtain ⟨c, d, hqq, hrest, hcd⟩ := andO_ok h
      rw [hcd]
      have h5 := hq _ _ _ _ _ hqq h2 h4
      have ih := eqItems_ok hj hq hu hv hrest
      simp only [Op.eqItems, Sem.run_bind, h1, h3, h5, Result.andThen_ok]
      cases c <;> simp [ih]
    · cases h
theorem eqFields_ok (hT : TabOk P T) {q : TypeId → DV → DV → Option Bool} {D : Nat}
    (hq : ∀ e x y b u v, q e x y = some b → VR w E x u → VR w E y v → (Op.equalIn D e u v).run P w = .ok b w) {xs ys : List DV} {us vs : List Value} (hu : VRs E w xs us) (hv : VRs E w ys vs) :
    ∀ {l : List (Nat × Nat × Nat)} {gl : List Field} {b : Bool}, l.length = gl.length → (∀ (j t off sz : Nat), l[j]? = some (t, off, sz) → ∃ f, gl[j]? = some f ∧ f.type = t ∧ f.offset = off ∧ f.name ≠ "_") →
      eqFields T q xs ys l = some b → (Op.eqFields D us.toArray vs.toArray gl).run P w = .ok b w
  | [], [], b, _, _, h => by cases h; simp [Op.eqFields]
  | [], _ :: _, b, hl, _, h => by simp at hl
  | _ :: _, [], b, hl, _, h => by simp at hl
  | (t, off, sz) :: l, g :: gl, b, hl, hg, h => by
    obtain ⟨f, hf, rfl, rfl, hn⟩ := hg 0 t off sz rfl
    simp at hf
    subst hf
    unfold eqFields at h
    split at h
    · cases h
    · rename_i i hi
      split at h
      · rename_i x y hx hy
        obtain ⟨u, h1, h2⟩ := part_run (hT _ _ hi) hu hx
        obtain ⟨v, h3, h4⟩ := part_run (hT _ _ hi) hv hy
        obtain ⟨c, d, hqq, hrest, hcd⟩ := andO_ok h
        rw [hcd]
        have h5 := hq _ _ _ _ _ _ hqq h2 h4
        have ih := eqFields_ok hT hq hu hv (by simpa using hl) (fun j t off sz hj => by simpa using hg (j + 1) t off sz (by simpa using hj)) hrest
        simp only [Op.eqFields, hn, ne_eq, not_false_eq_true, if_true, Sem.run_bind, h1, h3, h5, Result.andThen_ok]
        cases c <;> simp [ih]
      · cases h
theorem eqD_ok (hT : TabOk P T) : ∀ (f : Nat) (t : TypeId) (x y : DV) (b : Bool) (u v : Value) (D : Nat), eqD T f t x y = some b → VR w E x u → VR w E y v → (Op.equalIn (D + f) t u v).run P w = .ok b w
  | 0, t, x, y, b, u, v, D, h, _, _ => by cases h
  | f + 1, t, x, y, b, u, v, D, h, hx, hy => by
    unfold eqD at h
    split at h
    · cases h
    · rename_i i hi
      obtain ⟨info, dd, h1, h2, h3, h3', h4, h5, h6⟩ := hT _ _ hi
      split at h
      · rename_i k k1 m k2 n htd
        rw [htd] at h4
        cases dd <;> first | (simp [tdOk] at h4; done) | skip
        split at h
        · rename_i hk
          cases h
          subst hk
          rw [hx.of_int, hy.of_int]
          rw [show D + (f + 1) = (D + f) + 1 by omega]
          simp [Op.equalIn, run_underlying h2]
        · cases h
      · rename_i m n htd
        rw [htd] at h4
        cases dd <;> first | (simp [tdOk] at h4; done) | skip
        cases h
        rw [hx.of_bool, hy.of_bool]
        exact run_equalIn_bool' w (D + f) t m n h2
      · rename_i m n htd
        rw [htd] at h4
        cases dd <;> first | (simp [tdOk] at h4; done) | skip
        cases h
        rw [hx.of_str, hy.of_str, eqB_eq]
        exact run_equalIn_string w (D + f) t m n h2
      · rename_i n e xs ys htd
        rw [htd] at h4
        cases dd <;> first | (simp [tdOk] at h4; done) | skip
        obtain ⟨rfl, rfl⟩ := h4
        split at h
        · rename_i j hj
          obtain ⟨einfo, ed, e1, e2, e3, _⟩ := hT _ _ hj
          obtain ⟨us, rfl, hu⟩ := hx.of_agg
          obtain ⟨vs, rfl, hv⟩ := hy.of_agg
          have hc : P.cellsOf e = j.size := by simp [Program.cellsOf, e1, e3]
          rw [show D + (f + 1) = (D + f) + 1 by omega, run_equalIn_array w (D + f) us.toArray vs.toArray h2 e1, hc, List.range_eq_range']
          exact eqItems_ok (hT _ _ hj) (fun x y b u v hq hx hy => eqD_ok hT f e x y b u v D hq hx hy) hu hv h
        · cases h
      · rename_i fs xs ys htd
        rw [htd] at h4
        cases dd <;> first | (simp [tdOk] at h4; done) | skip
        rename_i gs
        split at h
        · rename_i hcmp
          obtain ⟨us, rfl, hu⟩ := hx.of_agg
          obtain ⟨vs, rfl, hv⟩ := hy.of_agg
          have hfo : P.fieldsOf t = gs := by simp [Program.fieldsOf, h2]
          rw [show D + (f + 1) = (D + f) + 1 by omega, run_equalIn_struct w (D + f) t us.toArray vs.toArray (by rw [hfo]; exact h2) (h6 hcmp).2, hfo]
          exact eqFields_ok hT (fun e x y b u v hq hx hy => eqD_ok hT f e x y b u v D hq hx hy) hu hv (by simpa using h4.1) (fun j t off sz hj => by
            obtain ⟨fl, q1, q2, q3, q4, q5, q6⟩ := h4.2 j t off sz hj
            exact ⟨fl, by simpa using q1, q2, q3, q6⟩) h
        · cases h
      · cases h
theorem orB_some {a b : Option Bool} {r : Bool} (h : orB a b = some r) : a = some r ∨ b = some r := by
  cases a with
  | some x => exact .inl h
  | none => exact .inr h
theorem boolOp_some {op : BinOp} {b : Option Bool} {d : DV} (h : boolOp op b = some d) : ∃ x, b = some x ∧ ((op = .eql ∧ d = .bool x) ∨ (op = .neq ∧ d = .bool (!x))) := by
  unfold boolOp at h
  split at h
  · cases h; exact ⟨_, rfl, .inl ⟨rfl, rfl⟩⟩
  · cases h; exact ⟨_, rfl, .inr ⟨rfl, rfl⟩⟩
  · cases h
theorem eqNil_ok {t : TypeId} {i : TI} (hi : TiOk P t i) {x y : DV} {u v : Value} (hx : VR w E x u) (hy : VR w E y v) {b : Bool} (h : eqNil i x y = some b) (D : Nat) : (Op.equalIn (D + 1) t u v).run P w = .ok b w := by
  obtain ⟨info, dd, h1, h2, h3, h3', h4, h5, h6⟩ := hi
  unfold eqNil at h
  split at h <;> first | (cases h; done) | skip
  all_goals
    rename_i htd
    rw [htd] at h4
    cases dd <;> first | (simp [tdOk] at h4; done) | skip
    cases h
    try (cases hx; cases hy; simp [Op.equalIn, run_underlying h2]; done)
theorem eqGuard_cmp (op : BinOp) (t : TypeId) (x y : Operand) {u v : Value} (hg : P.eqGuardType P.depth t = false) (hu : u ≠ .nilIface) : (eqGuard op t x y u v).run P w = .ok () w := by
  unfold eqGuard
  cases op <;> simp
  all_goals
    split
    · exact absurd rfl hu
    · simp [hg]
    · simp
def cmpV : Value → Bool
  | .bool _ | .slice _ _ _ | .pointer _ | .func _ _ _ | .nilFunc | .agg _ => true
  | _ => false
theorem eqD_shape {f : Nat} {t : TypeId} {x y : DV} {b : Bool} (h : eqD T f t x y = some b) : (∃ k m n, x = .int k m ∧ y = .int k n) ∨ (∃ m n, x = .str m ∧ y = .str n) ∨ (∃ m n, x = .bool m ∧ y = .bool n) ∨ (∃ m n, x = .agg m ∧ y = .agg n) := by
  cases f with
  | zero => cases h
  | succ f =>
    unfold eqD at h
    split at h
    · cases h
    · split at h
      · split at h
        · rename_i hk
          subst hk
          exact .inl ⟨_, _, _, rfl, rfl⟩
        · cases h
      · exact .inr (.inr (.inl ⟨_, _, rfl, rfl⟩))
      · exact .inr (.inl ⟨_, _, rfl, rfl⟩)
      · exact .inr (.inr (.inr ⟨_, _, rfl, rfl⟩))
      · exact .inr (.inr (.inr ⟨_, _, rfl, rfl⟩))
      · cases h
theorem eqNil_shape {i : TI} {x y : DV} {u v : Value} {b : Bool} (h : eqNil i x y = some b) (hx : VR w E x u) (hy : VR w E y v) : cmpV u = true ∧ cmpV v = true := by
  unfold eqNil at h
  split at h <;> first | (cases h; done) | (cases hx; cases hy; exact ⟨rfl, rfl⟩)
theorem binOp_cmp (t : TypeId) {u v : Value} {b : Bool} (hu : cmpV u = true) (hv : cmpV v = true) (h : (Op.equalIn 10000 t u v).run P w = .ok b w) : (binOp .eql t u v).run P w = .ok (.bool b) w ∧ (binOp .neq t u v).run P w = .ok (.bool (!b)) w := by
  have h' : (Op.equal t u v).run P w = .ok b w := h
  have e1 : binOp .eql t u v = (do pure (.bool (← Op.equal t u v)) : Sem Value) := by
    cases u <;> first | (cases hu; done) | skip
    all_goals (cases v <;> first | (cases hv; done) | rfl)
  have e2 : binOp .neq t u v = (do pure (.bool (!(← Op.equal t u v))) : Sem Value) := by
    cases u <;> first | (cases hu; done) | skip
    all_goals (cases v <;> first | (cases hv; done) | rfl)
  rw [e1, e2]
  constructor
  · simp [h']
  · simp [h']
theorem bin_ok (hT : TabOk P T) {op : BinOp} {t yt : TypeId} {x y : Operand} (ho : o.op = .binOp op t x y yt) {d e r : DV} (hx : VR w E d (a.eval x)) (hy : VR w E e (a.eval y)) (hr : binD T op t d e = some r) : ValOk P E w a o r := by
  unfold binD at hr
  split at hr
  · rename_i k m k' n
    have hx := hx.of_int
    have hy := hy.of_int
    split at hr
    · rename_i hs
      obtain ⟨hn, rfl⟩ := guardO_some hr
      have hn' : ¬ n < 0 := by have := of_decide_eq_true hn; omega
      cases op <;> first | (simp [isShift] at hs; done) | skip
      · exact ⟨.int k (shlD k m n), by simp [execOp, ho, hx, hy, eqGuard_int, binOp, Op.shift, hn', shlD], .int _ _ _⟩
      · exact ⟨.int k (shrD k m n), by simp [execOp, ho, hx, hy, eqGuard_int, binOp, Op.shift, hn', shrD], .int _ _ _⟩
    · rename_i hs
      split at hr
      · rename_i hk
        subst hk
        refine binI_ok hr fun r' hr' => ?_
        have hb : (binOp op t (.int k m) (.int k n)).run P w = r' := by
          rw [← hr']
          cases op <;> rfl
        simp only [execOp, ho, hx, hy, Sem.run_bind, eqGuard_int, Result.andThen_ok, hb]
        rfl
      · cases hr
  · rename_i m n
    have hx := hx.of_str
    have hy := hy.of_str
    refine binS_ok hr fun r' hr' => ?_
    have hb : (binOp op t (.string m) (.string n)).run P w = r' := by
      rw [← hr']
      cases op <;> rfl
    simp only [execOp, ho, hx, hy, Sem.run_bind, eqGuard_str, Result.andThen_ok, hb]
    rfl
  · rename_i hni hns
    split at hr
    · rename_i i hi
      split at hr
      · rename_i hcmp
        have hti := hT _ _ hi
        have hg := (hti.choose_spec.choose_spec.2.2.2.2.2.2 hcmp).1
        obtain ⟨b, hb, hd⟩ := boolOp_some hr
        have key : cmpV (a.eval x) = true ∧ cmpV (a.eval y) = true ∧ (Op.equalIn 10000 t (a.eval x) (a.eval y)).run P w = .ok b w := by
          rcases orB_some hb with h | h
          · obtain ⟨h1, h2⟩ := eqNil_shape h hx hy
            exact ⟨h1, h2, eqNil_ok hti hx hy h 9999⟩
          · have h3 := eqD_ok hT 20 t d e b _ _ 9980 h hx hy
            rcases eqD_shape h with ⟨k, m, n, rfl, rfl⟩ | ⟨m, n, rfl, rfl⟩ | ⟨m, n, rfl, rfl⟩ | ⟨m, n, rfl, rfl⟩
            · exact (hni _ _ _ _ rfl rfl).elim
            · exact (hns _ _ rfl rfl).elim
            · exact ⟨by rw [hx.of_bool]; rfl, by rw [hy.of_bool]; rfl, h3⟩
            · obtain ⟨us, h1, _⟩ := hx.of_agg
              obtain ⟨vs, h2, _⟩ := hy.of_agg
              exact ⟨by rw [h1]; rfl, by rw [h2]; rfl, h3⟩
        obtain ⟨k1, k2, k3⟩ := key
        obtain ⟨q1, q2⟩ := binOp_cmp t k1 k2 k3
        have hgu := eqGuard_cmp (w := w) op t x y (u := a.eval x) (v := a.eval y) hg (fun e => by rw [e] at k1; cases k1)
        rcases hd with ⟨rfl, rfl⟩ | ⟨rfl, rfl⟩
        · exact ⟨.bool b, by simp [execOp, ho, hgu, q1], .bool _ _⟩
        · exact ⟨.bool (!b), by simp [execOp, ho, hgu, q2], .bool _ _⟩
      · cases hr
    · cases hr
theorem un_ok {op : UnOp} {t : TypeId} {x : Operand} (ho : o.op = .unOp op t x) {d r : DV} (hx : VR w E d (a.eval x)) (hr : unD op d = some r) : ValOk P E w a o r := by
  unfold unD at hr
  split at hr
  · rename_i b
    have hx := hx.of_bool
    cases op <;> first | (cases hr; done) | skip
    cases hr
    exact ⟨.bool (!b), by simp [execOp, ho, hx, Op.unary], .bool _ _⟩
  · rename_i k n
    have hx := hx.of_int
    cases op <;> first | (cases hr; done) | skip
    · cases hr
      exact ar_ok (by simp [execOp, ho, hx, Op.unary, Op.intArith])
    · cases hr
      refine ⟨.int k (bitD .xor k (match k.signed with | true => -1 | false => k.max) n), ?_, .int _ _ _⟩
      cases hk : k.signed <;> simp [execOp, ho, hx, Op.unary, Op.intBits, bitD, hk]
  · cases hr
end
end Go.Proofs.Ytoghpmeoekbcbaa
