/- What the edges of a region ask: a check. No function of the program is named here. -/
import Derived.Test.YtoghpmeoekbcbaaV2
namespace Go.Proofs.Ytoghpmeoekbcbaa
open Go.RowKit

/-! ### The edges -/
section
def maskOf (acc : List Nat) (o : Oper) : Nat := o.after.toList.foldl (fun s e => if Region.binds .any e then s ||| 2 ^ e.on ||| acc.getD e.on 0 else s) 0
def masksL : List Nat → List Oper → List Nat
  | acc, [] => acc
  | acc, o :: l => masksL (acc ++ [maskOf acc o]) l
/-- with each operation, what it waits for -/
def Closed (ops : List Oper) (D : Nat → Prop) : Prop := ∀ (i : Nat) o e, ops[i]? = some o → D i → e ∈ o.after.toList → Region.binds .any e = true → D e.on
def Waits (D : Nat → Prop) (o : Oper) : Prop := ∀ e ∈ o.after.toList, Region.binds .any e = true → D e.on
theorem foldl_bit (acc : List Nat) (j : Nat) : ∀ (es : List Edge) (s : Nat), (es.foldl (fun s e => if Region.binds .any e then s ||| 2 ^ e.on ||| acc.getD e.on 0 else s) s).testBit j = true →
    s.testBit j = true ∨ ∃ e ∈ es, Region.binds .any e = true ∧ (j = e.on ∨ (acc.getD e.on 0).testBit j = true)
  | [], s, h => .inl h
  | e :: es, s, h => by
    simp only [List.foldl_cons] at h
    rcases foldl_bit acc j es _ h with h | ⟨e', he, h⟩
    · by_cases hb : Region.binds .any e = true
      · rw [if_pos hb, Nat.testBit_or, Nat.testBit_or, Nat.testBit_two_pow] at h
        simp only [Bool.or_eq_true, decide_eq_true_eq] at h
        rcases h with (h | h) | h
        · exact .inl h
        · exact .inr ⟨e, by simp, hb, .inl h.symm⟩
        · exact .inr ⟨e, by simp, hb, .inr h⟩
      · rw [if_neg hb] at h; exact .inl h
    · exact .inr ⟨e', by simp [he], h⟩
theorem masksL_ok (ops : List Oper) (D : Nat → Prop) (hD : Closed ops D) : ∀ (l : List Oper) (acc : List Nat), ops.drop acc.length = l → (∀ (i : Nat) m o, acc[i]? = some m → ops[i]? = some o → Waits D o → ∀ j, m.testBit j = true → D j) →
    ∀ (i : Nat) m o, (masksL acc l)[i]? = some m → ops[i]? = some o → Waits D o → ∀ j, m.testBit j = true → D j
  | [], acc, _, h => h
  | o :: l, acc, hl, h => by
    simp only [masksL]
    have ho : ops[acc.length]? = some o := by
      have : (ops.drop acc.length)[0]? = some o := by rw [hl]; rfl
      simpa using this
    refine masksL_ok ops D hD l _ (by
      have : ops.drop (acc.length + 1) = l := by
        rw [← List.drop_drop, hl]; rfl
      simpa using this) fun i m o' hi ho' hw j hj => ?_
    rcases Nat.lt_or_ge i acc.length with hlt | hge
    · rw [List.getElem?_append_left hlt] at hi
      exact h i m o' hi ho' hw j hj
    · rw [List.getElem?_append_right hge] at hi
      have hi0 : i = acc.length := by
        have := (List.getElem?_eq_some_iff.1 hi).1
        simp at this
        omega
      subst hi0
      simp at hi
      subst hi
      rw [ho] at ho'
      cases ho'
      rcases foldl_bit acc j _ 0 hj with h0 | ⟨e, he, hb, h1⟩
      · simp at h0
      · rcases h1 with rfl | h1
        · exact hw e he hb
        · cases hm : acc[e.on]? with
          | none => simp [List.getD, hm] at h1
          | some m' =>
            simp [List.getD, hm] at h1
            have hlt : e.on < acc.length := (List.getElem?_eq_some_iff.1 hm).1
            have hops : e.on < ops.length := by
              have := (List.getElem?_eq_some_iff.1 ho).1
              omega
            exact h e.on m' _ hm (List.getElem?_eq_getElem hops) (fun e' he' hb' => hD e.on _ e' (List.getElem?_eq_getElem hops) (hw e he hb) he' hb') j h1
theorem masksL_length : ∀ (l : List Oper) (acc : List Nat), (masksL acc l).length = acc.length + l.length
  | [], acc => rfl
  | o :: l, acc => by simp only [masksL]; rw [masksL_length l]; simp; omega

/-- an operation that looks at slots alone -/
def dry (T : Tab) : Op → Bool
  | .move _ | .assign _ | .pick .. | .build .. | .binOp .. | .unOp .. | .fieldAddr .. | .field .. | .indexAddr .. | .index .. | .extract .. | .makeFunc .. | .nilCheck _ => true
  | .slice t .. => match T t with
    | some i => match i.td with
      | .slice _ | .str => true
      | _ => false
    | none => false
  | _ => false
/-- the first m operations may come in any order that the edges allow; the others come in the text's order, behind those of the first that look at more than slots -/
def anyChk (T : Tab) (ops : Array Oper) (m : Nat) : Bool :=
  let l := ops.toList
  let ms := masksL [] l
  (List.range l.length).all (fun i => match l[i]? with
    | some o => o.after.toList.all (fun e => !Region.binds .any e || decide (e.on < i)) &&
      (List.range l.length).all (fun j => j == i || match l[j]? with
        | some oj => (ms.getD i 0).testBit j || (
          ((ms.getD j 0).testBit i || match oj.dst with
            | some d => !(o.looksAt ops).contains d && (o.dst != some d)
            | none => true) && (decide (i < m) || decide (i ≤ j) || (decide (j < m) && dry T oj.op)))
        | none => true)
    | none => true) && decide (m ≤ l.length)
structure ChkOk (T : Tab) (ops : Array Oper) (m : Nat) : Prop where
  le : m ≤ ops.toList.length
  back : ∀ (i : Nat) o e, ops.toList[i]? = some o → e ∈ o.after.toList → Region.binds .any e = true → e.on < i
  pair : ∀ (i j : Nat) o oj, j ≠ i → ops.toList[i]? = some o → ops.toList[j]? = some oj → (∀ D, Closed ops.toList D → Waits D o → D j) ∨
    (((∀ D, Closed ops.toList D → Waits D oj → D i) ∨ ∀ d, oj.dst = some d → d ∉ o.looksAt ops ∧ o.dst ≠ some d) ∧ (i < m ∨ i ≤ j ∨ (j < m ∧ dry T oj.op = true)))
theorem anyChk_ok {T : Tab} {ops : Array Oper} {m : Nat} (h : anyChk T ops m = true) : ChkOk T ops m := by
  simp only [anyChk, Bool.and_eq_true, decide_eq_true_eq, List.all_eq_true, List.mem_range] at h
  obtain ⟨h, hle⟩ := h
  have hlen : ∀ (i : Nat) (o : Oper), ops.toList[i]? = some o → i < ops.toList.length := fun i o hi => (List.getElem?_eq_some_iff.1 hi).1
  have hmask : ∀ (D : Nat → Prop), Closed ops.toList D → ∀ (i : Nat) o, ops.toList[i]? = some o → Waits D o → ∀ j, ((masksL [] ops.toList).getD i 0).testBit j = true → D j := fun D hD i o hi hw j hj => by
    have hl : i < (masksL [] ops.toList).length := by rw [masksL_length]; have := hlen i o hi; simpa using this
    refine masksL_ok ops.toList D hD ops.toList [] rfl (fun i m o hi => by simp at hi) i _ o (List.getElem?_eq_getElem hl) hi hw j ?_
    simpa [List.getD, List.getElem?_eq_getElem hl] using hj
  refine ⟨hle, fun i o e hi he hb => ?_, fun i j o oj hne ho hoj => ?_⟩
  · have := h i (hlen i o hi)
    rw [hi] at this
    simp only [Bool.and_eq_true, List.all_eq_true] at this
    have := this.1 e he
    simp only [hb, Bool.not_true, Bool.false_or, decide_eq_true_eq] at this
    exact this
  · have := h i (hlen i o ho)
    rw [ho] at this
    simp only [Bool.and_eq_true, List.all_eq_true, List.mem_range] at this
    have := this.2 j (hlen j oj hoj)
    simp only [hoj, Bool.or_eq_true, Bool.and_eq_true, beq_iff_eq, hne, false_or, decide_eq_true_eq] at this
    rcases this with hb | ⟨hb, hc⟩
    · exact .inl fun D hD hw => hmask D hD i o ho hw j hb
    · refine .inr ⟨?_, ?_⟩
      · rcases hb with hb | hb
        · exact .inl fun D hD hw => hmask D hD j oj hoj hw i hb
        · refine .inr fun d hd => ?_
          rw [hd] at hb
          simp only [Bool.and_eq_true, Bool.not_eq_true', bne_iff_ne] at hb
          exact ⟨fun hm => by
            have : (o.looksAt ops).contains d = true := by simpa using hm
            rw [this] at hb
            exact absurd hb.1 (by simp), hb.2⟩
      · rcases hc with (hc | hc) | hc
        · exact .inl hc
        · exact .inr (.inl hc)
        · exact .inr (.inr hc)
/-- an operation that may come at any time that the edges allow: it looks at slots, or at an object that nobody writes -/
def flt (T : Tab) : Op → Bool
  | .load _ _ => true
  | o => dry T o
def constP : List (Nat × Operand) → Bool
  | [] => true
  | (_, .const _) :: l => constP l
  | _ => false
/-- an operation that makes one object out of constants -/
def isMk (o : Oper) : Bool := match o.guard, o.op with
  | none, .buildSlice _ _ ps => constP ps.toList
  | none, .makeSlice _ (.const (.int _ (.ofNat (_ + 1)))) (.const _) => true
  | _, _ => false
def flm (T : Tab) (o : Oper) : Bool := isMk o || flt T o.op
def flmChk (T : Tab) (ops : Array Oper) : Bool :=
  let l := ops.toList
  let ms := masksL [] l
  (List.range l.length).all (fun i => match l[i]? with
    | some o => o.after.toList.all (fun e => !Region.binds .any e || decide (e.on < i)) &&
      (List.range l.length).all (fun j => j == i || match l[j]? with
        | some oj => (ms.getD i 0).testBit j || (
          ((ms.getD j 0).testBit i || match oj.dst with
            | some d => !(o.looksAt ops).contains d && (o.dst != some d)
            | none => true) && (flm T o || decide (i ≤ j) || flm T oj))
        | none => true)
    | none => true)
def fltChk (T : Tab) (ops : Array Oper) : Bool :=
  let l := ops.toList
  let ms := masksL [] l
  (List.range l.length).all (fun i => match l[i]? with
    | some o => o.after.toList.all (fun e => !Region.binds .any e || decide (e.on < i)) &&
      (List.range l.length).all (fun j => j == i || match l[j]? with
        | some oj => (ms.getD i 0).testBit j || (
          ((ms.getD j 0).testBit i || match oj.dst with
            | some d => !(o.looksAt ops).contains d && (o.dst != some d)
            | none => true) && (flt T o.op || decide (i ≤ j) || flt T oj.op))
        | none => true)
    | none => true)
structure FltOk (T : Tab) (ops : Array Oper) : Prop where
  back : ∀ (i : Nat) o e, ops.toList[i]? = some o → e ∈ o.after.toList → Region.binds .any e = true → e.on < i
  pair : ∀ (i j : Nat) o oj, j ≠ i → ops.toList[i]? = some o → ops.toList[j]? = some oj → (∀ D, Closed ops.toList D → Waits D o → D j) ∨
    (((∀ D, Closed ops.toList D → Waits D oj → D i) ∨ ∀ d, oj.dst = some d → d ∉ o.looksAt ops ∧ o.dst ≠ some d) ∧ (flt T o.op = true ∨ i ≤ j ∨ flt T oj.op = true))
theorem fltChk_ok {T : Tab} {ops : Array Oper} (h : fltChk T ops = true) : FltOk T ops := by
  simp only [fltChk, List.all_eq_true, List.mem_range] at h
  have hlen : ∀ (i : Nat) (o : Oper), ops.toList[i]? = some o → i < ops.toList.length := fun i o hi => (List.getElem?_eq_some_iff.1 hi).1
  have hmask : ∀ (D : Nat → Prop), Closed ops.toList D → ∀ (i : Nat) o, ops.toList[i]? = some o → Waits D o → ∀ j, ((masksL [] ops.toList).getD i 0).testBit j = true → D j := fun D hD i o hi hw j hj => by
    have hl : i < (masksL [] ops.toList).length := by rw [masksL_length]; have := hlen i o hi; simpa using this
    refine masksL_ok ops.toList D hD ops.toList [] rfl (fun i m o hi => by simp at hi) i _ o (List.getElem?_eq_getElem hl) hi hw j ?_
    simpa [List.getD, List.getElem?_eq_getElem hl] using hj
  refine ⟨fun i o e hi he hb => ?_, fun i j o oj hne ho hoj => ?_⟩
  · have := h i (hlen i o hi)
    rw [hi] at this
    simp only [Bool.and_eq_true, List.all_eq_true] at this
    have := this.1 e he
    simp only [hb, Bool.not_true, Bool.false_or, decide_eq_true_eq] at this
    exact this
  · have := h i (hlen i o ho)
    rw [ho] at this
    simp only [Bool.and_eq_true, List.all_eq_true, List.mem_range] at this
    have := this.2 j (hlen j oj hoj)
    simp only [hoj, Bool.or_eq_true, Bool.and_eq_true, beq_iff_eq, hne, false_or, decide_eq_true_eq] at this
    rcases this with hb | ⟨hb, hc⟩
    · exact .inl fun D hD hw => hmask D hD i o ho hw j hb
    · refine .inr ⟨?_, ?_⟩
      · rcases hb with hb | hb
        · exact .inl fun D hD hw => hmask D hD j oj hoj hw i hb
        · refine .inr fun d hd => ?_
          rw [hd] at hb
          simp only [Bool.and_eq_true, Bool.not_eq_true', bne_iff_ne] at hb
          exact ⟨fun hm => by
            have : (o.looksAt ops).contains d = true := by simpa using hm
            rw [this] at hb
            exact absurd hb.1 (by simp), hb.2⟩
      · rcases hc with (hc | hc) | hc
        · exact .inl hc
        · exact .inr (.inl hc)
        · exact .inr (.inr hc)
theorem FltOk.chk {T : Tab} {ops : Array Oper} (h : FltOk T ops) : ChkOk T ops ops.toList.length :=
  ⟨Nat.le_refl _, h.back, fun i j o oj hne ho hoj => (h.pair i j o oj hne ho hoj).imp (fun h => h) fun q => ⟨q.1, .inl (List.getElem?_eq_some_iff.1 ho).1⟩⟩
structure FlmOk (T : Tab) (ops : Array Oper) : Prop where
  back : ∀ (i : Nat) o e, ops.toList[i]? = some o → e ∈ o.after.toList → Region.binds .any e = true → e.on < i
  pair : ∀ (i j : Nat) o oj, j ≠ i → ops.toList[i]? = some o → ops.toList[j]? = some oj → (∀ D, Closed ops.toList D → Waits D o → D j) ∨
    (((∀ D, Closed ops.toList D → Waits D oj → D i) ∨ ∀ d, oj.dst = some d → d ∉ o.looksAt ops ∧ o.dst ≠ some d) ∧ (flm T o = true ∨ i ≤ j ∨ flm T oj = true))
theorem flmChk_ok {T : Tab} {ops : Array Oper} (h : flmChk T ops = true) : FlmOk T ops := by
  simp only [flmChk, List.all_eq_true, List.mem_range] at h
  have hlen : ∀ (i : Nat) (o : Oper), ops.toList[i]? = some o → i < ops.toList.length := fun i o hi => (List.getElem?_eq_some_iff.1 hi).1
  have hmask : ∀ (D : Nat → Prop), Closed ops.toList D → ∀ (i : Nat) o, ops.toList[i]? = some o → Waits D o → ∀ j, ((masksL [] ops.toList).getD i 0).testBit j = true → D j := fun D hD i o hi hw j hj => by
    have hl : i < (masksL [] ops.toList).length := by rw [masksL_length]; have := hlen i o hi; simpa using this
    refine masksL_ok ops.toList D hD ops.toList [] rfl (fun i m o hi => by simp at hi) i _ o (List.getElem?_eq_getElem hl) hi hw j ?_
    simpa [List.getD, List.getElem?_eq_getElem hl] using hj
  refine ⟨fun i o e hi he hb => ?_, fun i j o oj hne ho hoj => ?_⟩
  · have := h i (hlen i o hi)
    rw [hi] at this
    simp only [Bool.and_eq_true, List.all_eq_true] at this
    have := this.1 e he
    simp only [hb, Bool.not_true, Bool.false_or, decide_eq_true_eq] at this
    exact this
  · have := h i (hlen i o ho)
    rw [ho] at this
    simp only [Bool.and_eq_true, List.all_eq_true, List.mem_range] at this
    have := this.2 j (hlen j oj hoj)
    simp only [hoj, Bool.or_eq_true, Bool.and_eq_true, beq_iff_eq, hne, false_or, decide_eq_true_eq] at this
    rcases this with hb | ⟨hb, hc⟩
    · exact .inl fun D hD hw => hmask D hD i o ho hw j hb
    · refine .inr ⟨?_, ?_⟩
      · rcases hb with hb | hb
        · exact .inl fun D hD hw => hmask D hD j oj hoj hw i hb
        · refine .inr fun d hd => ?_
          rw [hd] at hb
          simp only [Bool.and_eq_true, Bool.not_eq_true', bne_iff_ne] at hb
          exact ⟨fun hm => by
            have : (o.looksAt ops).contains d = true := by simpa using hm
            rw [this] at hb
            exact absurd hb.1 (by simp), hb.2⟩
      · rcases hc with (hc | hc) | hc
        · exact .inl hc
        · exact .inr (.inl hc)
        · exact .inr (.inr hc)
theorem FlmOk.chk {T : Tab} {ops : Array Oper} (h : FlmOk T ops) : ChkOk T ops ops.toList.length :=
  ⟨Nat.le_refl _, h.back, fun i j o oj hne ho hoj => (h.pair i j o oj hne ho hoj).imp (fun h => h) fun q => ⟨q.1, .inl (List.getElem?_eq_some_iff.1 ho).1⟩⟩
/-- 1000: all but those that may come at any time come in the text's order -/
def chkK (T : Tab) (ops : Array Oper) (k : Nat) : Bool := match Nat.ble 1000 k, Nat.ble 2000 k with
  | true, false => fltChk T ops
  | true, true => flmChk T ops
  | false, _ => anyChk T ops k
end
/-- the regions that draw their order -/
def assoc : List (Nat × Nat) → Nat → Option Nat
  | [], _ => none
  | (k, v) :: r, t => match Nat.beq k t with
    | true => some v
    | false => assoc r t
def dstsOk (n : Nat) : List (Option Tmp) → Bool
  | [] => true
  | none :: r => dstsOk n r
  | some t :: r => Nat.blt t n && dstsOk n r
def ltAll (n : Nat) : List Nat → Bool
  | [] => true
  | t :: r => Nat.blt t n && ltAll n r
/-- what is asked of a function's text -/
def codeChk (T : Tab) (nt : Nat) (ks : List (Nat × Nat)) : Code → Bool
  | .region _ ops false => dstsOk nt (ops.toList.map (·.dst))
  | .region id ops true => dstsOk nt (ops.toList.map (·.dst)) && (match assoc ks id with
    | some k => chkK T ops k
    | none => false)
  | .seq a b => codeChk T nt ks a && codeChk T nt ks b
  | .cond _ a b => codeChk T nt ks a && codeChk T nt ks b
  | .block _ a => codeChk T nt ks a
  | .loop a => codeChk T nt ks a
  | .scope a => codeChk T nt ks a
  | .rangeFunc _ ps a b => (match assoc ks 65535 with
    | some m => Nat.beq m nt
    | none => false) && (ltAll nt ps.toList && (codeChk T nt ks a && codeChk T nt ks b))
  | _ => true
def drawsOf : Code → List (Nat × Array Oper)
  | .region id ops true => [(id, ops)]
  | .seq a b => drawsOf a ++ drawsOf b
  | .cond _ a b => drawsOf a ++ drawsOf b
  | .block _ a => drawsOf a
  | .loop a => drawsOf a
  | .scope a => drawsOf a
  | .rangeFunc _ _ a b => drawsOf a ++ drawsOf b
  | _ => []
def bestK (T : Tab) (ops : Array Oper) : Nat → Nat → Nat
  | 0, k => k
  | f + 1, k => match anyChk T ops k with
    | true => k
    | false => bestK T ops f (k + 1)
def bestKs (T : Tab) (c : Code) : List (Nat × Nat) := (drawsOf c).map fun x => (x.1, bestK T x.2 x.2.size 0)
def ksChk (T : Tab) (ks : List (Nat × Nat)) (c : Code) : Bool := (drawsOf c).all fun x => match assoc ks x.1 with
  | some k => chkK T x.2 k
  | none => false
end Go.Proofs.Ytoghpmeoekbcbaa
