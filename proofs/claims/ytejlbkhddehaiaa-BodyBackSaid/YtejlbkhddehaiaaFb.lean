/- join: the contract. -/
import Derived.Test.YtejlbkhddehaiaaFa
namespace Go.Proofs.Ytejlbkhddehaiaa
open Go.RowKit

noncomputable section
/-- what join answers: what was read, with what follows; or an error -/
def jnB (acc b : List UInt8) : Nat ⊕ (List UInt8 × List UInt8) :=
  match b with
  | [] => .inl 10
  | c :: r =>
    if c.toNat > r.length then .inl 10
    else if c.toNat < 255 then .inr (acc ++ r.take c.toNat, r.drop c.toNat)
    else match _h : r.drop c.toNat with
      | [] => .inl 10
      | x :: r' => if x = 254 then jnB (acc ++ r.take c.toNat) r' else .inl 12
termination_by b.length
decreasing_by
  have := congrArg List.length _h
  rw [List.length_drop] at this
  simp only [List.length_cons] at this ⊢
  omega
def jnD : Nat ⊕ (List UInt8 × List UInt8) → DV
  | .inl e => .tuple [.list 1 [], .list 1 [], iN e]
  | .inr (a, r) => .tuple [byL a, byL r, iN 0]
/-- the state while acc has been read -/
def RowJ (b : Bool) (acc : List UInt8) : Prop := b = true ∨ acc = []
theorem jA_ok {b : Bool} {acc : List UInt8} (h : RowJ b acc) (c : UInt8) (f : List UInt8) (hl : acc.length + (f.length + 1) ≤ 2 ^ 40) :
    builtinD tab (jX b acc.length (celB acc)).2 .append [(jX b acc.length (celB acc)).1, byL (c :: f)] tyBB = some (jA b acc.length (acc.length + (f.length + 1)) (celB acc) (celB (c :: f))) := by
  cases b with
  | true =>
    exact app_row (hp := jH (celB acc)) (id := 0) (m := f.length) (o := oB8 1 0 (celB acc)) (news := celB (c :: f)) rfl (.inl rfl) rfl (celB_length acc) (contD_list _ (c :: f)) (by omega)
  | false =>
    obtain rfl := h.resolve_left (by simp)
    have hf := fitB_le (n := f.length + 1) (by simp at hl; omega)
    rw [app_tab, contD_list]
    simp only [jX, jA, List.length_cons, List.length_nil, Nat.zero_add]
    show (match fitB (f.length + 1) 1 with | true => some (DV.sl 0 0 1 (f.length + 1) (f.length + 1), pushH ⟨0, [], []⟩ 1 5 (celB (c :: f)), (none : Mut)) | false => none) = _
    rw [hf]
    rfl
theorem jW_ok {b : Bool} {acc ps : List UInt8} (h : RowJ b acc) : jW b (celB acc) (celB ps) = celB (acc ++ ps) := by
  cases b with
  | true => exact (celB_append _ _).symm
  | false =>
    obtain rfl := h.resolve_left (by simp)
    rfl
theorem jFl {b : Bool} {acc ps : List UInt8} {N p : Nat} (h : RowJ b acc) : FlatIn (jL b) (jA b N p (celB acc) (celB ps)).2.1 := by
  cases b with
  | true => exact flat_row (bs := acc ++ ps) rfl (celB_append _ _).symm
  | false => exact flat_row (bs := ps) rfl rfl
def jnGo (_b0 : List UInt8) (o : Nat ⊕ (List UInt8 × List UInt8)) (k : Nat) (b : Bool) (acc r : List UInt8) : Prop := match o with
  | .inl e => (GoesR Try.prog tab kJn jnL (k + 1) (jnS (by1 r) (jX b acc.length (celB acc)).1) (jX b acc.length (celB acc)).2 .ret (jnE e) ⟨0, [], []⟩) ∨ (e = 10 ∧ GoesR Try.prog tab kJn jnL (k + 1) (jnS (by1 r) (jX b acc.length (celB acc)).1) (jX b acc.length (celB acc)).2 (.exit 0) (mkT 41 []) ⟨0, [], []⟩)
  | .inr (a, r2) => ∃ b', RowJ b' a ∧ GoesR Try.prog tab kJn jnL (k + 1) (jnS (by1 r) (jX b acc.length (celB acc)).1) (jX b acc.length (celB acc)).2 .ret (jnF (jX b' a.length (celB a)).1 (by1 r2)) (jX b' a.length (celB a)).2
theorem jnGo.step {b0 : List UInt8} {o : Nat ⊕ (List UInt8 × List UInt8)} {k : Nat} {b b' : Bool} {acc acc' r r' : List UInt8} (h : jnGo b0 o k b' acc' r') (g : Goes Try.prog tab kJn jnL (jnS (by1 r) (jX b acc.length (celB acc)).1) (jX b acc.length (celB acc)).2 .normal (jnS (by1 r') (jX b' acc'.length (celB acc')).1) (jX b' acc'.length (celB acc')).2) : jnGo b0 o (k + 1) b acc r := by
  cases o with
  | inl e =>
    rcases h with h | ⟨he, h⟩
    · exact .inl (GoesR.step g h)
    · exact .inr ⟨he, GoesR.step g h⟩
  | inr x =>
    obtain ⟨b2, q, h⟩ := h
    exact ⟨b2, q, GoesR.step g h⟩
theorem jn_loop : ∀ (m : Nat) (b0 r : List UInt8), r.length ≤ m → ∀ (b : Bool) (acc : List UInt8), RowJ b acc → acc.length + r.length ≤ 2 ^ 39 → ∃ k, jnGo b0 (jnB acc r) k b acc r
  | m, b0, [], hm, b, acc, hb, hl => by
    rw [jnB]
    exact ⟨0, .inr ⟨rfl, GoesR.last (zgm_ok tab_ok mixed fun_ok noC_ok (jnO noC b (by1 []) acc.length (celB acc)) (.cons (flatIn_nil _) (.cons rfl .nil))) (by intro h; cases h)⟩⟩
  | 0, b0, c :: r, hm, _, _, _, _ => by simp at hm
  | m + 1, b0, c :: r, hm, b, acc, hb, hl => by
    have hlr := by1_length r
    have hc := UInt8.toNat_lt c
    simp only [List.length_cons] at hm hl
    have q1 : decide (((by1 (c :: r)).length : Int) > 0) = true := decide_eq_true (by rw [by1_length, List.length_cons]; omega)
    have q2 : idxOk 0 (by1 (c :: r)).length = true := idxOk_lt (k := 0) (by rw [by1_length, List.length_cons]; omega)
    have q3 : nth (by1 (c :: r)) ((0 : Int).toNat) = some [i8 c] := rfl
    have q4 : DV.int .i64 (IntKind.i64.wrap (nx c)) = iN c.toNat := congrArg (DV.int .i64) (wrapI (by omega))
    have q5 : ∀ H, sliceD tab H bTI (.list 1 (by1 (c :: r))) (some (.int .i64 1)) none none = some (.list 1 (by1 r)) := fun H => slice_from (n := 1) (by rw [by1_length, List.length_cons]; omega)
    rw [jnB]
    by_cases h1 : c.toNat > r.length
    · rw [if_pos h1]
      exact ⟨0, .inl (GoesR.last (zgm_ok tab_ok mixed fun_ok noC_ok (jn1 noC b (by1 (c :: r)) (by1 r) c c.toNat acc.length (celB acc)) (.cons (flatIn_nil _) (.cons q1 (.cons q2 (.cons q3 (.cons q4 (.cons (q5 _) (.cons (decide_eq_true (by omega)) .nil)))))))) (by intro h; cases h))⟩
    rw [if_neg h1]
    have q6 : decide ((c.toNat : Int) > ((by1 r).length : Int)) = false := decide_eq_false (by omega)
    have q7 : ∀ H, sliceD tab H bTI (.list 1 (by1 r)) none (some (iN c.toNat)) none = some (.list 1 (by1 (r.take c.toNat))) := fun H => by
      rw [by1_take]
      exact slice_to (by omega)
    have q8 : ∀ H, sliceD tab H bTI (.list 1 (by1 r)) (some (iN c.toNat)) none none = some (.list 1 (by1 (r.drop c.toNat))) := fun H => by
      rw [by1_drop]
      exact slice_from (by omega)
    have htl : (r.take c.toNat).length = c.toNat := by rw [List.length_take]; omega
    have hdl : (r.drop c.toNat).length = r.length - c.toNat := List.length_drop
    cases hps : r.take c.toNat with
    | nil =>
      have hc0 : c.toNat = 0 := by rw [hps] at htl; exact htl.symm
      rw [if_pos (by omega), List.append_nil]
      rw [hc0] at q4 q6 q8
      have q7' : ∀ H, sliceD tab H bTI (.list 1 (by1 r)) none (some (iN 0)) none = some (.list 1 []) := fun H => by
        have := q7 H
        rw [hps, hc0] at this
        exact this
      rw [hc0]
      exact ⟨0, b, hb, GoesR.last (zsee_ok tab_ok mixed fun_ok noC_ok (jn6 noC b (by1 (c :: r)) (by1 r) (by1 (r.drop 0)) c acc.length (celB acc)) (.cons q1 (.cons q2 (.cons q3 (.cons q4 (.cons (q5 _) (.cons q6 (.cons (q7' _) (.cons (q8 _) .nil))))))))) (by intro h; cases h)⟩
    | cons x f =>
      have hfl : f.length + 1 = c.toNat := by rw [hps] at htl; simpa using htl
      have hap := jA_ok hb x f (by omega)
      have hw := jW_ok (ps := x :: f) hb
      rw [hps] at q7
      have hlen : (acc ++ (x :: f)).length = acc.length + (f.length + 1) := by simp
      have asks : ∀ {t : List Prop}, AskedP t → AskedP (jnR b (by1 (c :: r)) (by1 r) (by1 (x :: f)) (by1 (r.drop c.toNat)) c c.toNat acc.length (acc.length + (f.length + 1)) (celB acc) (celB (x :: f)) t) := fun ht => .cons q1 (.cons q2 (.cons q3 (.cons q4 (.cons (q5 _) (.cons q6 (.cons (q7 _) (.cons hap (.cons (q8 _) ht))))))))
      by_cases h2 : c.toNat < 255
      · rw [if_pos h2]
        have z := zgm_ok tab_ok mixed fun_ok noC_ok (jn2 noC b (by1 (c :: r)) (by1 r) (by1 (x :: f)) (by1 (r.drop c.toNat)) c c.toNat acc.length (acc.length + (f.length + 1)) (celB acc) (celB (x :: f))) (.cons (jFl hb) (asks (.cons (decide_eq_true (by omega)) .nil)))
        rw [hw, ← hlen] at z
        exact ⟨0, true, .inl rfl, GoesR.last z (by intro h; cases h)⟩
      rw [if_neg h2]
      have q9 : decide ((c.toNat : Int) < 255) = false := decide_eq_false (by omega)
      split
      · rename_i hd
        have z := zgm_ok tab_ok mixed fun_ok noC_ok (jn3 noC b (by1 (c :: r)) (by1 r) (by1 (x :: f)) (by1 (r.drop c.toNat)) c c.toNat acc.length (acc.length + (f.length + 1)) (celB acc) (celB (x :: f))) (.cons (jFl hb) (asks (.cons q9 (.cons (decide_eq_false (by rw [hd]; simp [by1])) .nil))))
        rw [hw, ← hlen] at z
        have g := zgm_ok tab_ok mixed fun_ok noC_ok (jnO noC true (by1 (r.drop c.toNat)) (acc ++ (x :: f)).length (celB (acc ++ (x :: f)))) (.cons (flatIn_nil _) (.cons (decide_eq_false (by rw [hd]; simp [by1])) .nil))
        exact ⟨1, .inr ⟨rfl, GoesR.step z (GoesR.last g (by intro h; cases h))⟩⟩
      · rename_i y r' hd
        have hlr' : r'.length + 1 = r.length - c.toNat := by rw [hd] at hdl; simpa using hdl
        have p1 : decide (((by1 (r.drop c.toNat)).length : Int) > 0) = true := decide_eq_true (by rw [by1_length, hdl]; omega)
        have p2 : idxOk 0 (by1 (r.drop c.toNat)).length = true := idxOk_lt (k := 0) (by rw [by1_length, hdl]; omega)
        have p3 : nth (by1 (r.drop c.toNat)) ((0 : Int).toNat) = some [i8 y] := by rw [hd]; rfl
        by_cases h3 : y = 254
        · rw [if_pos h3]
          subst h3
          have p4 : ∀ H, sliceD tab H bTI (.list 1 (by1 (r.drop c.toNat))) (some (.int .i64 1)) none none = some (.list 1 (by1 r')) := fun H => by
            rw [hd]
            exact slice_from (n := 1) (by rw [by1_length, List.length_cons]; omega)
          have z := zgm_ok tab_ok mixed fun_ok noC_ok (jn5 noC b (by1 (c :: r)) (by1 r) (by1 (x :: f)) (by1 (r.drop c.toNat)) (by1 r') c 254 c.toNat acc.length (acc.length + (f.length + 1)) (celB acc) (celB (x :: f))) (.cons (jFl hb) (asks (.cons q9 (.cons p1 (.cons p2 (.cons p3 (.cons rfl (.cons (p4 _) .nil))))))))
          rw [hw, ← hlen] at z
          obtain ⟨k, g⟩ := jn_loop m b0 r' (by omega) true (acc ++ (x :: f)) (.inl rfl) (by simp; omega)
          exact ⟨k + 1, g.step z⟩
        · rw [if_neg h3]
          have z := zgm_ok tab_ok mixed fun_ok noC_ok (jn4 noC b (by1 (c :: r)) (by1 r) (by1 (x :: f)) (by1 (r.drop c.toNat)) c y c.toNat acc.length (acc.length + (f.length + 1)) (celB acc) (celB (x :: f))) (.cons (flatIn_nil _) (asks (.cons q9 (.cons p1 (.cons p2 (.cons p3 (.cons (nx_ne h3) .nil)))))))
          exact ⟨0, .inl (GoesR.last z (by intro h; cases h))⟩
theorem Ans.nil4 {P : Program} {f : FuncId} {args : List DV} {e : DV} (h : Ans P f args (.tuple [.nil, .nil, e]) ⟨0, [], []⟩) : Ans P f args (.tuple [.list 1 [], .list 1 [], e]) ⟨0, [], []⟩ :=
  h.seeH rfl fun _ _ E w _ hs hv => ⟨E, fun _ h => h, yb_none hs.ys rfl, rfl, hs, see_tuple (w := w) (E := E) (E' := E) (ds := [.nil, .nil, e]) (bs := [.list 1 [], .list 1 [], e]) ⟨fun _ h => vr_nl h, fun _ h => vr_nl h, fun _ h => h, trivial⟩ hv⟩
theorem Ans.nil5 {P : Program} {f : FuncId} {args : List DV} {r e : DV} (h : Ans P f args (.tuple [.nil, r, e]) ⟨0, [], []⟩) : Ans P f args (.tuple [.list 1 [], r, e]) ⟨0, [], []⟩ :=
  h.seeH rfl fun _ _ E w _ hs hv => ⟨E, fun _ h => h, yb_none hs.ys rfl, rfl, hs, see_tuple (w := w) (E := E) (E' := E) (ds := [.nil, r, e]) (bs := [.list 1 [], r, e]) ⟨fun _ h => vr_nl h, fun _ h => h, fun _ h => h, trivial⟩ hv⟩
abbrev Bl : Type := {b : List UInt8 // b.length ≤ 2 ^ 39}
theorem jn_ans (x : Bl) : Ans Try.prog fJn [byL x.1] (jnD (jnB [] x.1)) ⟨0, [], []⟩ := by
  obtain ⟨b, hb⟩ := x
  obtain ⟨k, g⟩ := jn_loop b.length b b (Nat.le_refl _) false [] (.inr rfl) (by simpa using hb)
  dsimp only
  generalize jnB [] b = o at g ⊢
  cases o with
  | inl e =>
    rcases g with g | ⟨rfl, g⟩
    · exact Ans.nil4 (zflat_ok tab_ok mixed fun_ok noC_ok (jnG2 noC (by1 b) e) (.cons g.goes .nil))
    · exact Ans.nil4 (zflat_ok tab_ok mixed fun_ok noC_ok (jnG3 noC (by1 b)) (.cons g.goes .nil))
  | inr x =>
    obtain ⟨a, r⟩ := x
    obtain ⟨b', q, g⟩ := g
    have z := zans_ok tab_ok mixed fun_ok noC_ok (jnG noC b' (by1 b) (by1 r) a.length (celB a)) (.cons g.goes .nil)
    cases b' with
    | true => exact z.frz rfl (FrzL.tuple ⟨frz_oR (k := 1) rfl rfl (by decide) rfl rfl, .flat _ rfl, FrzD.int' _ _, trivial⟩)
    | false =>
      obtain rfl := q.resolve_left (by simp)
      exact Ans.nil5 (z.flat rfl rfl)
def cJn : ConF := liftC (eqC fJn (fun x : Bl => [byL x.1]) fun x => (jnD (jnB [] x.1), ⟨0, [], []⟩))
theorem cJn_ok : ConOk Try.prog cJn := liftC_ok (eqC_ok jn_ans fun _ => rfl)
theorem jnD_flat (o : Nat ⊕ (List UInt8 × List UInt8)) : flatD (jnD o) = true := by
  rcases o with e | ⟨a, r⟩ <;> rfl
theorem cJn_at (hp : Hp) (b : List UInt8) (h : b.length ≤ 2 ^ 39) : cJn fJn [byL b] hp = some (jnD (jnB [] b), hp, none) :=
  lift_at (A := fun x : Bl => [byL x.1]) (D := fun x => jnD (jnB [] x.1)) (fun x y hxy => by
    simp only [List.cons.injEq, and_true, byL, DV.list.injEq, true_and] at hxy
    rw [by1_inj hxy]) hp ⟨b, h⟩ rfl (jnD_flat _)
end
end Go.Proofs.Ytejlbkhddehaiaa
