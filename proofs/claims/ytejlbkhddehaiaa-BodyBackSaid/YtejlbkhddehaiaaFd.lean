/- Elements are decoded, at each depth: what is answered. -/
import Derived.Test.YtejlbkhddehaiaaFc
namespace Go.Proofs.Ytejlbkhddehaiaa
open Go.RowKit

noncomputable section
/-! ### What is answered -/
/-- an element of this content: with an error, and how many have been counted -/
def filF (rd : Nat → List UInt8 → List El × Nat × Nat) (last : Bool) (n : Nat) (i : UInt8) (c : List UInt8) : El × Nat × Nat := match decide (c.length > 1024 + exts i) with
  | true => (zEl, 11, n)
  | false => match (nx i == 255) with
    | true => match c with
      | [] => (zEl, 12, n)
      | e :: t => (.mk i e t [], 0, n)
    | false => match cont i with
      | false => (.mk i 0 c [], 0, n)
      | true => match last with
        | true => match c with
          | [] => (.mk i 0 [] [], 0, n)
          | _ :: _ => (zEl, 4, n)
        | false => match (rd n c).2.1 with
          | 0 => (.mk i 0 [] (rd n c).1, 0, (rd n c).2.2)
          | e + 1 => (zEl, e + 1, (rd n c).2.2)
/-- the first element, what follows, an error, how many have been counted -/
def elF (rd : Nat → List UInt8 → List El × Nat × Nat) (last : Bool) (n : Nat) (b : List UInt8) : El × List UInt8 × Nat × Nat := match b with
  | [] => (zEl, [], 0, n)
  | c :: t => match decide (n = 64) with
    | true => (zEl, [], 4, n)
    | false => match decide (c = 254) with
      | true => (zEl, [], 12, n + 1)
      | false => match jnB [] t with
        | .inl e => (zEl, [], e, n + 1)
        | .inr x => ((filF rd last (n + 1) c x.1).1, x.2, (filF rd last (n + 1) c x.1).2.1, (filF rd last (n + 1) c x.1).2.2)
def rdF (el : Nat → List UInt8 → El × List UInt8 × Nat × Nat) : Nat → Nat → List UInt8 → List El → List El × Nat × Nat
  | 0, n, _, acc => (acc, 0, n)
  | m + 1, n, b, acc => match b with
    | [] => (acc, 0, n)
    | c :: b => match (el n (c :: b)).2.2.1 with
      | 0 => rdF el m (el n (c :: b)).2.2.2 (el n (c :: b)).2.1 (acc ++ [(el n (c :: b)).1])
      | e + 1 => ([], e + 1, (el n (c :: b)).2.2.2)
def decL : Nat → Nat → List UInt8 → List El × Nat × Nat
  | 0, n, _ => ([], 0, n)
  | k + 1, n, b => rdF (elF (decL k) (k == 0)) (b.length + 1) n b []
theorem rdF_nil (el : Nat → List UInt8 → El × List UInt8 × Nat × Nat) (m n : Nat) (acc : List El) : rdF el m n [] acc = (acc, 0, n) := by cases m <;> rfl
theorem rdF_err (el : Nat → List UInt8 → El × List UInt8 × Nat × Nat) : ∀ (m n : Nat) (b : List UInt8) (acc : List El), (rdF el m n b acc).2.1 = 0 ∨ (rdF el m n b acc).1 = []
  | 0, _, _, _ => .inl rfl
  | m + 1, n, [], _ => .inl rfl
  | m + 1, n, c :: b, acc => by
    unfold rdF
    dsimp only
    split
    · exact rdF_err el m _ _ _
    · exact .inr rfl
/-! ### Bounds -/
theorem jn_bad : ∀ (m : Nat) {acc b : List UInt8} {e : Nat}, b.length ≤ m → jnB acc b = .inl e → e ≠ 0
  | m, acc, [], e, _, h => by
    rw [jnB] at h
    cases h
    decide
  | 0, acc, c :: r, e, hm, _ => by simp at hm
  | m + 1, acc, c :: r, e, hm, h => by
    rw [jnB] at h
    simp only [List.length_cons] at hm
    split at h
    · cases h; decide
    · split at h
      · cases h
      · split at h
        · cases h; decide
        · rename_i y r' hd
          have := congrArg List.length hd
          rw [List.length_drop] at this
          simp only [List.length_cons] at this
          split at h
          · exact jn_bad m (by omega) h
          · cases h; decide
theorem jn_len : ∀ (m : Nat) {acc b a r : List UInt8}, b.length ≤ m → jnB acc b = .inr (a, r) → a.length + r.length + 1 ≤ acc.length + b.length
  | m, acc, [], a, r, _, h => by
    rw [jnB] at h
    cases h
  | 0, acc, c :: r, _, _, hm, _ => by simp at hm
  | m + 1, acc, c :: r, a, r2, hm, h => by
    rw [jnB] at h
    simp only [List.length_cons] at hm ⊢
    split at h
    · cases h
    · rename_i hc
      split at h
      · cases h
        simp only [List.length_append, List.length_take, List.length_drop]
        omega
      · split at h
        · cases h
        · rename_i y r' hd
          have hl := congrArg List.length hd
          rw [List.length_drop] at hl
          simp only [List.length_cons] at hl
          split at h
          · have := jn_len m (by omega) h
            simp only [List.length_append, List.length_take] at this
            omega
          · cases h
/-! ### Answers seen otherwise -/
theorem AnsK.seeD {K : Nat} {P : Program} {f : FuncId} {args : List DV} {h0 hp : Hp} {d d' : DV} (h : AnsK K P f args h0 d hp) (hd : ∀ E w v, VR w E d v → VR w E d' v) : AnsK K P f args h0 d' hp :=
  ⟨h.1, fun W0 S0 E w vs hs hv => (h.2 W0 S0 E w vs hs hv).mono fun e w' => by
    rintro ⟨E', v, rfl, hg, hh, hr⟩
    exact ⟨E', v, rfl, hg, hh, hd E' w' v hr⟩⟩
theorem see_zE {E : Env} {w : World} {v : Value} (h : VR w E (.agg zE) v) : VR w E (.agg (elD zEl)) v := see_agg (w := w) (E := E) (E' := E) (ds := zE) (bs := elD zEl) ⟨fun _ h => h, fun _ h => h, fun _ h => vr_nl h, fun _ h => vr_nl h, trivial⟩ h
theorem see_sub {E : Env} {w : World} {v : Value} {a b c : DV} (h : VR w E (.agg [a, b, c, .nil]) v) : VR w E (.agg [a, b, c, .list 4 []]) v := see_agg (w := w) (E := E) (E' := E) (ds := [a, b, c, .nil]) (bs := [a, b, c, .list 4 []]) ⟨fun _ h => h, fun _ h => h, fun _ h => h, fun _ h => vr_nl h, trivial⟩ h
theorem see_dat {E : Env} {w : World} {v : Value} {a b c : DV} (h : VR w E (.agg [a, b, .nil, c]) v) : VR w E (.agg [a, b, .list 1 [], c]) v := see_agg (w := w) (E := E) (E' := E) (ds := [a, b, .nil, c]) (bs := [a, b, .list 1 [], c]) ⟨fun _ h => h, fun _ h => h, fun _ h => vr_nl h, fun _ h => h, trivial⟩ h
theorem see_t2 {E : Env} {w : World} {a b c : DV} (hd : ∀ v, VR w E a v → VR w E b v) (v : Value) (h : VR w E (.tuple [a, c]) v) : VR w E (.tuple [b, c]) v := see_tuple (w := w) (E := E) (E' := E) (ds := [a, c]) (bs := [b, c]) ⟨hd, fun _ h => h, trivial⟩ h
theorem see_t3 {E : Env} {w : World} {c : DV} (v : Value) (h : VR w E (.tuple [.agg zE, .nil, c]) v) : VR w E (.tuple [.agg (elD zEl), .list 1 [], c]) v := see_tuple (w := w) (E := E) (E' := E) (ds := [.agg zE, .nil, c]) (bs := [.agg (elD zEl), .list 1 [], c]) ⟨fun _ h => see_zE h, fun _ h => vr_nl h, fun _ h => h, trivial⟩ h
abbrev FlR (r : List DV) : Prop := ∀ d ∈ r, flat0 d = true
theorem flatIn_cons {id : Nat} {ids : List Nat} {hp : Hp} {o : Ob} (hg : hp.get id = some o) (h : FlR o.cs) (t : FlatIn ids hp) : FlatIn (id :: ids) hp := by
  intro id' o' hid hg' c hc
  rcases List.mem_cons.1 hid with rfl | hid
  · rw [hg] at hg'
    cases hg'
    exact h c hc
  · exact t id' o' hid hg' c hc
/-- one call's contract -/
abbrev oneC (f : FuncId) (args : List DV) (hp : Hp) (d : DV) (hp' : Hp) : ConF := heapC f (fun _ : Unit => args) (fun _ => hp) fun _ => (d, hp')
theorem oneC_at (f : FuncId) (args : List DV) (hp : Hp) (d : DV) (hp' : Hp) : oneC f args hp d hp' f args hp = some (d, hp', some 0) := heapC_at (A := fun _ : Unit => args) (H := fun _ => hp) (B := fun _ => (d, hp')) (fun _ _ _ _ => rfl) ()
theorem oneC_ok {f : FuncId} {args : List DV} {hp hp' : Hp} {d : DV} (h : AnsK hp.n Try.prog f args hp d hp') (hn : hp.n ≤ hp'.n) (h1 : hp.ls = []) (h2 : hp'.ls = []) : ConOk Try.prog (oneC f args hp d hp') := heapC_ok (fun _ => h) (fun _ => hn) fun _ i => by
  show (lfind i hp'.ls).map LS.stat = (lfind i hp.ls).map LS.stat
  rw [h1, h2]
def cFx : ConF := orK cCo cXs
theorem cFx_ok : ConOk Try.prog cFx := orK_ok cCo_ok cXs_ok
theorem cFx_co (hp : Hp) (i : UInt8) : cFx fCo [i8 i] hp = some (.bool (cont i), hp, none) := orK_left (cCo_at hp i)
theorem cFx_xs (hp : Hp) (i : UInt8) : cFx fXs [i8 i] hp = some (iN (exts i), hp, none) := orK_right (lift_oth (eqC_other (by kernel_rfl))) (cXs_at hp i)
theorem cFx_rd {args : List DV} {hp : Hp} : cFx fRd args hp = none := by
  have h1 : cCo fRd args hp = none := lift_oth (eqC_other (by kernel_rfl))
  have h2 : cXs fRd args hp = none := lift_oth (eqC_other (by kernel_rfl))
  unfold cFx orK
  rw [h1]
  exact h2
theorem wx (i : UInt8) : DV.int .i64 (IntKind.i64.wrap (1024 + (exts i : Int))) = iN (1024 + exts i) := by
  have := exts_le i
  rw [show (1024 + (exts i : Int)) = ((1024 + exts i : Nat) : Int) by omega]
  exact congrArg (DV.int .i64) (wrapI (by omega))
theorem fl_le {rd : Nat → List UInt8 → List El × Nat × Nat} (hrd : ∀ n c, n ≤ 64 → (rd n c).2.2 ≤ 64) {last : Bool} {n : Nat} {i : UInt8} {c : List UInt8} (hn : n ≤ 64) : (filF rd last n i c).2.2 ≤ 64 := by
  unfold filF
  split
  · exact hn
  · split
    · split <;> exact hn
    · split
      · exact hn
      · split
        · split <;> exact hn
        · split <;> exact hrd _ _ hn
theorem el_le {rd : Nat → List UInt8 → List El × Nat × Nat} (hrd : ∀ n c, n ≤ 64 → (rd n c).2.2 ≤ 64) {last : Bool} {n : Nat} {b : List UInt8} (hn : n ≤ 64) : (elF rd last n b).2.2.2 ≤ 64 := by
  unfold elF
  split
  · exact hn
  · split
    · exact hn
    · rename_i h64
      have h64 := of_decide_eq_false h64
      split
      · show n + 1 ≤ 64; omega
      · split
        · show n + 1 ≤ 64; omega
        · exact fl_le hrd (by omega)
theorem rdF_le {el : Nat → List UInt8 → El × List UInt8 × Nat × Nat} (h : ∀ n b, n ≤ 64 → (el n b).2.2.2 ≤ 64) : ∀ (m n : Nat) (b : List UInt8) (acc : List El), n ≤ 64 → (rdF el m n b acc).2.2 ≤ 64
  | 0, _, _, _, hn => hn
  | m + 1, n, [], _, hn => hn
  | m + 1, n, c :: b, acc, hn => by
    unfold rdF
    dsimp only
    split
    · exact rdF_le h m _ _ _ (h _ _ hn)
    · exact h _ _ hn
theorem decL_le : ∀ (k n : Nat) (b : List UInt8), n ≤ 64 → (decL k n b).2.2 ≤ 64
  | 0, _, _, hn => hn
  | k + 1, _, _, hn => rdF_le (fun _ _ hn => el_le (fun _ _ hn => decL_le k _ _ hn) hn) _ _ _ _ hn
theorem el_rest {rd : Nat → List UInt8 → List El × Nat × Nat} {last : Bool} {n : Nat} {c : UInt8} {t : List UInt8} : (elF rd last n (c :: t)).2.1.length < (c :: t).length := by
  unfold elF
  dsimp only
  split
  · simp
  · split
    · simp
    · split
      · simp
      · rename_i x hx
        have := jn_len _ (Nat.le_refl _) hx
        simp only [List.length_cons, List.length_nil] at this ⊢
        omega
/-- a row of elements that grows -/
def RowE (id : Nat) (dv : DV) (acc : List El) : Prop := dv = sl4 id acc.length ∨ (dv = .nil ∧ acc = [])
theorem app_elG {hp : Hp} {id id2 n : Nat} {o o2 : Ob} {news : List DV} (hg : hp.get id = some o) (hk : o.k = 1) (hr : o.r = 0) (ht : o.t = 174) (hn : o.cs.length = n * 4) (hg2 : hp.get id2 = some o2) (hnew : o2.cs = news) (hl4 : news.length = 4) (hl : n < 2 ^ 30) :
    builtinD tab hp .append [.sl id 0 4 n n, .sl id2 0 4 1 1] tyEE = some (.sl hp.n 0 4 (n + 1) (n + 1), (hp.put id ⟨2, 0, o.t, o.cs⟩).push ⟨3, id, o.t, o.cs ++ news⟩, mmin (some id) (some id)) := by
  have hc : contD hp 4 (.sl id2 0 4 1 1) = some (1, news) := by
    have hb : Nat.ble (0 + (0 + 1) * 4) news.length = true := bleT (by rw [hl4]; exact Nat.le_refl 4)
    show (match hp.get id2 with
      | some o => match Nat.ble (0 + (0 + 1) * 4) o.cs.length with
        | true => some (0 + 1, (o.cs.drop 0).take ((0 + 1) * 4))
        | false => none
      | none => none) = _
    rw [hg2]
    simp only [hnew, hb, List.drop_zero]
    rw [List.take_of_length_le (by omega)]
  rw [app_tabE, hc]
  obtain ⟨e1, e2, z, zs, e3⟩ := eTI_ok
  have hf := fitB_le56 (n := n + (0 + 1)) (by omega)
  have hb : Nat.ble (n + (0 + 1)) n = false := bleF (by omega)
  have he : Nat.ble (0 + n * 4) o.cs.length = true := bleT (by omega)
  have hq : Nat.beq (0 + n * 4) o.cs.length = true := beqT (by omega)
  have hte : Nat.beq o.t 174 = true := beqT ht
  obtain ⟨k, r, t, cs⟩ := o
  dsimp only at hk hr ht hn hg he hq hte ⊢
  subst hk hr
  show appH hp 174 eTI (.sl id 0 4 n n) (0 + 1) news = _
  have hro : rootOf 1 0 id = id := rfl
  simp only [appH, e1, e2, e3, show Nat.beq 4 0 = false from rfl, show Nat.beq 4 4 = true from rfl, hg, hb, he, hf, hq, hte, List.drop_zero, hro]
end
end Go.Proofs.Ytejlbkhddehaiaa
