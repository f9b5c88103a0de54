/- Operations on abstract data are what the model does: the theorem, all kinds. No function of the program is named here. -/
import Derived.Test.YtoghpmeoekbcbaaV13
namespace Go.Proofs.Ytoghpmeoekbcbaa
open Go.RowKit

section
variable {P : Program} {T : Tab} {W0 : World} {base : Nat} {S0 : Nat → Prop} {E : Env} {hp : Hp} {w : World} {a : Act} {sl : Slots} {o : Oper}
theorem evs_args {xs : Array Operand} {ds : List DV} (hsl : ∀ t d, look sl t = some d → VR w E d (a.tmps.getD t undef)) (h : evs sl xs.toList = some ds) : VRs E w ds (xs.map a.eval).toList := by
  have := evs_ok hsl h
  simpa using this
theorem lenD_ok {t ty : TypeId} {i : TI} (hi : TiOk P t i) {x d : DV} {v : Value} (hx : VR w E x v) (h : lenD i x = some d) : ∃ u, (Builtin.len_ #[t] ty #[v]).run P w = .ok u w ∧ VR w E d u := by
  obtain ⟨info, dd, i1, i2, i3, i3', i4, i5, i6⟩ := hi
  unfold lenD at h
  split at h
  · rename_i e id off s n c htd
    rw [htd] at i4
    cases dd <;> first | (simp [tdOk] at i4; done) | skip
    cases h
    obtain ⟨A, c', rfl, _⟩ := hx.of_sl
    exact ⟨.int .i64 (n : Int), by simp [Builtin.len_, run_underlying i2, goInt], .int _ _ _⟩
  · rename_i e s xs htd
    rw [htd] at i4
    cases dd <;> first | (simp [tdOk] at i4; done) | skip
    cases h
    obtain ⟨A, c, b, off, g, rfl, _⟩ := hx.of_list
    exact ⟨.int .i64 (xs.length : Int), by simp [Builtin.len_, run_underlying i2, goInt], .int _ _ _⟩
  · rename_i e htd
    rw [htd] at i4
    cases dd <;> first | (simp [tdOk] at i4; done) | skip
    cases h
    rw [hx.of_nil]
    exact ⟨.int .i64 0, by simp [Builtin.len_, run_underlying i2, goInt], .int _ _ _⟩
  · rename_i b htd
    rw [htd] at i4
    cases dd <;> first | (simp [tdOk] at i4; done) | skip
    cases h
    rw [hx.of_str]
    exact ⟨.int .i64 (b.size : Int), by simp [Builtin.len_, run_underlying i2, goInt], .int _ _ _⟩
  · rename_i n e htd
    rw [htd] at i4
    cases dd <;> first | (simp [tdOk] at i4; done) | skip
    obtain ⟨rfl, rfl⟩ := i4
    cases h
    exact ⟨.int .i64 (n : Int), by simp [Builtin.len_, run_underlying i2, goInt], .int _ _ _⟩
  · cases h
theorem mmD_ok (mn : Bool) : ∀ {r : List DV} {x d : DV} {v : Value} {vs : List Value}, VR w E x v → VRs E w r vs → mmD mn x r = some d → ∃ u, (vs.foldlM (match mn with | true => Builtin.min2 | false => Builtin.max2) v).run P w = .ok u w ∧ VR w E d u
  | [], x, d, v, vs, hx, hr, h => by
    cases h
    rw [hr.unnil]
    exact ⟨v, rfl, hx⟩
  | y :: r, x, d, v, vs, hx, hr, h => by
    obtain ⟨y', ys, rfl, hy, hys⟩ := hr.uncons
    unfold mmD at h
    split at h
    · rename_i e; cases e
    · rename_i k p k' q r' e
      cases e
      split at h
      · rename_i hk
        subst hk
        have e1 := hx.of_int
        have e2 := hy.of_int
        subst e1
        subst e2
        cases mn
        · obtain ⟨u, h1, h2⟩ := mmD_ok false (v := .int k (if p < q then q else p)) (.int E k _) hys h
          exact ⟨u, by simp only [List.foldlM_cons, Builtin.max2, Sem.run_bind, Sem.run_pure, Result.andThen_ok]; exact h1, h2⟩
        · obtain ⟨u, h1, h2⟩ := mmD_ok true (v := .int k (if q < p then q else p)) (.int E k _) hys h
          exact ⟨u, by simp only [List.foldlM_cons, Builtin.min2, Sem.run_bind, Sem.run_pure, Result.andThen_ok]; exact h1, h2⟩
      · cases h
    · cases h
theorem list_two {l : List Value} {a b : Value} (h : l = [a, b]) : l.toArray = #[a, b] := by rw [h]
theorem builtinD_ok (hT : TabOk P T) (hs : HS W0 base S0 E hp w) {b : Builtin} {args : List DV} {vs : Array Value} {ts : Array TypeId} (hv : VRs E w args vs.toList) {r : DV × Hp × Mut} (h : builtinD T hp b args ts.toList = some r) (ty : TypeId) (cs : Array Bool) (hmu : mutOk base r.2.2) :
    ∃ u E' w', (builtin b ts ty cs vs).run P w = .ok (.value u) w' ∧ Stp W0 base S0 E hp w E' r.2.1 w' ∧ VR w' E' r.1 u := by
  have hkeep : ∀ {x : Option DV}, keep hp x = some r → (∀ d, x = some d → ∃ u, (builtin b ts ty cs vs).run P w = .ok (.value u) w ∧ VR w E d u) → ∃ u E' w', (builtin b ts ty cs vs).run P w = .ok (.value u) w' ∧ Stp W0 base S0 E hp w E' r.2.1 w' ∧ VR w' E' r.1 u := by
    intro x hx hk
    cases x with
    | none => cases hx
    | some d =>
      cases hx
      obtain ⟨u, h1, h2⟩ := hk d rfl
      exact ⟨u, E, w, h1, Stp.refl hs, h2⟩
  unfold builtinD at h
  split at h
  · -- len
    rename_i d t hts
    obtain ⟨v, vs', e1, hd, hvs'⟩ := hv.uncons
    have e2 := hvs'.unnil
    subst e2
    have e3 : vs = #[v] := Array.toList_inj.1 e1
    have e4 : ts = #[t] := Array.toList_inj.1 hts
    subst e3
    subst e4
    split at h
    · rename_i i hi
      exact hkeep h fun d' hd' => by
        obtain ⟨u, h1, h2⟩ := lenD_ok (ty := ty) (hT _ _ hi) hd hd'
        exact ⟨u, by simp [builtin, h1], h2⟩
    · cases h
  · -- cap
    rename_i d t hts
    obtain ⟨v, vs', e1, hd, hvs'⟩ := hv.uncons
    have e2 := hvs'.unnil
    subst e2
    have e3 : vs = #[v] := Array.toList_inj.1 e1
    have e4 : ts = #[t] := Array.toList_inj.1 hts
    subst e3
    subst e4
    split at h
    · rename_i i hi
      obtain ⟨info, dd, i1, i2, i3, i3', i4, i5, i6⟩ := hT _ _ hi
      split at h
      · rename_i e htd
        rw [htd] at i4
        cases dd <;> first | (simp [tdOk] at i4; done) | skip
        exact hkeep h fun d' hd' => by
          unfold capD at hd'
          split at hd'
          · cases hd'
            rw [hd.of_nil]
            exact ⟨.int .i64 0, by simp [builtin, Builtin.cap_, run_underlying i2, goInt], .int _ _ _⟩
          · rename_i id off s n c
            split at hd'
            · rename_i ob hob
              split at hd'
              · rename_i hk
                cases hd'
                obtain ⟨A, c', rfl, hD, h1, h2, h3, h4, h5⟩ := hd.of_sl
                obtain ⟨o', ho', hok⟩ := hs.ob _ hD
                rw [hob] at ho'
                cases ho'
                rw [h4 (hok.1.1 hk)]
                exact ⟨.int .i64 (c : Int), by simp [builtin, Builtin.cap_, run_underlying i2, goInt], .int _ _ _⟩
              · cases hd'
            · cases hd'
          · cases hd'
      · cases h
    · cases h
  · -- append
    rename_i d x t t' hts
    obtain ⟨v, vs', e1, hd, hvs'⟩ := hv.uncons
    obtain ⟨v2, vs2, e1', hd2, hvs2⟩ := hvs'.uncons
    have e2 := hvs2.unnil
    subst e2
    subst e1'
    have e3 : vs = #[v, v2] := Array.toList_inj.1 e1
    have e4 : ts = #[t, t'] := Array.toList_inj.1 hts
    subst e3
    subst e4
    split at h
    · rename_i i i' hi hi'
      obtain ⟨info, dd, i1, i2, i3, i3', i4, i5, i6⟩ := hT _ _ hi
      obtain ⟨info', dd', j1, j2, j3, j3', j4, j5, j6⟩ := hT _ _ hi'
      have key : ∀ e, i.td = .slice e → (∀ k, dd' ≠ .int k) → ∀ j, T e = some j → ∀ m news, contD hp j.size x = some (m, news) → appH hp e j d m news = some r → ∃ u E' w', (builtin .append #[t, t'] ty cs #[v, v2]).run P w = .ok (.value u) w' ∧ Stp W0 base S0 E hp w E' r.2.1 w' ∧ VR w' E' r.1 u := by
        intro e htd hdd j hj m news hc ha
        rw [htd] at i4
        cases dd <;> first | (simp [tdOk] at i4; done) | skip
        obtain rfl : e = _ := i4
        obtain ⟨us, q1, q2, q3⟩ := cont_ok (P := P) hs hd2 hc
        have hsz : ∀ info, P.info? e = some info → info.size = j.size := fun info hinfo => by
          obtain ⟨einfo, _, e1, _, e3, _⟩ := hT _ _ hj
          rw [hinfo] at e1
          cases e1
          exact e3
        obtain ⟨u, E', w', h1, h2, h3⟩ := appH_ok (P := P) (t' := t') (ty := ty) hs (hT _ _ hj) i2 j2 hd (fun info hinfo => ⟨by rw [q1.len, hsz info hinfo], .inl ⟨hdd, by rw [hsz info hinfo]; exact q1⟩⟩) q2 q3 ha hmu
        exact ⟨u, E', w', by simp [builtin, h1], h2, h3⟩
      split at h
      · rename_i e e' htd htd'
        rw [htd'] at j4
        cases dd' <;> first | (simp [tdOk] at j4; done) | skip
        split at h
        · rename_i j hj
          split at h
          · rename_i m news hc
            exact key e htd (fun k hk => by cases hk) j hj m news hc h
          · cases h
        · cases h
      · rename_i e htd htd'
        rw [htd'] at j4
        cases dd' <;> first | (simp [tdOk] at j4; done) | skip
        split at h
        · rename_i j hj
          split at h
          · rename_i m news hc
            exact key e htd (fun k hk => by cases hk) j hj m news hc h
          · cases h
        · cases h
      · rename_i e kk htd htd'
        rw [htd] at i4
        cases dd <;> first | (simp [tdOk] at i4; done) | skip
        obtain rfl : e = _ := i4
        rw [htd'] at j4
        cases dd' <;> first | (simp [tdOk] at j4; done) | skip
        split at h
        · rename_i j kl l hj
          split at h
          · rename_i hb
            simp only [Bool.and_eq_true, decide_eq_true_eq] at hb
            obtain ⟨hl0, hfit⟩ := hb
            obtain ⟨f1, f2⟩ := fitB_ok hfit
            have hze : j.zero ≠ [] := fun hz => by
              unfold appH at h
              rw [hz] at h
              cases h
            obtain ⟨einfo, ed, e1, e2, e3, e3', e4, e5, _⟩ := hT _ _ hj
            obtain ⟨z, z1, z2, z3, z4⟩ := e5 j.zero rfl hze
            obtain ⟨n1, n2⟩ := nlist_ok (z4 E w) l.toNat
            have hzl : (Builtin.zeroCells z.cells l.toNat).toList = (List.replicate l.toNat z.cells.toList).flatten := madeCells_list z.cells l.toNat
            have hvl : v2 = .int kl ((l.toNat : Nat) : Int) := by
              rw [hd2.of_int, Int.toNat_of_nonneg hl0]
            obtain ⟨u, E', w', h1, h2, h3⟩ := appH_ok (P := P) (t' := t') (ty := ty) (v := v2) hs (hT _ _ hj) i2 j2 hd (fun info hinfo => by
              rw [e1] at hinfo
              cases hinfo
              refine ⟨?_, .inr ⟨_, kl, z, rfl, z1, hvl, hzl.symm, f1, by rw [e3']; exact f2⟩⟩
              rw [← hzl, Array.length_toList, size_zeroCells, z2, e3]) n1 (n2 z3) h hmu
            exact ⟨u, E', w', by simp [builtin, h1], h2, h3⟩
          · cases h
        · cases h
      · cases h
    · cases h
  · -- copy
    rename_i d x t t' hts
    obtain ⟨v, vs', e1, hd, hvs'⟩ := hv.uncons
    obtain ⟨v2, vs2, e1', hd2, hvs2⟩ := hvs'.uncons
    have e2 := hvs2.unnil
    subst e2
    subst e1'
    have e3 : vs = #[v, v2] := Array.toList_inj.1 e1
    have e4 : ts = #[t, t'] := Array.toList_inj.1 hts
    subst e3
    subst e4
    split at h
    · rename_i i hi
      obtain ⟨info, dd, i1, i2, i3, i3', i4, i5, i6⟩ := hT _ _ hi
      split at h
      · rename_i e htd
        rw [htd] at i4
        cases dd <;> first | (simp [tdOk] at i4; done) | skip
        obtain rfl : e = _ := i4
        split at h
        · rename_i j hj
          split at h
          · rename_i m news hc
            obtain ⟨us, q1, q2, q3⟩ := cont_ok (P := P) hs hd2 hc
            obtain ⟨u, E', w', h1, h2, h3⟩ := copyH_ok (P := P) (t' := t') (ty := ty) hs (hT _ _ hj) i2 hd q1 q2 q3 h hmu
            exact ⟨u, E', w', by simp [builtin, h1], h2, h3⟩
          · cases h
        · cases h
      · cases h
    · cases h
  · -- min
    rename_i d rest ts' hts
    exact hkeep h fun d' hd' => by
      obtain ⟨v, vs', e1, hd, hvs'⟩ := hv.uncons
      obtain ⟨u, h1, h2⟩ := mmD_ok (P := P) true hd hvs' hd'
      exact ⟨u, by simp [builtin, Builtin.min_, e1, h1], h2⟩
  · -- max
    rename_i d rest ts' hts
    exact hkeep h fun d' hd' => by
      obtain ⟨v, vs', e1, hd, hvs'⟩ := hv.uncons
      obtain ⟨u, h1, h2⟩ := mmD_ok (P := P) false hd hvs' hd'
      exact ⟨u, by simp [builtin, Builtin.max_, e1, h1], h2⟩
  · cases h
end
end Go.Proofs.Ytoghpmeoekbcbaa
