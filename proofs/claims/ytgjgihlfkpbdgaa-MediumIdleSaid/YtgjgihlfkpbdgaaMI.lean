/- A range over a function, by what its iterator does. No function of the program is named here. -/
import Derived.Test.YtgjgihlfkpbdgaaMH
namespace Go.Proofs.Ytgjgihlfkpbdgaa
open Go.RowKit

noncomputable section
variable {P : Program} {T : Tab}
/-- the iterator being carried out from a heap of one's own, the loop's record tells the slots then -/
theorem Goes.range {ks : List (Nat × Nat)} {g : Operand} {ps : Array Tmp} {x y : Code} {sl : Slots} {hp hp1 : Hp} {f : FuncId} {captured : List DV} {d : DV} {nc : Nat} {R : LS} {e : Ex} (hg : ev sl g = some (.fn f [] captured)) (hks : assoc ks 65535 = some nc) (hl : hp.ls = [])
    (hA : AnsH P f (.yld hp.n :: captured) (hp.beg nc ks sl ps.toList x y) d hp1) (hR : lfind hp.n hp1.ls = some R) (hout : outOf R.st R.pe = some e) : Goes P T ks (.rangeFunc g ps x y) sl hp e R.sl (hp1.wls []) := by
  intro N hN fm W0 S0 E a w Q hs hQ
  have hnc : nc = N := by
    simp only [codeChk, hks, Bool.and_eq_true] at hN
    exact Nat.eq_of_beq_eq_true hN.1
  subst hnc
  obtain ⟨hf, hc⟩ := hA
  obtain ⟨ho1, ho2⟩ := outOf_some hout
  have hyn := yb_none hs.hs.ys hl
  have hro : fm.ro = none := by
    cases h : fm.ro with
    | none => rfl
    | some b0 =>
      obtain ⟨_, id0, D0, d2, _⟩ := hs.ro b0 h
      rw [hyn] at d2
      cases d2
  obtain ⟨us, vs, hgv, hus, hvs⟩ := (ev_ok hs.hs.gl hs.sl hg).of_fn
  rw [hus.unnil] at hgv
  refine wpIn_rangeFunc fun fn _ => ?_
  have a1 := hs.hs.allocO (.deferred (some []))
  have a2 := a1.allocO (.loop { state := .ready, pending := none, fn, tmps := a.tmps, params := ps, assign := x, body := y, defers := w.heap.size })
  obtain ⟨w2, hw2⟩ : ∃ w2, w2 = (w.alloc (.deferred (some []))).alloc (.loop { state := .ready, pending := none, fn, tmps := a.tmps, params := ps, assign := x, body := y, defers := w.heap.size }) := ⟨_, rfl⟩
  have k1 : (Instr.enterLoop fn a.tmps ps x y (Fr fm.ro).round).run P w = .ok (w.heap.size + 1, [mark w.heap.size]) w2 := by
    rw [hro, hw2]
    exact run_enterLoop_outer _ _ _ _ _
  have k2 : w2.heap[w.heap.size + 1]? = some (.loop { state := .ready, pending := none, fn, tmps := a.tmps, params := ps, assign := x, body := y, defers := w.heap.size }) := by
    have := World.alloc_heap_new (w.alloc (.deferred (some []))) (.loop { state := .ready, pending := none, fn, tmps := a.tmps, params := ps, assign := x, body := y, defers := w.heap.size })
    rw [World.size_alloc] at this
    rw [hw2]
    exact this
  have k3 : w2.heap[w.heap.size]? = some (.deferred (some [])) := by
    rw [hw2]
    exact (Below.heap_alloc _ _ _ (by simp)).trans (World.alloc_heap_new w _)
  have k12 : Later E w E w2 := by
    rw [hw2]
    exact (later_allocO E _ hs.hs.ro).trans (later_allocO E _ a1.ro)
  have k13 : Oth w w2 := by
    rw [hw2]
    exact (oth_allocO _).trans (oth_allocO _)
  have k11 : HS W0 0 S0 E hp w2 := by
    rw [hw2]
    exact a2
  clear a1 a2
  have hW0 := hs.hs.bel.size
  have hsb : HS W0 0 S0 (E.withY hp.n (w.heap.size + 1) w.heap.size) (hp.beg nc ks sl ps.toList x y) w2 := k11.beg (by omega) k2 k3 rfl rfl rfl rfl rfl rfl hs.size (fun t d ht => (hs.sl t d ht).later k12) fun id b' D' hb' => by
    rw [hyn] at hb'
    cases hb'
  have hly := k11.ys.later_withY (w.heap.size + 1) w.heap.size
  refine ⟨w.heap.size + 1, [mark w.heap.size], w2, { target := .fn (.func f) vs.toArray, args := #[.func (.yield (w.heap.size + 1)) #[] #[]] }, w2, f, #[.func (.yield (w.heap.size + 1)) #[] #[]] ++ vs.toArray, w2, k1, ?_, fun _ _ => trivial, ?_, fun h => (by cases h), ?_⟩
  · simp only [resolve, hgv]
    simp [go_sem]
  · simp [invoke, go_sem, run_callFunc_ok hf]
  have hargs : VRs (E.withY hp.n (w.heap.size + 1) w.heap.size) w2 (.yld hp.n :: captured) (.func (.yield (w.heap.size + 1)) #[] #[] :: vs) := .cons (.yld _ hp.n (w.heap.size + 1) w.heap.size (by show (if hp.n = hp.n then _ else _) = _; rw [if_pos rfl])) (hvs.later (k12.trans hly))
  have hcc := hc W0 S0 _ w2 _ hsb hargs
  have he1 : (#[.func (.yield (w.heap.size + 1)) #[] #[]] ++ vs.toArray : Array Value) = (Value.func (.yield (w.heap.size + 1)) #[] #[] :: vs).toArray := by simp
  rw [he1]
  refine (callsIn_fr hcc).mono ?_
  rintro en w3 ⟨E', v, rfl, hgon, hhs, _⟩
  have hRid := (lfind_mem hR).2
  obtain ⟨b3, D3, r3, p1, p2, p3, p4, p5, p6, p7, p8, p9, p10, p11, p12⟩ := hhs.ys.ok _ R hR
  have hyb : E'.yb hp.n = some (w.heap.size + 1, w.heap.size) := by
    rw [hgon.yb]
    show (if hp.n = hp.n then _ else _) = _
    rw [if_pos rfl]
  rw [hRid, hyb] at p1
  cases p1
  obtain ⟨r4, t1, t2⟩ := hgon.oth.2.2 _ _ k2
  rw [p3] at t1
  cases t1
  have t2 : r3.tmps = a.tmps := t2
  have hyE : ∀ id, (E'.cut hp.n).yb id = none := fun id => by
    show (if id < hp.n then E'.yb id else none) = none
    split
    · rw [hgon.yb]
      show (if id = hp.n then _ else E.yb id) = none
      rw [if_neg (by omega)]
      exact hyn id
    · rfl
  have hs3 : HS W0 0 S0 (E'.cut hp.n) (hp1.wls []) w3 := hhs.cut (fun _ => rfl) rfl (.none rfl hyE hhs.gl)
  have hlp := later_putO (E'.cut hp.n) (o' := .loop { r3 with state := .exhausted }) p3 trivial trivial
  have hs4 : HS W0 0 S0 (E'.cut hp.n) (hp1.wls []) (w3.putObj (w.heap.size + 1) (.loop { r3 with state := .exhausted })) :=
    hs3.putO p3 trivial trivial (by omega) (fun _ => rfl) rfl (.none rfl hyE (hs3.gl.later hlp))
  have hoth : Oth w (w3.putObj (w.heap.size + 1) (.loop { r3 with state := .exhausted })) := (k13.trans hgon.oth).trans (oth_putL p3 rfl)
  have hyEE : (E'.cut hp.n).yb = E.yb := funext fun id => (hyE id).trans (hyn id).symm
  have hgn : Gon E hp w (E'.cut hp.n) (hp1.wls []) (w3.putObj (w.heap.size + 1) (.loop { r3 with state := .exhausted })) :=
    ⟨(k12.ro_ro.trans hgon.later).trans hlp.ro_ro, hoth, hyEE, fun i => by rw [hl]; rfl⟩
  have hsim : Sim fm W0 0 S0 (E'.cut hp.n) nc R.sl (hp1.wls []) { a with defers := [mark w.heap.size] ++ a.defers } (w3.putObj (w.heap.size + 1) (.loop { r3 with state := .exhausted })) := by
    refine ⟨hs4, ?_, ?_, hs.size, fun t d ht => ?_⟩
    · obtain ⟨f0, ds, f1, f2, f3⟩ := hs.dfr
      refine ⟨Nat.le_trans f0 hoth.1, w.heap.size :: ds, by simp [f1], ?_, fun D4 hD4 => ?_⟩
      · rw [List.nodup_cons]
        refine ⟨fun hm => ?_, f2⟩
        have := (Array.getElem?_eq_some_iff.1 (f3 _ hm).2.2.1).1
        omega
      · rcases List.mem_cons.1 hD4 with rfl | hD4
        · refine ⟨hW0, f0, (oth_putL (r' := { r3 with state := .exhausted }) p3 rfl).2.1 _ _ p4, fun id c1 c2 hz e => ?_⟩
          rw [hyE] at hz
          cases hz
        · obtain ⟨f4, f5, f6, f7⟩ := f3 D4 hD4
          exact ⟨f4, f5, hoth.2.1 _ _ f6, by rw [hyEE]; exact f7⟩
    · intro b0 hb0
      rw [hro] at hb0
      cases hb0
    · have := p12 t d ht
      rw [hRid, t2] at this
      exact this.later hlp
  have hend := run_endLoop (P := P) p3 (by rw [p6]; exact ho2)
  have hend2 : (Instr.endLoop (w.heap.size + 1)).run P w3 = .ok (jumpOf e) (w3.putObj (w.heap.size + 1) (.loop { r3 with state := .exhausted })) := by
    rw [← p7.trans ho1]
    exact hend
  refine ⟨jumpOf e, _, hend2, ?_⟩
  have hfin := hQ _ _ _ hgn hsim
  cases e with
  | normal => exact hfin
  | exit id => exact wpIn_exit hfin
  | ret => exact wpIn_ret hfin
end
end Go.Proofs.Ytgjgihlfkpbdgaa
