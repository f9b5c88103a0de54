/- Operations on abstract data are what the model does: the theorem, every operation. No function of the program is named here. -/
import Derived.Test.YtoghpmeoekbcbaaV14
namespace Go.Proofs.Ytoghpmeoekbcbaa
open Go.RowKit

section
variable {P : Program} {T : Tab} {W0 : World} {base : Nat} {S0 : Nat → Prop} {E : Env} {hp : Hp} {w : World} {a : Act} {sl : Slots} {o : Oper}
variable (hT : TabOk P T) (hs : HS W0 base S0 E hp w) (hsl : ∀ t d, look sl t = some d → VR w E d (a.tmps.getD t undef))
theorem idxOk_ok {i : Int} {n : Nat} (h : idxOk i n = true) : 0 ≤ i ∧ i < (n : Int) := by
  unfold idxOk at h
  simp only [Bool.and_eq_true, decide_eq_true_eq] at h
  have := Nat.le_of_ble_eq_true h.2
  omega
/-- a new block of cells -/
theorem stp_alloc (hs : HS W0 base S0 E hp w) (t : TypeId) {cs : List DV} {vs : List Value} (hv : VRs E w cs vs) (hsc : scals cs = true) :
    ∃ E', Stp W0 base S0 E hp w E' (pushH hp 0 t cs) (w.alloc (.cells vs.toArray t)) ∧ E'.D hp.n ∧ E'.b hp.n = w.heap.size ∧ E'.base hp.n = 0 ∧ E'.sz hp.n = vs.length := by
  have hstp := stp_push hs (w' := w.alloc (.cells vs.toArray t)) (t := t) (vs := vs) (lo := 0) (hi := 0) rfl (.inl rfl) rfl rfl rfl 0 0 (cs := cs) (by rw [hv.1]; exact Nat.le_refl _) (by rw [hv.1, List.take_of_length_le (Nat.le_refl _)]; exact hv) hsc
  obtain ⟨a1, a2, a3, a4, a5⟩ := Env.add_at E hp.n w.heap.size 0 vs.length ((0 : Nat) = 0)
  exact ⟨_, hstp, a1, a2, a3, a4⟩
include hT hs hsl
theorem aop_ok_1 {t : TypeId} (ho : o.op = .alloc t) : OutOk P W0 base S0 E hp w a o (opAlloc T hp sl t) := by
  have _ := hsl
  unfold opAlloc
  split
  · rename_i i hi
    obtain ⟨info, dd, i1, i2, i3, i3', i4, i5, i6⟩ := hT _ _ hi
    split
    · trivial
    · rename_i z zs hz
      obtain ⟨zv, h1, h2, h3, h4⟩ := i5 (z :: zs) hz (by simp)
      intro _
      obtain ⟨E', hstp, a1, a2, a3, a4⟩ := stp_alloc hs t (h4 E w) h3
      refine ⟨_, .pointer (some ⟨w.heap.size, 0, none⟩), E', w.alloc (.cells zv.cells.toList.toArray t), ?_, .inl rfl, hstp, ?_⟩
      · simp [execOp, ho, Instr.alloc, zeroValue, typeInfo, i1, h1, newVar, newRow]
      · have := VR.ptr (w := w.alloc (.cells zv.cells.toList.toArray t)) E' hp.n 0 a1
        rw [a2, a3] at this
        exact this
  · trivial
theorem aop_ok_2 {t : TypeId} {x : Operand} (ho : o.op = .box t x) : OutOk P W0 base S0 E hp w a o (opBox T hp sl t x) := by
  have _ := hT
  unfold opBox
  split
  · rename_i d hd
    split
    · rename_i cs hc
      obtain ⟨h1, h2, h3⟩ := cellsD_ok (ev_ok hsl hd) hc
      intro _
      obtain ⟨E', hstp, a1, a2, a3, a4⟩ := stp_alloc hs t h1 h3
      refine ⟨_, .pointer (some ⟨w.heap.size, 0, none⟩), E', w.alloc (.cells (a.eval x).cells.toList.toArray t), ?_, .inl rfl, hstp, ?_⟩
      · simp [execOp, ho, Instr.box, newVar, newRow]
      · have := VR.ptr (w := w.alloc (.cells (a.eval x).cells.toList.toArray t)) E' hp.n 0 a1
        rw [a2, a3] at this
        exact this
    · trivial
  · trivial
theorem aop_ok_3 {t : TypeId} {parts : Array (Nat × Operand)} (ho : o.op = .build t parts) : OutOk P W0 base S0 E hp w a o (opBuild T hp sl t parts) := by
  unfold opBuild
  split
  · rename_i i ps hi hps
    obtain ⟨info, dd, i1, i2, i3, i3', i4, i5, i6⟩ := hT _ _ hi
    split
    · trivial
    · rename_i z zs hzz
      obtain ⟨zv, z1, z2, z3, z4⟩ := i5 (z :: zs) hzz (by simp)
      obtain ⟨h6, h7⟩ := evParts_ok hsl hps
      split
      · rename_i fs htd
        split
        · rename_i cs hcs
          rw [htd] at i4
          cases dd <;> first | (simp [tdOk] at i4; done) | skip
          rename_i gs
          obtain ⟨hlen, h4⟩ := i4
          have hall : ∀ f ∈ gs.toList, (P.info? f.type).isSome = true := by
            intro f hf
            obtain ⟨j, hj, rfl⟩ := List.getElem_of_mem hf
            have hj' : j < gs.size := by simpa using hj
            obtain ⟨⟨t', off', sz'⟩, he⟩ : ∃ e, fs[j]? = some e := ⟨_, List.getElem?_eq_getElem (by omega)⟩
            obtain ⟨f', hg, hf1, hf2, hf3, hf4, _⟩ := h4 j _ _ _ he
            have hff : gs.toList[j] = f' := by
              rw [Array.getElem?_eq_getElem hj'] at hg
              simpa using hg
            rw [hff]
            unfold Program.cellsOf at hf3
            rw [← hf1] at hf3
            cases hq : P.info? f'.type with
            | none => rw [hq] at hf3; simp at hf3; omega
            | some _ => rfl
          have hpl : ∃ places : List (Nat × Nat), gs.toList.mapM (fun f => (P.info? f.type).map fun i => (f.offset, i.size)) = some places ∧ ∀ (j : Nat) f, gs.toList[j]? = some f → places[j]? = some (f.offset, P.cellsOf f.type) := by
            clear i2 h4 hlen
            generalize gs.toList = gl at hall
            induction gl with
            | nil => exact ⟨[], rfl, fun j f hj => by simp at hj⟩
            | cons f gl ih =>
              obtain ⟨pl, hp1, hp2⟩ := ih (fun f hf => hall f (by simp [hf]))
              obtain ⟨fi, hfi⟩ := Option.isSome_iff_exists.1 (hall f (by simp))
              refine ⟨(f.offset, fi.size) :: pl, by simp [List.mapM_cons, hfi, hp1], fun j g hj => ?_⟩
              cases j with
              | zero => simp at hj; subst hj; simp [Program.cellsOf, hfi]
              | succ j => simpa using hp2 j g (by simpa using hj)
          obtain ⟨places, hp1, hp2⟩ := hpl
          obtain ⟨rs, hr1, hr2⟩ := fill_ok (place := (places.toArray[·]?)) (pl := plF fs) (fun j off sz hj => by
            unfold plF at hj
            split at hj
            · rename_i t off' sz' hq
              cases hj
              obtain ⟨f, hg, hf1, hf2, hf3, hf4, _⟩ := h4 j t _ _ hq
              have := hp2 j f (by simpa using hg)
              rw [hf2, hf1, hf3] at this
              simpa using this
            · cases hj) (us := parts.toList.map fun (e : Nat × Operand) => (e.1, a.eval e.2)) (vs := zv.cells) (by simpa using h6) h7 (z4 E w) hcs
          refine done_val hs ⟨.agg rs, ?_, by have := hr2.agg; simpa using this⟩
          have hb : P.built t (parts.map fun (e : Nat × Operand) => (e.1, a.eval e.2)).toList = some rs := by
            unfold Program.built
            simp only [i1, i2, z1, hp1]
            rw [← hr1]
            congr 1
            simp
          have := run_build (P := P) w t _ rs hb
          simp [execOp, ho, this]
        · trivial
      · rename_i n e htd
        split
        · rename_i j hj
          obtain ⟨einfo, ed, e1, e2, e3, _⟩ := hT _ _ hj
          split
          · rename_i cs hcs
            rw [htd] at i4
            cases dd <;> first | (simp [tdOk] at i4; done) | skip
            obtain ⟨rfl, rfl⟩ := i4
            obtain ⟨rs, hr1, hr2⟩ := fill_ok (place := fun i => some (i * einfo.size, einfo.size)) (pl := plA j.size) (fun q off sz hq => by
              unfold plA at hq
              rw [e3]
              exact hq) (us := parts.toList.map fun (e : Nat × Operand) => (e.1, a.eval e.2)) (vs := zv.cells) (by simpa using h6) h7 (z4 E w) hcs
            refine done_val hs ⟨.agg rs, ?_, by have := hr2.agg; simpa using this⟩
            have hb : P.built t (parts.map fun (e : Nat × Operand) => (e.1, a.eval e.2)).toList = some rs := by
              unfold Program.built
              simp only [i1, i2, z1, e1]
              rw [← hr1]
              congr 1
              simp
            have := run_build (P := P) w t _ rs hb
            simp [execOp, ho, this]
          · trivial
        · trivial
      · trivial
  · trivial
theorem aop_ok_4 {t : TypeId} {len : Nat} {parts : Array (Nat × Operand)} (ho : o.op = .buildSlice t len parts) : OutOk P W0 base S0 E hp w a o (opBuildSlice T hp sl t len parts) := by
  unfold opBuildSlice
  split
  · rename_i i ps hi hps
    obtain ⟨info, dd, i1, i2, i3, i3', i4, i5, i6⟩ := hT _ _ hi
    split
    · rename_i e htd
      rw [htd] at i4
      cases dd <;> first | (simp [tdOk] at i4; done) | skip
      obtain rfl : e = _ := i4
      split
      · rename_i j hj
        obtain ⟨einfo, ed, e1, e2, e3, e3', e4, e5, e6⟩ := hT _ _ hj
        split
        · rename_i z zs hz hlim hs0
          have hlim := Nat.le_of_ble_eq_true hlim
          have hs0 : j.size ≠ 0 := fun h => by rw [h] at hs0; cases hs0
          split
          · rename_i cs hcs
            obtain ⟨zv, z1, z2, z3, z4⟩ := e5 (z :: zs) hz (by simp)
            obtain ⟨h6, h7⟩ := evParts_ok hsl hps
            obtain ⟨n1, n2⟩ := nlist_ok (z4 E w) len
            obtain ⟨hsc, hcl⟩ := fillD_scals (n2 z3) hcs
            have hmade : (if len * einfo.size = 0 then (#[] : Array Value) else madeCells zv.cells (len * einfo.size)).toList = (List.replicate len zv.cells.toList).flatten := by
              rw [← madeCells_list, z2, e3]
              split
              · rename_i h0
                rw [h0]
                simp [madeCells]
              · rfl
            have hmlen : (madeCells zv.cells (len * einfo.size)).toList = (List.replicate len zv.cells.toList).flatten := by rw [← madeCells_list, z2, e3]
            obtain ⟨rs, hr1, hr2⟩ := fill_ok (place := fun i => some (i * einfo.size, einfo.size)) (pl := plA j.size) (fun q off sz hq => by
              unfold plA at hq
              rw [e3]
              exact hq) (us := parts.toList.map fun (e : Nat × Operand) => (e.1, a.eval e.2)) (vs := madeCells zv.cells (len * einfo.size)) (by simpa using h6) h7 (by rw [hmlen]; exact n1) hcs
            intro _
            obtain ⟨E', hstp, a1, a2, a3, a4⟩ := stp_alloc hs e hr2 hsc
            have hrl : rs.toList.length = len * j.size := by
              rw [← hr2.1, hcl, n1.1, ← hmlen]
              simp [madeCells, e3]
            refine ⟨_, .slice (some ⟨w.heap.size, 0, none⟩) len len, E', w.alloc (.cells rs.toList.toArray e), ?_, .inl rfl, hstp, ?_⟩
            · have hlim' : ¬ len * einfo.size > 2 ^ 24 := by rw [e3]; omega
              have hzz : ∀ zz : Array Value, (len * einfo.size = 0 ∨ zz = zv.cells) → Instr.fill (fun i => some (i * einfo.size, einfo.size)) ((Array.range (len * einfo.size)).map (zz[· % zz.size]!)) (parts.toList.map fun (e : Nat × Operand) => (e.1, a.eval e.2)) = some rs := by
                intro zz hz'
                rw [← hr1]
                congr 1
                rcases hz' with h0 | rfl
                · rw [h0]
                  apply Array.ext
                  · simp [madeCells]
                  · intro i hi; simp at hi
                · rfl
              have hpl : (parts.map fun (e : Nat × Operand) => (e.1, a.eval e.2)).toList = parts.toList.map fun (e : Nat × Operand) => (e.1, a.eval e.2) := by simp
              have hrun : (Instr.buildSlice t len (parts.map fun (e : Nat × Operand) => (e.1, a.eval e.2))).run P w = .ok (.slice (some ⟨w.heap.size, 0, none⟩) len len) (w.alloc (.cells rs e)) := by
                unfold Instr.buildSlice
                simp only [Sem.run_bind, run_underlying i2, Result.andThen_ok, run_sizeOf' e1, hpl]
                rw [if_neg hlim']
                by_cases h0 : len * einfo.size = 0
                · rw [if_pos h0]
                  simp only [Sem.run_bind, Sem.run_pure, Result.andThen_ok, hzz _ (.inl h0)]
                  rfl
                · rw [if_neg h0]
                  have hz1 : (zeroValue e).run P w = .ok zv w := by simp [zeroValue, typeInfo, e1, z1]
                  simp only [Sem.run_bind, Sem.run_pure, Result.andThen_ok, hz1, hzz _ (.inr rfl)]
                  rfl
              have hrs : rs.toList.toArray = rs := by simp
              rw [hrs]
              simp only [execOp, ho, Sem.run_bind, hrun, Result.andThen_ok, Sem.run_pure]
            · have hmx : len ≤ maxLen := by
                rw [maxLen_eq]
                have : len * 1 ≤ len * j.size := Nat.mul_le_mul_left _ (by omega)
                omega
              exact .sl _ hp.n 0 j.size len len _ len a1 (Nat.le_refl _) (Nat.le_refl _) hmx (fun _ => rfl) (fun _ => ⟨by rw [a2, a3], by rw [a3, a4, hrl]; omega⟩)
          · trivial
        · trivial
      · trivial
    · trivial
  · trivial
theorem aop_ok_5 {t : TypeId} {l c : Operand} (ho : o.op = .makeSlice t l c) : OutOk P W0 base S0 E hp w a o (opMakeSlice T hp sl t l c) := by
  unfold opMakeSlice
  split
  · rename_i i kl n kc m hi hl hc
    obtain ⟨info, dd, i1, i2, i3, i3', i4, i5, i6⟩ := hT _ _ hi
    split
    · rename_i e htd
      rw [htd] at i4
      cases dd <;> first | (simp [tdOk] at i4; done) | skip
      obtain rfl : e = _ := i4
      split
      · rename_i j hj
        obtain ⟨einfo, ed, e1, e2, e3, e3', e4, e5, e6⟩ := hT _ _ hj
        split
        · rename_i z zs hz
          split
          · rename_i hb
            simp only [Bool.and_eq_true, decide_eq_true_eq] at hb
            obtain ⟨⟨b1, b2⟩, b3⟩ := hb
            obtain ⟨f1, f2⟩ := fitB_ok b3
            obtain ⟨zv, z1, z2, z3, z4⟩ := e5 (z :: zs) hz (by simp)
            obtain ⟨n1, n2⟩ := nlist_ok (z4 E w) m.toNat
            have hby : (einfo.bytes : Int) * m ≤ 281474976710656 := by
              have h1 : ((m.toNat * j.bytes : Nat) : Int) ≤ 140737488355328 := by omega
              rw [Int.natCast_mul, Int.toNat_of_nonneg (by omega), Int.mul_comm] at h1
              rw [e3']
              omega
            have hrun := run_make (P := P) w t e einfo zv i2 e1 z1 kl kc n m b1 b2 hby (by omega)
            have hmlen : (madeCells zv.cells (m.toNat * einfo.size)).toList = (List.replicate m.toNat zv.cells.toList).flatten := by rw [← madeCells_list, z2, e3]
            have hal : ((List.replicate m.toNat zv.cells.toList).flatten).toArray = madeCells zv.cells (m.toNat * einfo.size) := by
              rw [← hmlen]
            cases hn0 : n.toNat with
            | zero =>
              intro _
              have hstp := stp_push (w' := w.alloc (.cells (madeCells zv.cells (m.toNat * einfo.size)) e)) hs (t := e) (vs := (madeCells zv.cells (m.toNat * einfo.size)).toList) (lo := 0) (hi := 0) (by rw [Array.toArray_toList]; rfl) (.inl rfl) rfl rfl rfl 1 0 (cs := []) (Nat.zero_le _) (by simpa using VRs.nil E w) rfl
              obtain ⟨a1, a2, a3, a4, a5⟩ := Env.add_at E hp.n w.heap.size 0 (madeCells zv.cells (m.toNat * einfo.size)).toList.length (1 = 0)
              refine ⟨_, .slice (some ⟨w.heap.size, 0, none⟩) n.toNat m.toNat, _, _, ?_, .inl rfl, hstp, ?_⟩
              · simp only [execOp, ho, (ev_ok hsl hl).of_int, (ev_ok hsl hc).of_int, Sem.run_bind, hrun, Result.andThen_ok, Sem.run_pure]
              · rw [hn0]
                refine .sl _ hp.n 0 j.size 0 0 _ m.toNat a1 (Nat.le_refl _) (Nat.zero_le _) (by rw [maxLen_eq]; omega) (fun hx => absurd (a5.1 hx) (by decide)) (fun _ => ⟨by rw [a2, a3], ?_⟩)
                rw [a3, a4]
                simp [madeCells, e3]
            | succ n' =>
              intro _
              obtain ⟨E', hstp, a1, a2, a3, a4⟩ := stp_alloc hs e n1 (n2 z3)
              refine ⟨_, .slice (some ⟨w.heap.size, 0, none⟩) n.toNat m.toNat, E', _, ?_, .inl rfl, hstp, ?_⟩
              · rw [hal]
                simp only [execOp, ho, (ev_ok hsl hl).of_int, (ev_ok hsl hc).of_int, Sem.run_bind, hrun, Result.andThen_ok, Sem.run_pure]
              · rw [hn0]
                refine .sl _ hp.n 0 j.size (n' + 1) m.toNat _ m.toNat a1 (by omega) (Nat.le_refl _) (by rw [maxLen_eq]; omega) (fun _ => rfl) (fun _ => ⟨by rw [a2, a3], ?_⟩)
                rw [a3, a4, ← hmlen]
                simp [madeCells, e3]
          · trivial
        · trivial
      · trivial
    · trivial
  · trivial
theorem aop_ok_6 {t : TypeId} {x : Operand} (ho : o.op = .load t x) : OutOk P W0 base S0 E hp w a o (opLoad T hp sl t x) := by
  unfold opLoad
  split
  · rename_i i id off hi hx
    split
    · rename_i ob hob
      refine out_keep hs fun d hd => ?_
      obtain ⟨hv, hD⟩ := (ev_ok hsl hx).of_ptr
      obtain ⟨o', ho', hok⟩ := hs.ob id hD
      rw [hob] at ho'
      cases ho'
      obtain ⟨u, hu, hud⟩ := load_run (hT _ _ hi) (Lies.of_ob hok) hd
      exact ⟨u, by simp [execOp, ho, hv, Instr.loadAt, Instr.sureAddr, hu], hud⟩
    · trivial
  · rename_i i cs hi hx
    refine out_keep hs fun d hd => ?_
    obtain ⟨b, off, g, hv, h1, h2, h3⟩ := (ev_ok hsl hx).of_fptr
    obtain ⟨u, hu, hud⟩ := load_run (hT _ _ hi) (b := b) (base := off) (fun j d hj => ⟨_, h2 j d hj, (h3 j d hj).up⟩) (off := 0) hd
    exact ⟨u, by simp [execOp, ho, hv, Instr.loadAt, Instr.sureAddr]; simpa using congrArg (fun r => Result.andThen r fun v w => Result.ok (Next.value v) w) hu, hud⟩
  · trivial
theorem aop_ok_7 {t : TypeId} {x y : Operand} (ho : o.op = .store t x y) : OutOk P W0 base S0 E hp w a o (opStore T hp sl t x y) := by
  unfold opStore
  split
  · rename_i i id off d hi hx hy
    split
    · rename_i cs hc
      split
      · rename_i hp' m hb hst
        have hb := Nat.eq_of_beq_eq_true hb
        intro hmu
        obtain ⟨info, dd, i1, i2, i3, i3', i4, i5, i6⟩ := hT _ _ hi
        obtain ⟨hcs, hone, hsc⟩ := cellsD_ok (ev_ok hsl hy) hc
        obtain ⟨hv, hD⟩ := (ev_ok hsl hx).of_ptr
        obtain ⟨w', hw', hstp⟩ := stp_store hs hst hmu hD hcs P hsc
        have hsz : (a.eval y).cells.size = info.size := by rw [i3, ← hb, hcs.1]; simp
        refine ⟨.skip, undef, E, w', ?_, .inr ⟨rfl, rfl⟩, hstp, (VRs.nil _ _).tuple⟩
        simp [execOp, ho, hv, Instr.storeAt, Instr.sureAddr, storeVar, run_sizeOf' i1, hsz, hw']
      · trivial
    · trivial
  · trivial
theorem aop_ok_8 {x : Operand} (ho : o.op = .nilCheck x) : OutOk P W0 base S0 E hp w a o (opNilCheck T hp sl x) := by
  have _ := hT
  unfold opNilCheck
  split
  · rename_i id off hx
    have hp' := ev_ok hsl hx
    have hv := hp'.of_ptr.1
    exact done_val hs ⟨a.eval x, by simp [execOp, ho, hv], hp'⟩
  · rename_i cs hx
    have hp' := ev_ok hsl hx
    obtain ⟨b, off, g, hv, _⟩ := hp'.of_fptr
    exact done_val hs ⟨a.eval x, by simp [execOp, ho, hv], hp'⟩
  · rename_i f fs cs hx
    have hp' := ev_ok hsl hx
    obtain ⟨us, vs, hv, _⟩ := hp'.of_fn
    exact done_val hs ⟨a.eval x, by simp [execOp, ho, hv], hp'⟩
  · rename_i l hx
    have hp' := ev_ok hsl hx
    obtain ⟨b, D, hv, _⟩ := hp'.of_yld
    exact done_val hs ⟨a.eval x, by simp [execOp, ho, hv], hp'⟩
  · trivial
theorem aop_ok_9 {s : TypeId} {x : Operand} {f : Nat} (ho : o.op = .fieldAddr s x f) : OutOk P W0 base S0 E hp w a o (opFieldAddr T hp sl s x f) := by
  unfold opFieldAddr
  split
  · rename_i i id bo hi hx
    split
    · rename_i t off sz hf
      obtain ⟨hv, hD⟩ := (ev_ok hsl hx).of_ptr
      have := VR.ptr (w := w) E id (bo + off) hD
      rw [← Nat.add_assoc] at this
      exact done_val hs ⟨_, by simp [execOp, ho, hv, fieldAt_ok (hT _ _ hi) hf], this⟩
    · trivial
  · rename_i i cs hi hx
    split
    · rename_i t off sz hf
      obtain ⟨b, bo, g, hv, h1, h2, h3⟩ := (ev_ok hsl hx).of_fptr
      refine done_val hs ⟨.pointer (some ⟨b, bo + off, none⟩), by simp [execOp, ho, hv, fieldAt_ok (hT _ _ hi) hf], ?_⟩
      refine .fptr _ _ b (bo + off) (fun j => g (off + j)) h1 (fun j d hj => ?_) (fun j d hj => h3 _ d (by simpa using hj))
      rw [Nat.add_assoc]
      exact h2 (off + j) d (by simpa using hj)
    · trivial
  · trivial
theorem aop_ok_10 {s : TypeId} {x : Operand} {f : Nat} (ho : o.op = .field s x f) : OutOk P W0 base S0 E hp w a o (opField T hp sl s x f) := by
  unfold opField
  split
  · rename_i i cs hi hx
    split
    · rename_i t off sz hf
      split
      · rename_i j hj
        refine out_keep hs fun d hd => ?_
        obtain ⟨vs, hv, hvs⟩ := (ev_ok hsl hx).of_agg
        obtain ⟨fs, fl, h1, h2, h3, h4, h5, h6⟩ := fieldOf_ok (hT _ _ hi) hf
        obtain ⟨u, hu, hud⟩ := part_run (hT _ _ hj) hvs hd
        exact ⟨u, by simp [execOp, ho, hv, Instr.field, run_underlying h1, h2, asAgg, h3, h4, hu], hud⟩
      · trivial
    · trivial
  · trivial
theorem aop_ok_11 {t : TypeId} {x ix : Operand} (ho : o.op = .indexAddr t x ix) : OutOk P W0 base S0 E hp w a o (opIndexAddr T hp sl t x ix) := by
  unfold opIndexAddr
  split
  · rename_i i x' k n hi hx hn
    obtain ⟨info, dd, i1, i2, i3, i3', i4, i5, i6⟩ := hT _ _ hi
    have hnv := (ev_ok hsl hn).of_int
    split
    · rename_i e htd
      rw [htd] at i4
      cases dd <;> first | (simp [tdOk] at i4; done) | skip
      obtain rfl : e = _ := i4
      split
      · rename_i j hj
        obtain ⟨einfo, ed, e1, e2, e3, _⟩ := hT _ _ hj
        split
        · rename_i s xs
          split
          · rename_i cs hsb hix hcs
            have hsb := Nat.eq_of_beq_eq_true hsb
            subst hsb
            obtain ⟨b0, b1⟩ := idxOk_ok hix
            rw [nth_eq] at hcs
            obtain ⟨A, c, b, off, g, hvx, g1, g2, g3, g4, g5, g6, g7, g8⟩ := (ev_ok hsl hx).of_list
            obtain ⟨rfl, hS⟩ := g4 (by omega)
            refine done_val hs ⟨.pointer (some ⟨b, off + n.toNat * j.size, none⟩), ?_, ?_⟩
            · simp [execOp, ho, hvx, hnv, Instr.indexAt, asIntOf, run_underlying i2, b0, b1, run_sizeOf' e1, e3, add_none]
            · refine .fptr _ cs b _ (fun q => g n.toNat q) hS (fun q d hq => ?_) (fun q d hq => g7 _ _ q d hcs hq)
              rw [Nat.add_assoc]
              exact g6 _ _ q d hcs hq
          · trivial
        · rename_i id off s m c
          split
          · rename_i hb
            simp only [Bool.and_eq_true] at hb
            have hsb := Nat.eq_of_beq_eq_true hb.1
            subst hsb
            obtain ⟨b0, b1⟩ := idxOk_ok hb.2
            obtain ⟨A, c', hvx, hD, h1, h2, h3, h4, h5⟩ := (ev_ok hsl hx).of_sl
            obtain ⟨hA, _⟩ := h5 (by omega)
            subst hA
            have := VR.ptr (w := w) E id (off + n.toNat * j.size) hD
            rw [← Nat.add_assoc] at this
            refine done_val hs ⟨_, ?_, this⟩
            simp [execOp, ho, hvx, hnv, Instr.indexAt, asIntOf, run_underlying i2, b0, b1, run_sizeOf' e1, e3, add_none]
          · trivial
        · trivial
      · trivial
    · rename_i m e htd
      rw [htd] at i4
      cases dd <;> first | (simp [tdOk] at i4; done) | skip
      obtain ⟨rfl, rfl⟩ := i4
      split
      · rename_i j hj
        obtain ⟨einfo, ed, e1, e2, e3, _⟩ := hT _ _ hj
        split
        · rename_i id off hix
          obtain ⟨b0, b1⟩ := idxOk_ok hix
          obtain ⟨hv, hD⟩ := (ev_ok hsl hx).of_ptr
          have := VR.ptr (w := w) E id (off + n.toNat * j.size) hD
          rw [← Nat.add_assoc] at this
          refine done_val hs ⟨_, ?_, this⟩
          simp [execOp, ho, hv, hnv, Instr.indexAt, Instr.sureAddr, asIntOf, run_underlying i2, b0, b1, run_sizeOf' e1, e3, add_none]
        · rename_i cs hix
          obtain ⟨b0, b1⟩ := idxOk_ok hix
          obtain ⟨b, bo, g, hv, h1, h2, h3⟩ := (ev_ok hsl hx).of_fptr
          refine done_val hs ⟨.pointer (some ⟨b, bo + n.toNat * j.size, none⟩), ?_, ?_⟩
          · simp [execOp, ho, hv, hnv, Instr.indexAt, Instr.sureAddr, asIntOf, run_underlying i2, b0, b1, run_sizeOf' e1, e3, add_none]
          · refine .fptr _ _ b (bo + n.toNat * j.size) (fun q => g (n.toNat * j.size + q)) h1 (fun q d hq => ?_) (fun q d hq => h3 _ d (by simpa using hq))
            rw [Nat.add_assoc]
            exact h2 _ d (by simpa using hq)
        · trivial
      · trivial
    · trivial
  · trivial
theorem aop_ok_12 {t : TypeId} {x ix : Operand} (ho : o.op = .index t x ix) : OutOk P W0 base S0 E hp w a o (opIndex T hp sl t x ix) := by
  unfold opIndex
  split
  · rename_i i cs k n hi hx hn
    obtain ⟨info, dd, i1, i2, i3, i3', i4, i5, i6⟩ := hT _ _ hi
    have hnv := (ev_ok hsl hn).of_int
    split
    · rename_i m e htd
      rw [htd] at i4
      cases dd <;> first | (simp [tdOk] at i4; done) | skip
      obtain ⟨rfl, rfl⟩ := i4
      split
      · rename_i j hj hix
        obtain ⟨einfo, ed, e1, e2, e3, _⟩ := hT _ _ hj
        obtain ⟨b0, b1⟩ := idxOk_ok hix
        refine out_keep hs fun d hd => ?_
        obtain ⟨vs, hv, hvs⟩ := (ev_ok hsl hx).of_agg
        obtain ⟨u, hu, hud⟩ := part_run (P := P) (hT _ _ hj) hvs hd
        exact ⟨u, by simp [execOp, ho, hv, hnv, Instr.index, asIntOf, run_underlying i2, b0, b1, run_sizeOf' e1, e3, hu], hud⟩
      · trivial
    · trivial
  · rename_i i s k n hi hx hn
    obtain ⟨info, dd, i1, i2, i3, i3', i4, i5, i6⟩ := hT _ _ hi
    have hnv := (ev_ok hsl hn).of_int
    split
    · rename_i b htd b0 hb
      rw [htd] at i4
      cases dd <;> first | (simp [tdOk] at i4; done) | skip
      rw [nth_eq] at hb
      have b0 := of_decide_eq_true b0
      have hv := (ev_ok hsl hx).of_str
      have hlt := (List.getElem?_eq_some_iff.1 hb).1
      have hlt' : n.toNat < s.size := hlt
      have hb' : s[n.toNat]? = some b := by
        rw [getElem?_pos s n.toNat hlt']
        have := (List.getElem?_eq_some_iff.1 hb).2
        rw [← this]
        rfl
      exact done_val hs ⟨.int .u8 (b.toNat : Int), by simp [execOp, ho, hv, hnv, Instr.index, asIntOf, run_underlying i2, b0, hb'], .int _ _ _⟩
    · trivial
  · trivial
theorem aop_ok_13 {f : Fn} {first captured : Array Operand} (ho : o.op = .makeFunc f first captured) : OutOk P W0 base S0 E hp w a o (opMakeFunc T hp sl f first captured) := by
  have _ := hT
  unfold opMakeFunc
  split
  · rename_i f fs cs h1 h2
    have q1 := evs_args hsl h1
    have q2 := evs_args hsl h2
    refine done_val hs ⟨.func (.func f) (first.map a.eval) (captured.map a.eval), by simp [execOp, ho, Instr.makeFunc], ?_⟩
    have := VR.fn E f fs cs _ _ q1.1 q2.1 q1.2 q2.2
    rw [Array.toArray_toList, Array.toArray_toList] at this
    exact this
  · trivial
theorem aop_ok_14 {t : TypeId} {x : Operand} (ho : o.op = .makeInterface t x) : OutOk P W0 base S0 E hp w a o (opMakeInterface T hp sl t x) := by
  unfold opMakeInterface
  split
  · trivial
  · trivial
  · trivial
  · rename_i d _ _ _ hx
    split
    · rename_i i hi
      obtain ⟨info, dd, i1, i2, i3, i3', i4, i5, i6⟩ := hT _ _ hi
      have key : (∀ ms, dd ≠ .interface ms) → Done P W0 base S0 E hp w a o (.iface t d, hp, none) := fun hne =>
        done_val hs ⟨.iface t (a.eval x), by
          have : (Instr.makeInterface t (a.eval x)).run P w = .ok (.iface t (a.eval x)) w := by
            simp only [Instr.makeInterface, Sem.run_bind, run_underlying i2, Result.andThen_ok]
            cases dd <;> first | rfl | exact absurd rfl (hne _)
          simp [execOp, ho, this], .iface _ _ _ _ (ev_ok hsl hx)⟩
      split
      · rename_i k htd
        rw [htd] at i4
        cases dd <;> first | (simp [tdOk] at i4; done) | skip
        exact key (fun ms h => by cases h)
      · rename_i htd
        rw [htd] at i4
        cases dd <;> first | (simp [tdOk] at i4; done) | skip
        exact key (fun ms h => by cases h)
      · rename_i htd
        rw [htd] at i4
        cases dd <;> first | (simp [tdOk] at i4; done) | skip
        exact key (fun ms h => by cases h)
      · rename_i e htd
        rw [htd] at i4
        cases dd <;> first | (simp [tdOk] at i4; done) | skip
        exact key (fun ms h => by cases h)
      · trivial
    · trivial
  · trivial
theorem aop_ok_15 {c : Call} (ho : o.op = .call c) : OutOk P W0 base S0 E hp w a o (callD T hp sl c) := by
  obtain ⟨callee, args, ats⟩ := c
  unfold callD
  split
  · trivial
  · rename_i ds hds
    have hargs := evs_args hsl hds
    simp only
    split
    · rename_i b
      refine out_R fun q hq hmu => ?_
      obtain ⟨u, E', w', h1, h2, h3⟩ := builtinD_ok hT hs hargs hq o.type (args.map fun | .const _ => true | _ => false) hmu
      exact ⟨_, u, E', w', by simp [execOp, ho, resolve, invoke]; exact h1, .inl rfl, h2, h3⟩
    · rename_i f
      split
      · rename_i g first captured hf
        obtain ⟨us, vs, hv, h1, h2⟩ := (ev_ok hsl hf).of_fn
        refine ⟨us ++ (args.map a.eval).toList ++ vs, (h1.append hargs).append h2, ?_⟩
        have e1 : us.toArray ++ (args.map a.eval ++ vs.toArray) = (us ++ (args.map a.eval).toList ++ vs).toArray := by
          apply Array.toList_inj.1
          simp
        rw [← e1]
        simp [execOp, ho, resolve, hv, Deferred.ofValue, invoke]
      · rename_i id hf
        obtain ⟨b, D, hv, hD⟩ := (ev_ok hsl hf).of_yld
        refine ⟨(args.map a.eval).toList, b, D, hargs, hD, ?_⟩
        rw [Array.toArray_toList]
        simp [execOp, ho, resolve, hv, Deferred.ofValue, invoke]
      · trivial
    · trivial
theorem aop_ok : OutOk P W0 base S0 E hp w a o (aop T hp sl o.op) := by
  cases ho : o.op <;> simp only [aop] <;> try trivial
  case move x => exact out_keep hs fun d hd => ⟨_, by simp [execOp, ho], ev_ok hsl hd⟩
  case assign x => exact out_keep hs fun d hd => ⟨_, by simp [execOp, ho], ev_ok hsl hd⟩
  case pick c x y =>
    unfold opPick
    split
    · rename_i u v h1 h2 h3
      exact done_val hs ⟨_, by simp [execOp, ho, (ev_ok hsl h1).of_bool, asBool], ev_ok hsl h2⟩
    · rename_i u v h1 h2 h3
      exact done_val hs ⟨_, by simp [execOp, ho, (ev_ok hsl h1).of_bool, asBool], ev_ok hsl h3⟩
    · trivial
  case alloc t => exact aop_ok_1 hT hs hsl ho
  case box t x => exact aop_ok_2 hT hs hsl ho
  case build t parts => exact aop_ok_3 hT hs hsl ho
  case buildSlice t len parts => exact aop_ok_4 hT hs hsl ho
  case makeSlice t l c => exact aop_ok_5 hT hs hsl ho
  case load t x => exact aop_ok_6 hT hs hsl ho
  case store t x y => exact aop_ok_7 hT hs hsl ho
  case nilCheck x => exact aop_ok_8 hT hs hsl ho
  case binOp op t x y yt =>
    unfold opBinOp
    split
    · rename_i d e hx hy
      exact out_keep hs fun r hr => bin_ok hT ho (ev_ok hsl hx) (ev_ok hsl hy) hr
    · trivial
  case unOp op t x =>
    unfold opUnOp
    split
    · rename_i d hx
      exact out_keep hs fun r hr => un_ok ho (ev_ok hsl hx) hr
    · trivial
  case convert s t x =>
    unfold opConvert
    split
    · rename_i d hx
      exact out_R fun r hr => convD_ok hT hs ho (ev_ok hsl hx) hr
    · trivial
  case fieldAddr s x f => exact aop_ok_9 hT hs hsl ho
  case field s x f => exact aop_ok_10 hT hs hsl ho
  case indexAddr t x ix => exact aop_ok_11 hT hs hsl ho
  case index t x ix => exact aop_ok_12 hT hs hsl ho
  case extract x ix =>
    unfold opExtract
    split
    · rename_i vs hx
      refine out_keep hs fun d hd => ?_
      rw [nth_eq] at hd
      obtain ⟨us, hv, hus⟩ := (ev_ok hsl hx).of_tuple
      obtain ⟨u, hu, hud⟩ := hus.get hd
      exact ⟨u, by simp [execOp, ho, hv, Instr.extract, hu], hud⟩
    · trivial
  case makeFunc f first captured => exact aop_ok_13 hT hs hsl ho
  case slice t x lo hi mx =>
    unfold opSlice
    split
    · rename_i i d lo' hi' mx' h1 h2 h3 h4 h5
      refine out_keep hs fun r hr => ?_
      obtain ⟨u, q1, q2⟩ := sliceD_ok (P := P) hT hs h1 (ev_ok hsl h2) (evO_ok hsl h3) (evO_ok hsl h4) (evO_ok hsl h5) hr
      exact ⟨u, by simp [execOp, ho, q1], q2⟩
    · trivial
  case makeInterface t x => exact aop_ok_14 hT hs hsl ho
  case call c => exact aop_ok_15 hT hs hsl ho
end
end Go.Proofs.Ytoghpmeoekbcbaa
