/- Operations on abstract data are what the model does: append, copy, slicing, new rows. No function of the program is named here. -/
import Derived.Test.YtoghpmeoekbcbaaV9
namespace Go.Proofs.Ytoghpmeoekbcbaa
open Go.RowKit

section
variable {P : Program} {T : Tab} {W0 : World} {base : Nat} {S0 : Nat → Prop} {E : Env} {hp : Hp} {w : World}
theorem fitB_ok {n bytes : Nat} (h : fitB n bytes = true) : n ≤ 9223372036854775807 ∧ n * bytes ≤ 140737488355328 := by
  unfold fitB at h
  simp only [Bool.and_eq_true] at h
  exact ⟨Nat.le_of_ble_eq_true h.1, Nat.le_of_ble_eq_true h.2⟩
theorem maxLen_eq : maxLen = 9223372036854775807 := by unfold maxLen; rfl
theorem run_store_row (h : HS W0 base S0 E hp w) {A : Addr} {id off s n c c' m : Nat} {us : List Value} {cs : List DV} {hp' : Hp} {mu : Mut} (hd : E.D id) (h2 : c ≤ c') (h5 : 0 < c' → A = ⟨E.b id, E.base id + off, none⟩ ∧ E.base id + (off + c' * s) ≤ E.sz id)
    (hm : 0 < m) (hfit : n + m ≤ c) (hst : storeH hp id (off + n * s) cs = some (hp', mu)) (hmu : mutOk base mu) (hu : VRs E w cs us) (hsc : scals cs = true) :
    ∃ w', (storeCells (A.add (n * s)) us).run P w = .ok () w' ∧ Stp W0 base S0 E hp w E hp' w' := by
  obtain ⟨hA, _⟩ := h5 (by omega)
  subst hA
  rw [add_none, Nat.add_assoc]
  exact stp_store h hst hmu hd hu P hsc
theorem vr_grown {E' : Env} {w' : World} {id n _m s c : Nat} {A : Addr} (hd : E'.D id) (hx : ¬ E'.X id) (hle : n ≤ c) (hmax : c ≤ maxLen) {off : Nat} (hA : A = ⟨E'.b id, E'.base id + off, none⟩) (hsz : E'.base id + (off + c * s) ≤ E'.sz id) : VR w' E' (.sl id off s n n) (.slice (some A) n c) :=
  .sl _ id off s n n A c hd (Nat.le_refl _) hle hmax (fun h => absurd h hx) (fun _ => ⟨hA, hsz⟩)
/-- append: a new block -/
theorem app_new (h : HS W0 base S0 E hp w) {t t' ty e : TypeId} {i : TypeInfo} {z : Value} {d' : TypeDesc} (ht : P.underlying t = some (.slice e)) (ht' : P.underlying t' = some d') (hi : P.info? e = some i) (hz : i.zero = some z) (hzs : z.cells.size = i.size)
    {n c' m : Nat} {x v : Value} {us os : List Value} {cs ds : List DV} {A : Option Addr} (hx : x = .slice A n c') (hv : ASrc P w d' i v m us) (ho : Src P w x i.size n os) (hu : VRs E w cs us) (hos : VRs E w ds os) (hsc : scals cs = true) (hsd : scals ds = true) (hg : c' < n + m)
    (h63 : n + m ≤ 9223372036854775807) (hfit : (n + m) * i.bytes ≤ 140737488355328) (k r : Nat) (hk : k ≠ 0) :
    ∃ v' E' w', (Builtin.append_ #[t, t'] ty #[x, v]).run P w = .ok v' w' ∧ Stp W0 base S0 E hp w E' (hp.push ⟨k, r, e, ds ++ cs⟩) w' ∧ VR w' E' (.sl hp.n 0 i.size (n + m) (n + m)) v' := by
  obtain ⟨C, hr, hC⟩ := run_append_grow' (P := P) (w := w) (t := t) (t' := t') (ty := ty) ht ht' hi hz hv hx ho hg h63 hfit
  have hge := grownCap_ge w (n + m) c' e
  have hcm : grownCap w (n + m) c' e ≤ maxLen := grownCap_le_maxLen w (n + m) c' e (by rw [maxLen_eq]; exact h63)
  have hCl : C.toList = os ++ us ++ (Builtin.zeroCells z.cells (grownCap w (n + m) c' e - (n + m))).toList := by rw [hC]; simp
  have hClen : C.toList.length = grownCap w (n + m) c' e * i.size := by
    rw [hCl]
    simp only [List.length_append, Array.length_toList, size_zeroCells, hzs, hv.len, ho.len, ← Nat.add_mul]
    congr 1
    omega
  have hlen : (ds ++ cs).length = (os ++ us).length := by simp [hu.1, hos.1]
  have hstp := stp_push h (w' := w.drew.alloc (.cells C e)) (t := e) (vs := C.toList) (lo := 0) (hi := 0) (by show w.heap.push (.cells C e) = w.heap.push (.cells C.toList.toArray e (0, 0)); simp) (.inl rfl) rfl rfl rfl k r (cs := ds ++ cs) (by
    rw [hlen, hCl]
    simp) (by
    rw [hlen, hCl, List.append_assoc, ← List.append_assoc, List.take_left]
    exact hos.append hu) (by rw [scals_append, hsc, hsd]; rfl)
  obtain ⟨a1, a2, a3, a4, a5⟩ := Env.add_at E hp.n w.heap.size 0 C.toList.length (k = 0)
  refine ⟨_, _, _, hr, hstp, vr_grown (_m := m) a1 (fun h => hk (a5.1 h)) hge hcm (by rw [a2, a3]) (by rw [a3, a4, hClen]; simp)⟩
theorem appH_ok (h : HS W0 base S0 E hp w) {t t' ty e : TypeId} {j : TI} (hj : TiOk P e j) {d' : TypeDesc} (ht : P.underlying t = some (.slice e)) (ht' : P.underlying t' = some d') {dst : DV} {x v : Value} (hx : VR w E dst x) {m : Nat} {news : List DV} {us : List Value} (hv : ∀ info, P.info? e = some info → ASrc P w d' info v m us) (hu : VRs E w news us) (hsc : scals news = true)
    {r : DV × Hp × Mut} (hr : appH hp e j dst m news = some r) (hmu : mutOk base r.2.2) :
    ∃ v' E' w', (Builtin.append_ #[t, t'] ty #[x, v]).run P w = .ok v' w' ∧ Stp W0 base S0 E hp w E' r.2.1 w' ∧ VR w' E' r.1 v' := by
  obtain ⟨info, dd, i1, i2, i3, i3', i4, i5, i6⟩ := hj
  have hv' := hv info i1
  have hvl := hv'.len
  rw [i3] at hvl
  unfold appH at hr
  split at hr
  · cases hr
  · cases hr
  · rename_i hs0 hzne
    obtain ⟨z, hz, hzs, _, hzv⟩ := i5 j.zero rfl hzne
    have hsz0 : j.size ≠ 0 := fun e => by rw [e] at hs0; cases hs0
    split at hr
    · -- nothing is appended
      have hus : us = [] := List.eq_nil_of_length_eq_zero (by rw [hvl]; simp)
      subst hus
      split at hr
      · cases hr
        rw [hx.of_nil]
        have := run_append_room' (P := P) (w := w) (t := t) (t' := t') (ty := ty) ht ht' i1 (n := 0) (c' := 0) hv' none (by omega)
        exact ⟨.slice none 0 0, E, w, this, Stp.refl h, .nil _⟩
      · rename_i id off s n c
        cases hr
        have hx0 := hx
        obtain ⟨A, c', rfl, hd, h1, h2, h3, h4, h5⟩ := hx.of_sl
        have := run_append_room_some (P := P) (w := w) (t := t) (t' := t') (ty := ty) ht ht' i1 hv' A (show n + 0 ≤ c' by omega)
        have h9 : (Builtin.append_ #[t, t'] ty #[.slice (some A) n c', v]).run P w = .ok (.slice (some A) n c') w := by
          rw [this]
          simp [storeCells]
        exact ⟨_, E, w, h9, Stp.refl h, hx0⟩
      · cases hr
    · rename_i m
      split at hr
      · split at hr
        · rename_i hf
          obtain ⟨f1, f2⟩ := fitB_ok hf
          cases hr
          have e0 := hx.of_nil
          subst e0
          have := app_new (P := P) h (t := t) (t' := t') (ty := ty) ht ht' i1 hz (by rw [hzs, i3]) rfl hv' (n := 0) (c' := 0) (A := none) (os := []) (ds := []) (src_slice (by simp) (fun j u h => by simp at h) (fun _ => rfl)) hu (.nil _ _) hsc rfl (by omega) (by omega) (by rw [i3', Nat.zero_add]; exact f2) 1 0 (by omega)
          simp only [Nat.zero_add, List.nil_append, i3] at this
          exact this
        · cases hr
      · rename_i id off s n c
        have hx0 := hx
        obtain ⟨A, c', rfl, hd, h1, h2, h3, h4, h5⟩ := hx.of_sl
        split at hr
        · rename_i o hsb ho
          have hsb := Nat.eq_of_beq_eq_true hsb
          subst hsb
          split at hr
          · rename_i hroom
            have hroom := Nat.le_of_ble_eq_true hroom
            split at hr
            · rename_i hp' mu hst
              cases hr
              have hru := run_append_room_some (P := P) (w := w) (t := t) (t' := t') (ty := ty) ht ht' i1 hv' A (show n + (m + 1) ≤ c' by omega)
              obtain ⟨w', hw', hstp⟩ := run_store_row (P := P) h hd h2 h5 (m := m + 1) (by omega) hroom hst hmu hu hsc
              rw [i3, hw', Result.andThen_ok] at hru
              refine ⟨_, E, w', hru, hstp, .sl _ id off j.size (n + (m + 1)) c A c' hd hroom h2 h3 h4 h5⟩
            · cases hr
          · rename_i hroom
            have hroom : ¬ n + (m + 1) ≤ c := fun e => by rw [bleT e] at hroom; cases hroom
            obtain ⟨o', ho', hok⟩ := h.ob id hd
            rw [ho] at ho'
            cases ho'
            have holds : off + n * j.size ≤ o.cs.length → ∃ os, Src P w (.slice (some A) n c') j.size n os ∧ VRs E w ((o.cs.drop off).take (n * j.size)) os ∧ scals ((o.cs.drop off).take (n * j.size)) = true := fun hle => by
              have hl := ((Lies.of_ob hok).drop off).take (n * j.size)
              obtain ⟨vs, hv1, hv2⟩ := hl.vals
              have hvl : vs.length = n * j.size := by rw [← hv1.1]; simp; omega
              refine ⟨vs, src_slice hvl (fun q u hq => ?_) (fun h => by cases h), hv1, scals_sub hok.2.1 fun d hd => List.mem_of_mem_drop (List.mem_of_mem_take hd)⟩
              have hlt := (List.getElem?_eq_some_iff.1 hq).1
              have hn0 : 0 < n := by
                rcases Nat.eq_zero_or_pos n with h0 | h0
                · rw [h0, Nat.zero_mul] at hvl; omega
                · exact h0
              obtain ⟨hA, _⟩ := h5 (by omega)
              exact ⟨A, rfl, by rw [hA, add_none]; exact hv2 q u hq⟩
            split at hr
            · -- a block whose capacity is known
              rename_i hle hf hk
              have hle := Nat.le_of_ble_eq_true hle
              obtain ⟨f1, f2⟩ := fitB_ok hf
              cases hr
              obtain ⟨os, hos1, hos2, hos3⟩ := holds hle
              have hcc := h4 (hok.1.1 hk)
              have := app_new (P := P) h (t := t) (t' := t') (ty := ty) ht ht' i1 hz (by rw [hzs, i3]) rfl hv' (n := n) (c' := c') (A := some A) (by rw [i3]; exact hos1) hu hos2 hsc hos3 (by omega) f1 (by rw [i3']; exact f2) 1 0 (by omega)
              rw [i3] at this
              exact this
            · cases hr
            · -- a row that has grown
              rename_i k hle hf hk0 hk2
              have hle := Nat.le_of_ble_eq_true hle
              obtain ⟨f1, f2⟩ := fitB_ok hf
              split at hr
              · rename_i hend hte
                have hend := Nat.eq_of_beq_eq_true hend
                have hte := Nat.eq_of_beq_eq_true hte
                subst hte
                cases hr
                have hk0 : o.k ≠ 0 := hk0
                have hk2 : o.k ≠ 2 := hk2
                have hdrop : (o.cs.drop off).take (n * j.size) = o.cs.drop off := List.take_of_length_le (by simp; omega)
                by_cases hplace : n + (m + 1) ≤ c'
                · have hru := run_append_room_some (P := P) (w := w) (t := t) (t' := t') (ty := ty) ht ht' i1 hv' A hplace
                  obtain ⟨hA, hsz⟩ := h5 (by omega)
                  have hul : news.length = (m + 1) * j.size := by rw [hu.1, hvl]
                  have hmul : (n + (m + 1)) * j.size ≤ c' * j.size := Nat.mul_le_mul_right _ hplace
                  rw [Nat.add_mul] at hmul
                  obtain ⟨w', hw', hstp⟩ := stp_slide (P := P) h hd ho hk0 hk2 (off := off) (by omega) hu hsc (by omega) hmu
                  subst hA
                  rw [add_none, i3, Nat.add_assoc, hend, hw', Result.andThen_ok] at hru
                  obtain ⟨a1, a2, a3, a4, a5⟩ := Env.add_at E hp.n (E.b id) (E.base id + off) (E.sz id) False
                  refine ⟨_, _, w', hru, hstp, vr_grown (_m := m) (off := 0) a1 (fun h => a5.1 h) hplace h3 (by simp only [a2, a3, Nat.add_zero]) (by rw [a3, a4]; omega)⟩
                · obtain ⟨os, hos1, hos2, hos3⟩ := holds hle
                  rw [hdrop] at hos2 hos3
                  obtain ⟨hmr, hbid⟩ := mutOk_mmin (show mutOk base (mmin (some (rootOf o.k o.r id)) (some id)) from hmu)
                  have hst := stp_stale h hd ho hk0 hk2 hbid
                  have := app_new (P := P) hst.hs (t := t) (t' := t') (ty := ty) ht ht' i1 hz (by rw [hzs, i3]) rfl hv' (n := n) (c' := c') (A := some A) (by rw [i3]; exact hos1) hu hos2 hsc hos3 (by omega) f1 (by rw [i3']; exact f2) 3 (rootOf o.k o.r id) (by omega)
                  obtain ⟨v', E', w', q1, q2, q3⟩ := this
                  rw [i3] at q3
                  exact ⟨v', E', w', q1, hst.trans q2, q3⟩
              · cases hr
            · cases hr
        · cases hr
      · cases hr
theorem copyH_ok (h : HS W0 base S0 E hp w) {t t' ty e : TypeId} {j : TI} (hj : TiOk P e j) (ht : P.underlying t = some (.slice e)) {dst : DV} {x v : Value} (hx : VR w E dst x) {m : Nat} {news : List DV} {us : List Value} (hv : Src P w v j.size m us) (hu : VRs E w news us) (hsc : scals news = true)
    {r : DV × Hp × Mut} (hr : copyH hp j dst m news = some r) (hmu : mutOk base r.2.2) :
    ∃ v' E' w', (Builtin.copy_ #[t, t'] ty #[x, v]).run P w = .ok v' w' ∧ Stp W0 base S0 E hp w E' r.2.1 w' ∧ VR w' E' r.1 v' := by
  obtain ⟨info, dd, i1, i2, i3, i3', i4, i5, i6⟩ := hj
  unfold copyH at hr
  split at hr
  · cases hr
    rw [hx.of_nil]
    have hf := hv.read w 0 (Nat.zero_le _) rfl
    exact ⟨_, E, w, by simp [Builtin.copy_, run_underlying ht, hv.lenOf, sizeOf, typeInfo, i1, i3, hf, goInt], Stp.refl h, .int _ _ _⟩
  · rename_i id off s n c
    obtain ⟨A, c', rfl, hd, h1, h2, h3, h4, h5⟩ := hx.of_sl
    split at hr
    · rename_i hsb hm0
      cases hr
      have hf := hv.read w (min m n) (Nat.min_le_left _ _) rfl
      rw [hm0] at hf
      simp only [Nat.zero_mul, List.take_zero] at hf
      have hm0' : Nat.min m n = 0 := hm0
      exact ⟨_, E, w, by simp [Builtin.copy_, run_underlying ht, hv.lenOf, sizeOf, typeInfo, i1, i3, hm0', hf, goInt, storeCells], Stp.refl h, .int _ _ _⟩
    · rename_i q hsb hm0
      have hsb := Nat.eq_of_beq_eq_true hsb
      subst hsb
      split at hr
      · rename_i hp' mu hst
        cases hr
        have hqm : q + 1 ≤ m ∧ q + 1 ≤ n := by
          have := Nat.min_le_left m n
          have := Nat.min_le_right m n
          omega
        have hf := hv.read w (q + 1) hqm.1 rfl
        have hst' : storeH hp id (off + 0 * j.size) (news.take ((q + 1) * j.size)) = some (hp', mu) := by simpa using hst
        obtain ⟨w', hw', hstp⟩ := run_store_row (P := P) (n := 0) (m := 1) h hd h2 h5 (by omega) (by omega) hst' hmu (hu.take _) (scals_sub hsc fun d hd => List.mem_of_mem_take hd)
        rw [Nat.zero_mul] at hw'
        have hA0 : A.add 0 = A := by simp [Addr.add]
        rw [hA0] at hw'
        have hm0' : Nat.min m n = q + 1 := hm0
        refine ⟨_, E, w', ?_, hstp, .int _ _ _⟩
        simp [Builtin.copy_, run_underlying ht, hv.lenOf, sizeOf, typeInfo, i1, i3, hm0', hf, goInt, hw']
      · cases hr
    · cases hr
  · cases hr
end
end Go.Proofs.Ytoghpmeoekbcbaa
