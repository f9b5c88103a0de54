/- Pack: the contract. -/
import Derived.Test.YtmpmhkjfpeagkaaKx
namespace Go.Proofs.Ytmpmhkjfpeagkaa
open Go.RowKit

noncomputable section
theorem flat_no {h : Hp} : FlatIn [] h := fun _ _ hid => absurd hid List.not_mem_nil
theorem gr_yes {p : Pk} (h : p.f0.toNat % 2 = 1) : grP p.f0 true := by
  unfold grP
  rw [gr_ok]
  exact decide_eq_true h
/-- the first error of a packet -/
def fbP : List Pk → Nat
  | [] => 0
  | p :: r => match Nat.beq (p.f0.toNat % 2) 1 with
    | true => 8
    | false => match Nat.ble p.d.length 1500 with
      | true => fbP r
      | false => 11
theorem bad_roundP {l pre : List Pk} {p : Pk} {e : Nat} (hl : l.length ≤ 32) (hj : l[pre.length]? = some p) (hpre : ∀ q ∈ pre, okK q) (he : (p.f0.toNat % 2 = 1 ∧ e = 8) ∨ (p.f0.toNat % 2 = 0 ∧ p.d.length > 1500 ∧ e = 11)) :
    Goes Try.prog tab kPw pwL (pwS (pkR l) (wd (jnP pre)) (pkR l).length pre.length) (wh (jnP pre)) .ret (wrF e) h00 := by
  have hn := pkR_length l
  have hk := (List.getElem?_eq_some_iff.1 hj).1
  have hsm := jnP_small hpre
  have hsm2 : pre.length * 1517 ≤ 32 * 1517 := Nat.mul_le_mul_right _ (by omega)
  have hlt : decide ((pre.length : Int) < ((pkR l).length : Int)) = true := decide_eq_true (by omega)
  have hi : idxOk (pre.length : Int) (pkR l).length = true := idxOk_lt (by omega)
  have hx := pkR_nth hj
  have g1 : p.f0.toNat % 2 = 0 → grP p.f0 false := fun h => by
    unfold grP
    rw [gr_ok]
    exact decide_eq_false (by omega)
  have d2 : p.d.length > 1500 → decide (((by1 p.d).length : Int) > 1500) = true := fun h => decide_eq_true (by rw [by1_length]; omega)
  by_cases hb : jnP pre = []
  · rw [hb]
    rcases he with ⟨h, rfl⟩ | ⟨h, h', rfl⟩
    · exact zgm_ok tab_ok mixed fun_ok noC_ok (e8A (pkR l) (by1 p.d) (pkR l).length pre.length p.t0 p.t1 p.t2 p.t3 p.t4 p.t5 p.f0 p.f1 p.f2 p.f3 p.f4 p.f5) (.cons flat_no (.cons hlt (.cons hi (.cons hx (.cons (gr_yes h) .nil)))))
    · exact zgm_ok tab_ok mixed fun_ok noC_ok (e11A (pkR l) (by1 p.d) (pkR l).length pre.length p.t0 p.t1 p.t2 p.t3 p.t4 p.t5 p.f0 p.f1 p.f2 p.f3 p.f4 p.f5) (.cons flat_no (.cons hlt (.cons hi (.cons hx (.cons (g1 h) (.cons (d2 h') .nil))))))
  · obtain ⟨w3, w4⟩ := wd_ne hb
    rw [w3, w4]
    have hMz := wrM_ok (jnP pre).length
    cases hz : mis (jnP pre).length with
    | zero =>
      rw [hz] at hMz
      rcases he with ⟨h, rfl⟩ | ⟨h, h', rfl⟩
      · exact zgm_ok tab_ok mixed fun_ok noC_ok (e8B (pkR l) (by1 p.d) (pkR l).length pre.length (jnP pre).length (celB (jnP pre)) p.t0 p.t1 p.t2 p.t3 p.t4 p.t5 p.f0 p.f1 p.f2 p.f3 p.f4 p.f5) (.cons flat_no (.cons hlt (.cons hi (.cons hx (.cons hMz (.cons (gr_yes h) .nil))))))
      · exact zgm_ok tab_ok mixed fun_ok noC_ok (e11B (pkR l) (by1 p.d) (pkR l).length pre.length (jnP pre).length (celB (jnP pre)) p.t0 p.t1 p.t2 p.t3 p.t4 p.t5 p.f0 p.f1 p.f2 p.f3 p.f4 p.f5) (.cons flat_no (.cons hlt (.cons hi (.cons hx (.cons hMz (.cons (g1 h) (.cons (d2 h') .nil)))))))
    | succ z' =>
      rw [hz] at hMz
      have hz3 : z' + 1 ≤ 3 := by rw [← hz]; unfold mis; omega
      rcases he with ⟨h, rfl⟩ | ⟨h, h', rfl⟩
      · refine zgm_ok tab_ok mixed fun_ok noC_ok (e8C (pkR l) (by1 p.d) (pkR l).length pre.length (jnP pre).length (celB (jnP pre)) (z' + 1) ((jnP pre).length + (z' + 1)) (celB (zrs (z' + 1))) p.t0 p.t1 p.t2 p.t3 p.t4 p.t5 p.f0 p.f1 p.f2 p.f3 p.f4 p.f5) (.cons flat_no (.cons hlt (.cons hi (.cons hx (.cons hMz (.cons ?_ (.cons (gr_yes h) .nil)))))))
        exact app_rowZ (id := 0) (n := (jnP pre).length) (m := z') (o := oR 1 (celB (jnP pre))) rfl (.inl rfl) rfl (celB_length _) (by omega)
      · refine zgm_ok tab_ok mixed fun_ok noC_ok (e11C (pkR l) (by1 p.d) (pkR l).length pre.length (jnP pre).length (celB (jnP pre)) (z' + 1) ((jnP pre).length + (z' + 1)) (celB (zrs (z' + 1))) p.t0 p.t1 p.t2 p.t3 p.t4 p.t5 p.f0 p.f1 p.f2 p.f3 p.f4 p.f5) (.cons flat_no (.cons hlt (.cons hi (.cons hx (.cons hMz (.cons ?_ (.cons (g1 h) (.cons (d2 h') .nil))))))))
        exact app_rowZ (id := 0) (n := (jnP pre).length) (m := z') (o := oR 1 (celB (jnP pre))) rfl (.inl rfl) rfl (celB_length _) (by omega)
theorem pw_loop {l : List Pk} (hl : l.length ≤ 32) (h0 : l ≠ []) : ∀ (r pre : List Pk), l = pre ++ r → (∀ q ∈ pre, okK q) → ∃ m, match fbP r with
    | 0 => (∀ q ∈ r, okK q) ∧ GoesR Try.prog tab kPw pwL (m + 1) (pwS (pkR l) (wd (jnP pre)) (pkR l).length pre.length) (wh (jnP pre)) (.exit 1) (pwG (.sl 0 0 1 (jnP l).length (jnP l).length)) (J0 (celB (jnP l)))
    | e => GoesR Try.prog tab kPw pwL (m + 1) (pwS (pkR l) (wd (jnP pre)) (pkR l).length pre.length) (wh (jnP pre)) .ret (wrF e) h00
  | [], pre, e, hpre => by
    have hn := pkR_length l
    rw [List.append_nil] at e
    subst e
    have hne : jnP l ≠ [] := by
      rw [← List.dropLast_concat_getLast h0]
      exact jnP_ne _ _
    obtain ⟨w1, w2⟩ := wd_ne hne
    refine ⟨0, ?_⟩
    dsimp only [fbP]
    rw [w1, w2]
    exact ⟨fun q h => (by cases h), GoesR.last (zsee_ok tab_ok mixed fun_ok noC_ok (pwO (pkR l) (jnP l).length (J0 (celB (jnP l))) (pkR l).length l.length) (.cons (decide_eq_false (by omega)) .nil)) (by intro h; cases h)⟩
  | p :: r, pre, e, hpre => by
    have hj : l[pre.length]? = some p := by rw [e]; simp
    unfold fbP
    cases h1 : Nat.beq (p.f0.toNat % 2) 1 with
    | true =>
      exact ⟨0, GoesR.last (bad_roundP (e := 8) hl hj hpre (.inl ⟨Nat.eq_of_beq_eq_true h1, rfl⟩)) (by intro h; cases h)⟩
    | false =>
      have hp1 : p.f0.toNat % 2 = 0 := by
        have := Nat.ne_of_beq_eq_false h1
        omega
      cases h2 : Nat.ble p.d.length 1500 with
      | false =>
        have hp : p.d.length > 1500 := Nat.lt_of_not_le fun h => by rw [bleT h] at h2; cases h2
        exact ⟨0, GoesR.last (bad_roundP (e := 11) hl hj hpre (.inr ⟨hp1, hp, rfl⟩)) (by intro h; cases h)⟩
      | true =>
        have hp : okK p := ⟨hp1, Nat.le_of_ble_eq_true h2⟩
        have hpre' : ∀ q ∈ pre ++ [p], okK q := fun q hq => (List.mem_append.1 hq).elim (hpre q) fun h => by rw [List.mem_singleton.1 h]; exact hp
        have z := pw_round hl hj hpre hp
        obtain ⟨m, g⟩ := pw_loop hl h0 r (pre ++ [p]) (by rw [e]; simp) hpre'
        rw [List.length_append, List.length_singleton] at g
        refine ⟨m + 1, ?_⟩
        try dsimp only
        cases hf : fbP r with
        | zero =>
          rw [hf] at g
          exact ⟨fun q hq => (List.mem_cons.1 hq).elim (fun h => by rw [h]; exact hp) (g.1 q), GoesR.step z g.2⟩
        | succ e' =>
          rw [hf] at g
          exact GoesR.step z g
/-- Pack's error -/
def paE (l : List Pk) : Nat := match Nat.beq l.length 0 with
  | true => 6
  | false => match Nat.ble l.length 32 with
    | false => 4
    | true => match fbP l with
      | 0 => match Nat.ble (jnP l).length 2304 with
        | true => 0
        | false => 11
      | e => e
def okKs (l : List Pk) : Prop := l.length ≤ 32 ∧ ∀ q ∈ l, okK q
theorem paE_zero {l : List Pk} (h : paE l = 0) : okKs l ∧ l ≠ [] ∧ (jnP l).length ≤ 2304 := by
  unfold paE at h
  cases h1 : Nat.beq l.length 0 with
  | true => rw [h1] at h; cases h
  | false =>
    rw [h1] at h
    have hne : l ≠ [] := fun e => by rw [e] at h1; cases h1
    cases h2 : Nat.ble l.length 32 with
    | false => rw [h2] at h; cases h
    | true =>
      rw [h2] at h
      have h64 := Nat.le_of_ble_eq_true h2
      obtain ⟨m, g⟩ := pw_loop h64 hne l [] rfl (fun q hq => (by cases hq))
      try dsimp only at h
      cases hf : fbP l with
      | succ e => rw [hf] at h; cases h
      | zero =>
        rw [hf] at h g
        try dsimp only at h
        cases h3 : Nat.ble (jnP l).length 2304 with
        | false => rw [h3] at h; cases h
        | true => exact ⟨⟨h64, g.1⟩, hne, Nat.le_of_ble_eq_true h3⟩
theorem fbP_ok : ∀ {l : List Pk}, (∀ q ∈ l, okK q) → fbP l = 0
  | [], _ => rfl
  | p :: r, h => by
    have hp := h p List.mem_cons_self
    unfold fbP
    rw [show Nat.beq (p.f0.toNat % 2) 1 = false by rw [hp.1]; rfl, bleT hp.2]
    exact fbP_ok fun q hq => h q (List.mem_cons_of_mem _ hq)
theorem paE_ok {l : List Pk} (h : okKs l) (h0 : l ≠ []) (hl : (jnP l).length ≤ 2304) : paE l = 0 := by
  unfold paE
  rw [show Nat.beq l.length 0 = false from by
    cases l with
    | nil => exact absurd rfl h0
    | cons p r => rfl, bleT h.1, fbP_ok h.2, bleT hl]
  rfl
def paD (l : List Pk) : DV := match paE l with
  | 0 => .tuple [byL (jnP l), iN 0]
  | e => .tuple [.list 1 [], iN e]
def paB (l : List Pk) : DV × Hp := match paE l with
  | 0 => (.tuple [.sl 0 0 1 (jnP l).length (jnP l).length, iN 0], ownH 5 1 (celB (jnP l)))
  | e => (.tuple [.nil, iN e], ⟨0, [], []⟩)
theorem wp_ans (l : List Pk) : Ans Try.prog fPw (pwg (pkR l)) (paB l).1 (paB l).2 := by
  have hn := pkR_length l
  unfold paB paE
  cases h1 : Nat.beq l.length 0 with
  | true =>
    have : l = [] := List.eq_nil_of_length_eq_zero (Nat.eq_of_beq_eq_true h1)
    subst this
    exact zflat_ok tab_ok mixed fun_ok noC_ok pwR6 .nil
  | false =>
    have hne : l ≠ [] := fun e => by rw [e] at h1; cases h1
    have q1 : (((pkR l).length : Int) == 0) = false := by
      rw [hn]
      refine beq_false_of_ne fun h => hne (List.eq_nil_of_length_eq_zero ?_)
      omega
    cases h2 : Nat.ble l.length 32 with
    | false =>
      have hgt : ¬ l.length ≤ 32 := fun h => by rw [bleT h] at h2; cases h2
      exact zflat_ok tab_ok mixed fun_ok noC_ok (pwR4 (pkR l)) (.cons q1 (.cons (decide_eq_true (by omega)) .nil))
    | true =>
      have h64 := Nat.le_of_ble_eq_true h2
      have q2 : decide (((pkR l).length : Int) > 32) = false := decide_eq_false (by omega)
      obtain ⟨m, g⟩ := pw_loop h64 hne l [] rfl (fun q hq => (by cases hq))
      try dsimp only
      cases hf : fbP l with
      | succ e =>
        rw [hf] at g
        exact zflat_ok tab_ok mixed fun_ok noC_ok (pwRE (pkR l) (e + 1)) (.cons q1 (.cons q2 (.cons g.goes .nil)))
      | zero =>
        rw [hf] at g
        try dsimp only
        cases h3 : Nat.ble (jnP l).length 2304 with
        | false =>
          have hgt : ¬ (jnP l).length ≤ 2304 := fun h => by rw [bleT h] at h3; cases h3
          exact zflat_ok tab_ok mixed fun_ok noC_ok (pwR11 (pkR l) (jnP l).length (celB (jnP l))) (.cons q1 (.cons q2 (.cons g.2.goes (.cons (decide_eq_true (by omega)) .nil))))
        | true =>
          have hle := Nat.le_of_ble_eq_true h3
          exact zans_ok tab_ok mixed fun_ok noC_ok (pwR0 (pkR l) (jnP l).length (celB (jnP l))) (.cons q1 (.cons q2 (.cons g.2.goes (.cons (decide_eq_false (by omega)) .nil))))
theorem pa_ls (l : List Pk) : (paB l).2.ls = [] := by
  unfold paB
  split <;> rfl
def cWp : ConF := eqC fPw (fun l : List Pk => pwg (pkR l)) paB
theorem cWp_ok : ConOk Try.prog cWp := eqC_ok wp_ans pa_ls
theorem cWp_at (l : List Pk) : cWp fPw (pwg (pkR l)) ⟨0, [], []⟩ = some ((paB l).1, (paB l).2, none) :=
  eqC_at (f0 := fPw) (A := fun l : List Pk => pwg (pkR l)) (B := paB) (fun x y hxy => by
    simp only [List.cons.injEq, DV.list.injEq, true_and, and_true] at hxy
    rw [pkR_inj hxy]) l
abbrev fPa : FuncId := 10
set_option maxRecDepth 1000000 in
theorem paR (xs : List (List DV)) (n : Nat) (cl : List DV) : zans Try.prog tab ftab cWp fPa [.list 13 xs] [(5, .r (.tuple [.sl 0 0 1 n n, iN 0]) (J0 cl))] = some (.tuple [.sl 0 0 1 n n, iN 0], J0 cl, (cWp fPw (pwg xs) h00 = some (.tuple [.sl 0 0 1 n n, iN 0], J0 cl, none)) :: []) := by kernel_rfl
set_option maxRecDepth 1000000 in
theorem paX (xs : List (List DV)) (e : Nat) : zflat (zans Try.prog tab ftab cWp fPa [.list 13 xs] [(5, .q (.tuple [.nil, iN e]))]) = some (.tuple [.nil, iN e], (cWp fPw (pwg xs) h00 = some (.tuple [.nil, iN e], h00, none)) :: []) := by kernel_rfl
theorem pa_ans (l : List Pk) : Ans Try.prog fPa [pksD l] (paB l).1 (paB l).2 := by
  have q := cWp_at l
  unfold paB at q ⊢
  cases he : paE l with
  | zero =>
    rw [he] at q
    exact zans_ok tab_ok mixed fun_ok cWp_ok (paR (pkR l) (jnP l).length (celB (jnP l))) (.cons q .nil)
  | succ e =>
    rw [he] at q
    exact zflat_ok tab_ok mixed fun_ok cWp_ok (paX (pkR l) (e + 1)) (.cons q .nil)
theorem pa_flat (l : List Pk) : Ans Try.prog fPa [pksD l] (paD l) ⟨0, [], []⟩ := by
  have h := pa_ans l
  unfold paB at h
  unfold paD
  cases he : paE l with
  | zero =>
    rw [he] at h
    exact AnsH.frz h rfl (FrzL.tuple ⟨frz_oR (k := 1) rfl rfl (by decide) rfl rfl, FrzD.int' _ _, trivial⟩)
  | succ e =>
    rw [he] at h
    exact Ans.nil1 h
theorem paD_flat (l : List Pk) : flatD (paD l) = true := by
  unfold paD
  split <;> rfl
def cPa : ConF := liftC (eqC fPa (fun l : List Pk => [pksD l]) fun l => (paD l, ⟨0, [], []⟩))
theorem cPa_ok : ConOk Try.prog cPa := liftC_ok (eqC_ok pa_flat fun _ => rfl)
theorem cPa_at (hp : Hp) (l : List Pk) (hf : flats2 [pksD l] = true) : cPa fPa [pksD l] hp = some (paD l, hp, none) :=
  lift_at (A := fun l : List Pk => [pksD l]) (D := paD) (fun x y hxy => by
    simp only [List.cons.injEq, and_true] at hxy
    rw [pksD_inj hxy]) hp l hf (paD_flat l)
end
end Go.Proofs.Ytmpmhkjfpeagkaa
