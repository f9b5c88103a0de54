/- Join: the contract. -/
import Derived.Test.YtmpmhkjfpeagkaaKf
namespace Go.Proofs.Ytmpmhkjfpeagkaa
open Go.RowKit

noncomputable section
/-- the first error of a piece -/
def fb : List (List UInt8) → Nat
  | [] => 0
  | p :: r => match Nat.beq p.length 0 with
    | true => 8
    | false => match Nat.ble p.length 2400 with
      | true => fb r
      | false => 11
theorem bad_round {l pre : List (List UInt8)} {p : List UInt8} {e : Nat} (hl : l.length ≤ 64) (hj : l[pre.length]? = some p) (hpre : ∀ q ∈ pre, okP q) (he : (p = [] ∧ e = 8) ∨ (p.length > 2400 ∧ e = 11)) :
    ∃ h', h'.ls = [] ∧ Goes Try.prog tab kWr wrL (wrS (fs1 l) (wd (jn pre)) (fs1 l).length pre.length) (wh (jn pre)) .ret (wrF e) h' := by
  have hn := fs1_length l
  have hk := (List.getElem?_eq_some_iff.1 hj).1
  have hsm := jn_small hpre (by omega)
  have hlt : decide ((pre.length : Int) < ((fs1 l).length : Int)) = true := decide_eq_true (by omega)
  have hi : idxOk (pre.length : Int) (fs1 l).length = true := idxOk_lt (by omega)
  have hx := fs1_nth hj
  have d1 : p.length > 2400 → (((by1 p).length : Int) == 0) = false := fun h => by rw [by1_length]; exact beq_false_of_ne (by omega)
  have d2 : p.length > 2400 → decide (((by1 p).length : Int) > 2400) = true := fun h => decide_eq_true (by rw [by1_length]; omega)
  by_cases hb : jn pre = []
  · rw [hb]
    rcases he with ⟨rfl, rfl⟩ | ⟨h, rfl⟩
    · exact ⟨h00, rfl, zsee_ok tab_ok mixed fun_ok cC8_ok (wrN8 (fs1 l) (fs1 l).length pre.length) (.cons hlt (.cons hi (.cons hx .nil)))⟩
    · exact ⟨h00, rfl, zsee_ok tab_ok mixed fun_ok cC8_ok (wrN11 (fs1 l) (by1 p) (fs1 l).length pre.length) (.cons hlt (.cons hi (.cons hx (.cons (d1 h) (.cons (d2 h) .nil)))))⟩
  · obtain ⟨w3, w4⟩ := wd_ne hb
    rw [w3, w4]
    obtain ⟨d', h', mm, ha, hls⟩ : ∃ d' h' mm, builtinD tab (J0 (celB (jn pre))) .append [.sl 0 0 1 (jn pre).length (jn pre).length, iN (mis (jn pre).length)] tyZ = some (d', h', mm) ∧ h'.ls = [] := by
      cases hz : mis (jn pre).length with
      | zero => exact ⟨_, _, _, app_noneZ, rfl⟩
      | succ z =>
        have hz3 : z + 1 ≤ 3 := by rw [← hz]; unfold mis; omega
        exact ⟨_, _, _, app_rowZ (hp := J0 _) (id := 0) (n := (jn pre).length) (m := z) (o := oR 1 (celB (jn pre))) rfl (.inl rfl) rfl (celB_length _) (by omega), rfl⟩
    rcases he with ⟨rfl, rfl⟩ | ⟨h, rfl⟩
    · exact ⟨h', hls, zsee_ok tab_ok mixed fun_ok cC8_ok (wrE8 (fs1 l) d' (J0 (celB (jn pre))) h' mm (fs1 l).length pre.length (jn pre).length (mis (jn pre).length)) (.cons hlt (.cons hi (.cons hx (.cons (wrM_ok _) (.cons ha .nil)))))⟩
    · exact ⟨h', hls, zsee_ok tab_ok mixed fun_ok cC8_ok (wrE11 (fs1 l) (by1 p) d' (J0 (celB (jn pre))) h' mm (fs1 l).length pre.length (jn pre).length (mis (jn pre).length)) (.cons hlt (.cons hi (.cons hx (.cons (wrM_ok _) (.cons ha (.cons (d1 h) (.cons (d2 h) .nil)))))))⟩
theorem wr_loop {l : List (List UInt8)} (hl : l.length ≤ 64) (h0 : l ≠ []) : ∀ (r pre : List (List UInt8)), l = pre ++ r → (∀ q ∈ pre, okP q) → ∃ m, match fb r with
    | 0 => (∀ q ∈ r, okP q) ∧ GoesR Try.prog tab kWr wrL (m + 1) (wrS (fs1 l) (wd (jn pre)) (fs1 l).length pre.length) (wh (jn pre)) (.exit 1) (wrG (.sl 0 0 1 (jn l).length (jn l).length)) (J0 (celB (jn l)))
    | e => ∃ h', h'.ls = [] ∧ GoesR Try.prog tab kWr wrL (m + 1) (wrS (fs1 l) (wd (jn pre)) (fs1 l).length pre.length) (wh (jn pre)) .ret (wrF e) h'
  | [], pre, e, hpre => by
    have hn := fs1_length l
    rw [List.append_nil] at e
    subst e
    have hne : jn l ≠ [] := by
      rw [← List.dropLast_concat_getLast h0]
      exact jn_ne _ _
    obtain ⟨w1, w2⟩ := wd_ne hne
    refine ⟨0, ?_⟩
    dsimp only [fb]
    rw [w1, w2]
    exact ⟨fun q h => (by cases h), GoesR.last (zsee_ok tab_ok mixed fun_ok cC8_ok (wrO (fs1 l) (jn l).length (J0 (celB (jn l))) (fs1 l).length l.length) (.cons (decide_eq_false (by omega)) .nil)) (by intro h; cases h)⟩
  | p :: r, pre, e, hpre => by
    have hj : l[pre.length]? = some p := by rw [e]; simp
    unfold fb
    cases h1 : Nat.beq p.length 0 with
    | true =>
      have hp : p = [] := List.eq_nil_of_length_eq_zero (Nat.eq_of_beq_eq_true h1)
      obtain ⟨h', hls, g⟩ := bad_round (e := 8) hl hj hpre (.inl ⟨hp, rfl⟩)
      exact ⟨0, h', hls, GoesR.last g (by intro h; cases h)⟩
    | false =>
      have hp1 : 1 ≤ p.length := by
        cases p with
        | nil => cases h1
        | cons c r => exact Nat.succ_le_succ (Nat.zero_le _)
      cases h2 : Nat.ble p.length 2400 with
      | false =>
        have hp : p.length > 2400 := Nat.lt_of_not_le fun h => by rw [bleT h] at h2; cases h2
        obtain ⟨h', hls, g⟩ := bad_round (e := 11) hl hj hpre (.inr ⟨hp, rfl⟩)
        exact ⟨0, h', hls, GoesR.last g (by intro h; cases h)⟩
      | true =>
        have hp : okP p := ⟨hp1, Nat.le_of_ble_eq_true h2⟩
        have hpre' : ∀ q ∈ pre ++ [p], okP q := fun q hq => (List.mem_append.1 hq).elim (hpre q) fun h => by rw [List.mem_singleton.1 h]; exact hp
        have z := wr_round hl hj hpre hp
        obtain ⟨m, g⟩ := wr_loop hl h0 r (pre ++ [p]) (by rw [e]; simp) hpre'
        rw [List.length_append, List.length_singleton] at g
        refine ⟨m + 1, ?_⟩
        try dsimp only
        cases hf : fb r with
        | zero =>
          rw [hf] at g
          exact ⟨fun q hq => (List.mem_cons.1 hq).elim (fun h => by rw [h]; exact hp) (g.1 q), GoesR.step z g.2⟩
        | succ e' =>
          rw [hf] at g
          obtain ⟨h', hls, g⟩ := g
          exact ⟨h', hls, GoesR.step z g⟩
abbrev ownH (e : TypeId) (k : Nat) (cl : List DV) : Hp := ⟨1, [⟨k, 0, e, cl⟩], []⟩
/-- Join's error -/
def joE (l : List (List UInt8)) : Nat := match Nat.beq l.length 0 with
  | true => 6
  | false => match Nat.ble l.length 64 with
    | false => 4
    | true => match fb l with
      | 0 => match Nat.ble (jn l).length 65535 with
        | true => 0
        | false => 11
      | e => e
def joB (l : List (List UInt8)) : DV × Hp := match joE l with
  | 0 => (.tuple [.sl 0 0 1 (jn l).length (jn l).length, iN 0], ownH 5 1 (celB (jn l)))
  | e => (.tuple [.nil, iN e], ⟨0, [], []⟩)
theorem joE_zero {l : List (List UInt8)} (h : joE l = 0) : okPs l ∧ l ≠ [] ∧ (jn l).length ≤ 65535 := by
  unfold joE at h
  cases h1 : Nat.beq l.length 0 with
  | true => rw [h1] at h; cases h
  | false =>
    rw [h1] at h
    have hne : l ≠ [] := fun e => by rw [e] at h1; cases h1
    cases h2 : Nat.ble l.length 64 with
    | false => rw [h2] at h; cases h
    | true =>
      rw [h2] at h
      have h64 := Nat.le_of_ble_eq_true h2
      obtain ⟨m, g⟩ := wr_loop h64 hne l [] rfl (fun q hq => (by cases hq))
      try dsimp only at h
      cases hf : fb l with
      | succ e => rw [hf] at h; cases h
      | zero =>
        rw [hf] at h g
        try dsimp only at h
        cases h3 : Nat.ble (jn l).length 65535 with
        | false => rw [h3] at h; cases h
        | true => exact ⟨⟨h64, g.1⟩, hne, Nat.le_of_ble_eq_true h3⟩
theorem wj_ans (l : List (List UInt8)) : Ans Try.prog fWr (wrg (fs1 l)) (joB l).1 (joB l).2 := by
  have hn := fs1_length l
  unfold joB joE
  cases h1 : Nat.beq l.length 0 with
  | true =>
    have : l = [] := List.eq_nil_of_length_eq_zero (Nat.eq_of_beq_eq_true h1)
    subst this
    exact zflat_ok tab_ok mixed fun_ok cC8_ok wrR6 .nil
  | false =>
    have hne : l ≠ [] := fun e => by rw [e] at h1; cases h1
    have q1 : (((fs1 l).length : Int) == 0) = false := by
      rw [hn]
      refine beq_false_of_ne fun h => hne (List.eq_nil_of_length_eq_zero ?_)
      omega
    cases h2 : Nat.ble l.length 64 with
    | false =>
      have hgt : ¬ l.length ≤ 64 := fun h => by rw [bleT h] at h2; cases h2
      exact zflat_ok tab_ok mixed fun_ok cC8_ok (wrR4 (fs1 l)) (.cons q1 (.cons (decide_eq_true (by omega)) .nil))
    | true =>
      have h64 := Nat.le_of_ble_eq_true h2
      have q2 : decide (((fs1 l).length : Int) > 64) = false := decide_eq_false (by omega)
      obtain ⟨m, g⟩ := wr_loop h64 hne l [] rfl (fun q hq => (by cases hq))
      try dsimp only
      cases hf : fb l with
      | succ e =>
        rw [hf] at g
        obtain ⟨h', hls, g⟩ := g
        exact AnsH.flat (zans_ok tab_ok mixed fun_ok cC8_ok (wrRE (fs1 l) (e + 1) h') (.cons q1 (.cons q2 (.cons g.goes .nil)))) hls rfl
      | zero =>
        rw [hf] at g
        try dsimp only
        cases h3 : Nat.ble (jn l).length 65535 with
        | false =>
          have hgt : ¬ (jn l).length ≤ 65535 := fun h => by rw [bleT h] at h3; cases h3
          exact zflat_ok tab_ok mixed fun_ok cC8_ok (wrR11 (fs1 l) (jn l).length (celB (jn l))) (.cons q1 (.cons q2 (.cons g.2.goes (.cons (decide_eq_true (by omega)) .nil))))
        | true =>
          have hle := Nat.le_of_ble_eq_true h3
          exact zans_ok tab_ok mixed fun_ok cC8_ok (wrR0 (fs1 l) (jn l).length (celB (jn l))) (.cons q1 (.cons q2 (.cons g.2.goes (.cons (decide_eq_false (by omega)) .nil))))
theorem plain_own (e k : Nat) (bs : List UInt8) : Plain (ownH e k (celB bs)) := plain_all fun o ho => by
  obtain rfl := List.mem_singleton.1 ho
  exact ⟨bs, rfl⟩
theorem plain_00 : Plain ⟨0, [], []⟩ := fun id o h => by simp [Hp.get_eq] at h
theorem fine_jo (l : List (List UInt8)) : Fine (joB l).1 (joB l).2 := by
  unfold joB
  split
  · exact ⟨rfl, plain_own _ _ _, rfl⟩
  · exact ⟨rfl, plain_00, rfl⟩
theorem jo_ls (l : List (List UInt8)) : (joB l).2.ls = [] := by
  unfold joB
  split <;> rfl
def cWj : ConF := eqC fWr (fun l : List (List UInt8) => wrg (fs1 l)) joB
theorem cWj_ok : ConOk Try.prog cWj := eqC_ok wj_ans jo_ls
theorem cWj_at (l : List (List UInt8)) : cWj fWr (wrg (fs1 l)) ⟨0, [], []⟩ = some ((joB l).1, (joB l).2, none) :=
  eqC_at (f0 := fWr) (A := fun l : List (List UInt8) => wrg (fs1 l)) (B := joB) (fun x y hxy => by
    simp only [List.cons.injEq, DV.list.injEq, true_and, and_true] at hxy
    rw [fs1_inj hxy]) l
abbrev fJo : FuncId := 14
set_option maxRecDepth 1000000 in
theorem joR (xs : List (List DV)) (n : Nat) (cl : List DV) : zans Try.prog tab ftab cWj fJo [.list 1 xs] [(5, .r (.tuple [.sl 0 0 1 n n, iN 0]) (J0 cl))] = some (.tuple [.sl 0 0 1 n n, iN 0], J0 cl, (cWj fWr (wrg xs) h00 = some (.tuple [.sl 0 0 1 n n, iN 0], J0 cl, none)) :: []) := by kernel_rfl
set_option maxRecDepth 1000000 in
theorem joX (xs : List (List DV)) (e : Nat) : zflat (zans Try.prog tab ftab cWj fJo [.list 1 xs] [(5, .q (.tuple [.nil, iN e]))]) = some (.tuple [.nil, iN e], (cWj fWr (wrg xs) h00 = some (.tuple [.nil, iN e], h00, none)) :: []) := by kernel_rfl
theorem jo_ans (l : List (List UInt8)) : Ans Try.prog fJo [fsD l] (joB l).1 (joB l).2 := by
  have q := cWj_at l
  unfold joB at q ⊢
  cases he : joE l with
  | zero =>
    rw [he] at q
    exact zans_ok tab_ok mixed fun_ok cWj_ok (joR (fs1 l) (jn l).length (celB (jn l))) (.cons q .nil)
  | succ e =>
    rw [he] at q
    exact zflat_ok tab_ok mixed fun_ok cWj_ok (joX (fs1 l) (e + 1)) (.cons q .nil)
/-- Join, its answer being new memory -/
def cJo : ConF := conC fJo (fun l : List (List UInt8) => [fsD l]) joB
theorem cJo_ok : ConOk Try.prog cJo := conC_ok jo_ans fine_jo
theorem cJo_at (hp : Hp) (l : List (List UInt8)) : cJo fJo [fsD l] hp = some (sh3 hp.n (joB l).1, layH hp (joB l).2, none) :=
  conC_at (f0 := fJo) (A := fun l : List (List UInt8) => [fsD l]) (B := joB) (fun x y hxy => by
    simp only [List.cons.injEq, and_true] at hxy
    rw [fsD_inj hxy]) l ⟨⟨rfl, rfl⟩, trivial⟩
/-- Join, its answer being a list -/
def joD (l : List (List UInt8)) : DV := match joE l with
  | 0 => .tuple [byL (jn l), iN 0]
  | e => .tuple [.list 1 [], iN e]
theorem jo_flat (l : List (List UInt8)) : Ans Try.prog fJo [fsD l] (joD l) ⟨0, [], []⟩ := by
  have h := jo_ans l
  unfold joB at h
  unfold joD
  cases he : joE l with
  | zero =>
    rw [he] at h
    exact AnsH.frz h rfl (FrzL.tuple ⟨frz_oR (k := 1) rfl rfl (by decide) rfl rfl, FrzD.int' _ _, trivial⟩)
  | succ e =>
    rw [he] at h
    exact Ans.nil1 h
theorem joD_flat (l : List (List UInt8)) : flatD (joD l) = true := by
  unfold joD
  split <;> rfl
def cJf : ConF := liftC (eqC fJo (fun l : List (List UInt8) => [fsD l]) fun l => (joD l, ⟨0, [], []⟩))
theorem cJf_ok : ConOk Try.prog cJf := liftC_ok (eqC_ok jo_flat fun _ => rfl)
theorem cJf_at (hp : Hp) (l : List (List UInt8)) : cJf fJo [fsD l] hp = some (joD l, hp, none) :=
  lift_at (A := fun l : List (List UInt8) => [fsD l]) (D := joD) (fun x y hxy => by
    simp only [List.cons.injEq, and_true] at hxy
    rw [fsD_inj hxy]) hp l rfl (joD_flat l)
end
end Go.Proofs.Ytmpmhkjfpeagkaa
