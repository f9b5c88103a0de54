/- Joined forms and scanning: mathematics. -/
import Derived.Test.YtmpmhkjfpeagkaaKa
namespace Go.Proofs.Ytmpmhkjfpeagkaa
open Go.RowKit

noncomputable section
/-! ### Joined forms and scanning: mathematics -/
def mis (n : Nat) : Nat := (4 - n % 4) % 4
def loB (n : Nat) : UInt8 := UInt8.ofNat (n % 256)
def hiB (n : Nat) : UInt8 := UInt8.ofNat (n / 256 % 256)
def zrs (n : Nat) : List UInt8 := List.replicate n 0
def dlm (n : Nat) : List UInt8 := [loB n, hiB n, c8 (loB n) (hiB n), 78]
def ent (p : List UInt8) : List UInt8 := dlm p.length ++ p
def jstep (b p : List UInt8) : List UInt8 := (b ++ zrs (mis b.length)) ++ ent p
def jn (l : List (List UInt8)) : List UInt8 := l.foldl jstep []
def okP (p : List UInt8) : Prop := 1 ≤ p.length ∧ p.length ≤ 2400
/-- the length of the piece behind a delimiter, or 0 -/
def ann : List UInt8 → Nat
  | a :: b :: c :: d :: r => match decide (1 ≤ a.toNat + 256 * b.toNat ∧ a.toNat + 256 * b.toNat ≤ 2400 ∧ a.toNat + 256 * b.toNat ≤ r.length ∧ c = c8 a b ∧ d = 78) with
    | true => a.toNat + 256 * b.toNat
    | false => 0
  | _ => 0
def scF : Nat → List UInt8 → List (List UInt8) × Nat
  | 0, _ => ([], 0)
  | f + 1, b => match Nat.ble 4 b.length with
    | false => ([], 0)
    | true => match ann b with
      | 0 => ((scF f (b.drop 4)).1, (scF f (b.drop 4)).2 + 1)
      | n + 1 => ((b.drop 4).take (n + 1) :: (scF f (b.drop (4 + (n + 1) + mis (n + 1)))).1, (scF f (b.drop (4 + (n + 1) + mis (n + 1)))).2)
def sc (b : List UInt8) : List (List UInt8) × Nat := scF b.length b
theorem scF_eq : ∀ (f g : Nat) (b : List UInt8), b.length ≤ f → b.length ≤ g → scF f b = scF g b
  | 0, 0, _, _, _ => rfl
  | 0, g + 1, b, h, _ => by
    have h4 : Nat.ble 4 b.length = false := by cases hb : Nat.ble 4 b.length with | false => rfl | true => have := Nat.le_of_ble_eq_true hb; omega
    simp only [scF, h4]
  | f + 1, 0, b, _, h => by
    have h4 : Nat.ble 4 b.length = false := by cases hb : Nat.ble 4 b.length with | false => rfl | true => have := Nat.le_of_ble_eq_true hb; omega
    simp only [scF, h4]
  | f + 1, g + 1, b, hf, hg => by
    have e : ∀ m, 4 ≤ m → scF f (b.drop m) = scF g (b.drop m) := fun m hm => scF_eq f g _ (by rw [List.length_drop]; omega) (by rw [List.length_drop]; omega)
    simp only [scF]
    cases hb : Nat.ble 4 b.length with
    | false => rfl
    | true =>
      cases ha : ann b with
      | zero => simp only [e 4 (by omega)]
      | succ n => simp only [e (4 + (n + 1) + mis (n + 1)) (by omega)]
theorem scF_sc {f : Nat} {b : List UInt8} (h : b.length ≤ f) : scF f b = sc b := scF_eq _ _ _ h (Nat.le_refl _)
theorem sc_short {b : List UInt8} (h : b.length < 4) : sc b = ([], 0) := by
  have h4 : Nat.ble 4 b.length = false := by cases hb : Nat.ble 4 b.length with | false => rfl | true => have := Nat.le_of_ble_eq_true hb; omega
  unfold sc
  cases hl : b.length with
  | zero => rfl
  | succ n => rw [hl] at h4; simp only [scF, hl, h4]
theorem sc_skip {b : List UInt8} (h : 4 ≤ b.length) (ha : ann b = 0) : sc b = ((sc (b.drop 4)).1, (sc (b.drop 4)).2 + 1) := by
  obtain ⟨n, hn⟩ : ∃ n, b.length = n + 1 := ⟨b.length - 1, by omega⟩
  have h4 : Nat.ble 4 b.length = true := Nat.ble_eq_true_of_le h
  have e : scF n (b.drop 4) = sc (b.drop 4) := scF_sc (by rw [List.length_drop]; omega)
  rw [show sc b = scF (n + 1) b by unfold sc; rw [hn]]
  simp only [scF, h4, ha, e]
theorem sc_find {b : List UInt8} {n : Nat} (h : 4 ≤ b.length) (ha : ann b = n + 1) : sc b = ((b.drop 4).take (n + 1) :: (sc (b.drop (4 + (n + 1) + mis (n + 1)))).1, (sc (b.drop (4 + (n + 1) + mis (n + 1)))).2) := by
  obtain ⟨m, hn⟩ : ∃ n, b.length = n + 1 := ⟨b.length - 1, by omega⟩
  have h4 : Nat.ble 4 b.length = true := Nat.ble_eq_true_of_le h
  have e : scF m (b.drop (4 + (n + 1) + mis (n + 1))) = sc (b.drop (4 + (n + 1) + mis (n + 1))) := scF_sc (by rw [List.length_drop]; omega)
  rw [show sc b = scF (m + 1) b by unfold sc; rw [hn]]
  simp only [scF, h4, ha, e]
theorem lohi {n : Nat} (h : n < 65536) : (loB n).toNat + 256 * (hiB n).toNat = n := by
  have e0 : (loB n).toNat = n % 256 := by unfold loB; rw [UInt8.toNat_ofNat_of_lt' (Nat.mod_lt _ (by decide))]
  have e1 : (hiB n).toNat = n / 256 % 256 := by unfold hiB; rw [UInt8.toNat_ofNat_of_lt' (Nat.mod_lt _ (by decide))]
  omega
theorem ent_length (p : List UInt8) : (ent p).length = 4 + p.length := by simp [ent, dlm]; omega
theorem ann_ent {p t : List UInt8} (h : okP p) : ann (ent p ++ t) = p.length := by
  have e := lohi (n := p.length) (by have := h.2; omega)
  show ann (loB p.length :: hiB p.length :: c8 (loB p.length) (hiB p.length) :: 78 :: (p ++ t)) = _
  unfold ann
  dsimp only
  rw [e, decide_eq_true ⟨h.1, h.2, by rw [List.length_append]; omega, rfl, rfl⟩]
theorem mis4 (n : Nat) : mis (4 + n) = mis n := by unfold mis; omega
theorem sc_ent {p t : List UInt8} (h : okP p) : sc (ent p ++ t) = (p :: (sc (t.drop (mis p.length))).1, (sc (t.drop (mis p.length))).2) := by
  obtain ⟨n, hn⟩ : ∃ n, p.length = n + 1 := ⟨p.length - 1, by have := h.1; omega⟩
  have hl := ent_length p
  have e1 : ((ent p ++ t).drop 4).take (n + 1) = p := by
    show (p ++ t).take (n + 1) = p
    rw [← hn, List.take_left]
  have e2 : (ent p ++ t).drop (4 + (n + 1) + mis (n + 1)) = t.drop (mis p.length) := by
    rw [← hn, ← hl, List.drop_append, List.drop_eq_nil_of_le (by omega), List.nil_append]
    congr 1
    omega
  rw [sc_find (n := n) (by rw [List.length_append, hl]; omega) (by rw [ann_ent h, hn]), e1, e2]
theorem jn_snoc (l : List (List UInt8)) (p : List UInt8) : jn (l ++ [p]) = (jn l ++ zrs (mis (jn l).length)) ++ ent p := by simp [jn, jstep]
theorem zrs_length (n : Nat) : (zrs n).length = n := by simp [zrs]
theorem jn_len_snoc (l : List (List UInt8)) (p : List UInt8) : (jn (l ++ [p])).length = (jn l).length + mis (jn l).length + (4 + p.length) := by
  rw [jn_snoc, List.length_append, List.length_append, zrs_length, ent_length]
/-- where the delimiters stand -/
def stA : List (List UInt8) → Nat
  | [] => 0
  | p :: l => 4 + p.length + mis p.length + stA l
theorem stA_append (l m : List (List UInt8)) : stA (l ++ m) = stA l + stA m := by
  induction l with
  | nil => simp [stA]
  | cons p l ih => rw [List.cons_append, stA, stA, ih]; omega
theorem snoc_ind {α : Type} {P : List α → Prop} (h0 : P []) (h1 : ∀ l x, P l → P (l ++ [x])) (l : List α) : P l := by
  have : ∀ k : List α, P k.reverse := fun k => by
    induction k with
    | nil => exact h0
    | cons x k ih => rw [List.reverse_cons]; exact h1 _ _ ih
  rw [← List.reverse_reverse l]
  exact this _
theorem jn_st (l : List (List UInt8)) : (jn l).length + mis (jn l).length = stA l := by
  refine snoc_ind (P := fun l => (jn l).length + mis (jn l).length = stA l) rfl (fun l p ih => ?_) l
  rw [jn_len_snoc, stA_append, stA, stA, ← ih]
  unfold mis
  omega
/-- what is joined is found again, whatever follows -/
theorem sc_jn (l : List (List UInt8)) : (∀ p ∈ l, okP p) → ∀ t, sc (jn l ++ t) = (l ++ (sc (t.drop (mis (jn l).length))).1, (sc (t.drop (mis (jn l).length))).2) := by
  refine snoc_ind (P := fun l => (∀ p ∈ l, okP p) → ∀ t, sc (jn l ++ t) = (l ++ (sc (t.drop (mis (jn l).length))).1, (sc (t.drop (mis (jn l).length))).2)) (fun _ t => rfl) (fun l p ih h t => ?_) l
  have hp : okP p := h p (List.mem_append_right _ (List.mem_singleton.2 rfl))
  have e : mis (jn (l ++ [p])).length = mis p.length := by
    rw [jn_len_snoc]
    unfold mis
    omega
  have d : (zrs (mis (jn l).length) ++ (ent p ++ t)).drop (mis (jn l).length) = ent p ++ t := by
    rw [List.drop_append, zrs_length, List.drop_eq_nil_of_le (by rw [zrs_length]; exact Nat.le_refl _), Nat.sub_self]
    rfl
  rw [jn_snoc, List.append_assoc, List.append_assoc, ih (fun q hq => h q (List.mem_append_left _ hq)), d, sc_ent hp, ← jn_snoc, e]
  simp
theorem sc_all {l : List (List UInt8)} (h : ∀ p ∈ l, okP p) : sc (jn l) = (l, 0) := by
  have := sc_jn l h []
  rw [List.append_nil] at this
  rw [this]
  simp [sc_short]
/-- one piece after another: where the k-th one lies -/
theorem jn_split : ∀ (m l : List (List UInt8)), ∃ C, jn (l ++ m) = jn l ++ C ∧ (m ≠ [] → ∃ D, C = zrs (mis (jn l).length) ++ D) := by
  intro m
  refine snoc_ind (P := fun m => ∀ l, ∃ C, jn (l ++ m) = jn l ++ C ∧ (m ≠ [] → ∃ D, C = zrs (mis (jn l).length) ++ D)) (fun l => ⟨[], by simp, fun h => (h rfl).elim⟩) (fun m p ih l => ?_) m
  obtain ⟨C, hC, hD⟩ := ih l
  rw [← List.append_assoc, jn_snoc, hC]
  cases m with
  | nil =>
    have : C = [] := by
      rw [List.append_nil] at hC
      have := congrArg List.length hC
      rw [List.length_append] at this
      exact List.length_eq_zero_iff.1 (by omega)
    subst this
    exact ⟨zrs (mis (jn l).length) ++ ent p, by simp, fun _ => ⟨ent p, rfl⟩⟩
  | cons q m =>
    obtain ⟨D, hD⟩ := hD (by simp)
    exact ⟨C ++ zrs (mis (jn l ++ C).length) ++ ent p, by simp, fun _ => ⟨D ++ zrs (mis (jn l ++ C).length) ++ ent p, by rw [hD]; simp⟩⟩
/-- the pieces behind a place depend on the place alone -/
theorem jn_cont : ∀ (m l k : List (List UInt8)), (jn l).length % 4 = (jn k).length % 4 → ∃ C, jn (l ++ m) = jn l ++ C ∧ jn (k ++ m) = jn k ++ C := by
  intro m
  refine snoc_ind (P := fun m => ∀ l k, (jn l).length % 4 = (jn k).length % 4 → ∃ C, jn (l ++ m) = jn l ++ C ∧ jn (k ++ m) = jn k ++ C) (fun l k _ => ⟨[], by simp, by simp⟩) (fun m p ih l k h => ?_) m
  obtain ⟨C, h1, h2⟩ := ih l k h
  have e : mis (jn l ++ C).length = mis (jn k ++ C).length := by
    rw [List.length_append, List.length_append]
    unfold mis
    omega
  refine ⟨C ++ zrs (mis (jn l ++ C).length) ++ ent p, ?_, ?_⟩
  · rw [← List.append_assoc, jn_snoc, h1]; simp
  · rw [← List.append_assoc, jn_snoc, h2, e]; simp
theorem jn_len_st (l : List (List UInt8)) (p : List UInt8) : (jn (l ++ [p])).length = stA l + 4 + p.length := by
  rw [jn_len_snoc, ← jn_st]
  omega
theorem sc_skips : ∀ (m : Nat) (T : List UInt8), (∀ j, j < m → 4 * j + 4 ≤ T.length ∧ ann (T.drop (4 * j)) = 0) → sc T = ((sc (T.drop (4 * m))).1, (sc (T.drop (4 * m))).2 + m)
  | 0, T, _ => rfl
  | m + 1, T, h => by
    have h0 : 4 ≤ T.length ∧ ann T = 0 := h 0 (by omega)
    have ih := sc_skips m (T.drop 4) fun j hj => by
      have := h (j + 1) (by omega)
      rw [List.length_drop, List.drop_drop]
      exact ⟨by omega, by rw [show 4 + 4 * j = 4 * (j + 1) by omega]; exact this.2⟩
    rw [sc_skip h0.1 h0.2, ih, List.drop_drop, show 4 + 4 * m = 4 * (m + 1) by omega]
    simp only [Nat.add_assoc]
theorem okP_set {p : List UInt8} (h : okP p) (j : Nat) (x : UInt8) : okP (p.set j x) := by
  unfold okP
  rw [List.length_set]
  exact h
/-- the joined form around a piece -/
theorem jn_around (pre post : List (List UInt8)) (p : List UInt8) : ∃ C, (∀ q : List UInt8, q.length = p.length → jn (pre ++ q :: post) = jn pre ++ zrs (mis (jn pre).length) ++ dlm p.length ++ q ++ C) ∧ ((∀ q ∈ pre ++ p :: post, okP q) → sc (C.drop (mis p.length)) = (post, 0)) ∧ (post ≠ [] → mis p.length + 4 ≤ C.length) := by
  obtain ⟨C, hC, hD⟩ := jn_split post (pre ++ [p])
  have hm : mis (jn (pre ++ [p])).length = mis p.length := by
    rw [jn_len_snoc]
    unfold mis
    omega
  refine ⟨C, fun q hq => ?_, fun hok => ?_, fun hne => ?_⟩
  · obtain ⟨C', h1, h2⟩ := jn_cont post (pre ++ [p]) (pre ++ [q]) (by rw [jn_len_st, jn_len_st, hq])
    have : C' = C := List.append_cancel_left (h1.symm.trans hC)
    subst this
    rw [show pre ++ q :: post = (pre ++ [q]) ++ post by simp, h2, jn_snoc, ent, hq]
    simp
  · have e : pre ++ p :: post = (pre ++ [p]) ++ post := by simp
    have h1 := sc_all hok
    rw [e, hC, sc_jn _ (fun q hq => hok q (by rw [e]; exact List.mem_append_left _ hq)) C, hm] at h1
    injection h1 with h2 h3
    rw [show sc (C.drop (mis p.length)) = ((sc (C.drop (mis p.length))).1, (sc (C.drop (mis p.length))).2) from rfl, List.append_cancel_left h2, h3]
  · obtain ⟨q, r, rfl⟩ : ∃ q r, post = q :: r := by
      cases post with
      | nil => exact (hne rfl).elim
      | cons q r => exact ⟨q, r, rfl⟩
    obtain ⟨C', hC', _⟩ := jn_split r ((pre ++ [p]) ++ [q])
    have e : (jn ((pre ++ [p]) ++ q :: r)).length = (jn (((pre ++ [p]) ++ [q]) ++ r)).length := by simp
    rw [hC, hC', List.length_append, List.length_append, jn_len_snoc (pre ++ [p]) q, hm] at e
    omega
theorem set_mid {A q B : List UInt8} {n j : Nat} {x : UInt8} (hn : n = A.length) (hj : j < q.length) : (A ++ q ++ B).set (n + j) x = A ++ q.set j x ++ B := by
  subst hn
  rw [List.append_assoc, List.set_append_right _ _ (by omega), Nat.add_sub_cancel_left, List.set_append_left _ _ hj, List.append_assoc]
theorem split_at {l : List (List UInt8)} {k : Nat} {p : List UInt8} (h : l[k]? = some p) : l = l.take k ++ p :: l.drop (k + 1) := by
  obtain ⟨h1, h2⟩ := List.getElem?_eq_some_iff.1 h
  rw [← h2, List.getElem_cons_drop, List.take_append_drop]
theorem set_at {l : List (List UInt8)} {k : Nat} {p : List UInt8} (h : l[k]? = some p) (q : List UInt8) : l.set k q = l.take k ++ q :: l.drop (k + 1) := by
  obtain ⟨h1, h2⟩ := List.getElem?_eq_some_iff.1 h
  exact List.set_eq_take_append_cons_drop .. |>.trans (by rw [if_pos h1])
theorem st_len (l : List (List UInt8)) (n : Nat) : (jn l ++ zrs (mis (jn l).length) ++ dlm n).length = stA l + 4 := by
  rw [List.length_append, List.length_append, zrs_length, ← jn_st]
  rfl
/-- a byte of a piece changed -/
theorem jn_set {l : List (List UInt8)} {k : Nat} {p q : List UInt8} (h : l[k]? = some p) (hq : q.length = p.length) {j : Nat} (hj : j < p.length) (x : UInt8) : (jn (l.set k q)).set (stA (l.take k) + 4 + j) x = jn (l.set k (q.set j x)) := by
  obtain ⟨C, hC, _, _⟩ := jn_around (l.take k) (l.drop (k + 1)) p
  rw [set_at h, set_at h, hC q hq, hC (q.set j x) (by rw [List.length_set, hq]), set_mid (st_len _ _).symm (by omega)]
/-- a piece lies behind its delimiter -/
theorem jn_end {l : List (List UInt8)} {k : Nat} {p : List UInt8} (h : l[k]? = some p) : stA (l.take k) + 4 + p.length ≤ (jn l).length := by
  obtain ⟨C, hC, _, _⟩ := jn_around (l.take k) (l.drop (k + 1)) p
  have e := hC p rfl
  rw [← split_at h] at e
  rw [e, List.length_append, List.length_append, st_len]
  omega
/-- a delimiter lost -/
theorem jn_lost {l : List (List UInt8)} (hok : ∀ p ∈ l, okP p) {k : Nat} {p : List UInt8} (h : l[k]? = some p) {bad : List UInt8} (hb : bad.length = 4) :
    ∃ T, T.length = (jn l).length - stA (l.take k) ∧ (jn l).take (stA (l.take k)) ++ bad ++ (jn l).drop (stA (l.take k) + 4) = (jn l).take (stA (l.take k)) ++ T ∧
      ∀ m, (∀ j, j < m → 4 * j < 4 + p.length ∧ 4 * j + 4 ≤ T.length ∧ ann (T.drop (4 * j)) = 0) → (4 + p.length ≤ 4 * m ∨ T.length < 4 * m + 4) → sc ((jn l).take (stA (l.take k)) ++ T) = (l.take k ++ l.drop (k + 1), m) := by
  obtain ⟨C, hC, hs, hne⟩ := jn_around (l.take k) (l.drop (k + 1)) p
  have e := hC p rfl
  have hs := hs (by rw [← split_at h]; exact hok)
  rw [← split_at h] at e
  have hp : okP p := hok p (List.mem_of_getElem? h)
  have hA : (jn (l.take k) ++ zrs (mis (jn (l.take k)).length)).length = stA (l.take k) := by rw [List.length_append, zrs_length, jn_st]
  generalize hAA : jn (l.take k) ++ zrs (mis (jn (l.take k)).length) = A at *
  have eT : (jn l).take (stA (l.take k)) = A := by
    rw [e, List.append_assoc, List.append_assoc, ← hA, List.take_left]
  have eD : (jn l).drop (stA (l.take k) + 4) = p ++ C := by
    have : (A ++ dlm p.length).length = stA (l.take k) + 4 := by rw [List.length_append, hA]; rfl
    rw [e, List.append_assoc, ← this, List.drop_left]
  refine ⟨bad ++ (p ++ C), ?_, by rw [eD, List.append_assoc], fun m hm hend => ?_⟩
  · rw [e]
    simp only [List.length_append, hA, hb]
    show _ = stA (l.take k) + 4 + _ + _ - _
    omega
  · have hTl : (bad ++ (p ++ C)).length = 4 + p.length + C.length := by simp only [List.length_append, hb]; omega
    have d : (zrs (mis (jn (l.take k)).length) ++ (bad ++ (p ++ C))).drop (mis (jn (l.take k)).length) = bad ++ (p ++ C) := by
      rw [List.drop_append, zrs_length, List.drop_eq_nil_of_le (by rw [zrs_length]; exact Nat.le_refl _), Nat.sub_self]
      rfl
    rw [eT, ← hAA, List.append_assoc, sc_jn _ (fun q hq => hok q (List.mem_of_mem_take hq)), d, sc_skips m _ fun j hj => (hm j hj).2]
    have m0 : 1 ≤ m := by
      rcases hend with h | h
      · omega
      · rw [hTl] at h
        omega
    have m1 := (hm (m - 1) (by omega)).1
    have mm : mis p.length = (4 - p.length % 4) % 4 := rfl
    by_cases hq : 4 + p.length ≤ 4 * m
    · have e4 : 4 * m = 4 + p.length + mis p.length := by omega
      have e5 : (bad ++ (p ++ C)).drop (4 * m) = C.drop (mis p.length) := by
        have : (bad ++ p).length = 4 + p.length := by rw [List.length_append, hb]
        rw [e4, ← List.append_assoc, List.drop_append, this, List.drop_eq_nil_of_le (by omega), List.nil_append]
        congr 1
        omega
      rw [e5, hs]
      simp
    · have hT := hend.resolve_left hq
      have hpost : l.drop (k + 1) = [] := by
        cases hd : l.drop (k + 1) with
        | nil => rfl
        | cons a r =>
          have := hne (by rw [hd]; simp)
          rw [hTl] at hT
          omega
      rw [hpost, sc_short (by rw [List.length_drop]; omega)]
      simp
/-- what is damaged behind some pieces -/
theorem jn_front {l : List (List UInt8)} (hok : ∀ p ∈ l, okP p) {w at' : Nat} (hw : w ≤ l.length) (h : ∀ p, l[w - 1]? = some p → w ≠ 0 → stA (l.take (w - 1)) + 4 + p.length ≤ at') (t : List UInt8) : ∃ X, (sc ((jn l).take at' ++ t)).1 = l.take w ++ X := by
  obtain ⟨C, hC, _⟩ := jn_split (l.drop w) (l.take w)
  rw [List.take_append_drop] at hC
  have hle : (jn (l.take w)).length ≤ at' := by
    cases w with
    | zero => exact Nat.zero_le _
    | succ w =>
      have hp : l[w]? = some l[w] := List.getElem?_eq_getElem hw
      have := h _ hp (by omega)
      rw [List.take_add_one, hp, Option.toList_some, jn_len_st]
      exact this
  rw [hC, List.take_append, List.take_of_length_le hle, List.append_assoc, sc_jn _ fun q hq => hok q (List.mem_of_mem_take hq)]
  exact ⟨_, rfl⟩
end
end Go.Proofs.Ytmpmhkjfpeagkaa
