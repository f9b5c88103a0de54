/- ElementUnknown is true of all data. -/
import Derived.Test.YtkcldejfmmeoaaaFl
namespace Go.Proofs.Ytkcldejfmmeoaaa
open Go.RowKit

noncomputable section
/-! ### Lists seen otherwise -/
/-- cells seen otherwise, one by one -/
theorem vr_rows {E : Env} {w : World} {v : Value} {s : Nat} {xs ys : List (List DV)} (h : VR w E (.list s xs) v) (hl : xs.length = ys.length) (hs : ∀ (i : Nat) (cs : List DV), ys[i]? = some cs → cs.length = s ∧ scals cs = true ∧ ∃ c0, xs[i]? = some c0 ∧ ∀ (j : Nat) (d : DV), cs[j]? = some d → ∃ d0, c0[j]? = some d0 ∧ ∀ (E : Env) (u : Value), VR w E d0 u → VR w E d u) : VR w E (.list s ys) v := by
  obtain ⟨A, c, b, off, g, rfl, h1, h2, h3, h4, h5, h6, h7, h8⟩ := h.of_list
  rw [hl] at h1 h4 ⊢
  refine .list _ s ys A c b off g h1 h2 h3 h4 (fun i cs hi => (hs i cs hi).1) (fun i cs j d hi hj => ?_) (fun i cs j d hi hj => ?_) (fun cs hcs => ?_)
  · obtain ⟨_, _, c0, k1, k2⟩ := hs i cs hi
    obtain ⟨d0, k3, k4⟩ := k2 j d hj
    exact h6 i c0 j d0 k1 k3
  · obtain ⟨_, _, c0, k1, k2⟩ := hs i cs hi
    obtain ⟨d0, k3, k4⟩ := k2 j d hj
    exact k4 _ _ (h7 i c0 j d0 k1 k3)
  · obtain ⟨i, hi⟩ := List.mem_iff_getElem?.1 hcs
    exact (hs i cs hi).2.1
/-! ### Other Ids -/
/-- the same Data, with other Ids: neither the old ones nor the new ones are containers, or those of Ext -/
def UU : List El → List El → Prop
  | [], [] => True
  | .mk i _ d _ :: l, .mk i' e' d' s' :: m => cont i = false ∧ i.toNat < 254 ∧ i'.toNat < 200 ∧ e' = 0 ∧ d' = d ∧ s' = [] ∧ UU l m
  | _, _ => False
theorem UU.snoc : ∀ {l m : List El}, UU l m → ∀ (i e : UInt8) (d : List UInt8) (s : List El) (c : UInt8), cont i = false → i.toNat < 254 → c.toNat < 200 → UU (l ++ [.mk i e d s]) (m ++ [.mk c 0 d []])
  | [], [], _, _, _, _, _, _, h1, h2, h3 => ⟨h1, h2, h3, rfl, rfl, rfl, trivial⟩
  | .mk _ _ _ _ :: _, .mk _ _ _ _ :: _, h, i, e, d, s, c, h1, h2, h3 => ⟨h.1, h.2.1, h.2.2.1, h.2.2.2.1, h.2.2.2.2.1, h.2.2.2.2.2.1, UU.snoc h.2.2.2.2.2.2 i e d s c h1 h2 h3⟩
  | [], _ :: _, h, _, _, _, _, _, _, _, _ => h.elim
  | .mk _ _ _ _ :: _, [], h, _, _, _, _, _, _, _, _ => h.elim
theorem UU.len : ∀ {l m : List El}, UU l m → l.length = m.length
  | [], [], _ => rfl
  | .mk _ _ _ _ :: l, .mk _ _ _ _ :: m, h => by
    have := UU.len h.2.2.2.2.2.2
    simp [this]
  | [], _ :: _, h => h.elim
  | .mk _ _ _ _ :: _, [], h => h.elim
theorem not255 {i : UInt8} (h : i.toNat < 255) : (nx i == 255) = false := beq_false_of_ne (by unfold nx; omega)
theorem cont200 {i : UInt8} (h : i.toNat < 200) : cont i = false := by
  unfold cont
  rw [decide_eq_false (by unfold nx; omega)]
  rfl
theorem UU.good : ∀ {l m : List El}, UU l m → vdA l = true → vdA m = true ∧ (∀ d n, vfA m d n = vfA l d n) ∧ ∀ a, szA a m = szA a l
  | [], [], _, _ => ⟨rfl, fun _ _ => rfl, fun _ => rfl⟩
  | .mk i e d s :: l, .mk i' e' d' s' :: m, h, hv => by
    obtain ⟨h1, h2, h3, rfl, rfl, rfl, h4⟩ := h
    rw [vd_cons, Bool.and_eq_true] at hv
    obtain ⟨q1, q2, q3⟩ := UU.good h4 hv.2
    obtain ⟨v1, v2, v3, v4, v5⟩ := vd_parts hv.1
    obtain rfl := v4 h1
    have hc' := cont200 h3
    refine ⟨?_, fun dd n => ?_, fun a => ?_⟩
    · rw [vd_cons, q1, vd_of (beq_false_of_ne (by unfold nx; omega)) (fun h => by cases h) (fun h => by rw [hc'] at h; cases h) (fun _ => rfl) rfl]
      rfl
    · cases hq : (decide (n + 1 > 64) || decide (dd > 4)) with
      | true => rw [vf_off hq, vf_off hq]
      | false =>
        rw [vf_on hq, vf_on hq]
        show vfA m dd (n + 1) = vfA l dd (n + 1)
        exact q2 dd (n + 1)
    · have hsz : szE (.mk i' 0 d' []) = szE (.mk i e d' []) := by
        unfold szE exts
        rw [h1, hc', not255 (by omega), not255 (by omega)]
      rw [sz_cons, sz_cons, hsz]
      cases szE (.mk i e d' []) with
      | none => rfl
      | some n => exact q3 (a + n)
  | [], _ :: _, h, _ => h.elim
  | .mk _ _ _ _ :: _, [], h, _ => h.elim
theorem UU.sm : ∀ {l m : List El}, UU l m → smL l → smL m ∧ depA m ≤ 1
  | [], [], _, _ => ⟨trivial, Nat.zero_le _⟩
  | .mk i e d s :: l, .mk i' e' d' s' :: m, h, hs => by
    obtain ⟨h1, h2, h3, rfl, rfl, rfl, h4⟩ := h
    obtain ⟨q1, q2⟩ := UU.sm h4 hs.2
    refine ⟨⟨⟨hs.1.1, by simp, trivial⟩, q1⟩, ?_⟩
    show max (depA [] + 1) (depA m) ≤ 1
    simp only [depA]
    omega
  | [], _ :: _, h, _ => h.elim
  | .mk _ _ _ _ :: _, [], h, _ => h.elim
/-! ### The row -/
def ceM : El → List DV
  | .mk i _ d _ => ceU i (by1 d)
def rowM (m : List El) : List (List DV) := m.map ceM
def celM (m : List El) : List DV := (rowM m).flatten
theorem celM_snoc (m : List El) (x : El) : celM (m ++ [x]) = celM m ++ ceM x := by simp [celM, rowM]
theorem ceM_len (x : El) : (ceM x).length = 4 := by obtain ⟨i, e, d, s⟩ := x; rfl
theorem ceM_flat (x : El) : FlR (ceM x) := by
  obtain ⟨i, e, d, s⟩ := x
  intro a ha
  simp only [ceM, List.mem_cons, List.not_mem_nil, or_false] at ha
  rcases ha with rfl | rfl | rfl | rfl <;> rfl
theorem celM_length (m : List El) : (celM m).length = m.length * 4 := by
  induction m with
  | nil => rfl
  | cons x m ih =>
    have := ceM_len x
    simp only [celM, rowM, List.map_cons, List.flatten_cons, List.length_append, List.length_cons] at ih ⊢
    omega
theorem celM_flat (m : List El) : FlR (celM m) := by
  intro a ha
  simp only [celM, rowM, List.mem_flatten, List.mem_map] at ha
  obtain ⟨c, ⟨x, _, rfl⟩, h⟩ := ha
  exact ceM_flat x a h
theorem celM_at : ∀ {m : List El} {i j : Nat} {x : El} {d : DV}, m[i]? = some x → (ceM x)[j]? = some d → (celM m)[i * 4 + j]? = some d
  | [], _, _, _, _, h, _ => by simp at h
  | y :: m, 0, j, x, d, h, hd => by
    simp at h
    subst h
    have hj := (List.getElem?_eq_some_iff.1 hd).1
    simp only [celM, rowM, List.map_cons, List.flatten_cons]
    rw [List.getElem?_append_left (by omega), Nat.zero_mul, Nat.zero_add]
    exact hd
  | y :: m, i + 1, j, x, d, h, hd => by
    have := celM_at (m := m) (i := i) (j := j) (by simpa using h) hd
    have hl := ceM_len y
    simp only [celM, rowM, List.map_cons, List.flatten_cons] at this ⊢
    rw [List.getElem?_append_right (by omega), show (i + 1) * 4 + j - (ceM y).length = i * 4 + j by omega]
    exact this
theorem frz_M {hp : Hp} {id k : Nat} {m : List El} {n c : Nat} (hg : hp.get id = some (oEl k (celM m))) (hk : k ≠ 2) (hn : m.length = n) : FrzD [] hp (.sl id 0 4 n c) (.list 4 (rowM m)) :=
  FrzD.slice (o := oEl k (celM m)) rfl hg hk (by simp [rowM, hn]) fun i cs hi => by
    simp only [rowM, List.getElem?_map, Option.map_eq_some_iff] at hi
    obtain ⟨x, hx, rfl⟩ := hi
    refine ⟨ceM_len x, by obtain ⟨i, e, d, s⟩ := x; rfl, fun j d hd => ⟨d, ?_, .flat _ (ceM_flat x d (List.mem_of_getElem? hd))⟩⟩
    rw [Nat.zero_add]
    exact celM_at hx hd
/-- with lists for no lists -/
theorem see_M {E : Env} {w : World} {v : Value} : ∀ {l m : List El}, UU l m → VR w E (.list 4 (rowM m)) v → VR w E (elsD m) v := fun {l m} h hv => by
  have key : ∀ {l m : List El}, UU l m → ∀ (i : Nat) (x : El), m[i]? = some x → ∃ i' d', x = .mk i' 0 d' [] := by
    intro l
    induction l with
    | nil =>
      intro m h i x hx
      cases m with
      | nil => simp at hx
      | cons _ _ => exact h.elim
    | cons y l ih =>
      intro m h i x hx
      obtain ⟨_, _, _, _⟩ := y
      cases m with
      | nil => exact h.elim
      | cons z m =>
        obtain ⟨a, b, c, d⟩ := z
        obtain ⟨_, _, _, rfl, _, rfl, h4⟩ := h
        cases i with
        | zero =>
          simp at hx
          subst hx
          exact ⟨_, _, rfl⟩
        | succ i => exact ih h4 i x (by simpa using hx)
  refine vr_rows hv (by rw [elR_length]; simp [rowM]) fun i cs hi => ?_
  obtain ⟨x, hx, rfl⟩ := elR_get hi
  refine ⟨elD_length x, elD_scals x, ceM x, by simp [rowM, hx], fun j d hd => ?_⟩
  obtain ⟨i', d', rfl⟩ := key h i x hx
  match j with
  | 0 => cases hd; exact ⟨_, rfl, fun E u h => h⟩
  | 1 => cases hd; exact ⟨_, rfl, fun E u h => h⟩
  | 2 => cases hd; exact ⟨_, rfl, fun E u h => h⟩
  | 3 => cases hd; exact ⟨_, rfl, fun E u h => vr_nl h⟩
  | j + 4 => simp [elD] at hd
/-! ### The loop -/
def cUn : ConF := orK cBk cRc
theorem cUn_ok : ConOk Try.prog cUn := orK_ok cBk_ok cRc_ok
theorem cBk_rc {args : List DV} {hp : Hp} : cBk fRc args hp = none := by
  have h1 : cAl fRc args hp = none := rfl
  have h2 : cGr fRc args hp = none := lift_oth (eqC_other (by kernel_rfl))
  have h3 : cEn fRc args hp = none := lift_oth (eqC_other (by kernel_rfl))
  have h4 : cDe fRc args hp = none := lift_oth (eqC_other (by kernel_rfl))
  have h5 : cSz fRc args hp = none := conC_other (by kernel_rfl)
  unfold cBk orK
  rw [h1]
  dsimp only
  rw [h2]
  dsimp only
  rw [h3]
  dsimp only
  rw [h4]
  exact h5
theorem cUn_rc (hp : Hp) (i : UInt8) : cUn fRc [i8 i] hp = some (.bool (cont i), hp, none) := orK_right cBk_rc (cRc_at hp i)
theorem cUn_of {f : FuncId} {args : List DV} {hp : Hp} {r : DV × Hp × Mut} (h : cBk f args hp = some r) : cUn f args hp = some r := orK_left h
/-- what the loop comes to -/
def UnG (l : List El) (zs : List UInt8) (k : Nat) (b : Bool) (mp : List El) (j : Nat) : Prop :=
  GoesR Try.prog tab kUn unL (k + 1) (unS (elR l) (by1 zs) (uX b mp.length (celM mp)).1 j) (uX b mp.length (celM mp)).2 .ret (mkT 106 [(4, .bool true)]) h00 ∨
  ∃ b' m, UU l m ∧ (b' = true ∨ m = []) ∧ GoesR Try.prog tab kUn unL (k + 1) (unS (elR l) (by1 zs) (uX b mp.length (celM mp)).1 j) (uX b mp.length (celM mp)).2 (.exit 0) (unE (elR l) (uX b' m.length (celM m)).1) (uX b' m.length (celM m)).2
theorem rem_nat (a b : Nat) (hb : b ≠ 0) : binD tab .rem 3 (iN a) (.int .i64 (b : Int)) = some (iN (a % b)) := by
  have h : ∀ x y : Int, binD tab .rem 3 (.int .i64 x) (.int .i64 y) = guardO (y != 0) (.int .i64 (x.tmod y)) := fun x y => by kernel_rfl
  rw [iN, h, bne_iff_ne.2 (by omega)]
  rfl
theorem un_app {b : Bool} {mp : List El} (hb : b = true ∨ mp = []) (x : El) (hl : mp.length < 2 ^ 29) : builtinD tab (uB b (celM mp) (ceM x)) .append [(uX b mp.length (celM mp)).1, sl4 (uI b) 1] tyEE = some (uA b mp.length (celM mp) (ceM x)) := by
  cases b with
  | true => exact app_elG (hp := uB true (celM mp) (ceM x)) (id := 0) (id2 := 1) (o := oEl 1 (celM mp)) (o2 := oEl 0 (ceM x)) rfl rfl rfl rfl (celM_length mp) rfl rfl (ceM_len x) (by omega)
  | false =>
    obtain ⟨i, e, d, s⟩ := x
    show builtinD tab _ .append _ tyEE = _
    kernel_rfl
theorem un_w {b : Bool} {mp : List El} (hb : b = true ∨ mp = []) (x : El) : uW b (celM mp) (ceM x) = celM (mp ++ [x]) ∧ uN b mp.length = (mp ++ [x]).length ∧ FlatIn (uL b) (uA b mp.length (celM mp) (ceM x)).2.1 := by
  rw [celM_snoc]
  cases b with
  | true => exact ⟨rfl, by simp [uN], flatIn_cons (o := oE3 0 (celM mp ++ ceM x)) rfl (fun a ha => by
      rcases List.mem_append.1 ha with ha | ha
      · exact celM_flat mp a ha
      · exact ceM_flat x a ha) (flatIn_nil _)⟩
  | false =>
    obtain rfl := hb.resolve_left (by simp)
    exact ⟨rfl, rfl, flatIn_cons (o := oEl 1 (ceM x)) rfl (ceM_flat x) (flatIn_nil _)⟩
theorem un_loop (l : List El) (hs : SmL l) (h200 : l.length ≤ 200) (zs : List UInt8) (hz : zs ≠ []) : ∀ (rest pre : List El) (b : Bool) (mp : List El), l = pre ++ rest → UU pre mp → (b = true ∨ mp = []) → ∃ k, UnG l zs k b mp pre.length
  | [], pre, b, mp, e, hu, hb => by
    rw [List.append_nil] at e
    subst e
    have hn := elR_length l
    exact ⟨0, .inr ⟨b, mp, hu, hb, GoesR.last (zsee_ok tab_ok mixed fun_ok cUn_ok (uuO cUn b (elR l) (by1 zs) l.length mp.length (celM mp)) (.cons (decide_eq_false (by omega)) .nil)) (by intro h; cases h)⟩⟩
  | .mk i x dt s :: rest, pre, b, mp, e, hu, hb => by
    have hn := elR_length l
    have hll : l.length = pre.length + (rest.length + 1) := by rw [e]; simp
    have hj : l[pre.length]? = some (.mk i x dt s) := by rw [e]; simp
    have hlt : decide ((pre.length : Int) < ((elR l).length : Int)) = true := decide_eq_true (by omega)
    have hi : idxOk (pre.length : Int) (elR l).length = true := idxOk_lt (by omega)
    have hx := elR_at hj
    have hzl := by1_length zs
    have hz0 : zs.length ≠ 0 := fun h => hz (List.eq_nil_of_length_eq_zero h)
    have hk : pre.length % zs.length < zs.length := Nat.mod_lt _ (by omega)
    obtain ⟨c, hc⟩ : ∃ c, zs[pre.length % zs.length]? = some c := ⟨_, List.getElem?_eq_getElem hk⟩
    have w1 : binD tab .rem 3 (iN pre.length) (.int .i64 ((by1 zs).length : Int)) = some (iN (pre.length % zs.length)) := by rw [hzl]; exact rem_nat _ _ hz0
    have w2 : idxOk ((pre.length % zs.length : Nat) : Int) (by1 zs).length = true := idxOk_lt (by omega)
    have w3 : nth (by1 zs) (((pre.length % zs.length : Nat) : Int).toNat) = some [i8 c] := by
      rw [nth_eq, Int.toNat_natCast, by1, List.getElem?_map, hc]
      rfl
    have hcl := UInt8.toNat_lt c
    have w4 : DV.int .u8 (Int.tmod (nx c) 200) = i8 (UInt8.ofNat (c.toNat % 200)) := by
      rw [i8, UInt8.toNat_ofNat_of_lt' (show c.toNat % 200 < 256 by omega)]
      rfl
    have hco := cUn_rc (uX b mp.length (celM mp)).2 i
    have hw : DV.int .i64 (IntKind.i64.wrap ((pre.length : Int) + 1)) = iN (pre.length + 1) := congrArg (DV.int .i64) (wrapI (n := pre.length + 1) (by omega))
    have hml := hu.len
    have asks : ∀ {cv : Bool} {t : List Prop}, cont i = cv → AskedP t → AskedP (unQ cUn (elR l) (by1 zs) (by1 dt) (elR s) pre.length (pre.length % zs.length) c (UInt8.ofNat (c.toNat % 200)) i x cv (uX b mp.length (celM mp)).2 t) := fun hcv ht => by
      rw [hcv] at hco
      exact .cons hlt (.cons w1 (.cons w2 (.cons w3 (.cons w4 (.cons hi (.cons hx (.cons hco ht)))))))
    cases hcv : cont i with
    | true => exact ⟨0, .inl (GoesR.last (zgm_ok tab_ok mixed fun_ok cUn_ok (un1 cUn b (elR l) (by1 zs) (by1 dt) (elR s) pre.length (pre.length % zs.length) mp.length c (UInt8.ofNat (c.toNat % 200)) i x (celM mp)) (.cons (flatIn_nil _) (asks hcv .nil))) (by intro h; cases h))⟩
    | false =>
      cases hg : decide (nx i ≥ 254) with
      | true => exact ⟨0, .inl (GoesR.last (zgm_ok tab_ok mixed fun_ok cUn_ok (un2 cUn b (elR l) (by1 zs) (by1 dt) (elR s) pre.length (pre.length % zs.length) mp.length c (UInt8.ofNat (c.toNat % 200)) i x (celM mp)) (.cons (flatIn_nil _) (asks hcv (.cons hi (.cons hx (.cons hg .nil)))))) (by intro h; cases h))⟩
      | false =>
        have hlt254 : i.toNat < 254 := by have := of_decide_eq_false hg; unfold nx at this; omega
        have hu2 := hu.snoc i x dt s (UInt8.ofNat (c.toNat % 200)) hcv hlt254 (by rw [UInt8.toNat_ofNat_of_lt' (show c.toNat % 200 < 256 by omega)]; omega)
        obtain ⟨q1, q2, q3⟩ := un_w hb (.mk (UInt8.ofNat (c.toNat % 200)) 0 dt [])
        have hap := un_app hb (.mk (UInt8.ofNat (c.toNat % 200)) 0 dt []) (by omega)
        have z := zgm_ok tab_ok mixed fun_ok cUn_ok (un3 cUn b (elR l) (by1 zs) (by1 dt) (elR s) pre.length (pre.length % zs.length) mp.length c (UInt8.ofNat (c.toNat % 200)) i x (celM mp)) (.cons q3 (asks hcv (.cons hi (.cons hx (.cons hg (.cons hi (.cons hx (.cons hap (.cons hw .nil)))))))))
        have q1' : uW b (celM mp) (ceU (UInt8.ofNat (c.toNat % 200)) (by1 dt)) = celM (mp ++ [.mk (UInt8.ofNat (c.toNat % 200)) 0 dt []]) := q1
        rw [q1', q2] at z
        obtain ⟨k, g⟩ := un_loop l hs h200 zs hz rest (pre ++ [.mk i x dt s]) true (mp ++ [.mk (UInt8.ofNat (c.toNat % 200)) 0 dt []]) (by rw [e, List.append_assoc]; rfl) hu2 (.inl rfl)
        rw [show (pre ++ [El.mk i x dt s]).length = pre.length + 1 by simp] at g
        rcases g with g | ⟨b', m, p1, p2, g⟩
        · exact ⟨k + 1, .inl (GoesR.step z g)⟩
        · exact ⟨k + 1, .inr ⟨b', m, p1, p2, GoesR.step z g⟩⟩
theorem un_see {xs : List (List DV)} {l m : List El} {b : Bool} (hu : UU l m) (hb : b = true ∨ m = []) : Seen (unE xs (uX b m.length (celM m)).1) (uX b m.length (celM m)).2 (unF xs (elR m)) h00 := by
  have s1 : ∀ d' , (b = true → d' = .list 4 (rowM m)) → (b = false → d' = .nil) → Seen (unE xs (uX b m.length (celM m)).1) (uX b m.length (celM m)).2 (unE xs d') h00 := fun d' e1 e2 => seen_melt (melt_nil (by cases b <;> rfl)) fun t a ht => by
    rcases List.mem_cons.1 ht with h1 | ht
    · cases h1
      exact ⟨_, by kernel_rfl, .frz _ _ (.flat _ rfl)⟩
    rcases List.mem_cons.1 ht with h1 | ht
    · cases h1
      exact ⟨_, by kernel_rfl, .frz _ _ (.flat _ rfl)⟩
    · obtain h1 := List.mem_singleton.1 ht
      cases h1
      refine ⟨(uX b m.length (celM m)).1, by kernel_rfl, ?_⟩
      cases b with
      | true =>
        rw [e1 rfl]
        exact .frz _ _ (frz_M (k := 1) rfl (by decide) rfl)
      | false =>
        rw [e2 rfl]
        exact .frz _ _ (.flat _ rfl)
  have s2 : ∀ d', (∀ E w v, VR w E d' v → VR w E (elsD m) v) → Seen (unE xs d') h00 (unF xs (elR m)) h00 := fun d' hd => seen_slots fun W0 S0 E w hs => ⟨E, .up (E := E) (E' := E) (fun _ h => h) rfl (fun _ => rfl) _, hs, fun t a ht => by
    rcases List.mem_cons.1 ht with h1 | ht
    · cases h1
      exact ⟨_, by kernel_rfl, fun _ h => h⟩
    rcases List.mem_cons.1 ht with h1 | ht
    · cases h1
      exact ⟨_, by kernel_rfl, fun _ h => h⟩
    · obtain h1 := List.mem_singleton.1 ht
      cases h1
      exact ⟨d', by kernel_rfl, fun v h => hd E w v h⟩⟩
  cases b with
  | true => exact (s1 _ (fun _ => rfl) (fun h => by cases h)).trans (s2 _ fun E w v h => see_M hu h)
  | false =>
    obtain rfl := hb.resolve_left (by simp)
    exact (s1 .nil (fun h => by cases h) (fun _ => rfl)).trans (s2 _ fun E w v h => vr_nl h)
theorem un_all (x : ElA) (zs : List UInt8) : Ans Try.prog fUn [elsD x.1, byL zs] (.bool true) ⟨0, [], []⟩ := by
  have hg := cUn_of (cBk_gr h00 x)
  obtain ⟨l, hl1, hl2⟩ := x
  have hzl := by1_length zs
  have al := cUn_of cBk_al
  cases hq : grB l with
  | true =>
    rw [hq] at hg
    exact zflat_ok tab_ok mixed fun_ok cUn_ok (ug1 cUn (elR l) (by1 zs)) (.cons al (.cons hg .nil))
  | false =>
    rw [hq] at hg
    by_cases hz : zs = []
    · subst hz
      exact zflat_ok tab_ok mixed fun_ok cUn_ok (ug2 cUn (elR l) (by1 [])) (.cons al (.cons hg (.cons rfl .nil)))
    have n1 : (((by1 zs).length : Int) == 0) = false := beq_false_of_ne (by
      have : zs.length ≠ 0 := fun h => hz (List.eq_nil_of_length_eq_zero h)
      omega)
    obtain ⟨hs, h200⟩ := small_of hl2 hq
    have hdep := dep_of hq
    obtain ⟨k, g⟩ := un_loop l hs h200 zs hz l [] false [] rfl trivial (.inr rfl)
    rcases g with g | ⟨b, m, hu, hb, g⟩
    · exact zflat_ok tab_ok mixed fun_ok cUn_ok (ug3 cUn (elR l) (by1 zs)) (.cons al (.cons hg (.cons n1 (.cons g.goes .nil))))
    · have hsee := un_see (xs := elR l) hu hb
      obtain ⟨hm1, hm2⟩ := hu.sm hs.2
      have hml := hu.len
      have hsm : SmL m := ⟨by rw [← hml]; exact hs.1, hm1⟩
      have hel := cUn_of (cBk_en h00 l ⟨hs, by omega⟩)
      have hem := cUn_of (cBk_en h00 m ⟨hsm, by omega⟩)
      cases he : (szR l).2 with
      | succ e =>
        rw [enD_no he] at hel
        have hem' : ∃ bs f, enD m = .tuple [.list 1 bs, iN f] := by
          unfold enD
          split
          · exact ⟨_, _, rfl⟩
          · exact ⟨_, _, rfl⟩
        obtain ⟨bs, f, hbf⟩ := hem'
        rw [hbf] at hem
        exact zflat_ok tab_ok mixed fun_ok cUn_ok (ug4 cUn (elR l) (by1 zs) (elR m) [] bs b m.length e f (celM m)) (.cons al (.cons hg (.cons n1 (.cons g.goes (.cons hsee (.cons hel (.cons hem (.cons (bne_iff_ne.2 (by omega)) .nil))))))))
      | zero =>
        rw [enD_ok he] at hel
        obtain ⟨n, gd⟩ := good_of he
        obtain ⟨r1, r2, r3⟩ := hu.good gd.v
        obtain ⟨zz, hzz⟩ := gd.s
        have gm : Good m 1 0 n := ⟨by rw [r2, gd.f], r1, zz, by rw [r3, hzz]⟩
        have h0 := szR_of gm
        rw [enD_ok h0] at hem
        have hlen : (encA l).length = (encA m).length := by
          have e1 := szA_len l hzz
          have e2 := szA_len m (by rw [r3, hzz])
          omega
        have hde := cUn_of (cBk_de h00 (encA m) (by have := enc_len h0; omega))
        rw [de_en h0] at hde
        have hsame := cUn_of (cBk_sa (cSz_at (hp := h00) hsm hsm (frz_list _ 4 _) (frz_list _ 4 _)))
        rw [eqB_t rfl] at hsame
        exact zflat_ok tab_ok mixed fun_ok cUn_ok (ug5 cUn (elR l) (by1 zs) (elR m) (by1 (encA l)) (by1 (encA m)) b m.length (celM m)) (.cons al (.cons hg (.cons n1 (.cons g.goes (.cons hsee (.cons hel (.cons hem (.cons hde (.cons (by rw [by1_length, by1_length, hlen]; simp) (.cons hsame .nil))))))))))
end
end Go.Proofs.Ytkcldejfmmeoaaa
