/- AggregateDamage over data. -/
import Derived.Test.YtmpmhkjfpeagkaaKm
namespace Go.Proofs.Ytmpmhkjfpeagkaa
open Go.RowKit

/-! ### Arguments: numbers of 16 bits -/
def u1 (us : List Nat) : List (List DV) := us.map fun u : Nat => [.int .u16 (u : Int)]
theorem u1_length (us : List Nat) : (u1 us).length = us.length := by simp [u1]
theorem u1_nth {us : List Nat} {k u : Nat} (h : us[k]? = some u) : nth (u1 us) ((k : Int).toNat) = some [.int .u16 (u : Int)] := by
  rw [nth_eq, Int.toNat_natCast]
  simp [u1, h]
theorem opensU16 : Opens Try.prog 51 (Ty.slice (Ty.nat .u16)) := Opens.slice Try.underlying51 (by kernel_rfl) (Opens.nat rfl Try.underlying54 (by kernel_rfl)) (by decide)
theorem vr_u16s {w : World} {S : Nat → Prop} {A : Option Addr} {n c : Nat} {a : List Nat} (r : (Ty.slice (Ty.nat .u16)).rep w S a [.slice A n c]) :
    VR w (ro S) (.list 1 (u1 a)) (.slice A n c) ∧ ∀ x ∈ a, x < 65536 := by
  obtain ⟨A', n', c', h0, h1, h2, h3, h4⟩ := rep_slice r
  cases h0
  have hwf := h4.ints_wf
  have hlt : ∀ x ∈ a, x < 65536 := fun x hx => by
    have := hwf x hx
    simp [Lit.wf, IntKind.min, IntKind.max, IntKind.signed, IntKind.bits] at this
    omega
  refine ⟨?_, hlt⟩
  have hlen := h4.len
  have hn : (u1 a).length = n := by rw [u1_length, hlen]
  rcases Nat.eq_zero_or_pos n with h0 | hpos
  · have ha : a = [] := List.eq_nil_of_length_eq_zero (by omega)
    subst ha
    rw [← hn]
    exact .list _ 1 _ A c 0 0 (fun _ _ => undef) (Nat.zero_le _) h2 h3 (fun h => absurd h (by simp [u1])) (fun i cs h => by simp [u1] at h) (fun i cs j d h => by simp [u1] at h) (fun i cs j d h => by simp [u1] at h) (fun cs h => by simp [u1] at h)
  · obtain ⟨b, off, rfl, hb, hc⟩ := h4.ints hpos
    have row : ∀ (i : Nat) (cs : List DV), (u1 a)[i]? = some cs → ∃ x, a[i]? = some x ∧ cs = [.int .u16 (x : Int)] := fun i cs hi => by
      simp only [u1, List.getElem?_map, Option.map_eq_some_iff] at hi
      obtain ⟨x, hx, rfl⟩ := hi
      exact ⟨x, hx, rfl⟩
    rw [← hn]
    refine .list _ 1 _ (some ⟨b, off, none⟩) c b off (fun i _ => .int .u16 ((a.getD i 0 : Nat) : Int)) (by omega) h2 (fun h => by cases h) (fun _ => ⟨rfl, hb⟩) (fun i cs hi => ?_) (fun i cs j d hi hj => ?_) (fun i cs j d hi hj => ?_) (fun cs hcs => ?_)
    · obtain ⟨x, _, rfl⟩ := row i cs hi
      rfl
    · obtain ⟨x, hx, rfl⟩ := row i cs hi
      cases j with
      | zero =>
        have := hc i x hx
        simpa [List.getD, hx] using this
      | succ j => simp at hj
    · obtain ⟨x, hx, rfl⟩ := row i cs hi
      cases j with
      | zero =>
        simp at hj
        subst hj
        simp only [List.getD, hx, Option.getD_some]
        exact .int _ _ _
      | succ j => simp at hj
    · obtain ⟨i, hi⟩ := List.mem_iff_getElem?.1 hcs
      obtain ⟨x, _, rfl⟩ := row i cs hi
      rfl
noncomputable section
theorem rem_ok {a b : Nat} (h : 0 < b) : remI a b (a % b) := by
  show guardO ((b : Int) != 0) (.int .i64 (Int.tmod (a : Int) (b : Int))) = _
  rw [bne_iff_ne.2 (show (b : Int) ≠ 0 by omega)]
  rfl
theorem layD_set {α : Type} (f : α → DV) (q : List α) {j : Nat} (h : j < q.length) (c : α) : layD (q.map f) j [f c] = (q.set j c).map f := by
  unfold layD
  rw [List.set_eq_take_append_cons_drop, if_pos h]
  simp [List.map_take, List.map_drop]
theorem st_piece {cl pl : List DV} {j : Nat} {d : DV} (h : j < pl.length) : storeH (hD2 cl pl) 2 j [d] = some (hD2 cl (layD pl j [d]), some 2) := by
  have hb : Nat.ble (j + 1) pl.length = true := bleT h
  show (match Nat.ble (j + 1) pl.length, 1 with
    | true, 3 => _
    | true, 2 => none
    | true, k => some (((hD2 cl pl).put 2 ⟨k, 0, 5, layD pl j [d]⟩ : Hp), (some 2 : Mut))
    | false, _ => none) = _
  rw [hb]
  rfl
theorem st_all {cl pl : List DV} {j : Nat} {d : DV} (h : j < cl.length) : storeH (hD2 cl pl) 0 j [d] = some (hD2 (layD cl j [d]) pl, some 0) := by
  have hb : Nat.ble (j + 1) cl.length = true := bleT h
  show (match Nat.ble (j + 1) cl.length, 1 with
    | true, 3 => _
    | true, 2 => none
    | true, k => some (((hD2 cl pl).put 0 ⟨k, 0, 5, layD cl j [d]⟩ : Hp), (some 0 : Mut))
    | false, _ => none) = _
  rw [hb]
  rfl
theorem st_rows {cl pl rl : List DV} {j : Nat} {d : DV} (h : j < rl.length) : storeH (hD4 cl pl rl) 4 j [d] = some (hD4 cl pl (layD rl j [d]), some 4) := by
  have hb : Nat.ble (j + 1) rl.length = true := bleT h
  show (match Nat.ble (j + 1) rl.length, 1 with
    | true, 3 => _
    | true, 2 => none
    | true, k => some (((hD4 cl pl rl).put 4 ⟨k, 0, 22, layD rl j [d]⟩ : Hp), (some 4 : Mut))
    | false, _ => none) = _
  rw [hb]
  rfl
theorem jn_set_len {l : List (List UInt8)} {k : Nat} {p q : List UInt8} (h : l[k]? = some p) (hq : q.length = p.length) : (jn (l.set k q)).length = (jn l).length := by
  obtain ⟨C, hC, _, _⟩ := jn_around (l.take k) (l.drop (k + 1)) p
  have e1 := hC p rfl
  rw [← split_at h] at e1
  rw [set_at h, hC q hq, e1]
  simp [hq]
theorem ptr_at {id j : Nat} : DV.ptr id (0 + ((j : Int).toNat) * 1) = .ptr id j := by
  rw [Int.toNat_natCast, Nat.zero_add, Nat.mul_one]
theorem da_loop {l : List (List UInt8)} (hl : okPs l) (hjn : (jn l).length ≤ 65535) {k : Nat} {p : List UInt8} (hk : l[k]? = some p) (us : List Nat) (hus : us.length ≤ 200 ∧ ∀ u ∈ us, u < 65536) (ws : List UInt8) (hws : ws ≠ []) : ∀ (r pre : List Nat) (q : List UInt8), us = pre ++ r → q.length = p.length →
    ∃ m q', q'.length = p.length ∧ GoesR Try.prog tab kDa daL (m + 1) (daS (fs1 l) (u1 us) (by1 ws) (jn l).length k p.length (stA (l.take k) + 4) pre.length) (hD2 (celB (jn (l.set k q))) (celB q)) (.exit 0) (daE (fs1 l) (jn l).length k p.length) (hD2 (celB (jn (l.set k q'))) (celB q'))
  | [], pre, q, e, hq => by
    have hlen : pre.length = us.length := by rw [e]; simp
    exact ⟨0, q, hq, GoesR.last (zsee_ok tab_ok mixed fun_ok cLo_ok (daO (fs1 l) (u1 us) (by1 ws) (jn l).length k p.length _ pre.length _) (.cons (decide_eq_false (by rw [u1_length]; omega)) .nil)) (by intro h; cases h)⟩
  | v :: r, pre, q, e, hq => by
    have hlen : us.length = pre.length + (1 + r.length) := by rw [e]; simp; omega
    have hj : us[pre.length]? = some v := by rw [e]; simp
    have hv := hus.2 v (List.mem_of_getElem? hj)
    have hp := hl.2 p (List.mem_of_getElem? hk)
    have hp1 := hp.1
    have hw1 : 0 < ws.length := List.length_pos_iff.2 hws
    have hjp : v % p.length < p.length := Nat.mod_lt _ hp1
    have hgw : pre.length % ws.length < ws.length := Nat.mod_lt _ hw1
    obtain ⟨c, hc⟩ : ∃ c, ws[pre.length % ws.length]? = some c := ⟨_, List.getElem?_eq_getElem hgw⟩
    have hend := jn_end hk
    have hsl := jn_set_len hk hq
    have q5 : binD tab .rem 3 (iN pre.length) (.int .i64 ((by1 ws).length : Int)) = some (iN (pre.length % ws.length)) := by rw [by1_length]; exact rem_ok hw1
    have q6 : idxOk ((pre.length % ws.length : Nat) : Int) (by1 ws).length = true := idxOk_lt (by rw [by1_length]; exact hgw)
    have s1 := st_piece (cl := celB (jn (l.set k q))) (pl := celB q) (j := v % p.length) (d := i8 c) (by rw [celB_length]; omega)
    have s2 := st_all (cl := celB (jn (l.set k q))) (pl := layD (celB q) (v % p.length) [i8 c]) (j := stA (l.take k) + 4 + v % p.length) (d := i8 c) (by rw [celB_length]; omega)
    have e1 : layD (celB q) (v % p.length) [i8 c] = celB (q.set (v % p.length) c) := layD_set i8 q (by omega) c
    have e2 : layD (celB (jn (l.set k q))) (stA (l.take k) + 4 + v % p.length) [i8 c] = celB (jn (l.set k (q.set (v % p.length) c))) := by
      rw [← jn_set hk hq hjp c]
      exact layD_set i8 _ (by omega) c
    rw [e1] at s1 s2
    rw [e2] at s2
    obtain ⟨m, q', hq', g⟩ := da_loop hl hjn hk us hus ws hws r (pre ++ [v]) (q.set (v % p.length) c) (by rw [e]; simp) (by rw [List.length_set]; exact hq)
    rw [List.length_append, List.length_singleton] at g
    refine ⟨m + 1, q', hq', GoesR.step (zsee_ok tab_ok mixed fun_ok cLo_ok (da6 (fs1 l) (u1 us) (by1 ws) (jn l).length k p.length (stA (l.take k) + 4) pre.length v (v % p.length) (pre.length % ws.length) (stA (l.take k) + 4 + v % p.length) c _ _ _ _)
      (.cons (decide_eq_true (by rw [u1_length]; omega)) (.cons (idxOk_lt (by rw [u1_length]; omega)) (.cons (u1_nth hj) (.cons (congrArg (DV.int .i64) (wrapI (by omega))) (.cons (rem_ok hp1) (.cons q5 (.cons q6 (.cons (by1_nth hc) (.cons (idxOk_lt hjp) (.cons ptr_at (.cons s1 (.cons (congrArg (DV.int .i64) (wrN (by omega) (by omega)))
      (.cons q5 (.cons q6 (.cons (by1_nth hc) (.cons (idxOk_lt (by omega)) (.cons ptr_at (.cons s2 (.cons (congrArg (DV.int .i64) (wrapI (n := pre.length + 1) (by omega))) .nil)))))))))))))))))))) g⟩
theorem contD_fs (hp : Hp) (l : List (List UInt8)) : contD hp 1 (fsD l) = some (l.length, celF l) := by
  have e : (fs1 l).flatten = celF l := by
    induction l with
    | nil => rfl
    | cons p l ih =>
      show [byL p] ++ (fs1 l).flatten = _
      rw [ih]
      rfl
  show some ((fs1 l).length, (fs1 l).flatten) = _
  rw [fs1_length, e]
theorem app_newF {hp : Hp} {id : Nat} {x : DV} {l : List (List UInt8)} (hg : hp.get id = some (oRw 0 0 [])) (hx : contD hp 1 x = some (l.length, celF l)) (hne : l ≠ []) (hl : l.length ≤ 2 ^ 30) : builtinD tab hp .append [.sl id 0 1 0 0, x] tyF = some (.sl hp.n 0 1 l.length l.length, hp.push (oRw 1 0 (celF l)), none) := by
  rw [app_tabF, hx]
  cases l with
  | nil => exact absurd rfl hne
  | cons b bs =>
    have hf := fitB_le2 (n := 0 + (b :: bs).length) (b := 24) (by rw [Nat.zero_add]; exact Nat.le_trans hl (by decide)) (by decide)
    have hb : Nat.ble (0 + (bs.length + 1)) 0 = false := bleF (by omega)
    have h0 : Nat.ble (0 + 0 * 1) ([] : List DV).length = true := rfl
    simp only [List.length_cons] at hf ⊢
    simp only [appH, hg, hb, h0, hf, show Nat.beq 1 1 = true from rfl]
    rw [Nat.zero_add]
    rfl
theorem da_seen {l : List (List UInt8)} {k : Nat} {p q : List UInt8} (hk : l[k]? = some p) (hq : q.length = p.length) : Seen (mkT 131 [(9, .bool true), (10, .sl 0 0 1 (jn l).length (jn l).length), (17, .sl 4 0 1 l.length l.length)]) (hD4 (celB (jn (l.set k q))) (celB q) (layD (celF l) k [.sl 2 0 1 p.length p.length])) (mkT 131 [(9, .bool true), (10, byL (jn (l.set k q))), (17, fsD (l.set k q))]) h00 :=
  seen_melt (melt_nil rfl) fun t a ht => by
    have hkl := (List.getElem?_eq_some_iff.1 hk).1
    rcases List.mem_cons.1 ht with h1 | ht
    · cases h1
      exact ⟨.bool true, by kernel_rfl, .frz _ _ (.flat _ rfl)⟩
    rcases List.mem_cons.1 ht with h1 | ht
    · cases h1
      exact ⟨.sl 0 0 1 (jn l).length (jn l).length, by kernel_rfl, .frz _ _ (frz_oR (k := 1) rfl rfl (by decide) rfl (jn_set_len hk hq).symm)⟩
    · obtain h1 := List.mem_singleton.1 ht
      cases h1
      refine ⟨.sl 4 0 1 l.length l.length, by kernel_rfl, .frz _ _ (FrzD.slice (o := oRw 1 0 _) rfl rfl (by show (1 : Nat) ≠ 2; decide) (by rw [fs1_length, List.length_set]) fun i cs hi => ?_)⟩
      unfold fs1 at hi
      rw [List.getElem?_map, Option.map_eq_some_iff] at hi
      obtain ⟨f, hf, rfl⟩ := hi
      refine ⟨rfl, rfl, fun j d hd => ?_⟩
      cases j with
      | succ j => simp at hd
      | zero =>
        cases hd
        have eL : layD (celF l) k [DV.sl 2 0 1 p.length p.length] = (celF l).set k (.sl 2 0 1 p.length p.length) := by
          unfold layD
          rw [List.set_eq_take_append_cons_drop, if_pos (by rw [celF_length]; exact hkl)]
          simp
        show ∃ e, (layD (celF l) k [DV.sl 2 0 1 p.length p.length])[0 + (i * 1 + 0)]? = some e ∧ _
        rw [eL, show 0 + (i * 1 + 0) = i by omega]
        by_cases hik : k = i
        · subst hik
          rw [List.getElem?_set_self hkl] at hf
          cases hf
          exact ⟨.sl 2 0 1 p.length p.length, by rw [List.getElem?_set_self (by rw [celF_length]; exact hkl)], frz_oR (k := 1) rfl rfl (by decide) rfl hq.symm⟩
        · rw [List.getElem?_set_ne hik] at hf
          refine ⟨byL f, ?_, .flat _ rfl⟩
          rw [List.getElem?_set_ne hik, celF, List.getElem?_map, hf]
          rfl
theorem da_all (l : List (List UInt8)) (hl : l.length < 2 ^ 63) (z : Int) (us : List Nat) (hu : ∀ u ∈ us, u < 65536) (ws : List UInt8) : Ans Try.prog fDa [fsD l, .int .i64 z, .list 1 (u1 us), byL ws] (.bool true) ⟨0, [], []⟩ := by
  have al := cLo_al h00
  have gp := cLo_gp h00 l hl
  have jo := cLo_jo h00 l
  have hul := u1_length us
  have hwl := by1_length ws
  have hn := fs1_length l
  cases hg : gpB l with
  | true =>
    rw [hg] at gp
    exact zflat_ok tab_ok mixed fun_ok cLo_ok (da1 (fs1 l) (u1 us) (by1 ws) z) (.cons al (.cons gp .nil))
  | false =>
  rw [hg] at gp
  by_cases hz : z < 0
  · exact zflat_ok tab_ok mixed fun_ok cLo_ok (da2 (fs1 l) (u1 us) (by1 ws) z) (.cons al (.cons gp (.cons (decide_eq_true hz) .nil)))
  have z0 : decide (z < 0) = false := decide_eq_false hz
  by_cases hlong : us.length > 200
  · exact zflat_ok tab_ok mixed fun_ok cLo_ok (da3 (fs1 l) (u1 us) (by1 ws) z) (.cons al (.cons gp (.cons z0 (.cons (decide_eq_true (by omega)) .nil))))
  have z1 : decide (((u1 us).length : Int) > 200) = false := decide_eq_false (by omega)
  by_cases hw0 : ws = []
  · exact zflat_ok tab_ok mixed fun_ok cLo_ok (da4 (fs1 l) (u1 us) (by1 ws) z) (.cons al (.cons gp (.cons z0 (.cons z1 (.cons (by subst hw0; rfl) .nil)))))
  have hw1 : 0 < ws.length := List.length_pos_iff.2 hw0
  have z2 : (((by1 ws).length : Int) == 0) = false := beq_false_of_ne (by omega)
  unfold joB at jo
  cases he : joE l with
  | succ e =>
    rw [he] at jo
    exact zflat_ok tab_ok mixed fun_ok cLo_ok (da5 (fs1 l) (u1 us) (by1 ws) z (e + 1)) (.cons al (.cons gp (.cons z0 (.cons z1 (.cons z2 (.cons jo (.cons (bne_iff_ne.2 (by omega)) .nil)))))))
  | zero =>
  rw [he] at jo
  obtain ⟨h1, h2, h3⟩ := joE_zero he
  obtain ⟨a, rfl⟩ : ∃ a : Nat, z = a := ⟨z.toNat, by omega⟩
  have hl1 : 0 < l.length := List.length_pos_iff.2 h2
  have hkl : a % l.length < l.length := Nat.mod_lt _ hl1
  obtain ⟨k, hK⟩ : ∃ k, k = a % l.length := ⟨_, rfl⟩
  have q1 : binD tab .rem 3 (iN a) (.int .i64 ((fs1 l).length : Int)) = some (iN k) := by rw [hn, hK]; exact rem_ok hl1
  rw [← hK] at hkl
  obtain ⟨p, hk⟩ : ∃ p, l[k]? = some p := ⟨_, List.getElem?_eq_getElem hkl⟩
  have hp := h1.2 p (List.mem_of_getElem? hk)
  have hpn : p ≠ [] := fun e => by have := hp.1; rw [e] at this; simp at this
  have hp2 := hp.2
  have hend := jn_end hk
  have h64 := h1.1
  have hsm := stA_small h1 k
  obtain ⟨m, q', hq', g⟩ := da_loop h1 h3 hk us ⟨by omega, hu⟩ ws hw0 us [] p rfl rfl
  have hset : l.set k p = l := by
    rw [set_at hk, ← split_at hk]
  rw [hset] at g
  have hok' : ∀ x ∈ l.set k q', okP x := fun x hx => by
    rcases List.mem_or_eq_of_mem_set hx with h | rfl
    · exact h1.2 x h
    · unfold okP
      rw [hq']
      exact hp
  have sn := cLo_sn h00 (jn (l.set k q')) (by rw [jn_set_len hk hq']; omega)
  unfold snD at sn
  rw [sc_all hok'] at sn
  have hN : idxOk (k : Int) l.length = true := idxOk_lt hkl
  exact zflat_ok tab_ok mixed fun_ok cLo_ok (da7 (fs1 l) (u1 us) (by1 ws) (bI (sts l l.length)) (by1 p) (by1 (jn (l.set k q'))) (fs1 (l.set k q')) a (jn l).length k p.length (stA (l.take k)) (stA (l.take k) + 4) (stA (l.take k) + 4 + p.length) l.length (celB (jn l)) (celB p) (celB (jn (l.set k q'))) (celB q') (celF l) (layD (celF l) k [.sl 2 0 1 p.length p.length]))
    (.cons al (.cons gp (.cons z0 (.cons z1 (.cons z2 (.cons jo (.cons q1 (.cons (idxOk_lt (by omega)) (.cons (fs1_nth hk) (.cons (app_newR (hp := hD1 (celB (jn l))) (id := 1) rfl (contD_list _ p) hpn (by omega))
    (.cons (cLo_st _ l h1) (.cons (idxOk_lt (by rw [bI_length, sts_length]; exact hkl)) (.cons (bI_nth (sts_at l hkl)) (.cons (congrArg (DV.int .i64) (wrN (n := stA (l.take k) + 4) (by omega) (by omega))) (.cons (congrArg (DV.int .i64) (wrN (n := stA (l.take k) + 4 + p.length) (by omega) (by omega))) (.cons (decide_eq_false (by omega))
    (.cons g.goes (.cons (app_newF (hp := hD3 _ _) (id := 3) rfl (contD_fs _ l) h2 (by omega)) (.cons hN (.cons ptr_at (.cons (st_rows (by rw [celF_length]; exact hkl)) (.cons (da_seen hk hq') (.cons sn (.cons (cLo_sa h00 (l.set k q') (by rw [List.length_set]; omega)) .nil))))))))))))))))))))))))
end
end Go.Proofs.Ytmpmhkjfpeagkaa
