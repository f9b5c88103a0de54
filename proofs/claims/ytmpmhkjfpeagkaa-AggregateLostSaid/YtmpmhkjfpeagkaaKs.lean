/- AggregateLost over data. -/
import Derived.Test.YtmpmhkjfpeagkaaKq
namespace Go.Proofs.Ytmpmhkjfpeagkaa
open Go.RowKit

noncomputable section
theorem vr_u8 {w : World} {S : Nat → Prop} {n : Int} (h : (Lit.int .u8 n).wf = true) : VR w (ro S) (i8 (UInt8.ofNat n.toNat)) (.int .u8 n) := by
  have : (0 : Int) ≤ n ∧ n ≤ 255 := by simpa [Lit.wf, IntKind.min, IntKind.max, IntKind.signed, IntKind.bits] using h
  have e : i8 (UInt8.ofNat n.toNat) = .int .u8 n := by
    rw [i8, UInt8.toNat_ofNat_of_lt' (show n.toNat < 256 by omega), Int.toNat_of_nonneg this.1]
  rw [e]
  exact .int _ _ _
theorem len4 {α : Type} {l : List α} (h : l.length = 4) : ∃ a b c d, l = [a, b, c, d] := by
  match l, h with
  | [a, b, c, d], _ => exact ⟨a, b, c, d, rfl⟩
theorem slice_fromR {hp : Hp} {xs : List (List DV)} {n : Nat} (hn : n ≤ xs.length) : sliceD tab hp rTI (.list 1 xs) (some (iN n)) none none = some (.list 1 (xs.drop n)) := by
  have e1 : decide ((0 : Int) ≤ (n : Int)) = true := decide_eq_true (by omega)
  have b1 : Nat.ble n xs.length = true := bleT hn
  have b2 : Nat.ble xs.length xs.length = true := bleT (Nat.le_refl _)
  simp only [sliceD, tab_b, optI, iN, e1, Int.toNat_natCast, b1, b2, Bool.and_self, show Nat.beq 1 1 = true from rfl]
  rw [List.take_of_length_le (by rw [List.length_drop]; omega)]
theorem fs1_drop (l : List (List UInt8)) (n : Nat) : (fs1 l).drop n = fs1 (l.drop n) := by simp [fs1, List.map_drop]
theorem slice_four {hp : Hp} {n s : Nat} (h : s + 4 ≤ n) : sliceD tab hp bTI (.sl 1 0 1 n n) (some (iN s)) (some (iN (s + 4))) none = some (.sl 1 s 1 4 (n - s)) := by
  have e1 : decide ((0 : Int) ≤ (s : Int)) = true := decide_eq_true (by omega)
  have e2 : decide ((0 : Int) ≤ ((s + 4 : Nat) : Int)) = true := decide_eq_true (by omega)
  have b1 : Nat.ble s (s + 4) = true := bleT (by omega)
  have b2 : Nat.ble (s + 4) n = true := bleT h
  have b3 : Nat.ble n n = true := bleT (Nat.le_refl _)
  simp only [sliceD, tab_u8, optI, iN, e1, e2, Int.toNat_natCast, b1, b2, b3, Bool.and_self, show Nat.beq 1 1 = true from rfl]
  rw [Nat.mul_one, Nat.zero_add, Nat.add_sub_cancel_left]
  rfl
theorem copy_four {cl : List DV} {s c : Nat} {x0 x1 x2 x3 : UInt8} (h : s + 4 ≤ cl.length) : builtinD tab (hb2 cl x0 x1 x2 x3) .copy [.sl 1 s 1 4 c, .sl 0 0 1 4 4] tyBB = some (iN 4, hb2 (layD cl s (celB [x0, x1, x2, x3])) x0 x1 x2 x3, some 1) := by
  have hb : Nat.ble (s + 4) cl.length = true := bleT h
  show (match storeH (hb2 cl x0 x1 x2 x3) 1 s (celB [x0, x1, x2, x3]) with
    | some (hp', mu) => some (iN 4, hp', mu)
    | none => none) = _
  have hs : storeH (hb2 cl x0 x1 x2 x3) 1 s (celB [x0, x1, x2, x3]) = some (hb2 (layD cl s (celB [x0, x1, x2, x3])) x0 x1 x2 x3, some 1) := by
    show (match Nat.ble (s + 4) cl.length, 1 with
      | true, 3 => _
      | true, 2 => none
      | true, k => some (((hb2 cl x0 x1 x2 x3).put 1 ⟨k, 0, 5, layD cl s (celB [x0, x1, x2, x3])⟩ : Hp), (some 1 : Mut))
      | false, _ => none) = _
    rw [hb]
    rfl
  rw [hs]
theorem app_rowF {hp : Hp} {id n m : Nat} {o : Ob} {x : DV} {news : List DV} (hg : hp.get id = some o) (hk : o.k = 1 ∨ o.k = 3) (ht : o.t = 22) (hn : o.cs.length = n) (hx : contD hp 1 x = some (m + 1, news)) (hl : n + (m + 1) ≤ 2 ^ 30) :
    builtinD tab hp .append [.sl id 0 1 n n, x] tyF = some (.sl hp.n 0 1 (n + (m + 1)) (n + (m + 1)), (hp.put id ⟨2, o.r, o.t, o.cs⟩).push ⟨3, rootOf o.k o.r id, o.t, o.cs ++ news⟩, mmin (some (rootOf o.k o.r id)) (some id)) := by
  rw [app_tabF, hx]
  have hf := fitB_le2 (n := n + (m + 1)) (b := 24) (Nat.le_trans hl (by decide)) (by decide)
  have hb : Nat.ble (n + (m + 1)) n = false := bleF (by omega)
  have he : Nat.ble (0 + n * 1) o.cs.length = true := bleT (by omega)
  have hq : Nat.beq (0 + n * 1) o.cs.length = true := beqT (by omega)
  have hte : Nat.beq o.t 22 = true := beqT ht
  show appH hp 22 bTI (.sl id 0 1 n n) (m + 1) news = _
  rcases hk with hk | hk
  · simp only [appH, show Nat.beq 1 1 = true from rfl, hg, hb, he, hf, hk, hq, hte, List.drop_zero]
  · simp only [appH, show Nat.beq 1 1 = true from rfl, hg, hb, he, hf, hk, hq, hte, List.drop_zero]
theorem frz_rows {hp : Hp} {id k r n c : Nat} {fs : List (List UInt8)} (hg : hp.get id = some (oRw k r (celF fs))) (hk : k ≠ 2) (hn : n = fs.length) : FrzD [] hp (.sl id 0 1 n c) (fsD fs) := by
  subst hn
  exact FrzD.slice (o := oRw k r (celF fs)) rfl hg hk (fs1_length fs) (fs_frz fs)
theorem seen3 {sl : Slots} {hp : Hp} (hl : hp.ls = []) {nt : Nat} {l : List (Nat × DV)} (h : ∀ t d, (t, d) ∈ l → ∃ d0, look sl t = some d0 ∧ FrzD [] hp d0 d) : Seen sl hp (mkT nt l) h00 :=
  seen_melt (melt_nil hl) fun t d ht => by
    obtain ⟨d0, h1, h2⟩ := h t d ht
    exact ⟨d0, h1, .frz _ _ h2⟩
theorem lsl_seen (xs : List (List DV)) (b : List UInt8) (k s en : Nat) (x0 x1 x2 x3 : UInt8) : Seen (mkT 117 [(0, .list 1 xs), (7, .bool true), (8, .sl 1 0 1 b.length b.length), (10, iN k), (11, iN s), (12, iN en)]) (hb2 (celB b) x0 x1 x2 x3) (lsl xs (by1 b) k s en) h00 :=
  seen3 rfl fun t d ht => by
    rcases List.mem_cons.1 ht with h1 | ht
    · cases h1
      exact ⟨.list 1 xs, by kernel_rfl, .flat _ rfl⟩
    rcases List.mem_cons.1 ht with h1 | ht
    · cases h1
      exact ⟨.bool true, by kernel_rfl, .flat _ rfl⟩
    rcases List.mem_cons.1 ht with h1 | ht
    · cases h1
      exact ⟨.sl 1 0 1 b.length b.length, by kernel_rfl, frz_oR (k := 1) rfl rfl (by decide) rfl rfl⟩
    rcases List.mem_cons.1 ht with h1 | ht
    · cases h1
      exact ⟨iN k, by kernel_rfl, .flat _ rfl⟩
    rcases List.mem_cons.1 ht with h1 | ht
    · cases h1
      exact ⟨iN s, by kernel_rfl, .flat _ rfl⟩
    · obtain h1 := List.mem_singleton.1 ht
      cases h1
      exact ⟨iN en, by kernel_rfl, .flat _ rfl⟩
theorem loW_seen (js : List (List DV)) (c : Nat) {d : DV} {h : Hp} {fs : List (List UInt8)} (hl : h.ls = []) (hd : FrzD [] h d (fsD fs)) : Seen (loW js c d) h (loW js c (.list 1 (fs1 fs))) h00 :=
  seen3 hl fun t a ht => by
    rcases List.mem_cons.1 ht with h1 | ht
    · cases h1
      exact ⟨.bool true, by kernel_rfl, .flat _ rfl⟩
    rcases List.mem_cons.1 ht with h1 | ht
    · cases h1
      exact ⟨.list 1 js, by kernel_rfl, .flat _ rfl⟩
    rcases List.mem_cons.1 ht with h1 | ht
    · cases h1
      exact ⟨iN c, by kernel_rfl, .flat _ rfl⟩
    · obtain h1 := List.mem_singleton.1 ht
      cases h1
      exact ⟨d, by kernel_rfl, hd⟩
/-- no delimiter at the first c places -/
def noD (T : List UInt8) (n c : Nat) : Prop := ∀ j, j < c → 4 * j < 4 + n ∧ 4 * j + 4 ≤ T.length ∧ ann (T.drop (4 * j)) = 0
theorem lo_loop (xs : List (List DV)) (A T : List UInt8) (hA : A.length + T.length ≤ 65535) (k n : Nat) (hn : n ≤ 2400) : ∀ (f c : Nat), 4 + n ≤ 4 * (c + f) → c ≤ 601 → noD T n c →
    ∃ m, GoesR Try.prog tab kLo loL (m + 1) (loS xs (by1 (A ++ T)) k (A.length + 4 + n) c (A.length + 4 * c)) h00 .ret loR h00 ∨
      ∃ c', GoesR Try.prog tab kLo loL (m + 1) (loS xs (by1 (A ++ T)) k (A.length + 4 + n) c (A.length + 4 * c)) h00 (.exit 0) (loE xs (by1 (A ++ T)) k c') h00 ∧ noD T n c' ∧ (4 + n ≤ 4 * c' ∨ T.length < 4 * c' + 4)
  | 0, c, hf, hc, hno => ⟨0, .inr ⟨c, GoesR.last (zsee_ok tab_ok mixed fun_ok cLt_ok (lrO xs (by1 (A ++ T)) k (A.length + 4 + n) c (A.length + 4 * c)) (.cons (decide_eq_false (by omega)) .nil)) (by intro h; cases h), hno, .inl (by omega)⟩⟩
  | f + 1, c, hf, hc, hno => by
    have hl : (by1 (A ++ T)).length = A.length + T.length := by rw [by1_length, List.length_append]
    have hl2 : (A ++ T).length = A.length + T.length := List.length_append
    by_cases h1 : 4 * c < 4 + n
    · have q1 : decide (((A.length + 4 * c : Nat) : Int) < ((A.length + 4 + n : Nat) : Int)) = true := decide_eq_true (by omega)
      have q2 : DV.int .i64 (IntKind.i64.wrap (((A.length + 4 * c : Nat) : Int) + 4)) = iN (A.length + 4 * (c + 1)) := congrArg (DV.int .i64) (wrN (by omega) (by omega))
      by_cases h2 : 4 * c + 4 ≤ T.length
      · have q3 : decide (((A.length + 4 * (c + 1) : Nat) : Int) ≤ ((by1 (A ++ T)).length : Int)) = true := decide_eq_true (by omega)
        have q4 := cLt_at h00 (A ++ T) (A.length + 4 * c) ⟨by omega, by omega⟩
        have e : (A ++ T).drop (A.length + 4 * c) = T.drop (4 * c) := by
          rw [List.drop_append, List.drop_of_length_le (by omega), List.nil_append, Nat.add_sub_cancel_left]
        rw [e] at q4
        by_cases h3 : ann (T.drop (4 * c)) = 0
        · rw [decide_eq_false (show ¬ ann (T.drop (4 * c)) ≠ 0 from fun h => h h3)] at q4
          have z := zsee_ok tab_ok mixed fun_ok cLt_ok (lr1 xs (by1 (A ++ T)) k (A.length + 4 + n) c (A.length + 4 * c) (A.length + 4 * (c + 1)) _) (.cons q1 (.cons q2 (.cons q3 (.cons q4 (.cons (congrArg (DV.int .i64) (wrapI (n := c + 1) (by omega))) (.cons q2 .nil))))))
          obtain ⟨m, g⟩ := lo_loop xs A T hA k n hn f (c + 1) (by omega) (by omega) (fun j hj => by
            by_cases hjc : j < c
            · exact hno j hjc
            · obtain rfl : j = c := by omega
              exact ⟨h1, h2, h3⟩)
          rcases g with g | ⟨c', g, r⟩
          · exact ⟨m + 1, .inl (GoesR.step z g)⟩
          · exact ⟨m + 1, .inr ⟨c', GoesR.step z g, r⟩⟩
        · rw [decide_eq_true (show ann (T.drop (4 * c)) ≠ 0 from h3)] at q4
          exact ⟨0, .inl (GoesR.last (zsee_ok tab_ok mixed fun_ok cLt_ok (lrF xs (by1 (A ++ T)) k (A.length + 4 + n) c (A.length + 4 * c) (A.length + 4 * (c + 1)) _) (.cons q1 (.cons q2 (.cons q3 (.cons q4 .nil))))) (by intro h; cases h))⟩
      · exact ⟨0, .inr ⟨c, GoesR.last (zsee_ok tab_ok mixed fun_ok cLt_ok (lrX xs (by1 (A ++ T)) k (A.length + 4 + n) c (A.length + 4 * c) (A.length + 4 * (c + 1))) (.cons q1 (.cons q2 (.cons (decide_eq_false (by omega)) .nil)))) (by intro h; cases h), hno, .inr (by omega)⟩⟩
    · exact ⟨0, .inr ⟨c, GoesR.last (zsee_ok tab_ok mixed fun_ok cLt_ok (lrO xs (by1 (A ++ T)) k (A.length + 4 + n) c (A.length + 4 * c)) (.cons (decide_eq_false (by omega)) .nil)) (by intro h; cases h), hno, .inl (by omega)⟩⟩
theorem lo_all (l : List (List UInt8)) (hl : l.length < 2 ^ 63) (z : Int) (x0 x1 x2 x3 : UInt8) : Ans Try.prog fLo [fsD l, .int .i64 z, .agg [i8 x0, i8 x1, i8 x2, i8 x3]] (.bool true) ⟨0, [], []⟩ := by
  have al := cLt_l (cLo_al (hb1 x0 x1 x2 x3))
  have gp := cLt_l (cLo_gp (hb1 x0 x1 x2 x3) l hl)
  have jo := cLt_l (cLo_jo (hb1 x0 x1 x2 x3) l)
  have hn := fs1_length l
  cases hg : gpB l with
  | true =>
    rw [hg] at gp
    exact zflat_ok tab_ok mixed fun_ok cLt_ok (lo1 (fs1 l) z x0 x1 x2 x3) (.cons al (.cons gp .nil))
  | false =>
  rw [hg] at gp
  by_cases hz : z < 0
  · exact zflat_ok tab_ok mixed fun_ok cLt_ok (lo2 (fs1 l) z x0 x1 x2 x3) (.cons al (.cons gp (.cons (decide_eq_true hz) .nil)))
  have z0 : decide (z < 0) = false := decide_eq_false hz
  unfold joB at jo
  cases he : joE l with
  | succ e =>
    rw [he] at jo
    exact zflat_ok tab_ok mixed fun_ok cLt_ok (lo3 (fs1 l) z (e + 1) x0 x1 x2 x3) (.cons al (.cons gp (.cons z0 (.cons jo (.cons (bne_iff_ne.2 (by omega)) .nil)))))
  | zero =>
  rw [he] at jo
  obtain ⟨h1, h2, h3⟩ := joE_zero he
  obtain ⟨a, rfl⟩ : ∃ a : Nat, z = a := ⟨z.toNat, by omega⟩
  have hl1 : 0 < l.length := List.length_pos_iff.2 h2
  have hkl : a % l.length < l.length := Nat.mod_lt _ hl1
  obtain ⟨k, hK⟩ : ∃ k, k = a % l.length := ⟨_, rfl⟩
  have q1 : binD tab .rem 3 (iN a) (.int .i64 ((fs1 l).length : Int)) = some (iN k) := by rw [hn, hK]; exact rem_ok hl1
  rw [← hK] at hkl
  obtain ⟨p, hk⟩ : ∃ p, l[k]? = some p := ⟨_, List.getElem?_eq_getElem hkl⟩
  have hp := h1.2 p (List.mem_of_getElem? hk)
  have hp2 := hp.2
  have hpl := by1_length p
  have hend := jn_end hk
  have h64 := h1.1
  obtain ⟨T, hT1, hT2, hT3⟩ := jn_lost h1.2 hk (bad := [x0, x1, x2, x3]) rfl
  obtain ⟨s, hS⟩ : ∃ s, s = stA (l.take k) := ⟨_, rfl⟩
  have sts0 := sts_at l hkl
  rw [← hS] at hend hT1 hT2 hT3 sts0
  have hAl : ((jn l).take s).length = s := by rw [List.length_take]; omega
  have hlay : layD (celB (jn l)) s (celB [x0, x1, x2, x3]) = celB ((jn l).take s ++ T) := by
    rw [← hT2]
    unfold layD
    simp [celB, List.map_take, List.map_drop]
  have hbl : ((jn l).take s ++ T).length = (jn l).length := by rw [List.length_append, hAl, hT1]; omega
  have loop := lo_loop (fs1 l) ((jn l).take s) T (by rw [hAl, hT1]; omega) k p.length hp2 602 0 (by omega) (by omega) (fun j hj => absurd hj (by omega))
  rw [hAl, Nat.mul_zero, Nat.add_zero] at loop
  obtain ⟨m, loop⟩ := loop
  have e4 : DV.int .i64 (IntKind.i64.wrap ((s : Int) + 4)) = iN (s + 4) := congrArg (DV.int .i64) (wrN (by omega) (by omega))
  have hen : DV.int .i64 (IntKind.i64.wrap (((s + 4 : Nat) : Int) + ((by1 p).length : Int))) = iN (s + 4 + p.length) := congrArg (DV.int .i64) (wrN (by omega) (by omega))
  have cp := copy_four (cl := celB (jn l)) (s := s) (c := (jn l).length - s) (x0 := x0) (x1 := x1) (x2 := x2) (x3 := x3) (by rw [celB_length]; omega)
  rw [hlay] at cp
  have sn0 := lsl_seen (fs1 l) ((jn l).take s ++ T) k s (s + 4 + p.length) x0 x1 x2 x3
  rw [hbl] at sn0
  have first : ∀ {t : List Prop}, AskedP t → AskedP (loA2 (fs1 l) (by1 ((jn l).take s ++ T)) (bI (sts l l.length)) (by1 p) a (jn l).length k s (s + 4) (s + 4 + p.length) ((jn l).length - s) x0 x1 x2 x3 (celB (jn l)) (celB ((jn l).take s ++ T)) t) := fun ht =>
    .cons al (.cons gp (.cons z0 (.cons jo (.cons q1 (.cons (cLt_l (cLo_st _ l h1)) (.cons (idxOk_lt (by rw [bI_length, sts_length]; exact hkl)) (.cons (bI_nth sts0) (.cons e4 (.cons (idxOk_lt (by omega)) (.cons (fs1_nth hk) (.cons hen (.cons (decide_eq_false (by omega)) (.cons e4 (.cons (slice_four (by omega)) (.cons cp (.cons sn0 ht))))))))))))))))
  rcases loop with g | ⟨c, g, hno, hend'⟩
  · exact zflat_ok tab_ok mixed fun_ok cLt_ok (lo4 (fs1 l) (by1 ((jn l).take s ++ T)) (bI (sts l l.length)) (by1 p) a (jn l).length k s (s + 4) (s + 4 + p.length) ((jn l).length - s) x0 x1 x2 x3 _ _) (first (.cons g.goes .nil))
  · have hsc := hT3 c hno hend'
    have sn := cLt_l (cLo_sn h00 ((jn l).take s ++ T) (by omega))
    unfold snD at sn
    rw [hsc] at sn
    have hql : (l.take k ++ l.drop (k + 1)).length ≤ 256 := by rw [List.length_append, List.length_take, List.length_drop]; omega
    have sa := cLt_l (cLo_sa h00 (l.take k ++ l.drop (k + 1)) hql)
    have hcc : ((c : Int) == (c : Int)) = true := beq_iff_eq.2 rfl
    have hk1 : DV.int .i64 (IntKind.i64.wrap ((k : Int) + 1)) = iN (k + 1) := congrArg (DV.int .i64) (wrapI (n := k + 1) (by omega))
    have s1 : ∀ hp, sliceD tab hp rTI (.list 1 (fs1 l)) none (some (iN k)) none = some (.list 1 (fs1 (l.take k))) := fun hp => by rw [slice_toR (by omega), fs1_take]
    have s2 : ∀ hp, sliceD tab hp rTI (.list 1 (fs1 l)) (some (iN (k + 1))) none none = some (.list 1 (fs1 (l.drop (k + 1)))) := fun hp => by rw [slice_fromR (by omega), fs1_drop]
    have hlt : (l.take k).length = k := by rw [List.length_take]; omega
    have second : ∀ {t : List Prop}, AskedP t → AskedP (loG (fs1 l) (by1 ((jn l).take s ++ T)) (bI (sts l l.length)) (by1 p) (fs1 (l.take k)) a (jn l).length k s (s + 4) (s + 4 + p.length) c ((jn l).length - s) x0 x1 x2 x3 (celB (jn l)) (celB ((jn l).take s ++ T)) t) := fun ht => first (.cons g.goes (.cons (s1 _) ht))
    cases hpre : l.take k with
    | nil =>
      rw [hpre] at second sn sa
      rw [List.nil_append] at sn sa
      cases hpost : l.drop (k + 1) with
      | nil =>
        rw [hpost] at s2 sn sa
        exact zflat_ok tab_ok mixed fun_ok cLt_ok (lo8 (fs1 l) (by1 ((jn l).take s ++ T)) (bI (sts l l.length)) (by1 p) (fs1 []) a (jn l).length k s (s + 4) (s + 4 + p.length) c ((jn l).length - s) (k + 1) x0 x1 x2 x3 _ _) (second (.cons hk1 (.cons (s2 _) (.cons (loW_seen (fs := []) _ c rfl (frz_rows (k := 0) (r := 0) rfl (by decide) rfl)) (.cons sn (.cons sa (.cons hcc .nil)))))))
      | cons q r =>
        rw [hpost] at s2 sn sa
        have hrl : (q :: r).length ≤ 64 := by rw [← hpost, List.length_drop]; omega
        exact zflat_ok tab_ok mixed fun_ok cLt_ok (lo6 (fs1 l) (by1 ((jn l).take s ++ T)) (bI (sts l l.length)) (by1 p) (fs1 (q :: r)) (fs1 (q :: r)) a (jn l).length k s (s + 4) (s + 4 + p.length) c ((jn l).length - s) (k + 1) (q :: r).length x0 x1 x2 x3 _ _ (celF (q :: r)))
          (second (.cons hk1 (.cons (s2 _) (.cons (app_newF (hp := hw0) (id := 0) rfl (contD_fs _ (q :: r)) (by simp) (by omega)) (.cons (loW_seen (fs := q :: r) _ c rfl (frz_rows (k := 1) (r := 0) rfl (by decide) rfl)) (.cons sn (.cons sa (.cons hcc .nil))))))))
    | cons q0 r0 =>
      have hrl0 : (q0 :: r0).length ≤ 64 := by rw [← hpre, hlt]; omega
      rw [hpre] at second sn sa
      have a1 := app_newF (hp := hw0) (id := 0) (l := q0 :: r0) rfl (contD_fs _ (q0 :: r0)) (by simp) (by omega)
      cases hpost : l.drop (k + 1) with
      | nil =>
        rw [hpost] at s2 sn sa
        rw [List.append_nil] at sn sa
        exact zflat_ok tab_ok mixed fun_ok cLt_ok (lo7 (fs1 l) (by1 ((jn l).take s ++ T)) (bI (sts l l.length)) (by1 p) (fs1 (q0 :: r0)) (fs1 (q0 :: r0)) a (jn l).length k s (s + 4) (s + 4 + p.length) c ((jn l).length - s) (k + 1) (q0 :: r0).length x0 x1 x2 x3 _ _ (celF (q0 :: r0)))
          (second (.cons a1 (.cons hk1 (.cons (s2 _) (.cons (loW_seen (fs := q0 :: r0) _ c rfl (frz_rows (k := 1) (r := 0) rfl (by decide) rfl)) (.cons sn (.cons sa (.cons hcc .nil))))))))
      | cons q r =>
        rw [hpost] at s2 sn sa
        have hrl : (q :: r).length ≤ 64 := by rw [← hpost, List.length_drop]; omega
        exact zflat_ok tab_ok mixed fun_ok cLt_ok (lo5 (fs1 l) (by1 ((jn l).take s ++ T)) (bI (sts l l.length)) (by1 p) (fs1 (q0 :: r0)) (fs1 (q :: r)) (fs1 ((q0 :: r0) ++ (q :: r))) a (jn l).length k s (s + 4) (s + 4 + p.length) c ((jn l).length - s) (k + 1) (q0 :: r0).length ((q0 :: r0).length + (r.length + 1)) x0 x1 x2 x3 _ _ (celF (q0 :: r0)) (celF (q :: r)))
          (second (.cons a1 (.cons hk1 (.cons (s2 _) (.cons (app_rowF (hp := hw1 _) (id := 1) (m := r.length) (o := oRw 1 0 (celF (q0 :: r0))) rfl (.inl rfl) rfl (celF_length _) (contD_fs _ (q :: r)) (by simp only [List.length_cons] at hrl hrl0 ⊢; omega)) (.cons (loW_seen (fs := (q0 :: r0) ++ (q :: r)) _ c rfl (frz_rows (id := 2) (k := 3) (r := 1) (by
            show some (oRw 3 1 (celF (q0 :: r0) ++ celF (q :: r))) = _
            simp [celF]) (by decide) (by simp; omega))) (.cons sn (.cons sa (.cons hcc .nil)))))))))
end
end Go.Proofs.Ytmpmhkjfpeagkaa
