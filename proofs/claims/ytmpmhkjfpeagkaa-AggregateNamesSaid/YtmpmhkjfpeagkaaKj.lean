/- Scan: the contract. -/
import Derived.Test.YtmpmhkjfpeagkaaKi
namespace Go.Proofs.Ytmpmhkjfpeagkaa
open Go.RowKit

noncomputable section
theorem slice_to {hp : Hp} {xs : List (List DV)} {n : Nat} (hn : n ≤ xs.length) : sliceD tab hp bTI (.list 1 xs) none (some (iN n)) none = some (.list 1 (xs.take n)) := by
  have e1 : decide ((0 : Int) ≤ (n : Int)) = true := decide_eq_true (by omega)
  have b1 : Nat.ble 0 n = true := bleT (Nat.zero_le _)
  have b2 : Nat.ble n xs.length = true := bleT hn
  simp only [sliceD, tab_u8, optI, iN, e1, Int.toNat_natCast, b1, b2, Bool.and_self, show Nat.beq 1 1 = true from rfl, List.drop_zero, Nat.sub_zero]
theorem slice_from {hp : Hp} {xs : List (List DV)} {n : Nat} (hn : n ≤ xs.length) : sliceD tab hp bTI (.list 1 xs) (some (iN n)) none none = some (.list 1 (xs.drop n)) := by
  have e1 : decide ((0 : Int) ≤ (n : Int)) = true := decide_eq_true (by omega)
  have b1 : Nat.ble n xs.length = true := bleT hn
  have b2 : Nat.ble xs.length xs.length = true := bleT (Nat.le_refl _)
  simp only [sliceD, tab_u8, optI, iN, e1, Int.toNat_natCast, b1, b2, Bool.and_self, show Nat.beq 1 1 = true from rfl]
  rw [List.take_of_length_le (by rw [List.length_drop]; omega)]
theorem by1_take (l : List UInt8) (n : Nat) : by1 (l.take n) = (by1 l).take n := by simp [by1, List.map_take]
theorem by1_drop (l : List UInt8) (n : Nat) : by1 (l.drop n) = (by1 l).drop n := by simp [by1, List.map_drop]
theorem slice_mid {hp : Hp} {xs : List (List DV)} {m n : Nat} (hm : m ≤ n) (hn : n ≤ xs.length) : sliceD tab hp bTI (.list 1 xs) (some (iN m)) (some (iN n)) none = some (.list 1 ((xs.drop m).take (n - m))) := by
  have e1 : decide ((0 : Int) ≤ (n : Int)) = true := decide_eq_true (by omega)
  have e2 : decide ((0 : Int) ≤ (m : Int)) = true := decide_eq_true (by omega)
  have b1 : Nat.ble m n = true := bleT hm
  have b2 : Nat.ble n xs.length = true := bleT hn
  simp only [sliceD, tab_u8, optI, iN, e1, e2, Int.toNat_natCast, b1, b2, Bool.and_self, show Nat.beq 1 1 = true from rfl]
def celF (fs : List (List UInt8)) : List DV := fs.map byL
theorem celF_length (fs : List (List UInt8)) : (celF fs).length = fs.length := by simp [celF]
theorem fs_frz {L : List Nat} {hp : Hp} (fs : List (List UInt8)) (i : Nat) (cs : List DV) (h : (fs1 fs)[i]? = some cs) : cs.length = 1 ∧ scals cs = true ∧ ∀ (j : Nat) (d : DV), cs[j]? = some d → ∃ e, (celF fs)[0 + (i * 1 + j)]? = some e ∧ FrzD L hp e d := by
  unfold fs1 at h
  rw [List.getElem?_map, Option.map_eq_some_iff] at h
  obtain ⟨f, hf, rfl⟩ := h
  refine ⟨rfl, rfl, fun j d hd => ?_⟩
  cases j with
  | zero =>
    cases hd
    refine ⟨byL f, ?_, .flat _ rfl⟩
    rw [show 0 + (i * 1 + 0) = i by omega, celF, List.getElem?_map, hf]
    rfl
  | succ j => simp at hd
theorem app_tabF (hp : Hp) (d x : DV) : builtinD tab hp .append [d, x] tyF = match contD hp 1 x with
    | some (m, news) => appH hp 22 bTI d m news
    | none => none := by kernel_rfl
theorem stepFl {hp : Hp} {d : DV} {fs : List (List UInt8)} (p : List UInt8) (h : SbZ 22 hp d (celF fs)) (hl : fs.length + 1 ≤ 2 ^ 40) : ∃ d' hp' m, builtinD tab (pushH hp 0 22 [byL p]) .append [d, .sl hp.n 0 1 1 1] tyF = some (d', hp', m) ∧ SbZ 22 hp' d' (celF (fs ++ [p])) ∧ hp'.ls = hp.ls := by
  rw [app_tabF, contD_one (hp := pushH hp 0 22 [byL p]) (id := hp.n) (get_push_new _ _) rfl]
  have := appZ (j := bTI) (z := .nil) (zs := []) rfl rfl (by decide) (h.push ⟨0, 0, 22, [byL p]⟩) (m := 1) (news := [byL p]) rfl (by rw [celF_length]; exact hl)
  rw [show celF fs ++ [byL p] = celF (fs ++ [p]) by simp [celF]] at this
  exact this
theorem mn_ok {xs : List (List DV)} {f : Nat} : mnI xs (f : Int) (min f xs.length) := by
  unfold mnI
  split
  · rw [Nat.min_eq_left (by omega)]
    rfl
  · rw [Nat.min_eq_right (by omega)]
    rfl
theorem drop_min (b : List UInt8) (f : Nat) : b.drop (min f b.length) = b.drop f := by
  rcases Nat.le_total f b.length with h | h
  · rw [Nat.min_eq_left h]
  · rw [Nat.min_eq_right h, List.drop_of_length_le h, List.drop_of_length_le (Nat.le_refl _)]
theorem ann_le : ∀ (b : List UInt8), ann b ≤ 2400 ∧ (ann b ≠ 0 → 4 + ann b ≤ b.length)
  | a :: b :: c :: d :: r => by
    by_cases hq : 1 ≤ a.toNat + 256 * b.toNat ∧ a.toNat + 256 * b.toNat ≤ 2400 ∧ a.toNat + 256 * b.toNat ≤ r.length ∧ c = c8 a b ∧ d = 78
    · have e : ann (a :: b :: c :: d :: r) = a.toNat + 256 * b.toNat := by
        unfold ann
        dsimp only
        rw [decide_eq_true hq]
      rw [e]
      exact ⟨hq.2.1, fun _ => by simp only [List.length_cons]; omega⟩
    · have e : ann (a :: b :: c :: d :: r) = 0 := by
        unfold ann
        dsimp only
        rw [decide_eq_false hq]
      rw [e]
      exact ⟨Nat.zero_le _, fun h => absurd rfl h⟩
  | [] => ⟨Nat.zero_le _, fun h => absurd rfl h⟩
  | [_] => ⟨Nat.zero_le _, fun h => absurd rfl h⟩
  | [_, _] => ⟨Nat.zero_le _, fun h => absurd rfl h⟩
  | [_, _, _] => ⟨Nat.zero_le _, fun h => absurd rfl h⟩
theorem sn_loop : ∀ (n : Nat) (b : List UInt8) (fs : List (List UInt8)) (s : Nat) (d : DV) (h : Hp), b.length ≤ n → b.length < 2 ^ 30 → fs.length + b.length ≤ 2 ^ 31 → s + b.length ≤ 2 ^ 31 → SbZ 22 h d (celF fs) → h.ls = [] →
    ∃ m d' h', GoesR Try.prog tab kSn snL (m + 1) (snS (by1 b) d s) h (.exit 0) (snF d' (s + (sc b).2)) h' ∧ SbZ 22 h' d' (celF (fs ++ (sc b).1)) ∧ h'.ls = [] := by
  intro n
  induction n with
  | zero =>
    intro b fs s d h hn hb hf hs hz hl
    have e := sc_short (b := b) (by omega)
    rw [e, List.append_nil, Nat.add_zero]
    exact ⟨0, d, h, GoesR.last (zsee_ok tab_ok mixed fun_ok cSq_ok (snO (by1 b) d h s) (.cons (decide_eq_false (by rw [by1_length]; omega)) .nil)) (by intro h; cases h), hz, hl⟩
  | succ n ih =>
    intro b fs s d h hn hb hf hs hz hl
    have hbl := by1_length b
    by_cases h4 : 4 ≤ b.length
    · have q0 : decide (((by1 b).length : Int) ≥ 4) = true := decide_eq_true (by omega)
      have qa := cSq_an h b ⟨h4, hb⟩
      obtain ⟨a1, a2⟩ := ann_le b
      cases ha : ann b with
      | zero =>
        rw [ha] at qa
        rw [sc_skip h4 ha]
        obtain ⟨m, d', h', g, z, l⟩ := ih (b.drop 4) fs (s + 1) d h (by rw [List.length_drop]; omega) (by rw [List.length_drop]; omega) (by rw [List.length_drop]; omega) (by rw [List.length_drop]; omega) hz hl
        have r := zsee_ok tab_ok mixed fun_ok cSq_ok (sn0 (by1 b) (by1 (b.drop 4)) d h s (s + 1) (min 4 (by1 b).length)) (.cons q0 (.cons qa (.cons (congrArg (DV.int .i64) (wrapI (n := s + 1) (by omega))) (.cons (mn_ok (f := 4)) (.cons (by rw [slice_from (Nat.min_le_right _ _), hbl, ← by1_drop, drop_min]) .nil)))))
        rw [show s + 1 + (sc (b.drop 4)).2 = s + ((sc (b.drop 4)).2 + 1) by omega] at g
        exact ⟨m + 1, d', h', GoesR.step r g, z, l⟩
      | succ k =>
        rw [ha] at qa a1 a2
        have a2 := a2 (by omega)
        rw [sc_find h4 ha]
        obtain ⟨d1, h1, m1, e1, z1, l1⟩ := stepFl ((b.drop 4).take (k + 1)) hz (by omega)
        have hmis : mis (k + 1) ≤ 3 := by unfold mis; omega
        obtain ⟨m, d', h', g, z, l⟩ := ih (b.drop (4 + (k + 1) + mis (k + 1))) (fs ++ [(b.drop 4).take (k + 1)]) s d1 h1 (by rw [List.length_drop]; omega) (by rw [List.length_drop]; omega) (by rw [List.length_drop, List.length_append, List.length_singleton]; omega) (by rw [List.length_drop]; omega) z1 (by rw [l1, hl])
        have r := zsee_ok tab_ok mixed fun_ok cSq_ok (sn1 (by1 b) (by1 ((b.drop 4).take (k + 1))) (by1 (b.drop (4 + (k + 1) + mis (k + 1)))) d d1 h h1 m1 s (k + 1) (4 + (k + 1)) (4 + (k + 1) + mis (k + 1)) (min (4 + (k + 1) + mis (k + 1)) (by1 b).length)) (.cons q0 (.cons qa (.cons (decide_eq_true (by omega)) (.cons ?_ (.cons ?_ (.cons ?_ (.cons e1 (.cons ?_ (.cons (mn_ok (f := 4 + (k + 1) + mis (k + 1))) (.cons ?_ .nil))))))))))
        · rw [List.append_assoc] at z
          exact ⟨m + 1, d', h', GoesR.step r g, z, l⟩
        · exact congrArg (DV.int .i64) (wrN (n := 4 + (k + 1)) (by omega) (by omega))
        · rw [show DV.int .i64 4 = iN 4 from rfl, slice_mid (m := 4) (by omega) (by omega), Nat.add_sub_cancel_left, ← by1_drop, ← by1_take]
        · exact cSq_bc h _ (by rw [List.length_take, List.length_drop]; omega)
        · rw [misI, mis4]
          exact congrArg (DV.int .i64) (wrN (by omega) (by omega))
        · rw [slice_from (Nat.min_le_right _ _), hbl, ← by1_drop, drop_min]
    · have e := sc_short (b := b) (by omega)
      rw [e, List.append_nil, Nat.add_zero]
      exact ⟨0, d, h, GoesR.last (zsee_ok tab_ok mixed fun_ok cSq_ok (snO (by1 b) d h s) (.cons (decide_eq_false (by omega)) .nil)) (by intro h; cases h), hz, hl⟩
def snD (b : List UInt8) : DV := .tuple [fsD (sc b).1, iN (sc b).2]
theorem Ans.nil1' {P : Program} {f : FuncId} {args : List DV} {k : IntKind} {e : Int} (h : Ans P f args (.tuple [.nil, .int k e]) ⟨0, [], []⟩) : Ans P f args (.tuple [.list 1 [], .int k e]) ⟨0, [], []⟩ :=
  h.seeH rfl fun _ _ E w _ hs hv => ⟨E, fun _ h => h, yb_none hs.ys rfl, rfl, hs, see_tuple (w := w) (E := E) (E' := E) (ds := [.nil, .int k e]) (bs := [.list 1 [], .int k e]) ⟨fun _ h => vr_nl h, fun _ h => h, trivial⟩ hv⟩
theorem sn_ans (x : Bs) : Ans Try.prog fSn [byL x.1] (snD x.1) ⟨0, [], []⟩ := by
  obtain ⟨b, hb⟩ := x
  obtain ⟨m, d, h, g, z, l⟩ := sn_loop b.length b [] 0 .nil ⟨0, [], []⟩ (Nat.le_refl _) hb (by simp; omega) (by omega) (.inl ⟨rfl, rfl⟩) rfl
  rw [List.nil_append, Nat.zero_add] at *
  have r := zans_ok tab_ok mixed fun_ok cSq_ok (snR (by1 b) d h (sc b).2) (.cons g.goes .nil)
  unfold snD
  dsimp only
  generalize (sc b).1 = fs at *
  generalize (sc b).2 = s at *
  rcases z with ⟨rfl, e⟩ | ⟨id, o, rfl, h1, h2, h3, h4⟩
  · have hf : fs = [] := by
      have := congrArg List.length e
      rw [celF_length] at this
      exact List.eq_nil_of_length_eq_zero this
    subst hf
    exact Ans.nil1' (AnsH.frz r l (FrzL.tuple ⟨FrzD.nil', FrzD.int' _ _, trivial⟩))
  · refine AnsH.frz r l (FrzL.tuple ⟨FrzD.slice (o := o) rfl h1 (by rcases h2 with h | h | h <;> omega) (by rw [fs1_length, celF_length]) ?_, FrzD.int' _ _, trivial⟩)
    rw [h4]
    exact fs_frz fs
def cSn : ConF := liftC (eqC fSn (fun x : Bs => [byL x.1]) fun x => (snD x.1, ⟨0, [], []⟩))
theorem cSn_ok : ConOk Try.prog cSn := liftC_ok (eqC_ok sn_ans fun _ => rfl)
theorem cSn_at (hp : Hp) (b : List UInt8) (h : b.length < 2 ^ 30) : cSn fSn [byL b] hp = some (snD b, hp, none) :=
  lift_at (A := fun x : Bs => [byL x.1]) (D := fun x => snD x.1) (fun x y hxy => by
    simp only [List.cons.injEq, and_true] at hxy
    rw [byL_inj' hxy]) hp ⟨b, h⟩ rfl rfl
end
end Go.Proofs.Ytmpmhkjfpeagkaa
