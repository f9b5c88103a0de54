/- ElementFinds is true of all data. -/
import Derived.Test.YtkcldejfmmeoaaaEh
namespace Go.Proofs.Ytkcldejfmmeoaaa
open Go.RowKit

noncomputable section
/-! ### What is not too great is small -/
theorem wrap_id {x : Int} (h1 : -(2 ^ 63) ≤ x) (h2 : x < 2 ^ 63) : IntKind.i64.wrap x = x := by
  simp only [IntKind.wrap, IntKind.bits, IntKind.signed, Bool.true_and, decide_eq_true_eq, ge_iff_le]
  split <;> omega
theorem weB2_eq {b : Int} {d : List UInt8} (h0 : 0 ≤ b) (h1 : b < 2 ^ 62) (hd : d.length < 2 ^ 63) : weB2 b d = b - (d.length : Int) - 1 := by
  unfold weB2
  rw [wrap_id (x := b - (d.length : Int)) (by omega) (by omega), wrap_id (by omega) (by omega)]
theorem wgtL_some {r : Int → List El → Option Int} : ∀ {l : List El} {b c : Int}, okL l → 0 ≤ b → b ≤ 20000 → (∀ {b c s}, 0 ≤ b → b ≤ 20000 → okL s → r b s = some c → 0 ≤ c ∧ c ≤ b ∧ SmL s) → wgtL r b l = some c → 0 ≤ c ∧ c ≤ b ∧ smL l
  | [], b, c, _, h0, h1, _, h => by
    cases h
    exact ⟨h0, Int.le_refl _, trivial⟩
  | .mk i e d s :: l, b, c, ho, h0, h1, hr, h => by
    obtain ⟨⟨o1, o2, o3⟩, o4⟩ := ho
    have hw := weB2_eq (b := b) (d := d) h0 (by omega) o1
    unfold wgtL at h
    split at h
    · cases h
    · rename_i hb
      have hb := of_decide_eq_false hb
      split at h
      · cases h
      · rename_i b3 h3
        obtain ⟨k1, k2, k3⟩ := hr (by omega) (by omega) o3 h3
        obtain ⟨k4, k5, k6⟩ := wgtL_some (l := l) o4 k1 (by omega) hr h
        exact ⟨k4, by omega, ⟨by omega, k3⟩, k6⟩
theorem wgt_some : ∀ {k : Nat} {b c : Int} {l : List El}, 0 ≤ b → b ≤ 20000 → okL l → wgt k b l = some c → 0 ≤ c ∧ c ≤ b ∧ SmL l
  | 0, b, c, [], h0, h1, _, h => by
    cases h
    exact ⟨h0, Int.le_refl _, by simp, trivial⟩
  | 0, b, c, _ :: _, _, _, _, h => by cases h
  | k + 1, b, c, l, h0, h1, ho, h => by
    unfold wgt at h
    split at h
    · cases h
    · rename_i hl
      have hl := of_decide_eq_false hl
      obtain ⟨k1, k2, k3⟩ := wgtL_some ho h0 h1 (fun h0 h1 ho h => wgt_some h0 h1 ho h) h
      exact ⟨k1, k2, by omega, k3⟩
theorem wgt_len {k : Nat} {b c : Int} {l : List El} (h : wgt (k + 1) b l = some c) : l.length ≤ 200 := by
  unfold wgt at h
  split at h
  · cases h
  · rename_i hl
    have := of_decide_eq_false hl
    omega
theorem small_of {l : List El} (ho : okL l) (hg : grB l = false) : SmL l ∧ l.length ≤ 200 := by
  unfold grB at hg
  cases hw : wgt 10 20000 l with
  | none => rw [hw] at hg; cases hg
  | some c => exact ⟨(wgt_some (by decide) (by decide) ho hw).2.2, wgt_len hw⟩
/-! ### Slices of one element -/
theorem tab_ee : tab 22 = some eeTI := by kernel_rfl
theorem slice_el {hp : Hp} {l : List El} {j : Nat} {x : El} (h : l[j]? = some x) : sliceD tab hp eeTI (.list 4 (elR l)) (some (iN j)) (some (iN (j + 1))) none = some (.list 4 [elD x]) := by
  have hl := (List.getElem?_eq_some_iff.1 h).1
  have hn := elR_length l
  obtain ⟨y, h1, h2⟩ := elR_get (l := l) (i := j) (List.getElem?_eq_getElem (by omega))
  rw [h] at h1
  cases h1
  have o1 : decide ((0 : Int) ≤ (j : Int)) = true := decide_eq_true (by omega)
  have o2 : decide ((0 : Int) ≤ ((j + 1 : Nat) : Int)) = true := decide_eq_true (by omega)
  have b1 : Nat.ble j (j + 1) = true := bleT (by omega)
  have b2 : Nat.ble (j + 1) (elR l).length = true := bleT (by omega)
  have ht : tab 34 = some eTI := by kernel_rfl
  have hs : Nat.beq eTI.size 4 = true := beqT eTI_ok.1
  have hd : ((elR l).drop j).take (j + 1 - j) = [elD x] := by
    rw [show j + 1 - j = 1 by omega, List.drop_eq_getElem_cons (by omega), h2]
    simp
  simp only [sliceD, ht, optI, iN, o1, o2, Int.toNat_natCast, hs, b1, b2, Bool.and_self, hd]
/-! ### The loop -/
theorem findL_snoc (a b : UInt8) : ∀ (l : List El) (x : El), findL a b (l ++ [x]) = match findL a b l with
    | some y => some y
    | none => match named a b x with
      | true => some x
      | false => none
  | [], x => by
    show findL a b [x] = _
    unfold findL
    cases named a b x <;> rfl
  | y :: l, x => by
    simp only [List.cons_append, findL]
    cases named a b y with
    | true => rfl
    | false => exact findL_snoc a b l x
/-- the first one found so far, by its index -/
def FdI (l : List El) (a b : UInt8) (f : Int) (pre : List El) : Prop := (f = -1 ∧ findL a b pre = none) ∨ ∃ (k : Nat) (x : El), f = (k : Int) ∧ l[k]? = some x ∧ findL a b pre = some x
theorem named_t {a b i e : UInt8} {d : List UInt8} {s : List El} (h1 : decide (i = a) = true) (h2 : decide (e = b) = true) : named a b (.mk i e d s) = true := by
  show (decide (i = a) && decide (e = b)) = true
  rw [h1, h2]
  rfl
theorem named_f {a b i e : UInt8} {d : List UInt8} {s : List El} (h : decide (i = a) = false ∨ decide (e = b) = false) : named a b (.mk i e d s) = false := by
  show (decide (i = a) && decide (e = b)) = false
  rcases h with h | h <;> rw [h] <;> simp
theorem cFd_al : cFd fAl [] h00 = some (.bool true, h00, none) := orK_left rfl
theorem cFd_gr (hp : Hp) (l : ElA) : cFd fGr [elsD l.1] hp = some (.bool (grB l.1), hp, none) := orK_right rfl (orK_left (cGr_at hp l))
theorem cFd_fi (hp : Hp) (l : List El) (hl : SmL l) (a b : UInt8) : cFd fFi [elsD l, i8 a, i8 b] hp = some (fiD (findL a b l), hp, none) := orK_right rfl (orK_right (lift_oth (eqC_other (by kernel_rfl))) (orK_left (cFi_at hp l hl a b)))
theorem cFd_rm (hp : Hp) (l : List El) (hl : SmL l) (a b : UInt8) : cFd fRm [elsD l, i8 a, i8 b] hp = some (elsD (remL a b l), hp, none) := orK_right rfl (orK_right (lift_oth (eqC_other (by kernel_rfl))) (orK_right (lift_oth (eqC_other (by kernel_rfl))) (orK_left (cRm_at hp l hl a b))))
theorem cFd_sa {hp : Hp} {args : List DV} {r : DV × Hp × Mut} (h : cSz fSa args hp = some r) : cFd fSa args hp = some r := orK_right rfl (orK_right (lift_oth (eqC_other (by kernel_rfl))) (orK_right (lift_oth (eqC_other (by kernel_rfl))) (orK_right (lift_oth (eqC_other (by kernel_rfl))) h)))
theorem fd_loop (l : List El) (hl : SmL l) (a b : UInt8) (x : List DV) (is : Bool) : ∀ (rest pre : List El) (f : Int), l = pre ++ rest → FdI l a b f pre → ∃ f' m, FdI l a b f' l ∧ GoesR Try.prog tab kFd fdL (m + 1) (fdS (elR l) (elR (remL a b l)) a b is f (remL a b pre).length pre.length) (fiH x) (.exit 0) (fdE (elR l) (elR (remL a b l)) is f' (remL a b l).length) (fiH x)
  | [], pre, f, e, hI => by
    rw [List.append_nil] at e
    subst e
    have hn := elR_length l
    exact ⟨f, 0, hI, GoesR.last (zsee_ok tab_ok mixed fun_ok cFd_ok (fdO cFd (elR l) (elR (remL a b l)) x is f (remL a b l).length l.length a b) (.cons (decide_eq_false (by omega)) .nil)) (by intro h; cases h)⟩
  | .mk i y dt s :: rest, pre, f, e, hI => by
    have hn := elR_length l
    have hnr := elR_length (remL a b l)
    have h30 := hl.1
    have hrl := remL_len a b pre
    have hll : l.length = pre.length + (rest.length + 1) := by rw [e]; simp
    have hj : l[pre.length]? = some (.mk i y dt s) := by rw [e]; simp
    have hlt : decide ((pre.length : Int) < ((elR l).length : Int)) = true := decide_eq_true (by omega)
    have hi : idxOk (pre.length : Int) (elR l).length = true := idxOk_lt (by omega)
    have hx := elR_at hj
    have ho : smE (.mk i y dt s) := smL_at hl.2 hj
    have hw : DV.int .i64 (IntKind.i64.wrap ((pre.length : Int) + 1)) = iN (pre.length + 1) := congrArg (DV.int .i64) (wrapI (n := pre.length + 1) (by omega))
    have hw2 : DV.int .i64 (IntKind.i64.wrap (((remL a b pre).length : Int) + 1)) = iN ((remL a b pre).length + 1) := congrArg (DV.int .i64) (wrapI (n := (remL a b pre).length + 1) (by omega))
    have b1 := nx_dec i a
    have b2 := nx_dec y b
    have e2 : l = (pre ++ [.mk i y dt s]) ++ rest := by rw [e, List.append_assoc]; rfl
    have hfs := findL_snoc a b pre (.mk i y dt s)
    have miss : (decide (i = a) = false ∨ decide (y = b) = false) → ∃ f' m, FdI l a b f' l ∧ GoesR Try.prog tab kFd fdL (m + 1) (fdS (elR l) (elR (remL a b l)) a b is f (remL a b pre).length pre.length) (fiH x) (.exit 0) (fdE (elR l) (elR (remL a b l)) is f' (remL a b l).length) (fiH x) := fun hm => by
      have hnm : named a b (.mk i y dt s) = false := named_f hm
      have hr1 : remL a b [.mk i y dt s] = [.mk i y dt s] := by simp only [remL, hnm]
      have hrr : remL a b l = remL a b pre ++ (.mk i y dt s :: remL a b rest) := by
        rw [e, remL_append]
        simp only [remL, hnm]
      have hra : (remL a b l)[(remL a b pre).length]? = some (.mk i y dt s) := by rw [hrr]; simp
      have hlr : (remL a b pre).length < (remL a b l).length := (List.getElem?_eq_some_iff.1 hra).1
      have hI2 : FdI l a b f (pre ++ [.mk i y dt s]) := by
        rcases hI with ⟨h1, h2⟩ | ⟨k, z, h1, h2, h3⟩
        · exact .inl ⟨h1, by rw [hfs, h2, hnm]⟩
        · exact .inr ⟨k, z, h1, h2, by rw [hfs, h3]⟩
      obtain ⟨f', m, hI', g⟩ := fd_loop l hl a b x is rest (pre ++ [.mk i y dt s]) f e2 hI2
      rw [remL_append, hr1, List.length_append, List.length_append] at g
      have hsame := cFd_sa (cSz_at (hp := fiH x) (smL_one ho) (smL_one ho) (frz_list _ 4 _) (frz_list _ 4 _))
      rw [eqB_t rfl] at hsame
      have tail : AskedP (fdT cFd (elR l) (elR (remL a b l)) x (elC i y (by1 dt) (elR s)) (remL a b pre).length pre.length) := .cons (decide_eq_false (by omega)) (.cons hw2 (.cons (slice_el hra) (.cons hw (.cons (slice_el hj) (.cons hsame (.cons hw2 (.cons hw .nil)))))))
      refine ⟨f', m + 1, hI', ?_⟩
      cases q1 : decide (i = a) with
      | false =>
        rw [q1] at b1
        exact GoesR.step (zsee_ok tab_ok mixed fun_ok cFd_ok (fd1 cFd (elR l) (elR (remL a b l)) (by1 dt) (elR s) x is f (remL a b pre).length pre.length i y a b) (.cons hlt (.cons hi (.cons hx (.cons b1 tail))))) g
      | true =>
        rw [q1] at b1
        rw [hm.resolve_left (by rw [q1]; simp)] at b2
        exact GoesR.step (zsee_ok tab_ok mixed fun_ok cFd_ok (fd2 cFd (elR l) (elR (remL a b l)) (by1 dt) (elR s) x is f (remL a b pre).length pre.length i y a b) (.cons hlt (.cons hi (.cons hx (.cons b1 (.cons hi (.cons hx (.cons b2 tail)))))))) g
    cases q1 : decide (i = a) with
    | false => exact miss (.inl q1)
    | true =>
      cases q2 : decide (y = b) with
      | false => exact miss (.inr q2)
      | true =>
        rw [q1] at b1
        rw [q2] at b2
        have hnm : named a b (.mk i y dt s) = true := named_t q1 q2
        have hr1 : remL a b [.mk i y dt s] = [] := by simp only [remL, hnm]
        rcases hI with ⟨rfl, h2⟩ | ⟨k, z, rfl, h2, h3⟩
        · have hI2 : FdI l a b (pre.length : Int) (pre ++ [.mk i y dt s]) := .inr ⟨pre.length, _, rfl, hj, by rw [hfs, h2, hnm]⟩
          obtain ⟨f', m, hI', g⟩ := fd_loop l hl a b x is rest (pre ++ [.mk i y dt s]) (pre.length : Int) e2 hI2
          rw [remL_append, hr1, List.append_nil, List.length_append] at g
          exact ⟨f', m + 1, hI', GoesR.step (zsee_ok tab_ok mixed fun_ok cFd_ok (fd3 cFd (elR l) (elR (remL a b l)) (by1 dt) (elR s) x is (-1) (remL a b pre).length pre.length i y a b) (.cons hlt (.cons hi (.cons hx (.cons b1 (.cons hi (.cons hx (.cons b2 (.cons rfl (.cons hw .nil)))))))))) g⟩
        · have hI2 : FdI l a b (k : Int) (pre ++ [.mk i y dt s]) := .inr ⟨k, z, rfl, h2, by rw [hfs, h3]⟩
          obtain ⟨f', m, hI', g⟩ := fd_loop l hl a b x is rest (pre ++ [.mk i y dt s]) (k : Int) e2 hI2
          rw [remL_append, hr1, List.append_nil, List.length_append] at g
          exact ⟨f', m + 1, hI', GoesR.step (zsee_ok tab_ok mixed fun_ok cFd_ok (fd4 cFd (elR l) (elR (remL a b l)) (by1 dt) (elR s) x is (k : Int) (remL a b pre).length pre.length i y a b) (.cons hlt (.cons hi (.cons hx (.cons b1 (.cons hi (.cons hx (.cons b2 (.cons (decide_eq_false (by omega)) (.cons hw .nil)))))))))) g⟩
/-! ### The law -/
theorem fd_all (x : ElA) (a b : UInt8) : Ans Try.prog fFd [elsD x.1, i8 a, i8 b] (.bool true) ⟨0, [], []⟩ := by
  have hg := cFd_gr h00 x
  obtain ⟨l, hl1, hl2⟩ := x
  cases hq : grB l with
  | true =>
    rw [hq] at hg
    exact zflat_ok tab_ok mixed fun_ok cFd_ok (fdG cFd (elR l) a b) (.cons cFd_al (.cons hg .nil))
  | false =>
    rw [hq] at hg
    obtain ⟨hs, h200⟩ := small_of hl2 hq
    have hn := elR_length l
    have hnr := elR_length (remL a b l)
    have hf := cFd_fi h00 l hs a b
    have hle : (((remL a b l).length : Int) == ((elR (remL a b l)).length : Int)) = true := by rw [hnr]; simp
    cases hfi : findL a b l with
    | none =>
      rw [hfi] at hf
      obtain ⟨f, m, hI, g⟩ := fd_loop l hs a b (elD zEl) false l [] (-1) rfl (.inl ⟨rfl, rfl⟩)
      have hneg : f = -1 := by
        rcases hI with h | ⟨_, _, _, _, h⟩
        · exact h.1
        · rw [hfi] at h; cases h
      subst hneg
      refine zflat_ok tab_ok mixed fun_ok cFd_ok (fdN cFd (elR l) (elR (remL a b l)) a b (remL a b l).length (-1)) (.cons cFd_al (.cons hg (.cons hf (.cons (cFd_rm _ l hs a b) (.cons g.goes (.cons rfl (.cons hle (.cons ?_ .nil))))))))
      exact cFd_sa (cSz_z (frz_one (k := 0) (cs := zC) rfl rfl rfl) (frz_one (k := 0) (cs := zE) rfl rfl rfl))
    | some y =>
      rw [hfi] at hf
      obtain ⟨f, m, hI, g⟩ := fd_loop l hs a b (elD y) true l [] (-1) rfl (.inl ⟨rfl, rfl⟩)
      obtain ⟨i, e, d, s⟩ := y
      obtain ⟨k, z, rfl, hk, hz⟩ : ∃ (k : Nat) (z : El), f = (k : Int) ∧ l[k]? = some z ∧ findL a b l = some z := by
        rcases hI with h | h
        · rw [h.2] at hfi; cases hfi
        · exact h
      rw [hfi] at hz
      cases hz
      have hlt := (List.getElem?_eq_some_iff.1 hk).1
      have ho : smE (.mk i e d s) := smL_at hs.2 hk
      have hsame := cFd_sa (cSz_at (hp := ⟨2, [oEl 0 (elD (.mk i e d s)), oEl 0 (elD (.mk i e d s))], []⟩) (d1 := .sl 1 0 4 1 1) (smL_one ho) (smL_one ho) (frz_one (k := 0) rfl rfl (elD_flat1 _)) (frz_list _ 4 _))
      rw [eqB_t rfl] at hsame
      exact zflat_ok tab_ok mixed fun_ok cFd_ok (fdF cFd (elR l) (elR (remL a b l)) (by1 d) (elR s) a b i e (remL a b l).length k) (.cons cFd_al (.cons hg (.cons hf (.cons (cFd_rm _ l hs a b) (.cons g.goes (.cons (decide_eq_false (by omega)) (.cons hle (.cons (congrArg (DV.int .i64) (wrapI (n := k + 1) (by omega))) (.cons (slice_el hk) (.cons hsame .nil))))))))))
end
end Go.Proofs.Ytkcldejfmmeoaaa
