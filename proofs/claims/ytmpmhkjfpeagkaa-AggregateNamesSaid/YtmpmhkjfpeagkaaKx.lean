/- Pack: a contract. -/
import Derived.Test.YtmpmhkjfpeagkaaKw
namespace Go.Proofs.Ytmpmhkjfpeagkaa
open Go.RowKit

noncomputable section
/-! ### The packed form -/
def ltP (p : Pk) : List UInt8 := [p.t0, p.t1, p.t2, p.t3, p.t4, p.t5]
def lfP (p : Pk) : List UInt8 := [p.f0, p.f1, p.f2, p.f3, p.f4, p.f5]
def pent (p : Pk) : List UInt8 := ((ltP p ++ lfP p) ++ [loB p.d.length, hiB p.d.length]) ++ p.d
def jpstep (b : List UInt8) (p : Pk) : List UInt8 := (b ++ zrs (mis b.length)) ++ pent p
def jnP (l : List Pk) : List UInt8 := l.foldl jpstep []
def celL (p : Pk) : List UInt8 := (ltP p ++ lfP p) ++ [0, 0]
def celM (p : Pk) : List UInt8 := (ltP p ++ lfP p) ++ [loB p.d.length, hiB p.d.length]
theorem pent_length (p : Pk) : (pent p).length = 14 + p.d.length := by simp [pent, ltP, lfP]; omega
theorem jnP_snoc (l : List Pk) (p : Pk) : jnP (l ++ [p]) = (jnP l ++ zrs (mis (jnP l).length)) ++ pent p := by simp [jnP, jpstep]
theorem jnP_len_snoc (l : List Pk) (p : Pk) : (jnP (l ++ [p])).length = (jnP l).length + mis (jnP l).length + (14 + p.d.length) := by
  rw [jnP_snoc, List.length_append, List.length_append, zrs_length, pent_length]
def okK (p : Pk) : Prop := p.f0.toNat % 2 = 0 ∧ p.d.length ≤ 1500
theorem jnP_small : ∀ {l : List Pk}, (∀ q ∈ l, okK q) → (jnP l).length ≤ l.length * 1517 := by
  intro l
  refine snoc_ind (P := fun l => (∀ q ∈ l, okK q) → (jnP l).length ≤ l.length * 1517) (fun _ => Nat.le_refl _) (fun l p ih h => ?_) l
  have h1 := ih fun q hq => h q (List.mem_append_left _ hq)
  have h2 := (h p (List.mem_append_right _ (List.mem_singleton.2 rfl))).2
  have h3 : mis (jnP l).length ≤ 3 := by unfold mis; omega
  rw [jnP_len_snoc, List.length_append, List.length_singleton, Nat.succ_mul]
  omega
theorem jnP_ne (l : List Pk) (p : Pk) : jnP (l ++ [p]) ≠ [] := fun h => by
  have := jnP_len_snoc l p
  rw [h] at this
  simp at this
  omega
theorem gr_ok (f : UInt8) : (bitD .and .u8 (f.toNat : Int) 1 != 0) = decide (f.toNat % 2 = 1) := by
  have h := UInt8.toNat_lt f
  rw [show (1 : Int) = ((1 : Nat) : Int) from rfl, andU rfl (by show f.toNat < 2 ^ 8; omega) (by decide), Nat.and_one_is_mod]
  have h2 : f.toNat % 2 < 2 := Nat.mod_lt _ (by decide)
  match f.toNat % 2, h2 with
  | 0, _ => rfl
  | 1, _ => rfl
theorem gr_no {p : Pk} (h : okK p) : grP p.f0 false := by
  unfold grP
  rw [gr_ok]
  exact decide_eq_false (by have := h.1; omega)
theorem celB_flat (bs : List UInt8) : ∀ d ∈ celB bs, flat0 d = true := fun d hd => by
  simp only [celB, List.mem_map] at hd
  obtain ⟨c, _, rfl⟩ := hd
  rfl
theorem flat_row {h : Hp} {i : Nat} {o : Ob} {bs : List UInt8} (hg : h.get i = some o) (ho : o.cs = celB bs) : FlatIn [i] h := by
  intro id o' hid hg' a ha
  obtain rfl : id = i := List.mem_singleton.1 hid
  rw [hg] at hg'
  cases hg'
  rw [ho] at ha
  exact celB_flat bs a ha
theorem pw_round {l pre : List Pk} {p : Pk} (hl : l.length ≤ 32) (hj : l[pre.length]? = some p) (hpre : ∀ q ∈ pre, okK q) (hp : okK p) :
    Goes Try.prog tab kPw pwL (pwS (pkR l) (wd (jnP pre)) (pkR l).length pre.length) (wh (jnP pre)) .normal (pwS (pkR l) (wd (jnP (pre ++ [p]))) (pkR l).length (pre.length + 1)) (wh (jnP (pre ++ [p]))) := by
  have hn := pkR_length l
  have hk := (List.getElem?_eq_some_iff.1 hj).1
  have hsm := jnP_small hpre
  have hsm2 : pre.length * 1517 ≤ 32 * 1517 := Nat.mul_le_mul_right _ (by omega)
  obtain ⟨w1, w2⟩ := wd_ne (jnP_ne pre p)
  rw [w1, w2]
  have hlt : decide ((pre.length : Int) < ((pkR l).length : Int)) = true := decide_eq_true (by omega)
  have hi : idxOk (pre.length : Int) (pkR l).length = true := idxOk_lt (by omega)
  have hx := pkR_nth hj
  have hw : wrK pre.length := congrArg (DV.int .i64) (wrapI (n := pre.length + 1) (by omega))
  have g0 := gr_no hp
  have hp2 := hp.2
  have d2 : decide (((by1 p.d).length : Int) > 1500) = false := decide_eq_false (by rw [by1_length]; omega)
  have d3 : DV.int .u8 (IntKind.u8.wrap ((by1 p.d).length : Int)) = i8 (loB p.d.length) := by rw [by1_length]; exact lo_ok _
  have d4 : DV.int .u8 (IntKind.u8.wrap (shrD .i64 ((by1 p.d).length : Int) 8)) = i8 (hiB p.d.length) := by rw [by1_length]; exact hi_ok _
  have hlen := jnP_len_snoc pre p
  have heq := jnP_snoc pre p
  have hMz := wrM_ok (jnP pre).length
  cases hd : p.d with
  | nil =>
    have e0 : pent p = celL p := by unfold pent celL; rw [hd]; simp [loB, hiB]
    have xx : nth (pkR l) ((pre.length : Int).toNat) = some (pkc p.t0 p.t1 p.t2 p.t3 p.t4 p.t5 p.f0 p.f1 p.f2 p.f3 p.f4 p.f5 []) := by rw [hx]; unfold pkD; rw [hd]; rfl
    rw [hd] at hlen
    simp only [List.length_nil, Nat.add_zero] at hlen
    by_cases hb : jnP pre = []
    · rw [hb] at hlen heq ⊢
      have e1 : jnP (pre ++ [p]) = celL p := by rw [heq, e0]; rfl
      have z := zgm_ok tab_ok mixed fun_ok noC_ok (qA (pkR l) (pkR l).length pre.length p.t0 p.t1 p.t2 p.t3 p.t4 p.t5 p.f0 p.f1 p.f2 p.f3 p.f4 p.f5) (.cons (flat_row (bs := celL p) rfl rfl) (.cons hlt (.cons hi (.cons xx (.cons g0 (.cons hw .nil))))))
      rw [e1]
      exact z
    · obtain ⟨w3, w4⟩ := wd_ne hb
      rw [w3, w4]
      cases hz : mis (jnP pre).length with
      | zero =>
        rw [hz] at hlen heq hMz
        have e1 : jnP (pre ++ [p]) = jnP pre ++ celL p := by rw [heq, e0]; simp [zrs]
        have z := zgm_ok tab_ok mixed fun_ok noC_ok (qB (pkR l) (pkR l).length pre.length (jnP pre).length (celB (jnP pre)) p.t0 p.t1 p.t2 p.t3 p.t4 p.t5 p.f0 p.f1 p.f2 p.f3 p.f4 p.f5) (.cons (flat_row (bs := jnP pre ++ celL p) rfl (by simp [celB, celL, ltP, lfP])) (.cons hlt (.cons hi (.cons xx (.cons hMz (.cons g0 (.cons ?_ (.cons ?_ (.cons ?_ (.cons ?_ (.cons ?_ (.cons hw .nil))))))))))))
        · rw [show (((celB (jnP pre)) ++ aA p.t0 p.t1 p.t2 p.t3 p.t4 p.t5) ++ aA p.f0 p.f1 p.f2 p.f3 p.f4 p.f5) ++ [i8 0, i8 0] = celB (jnP (pre ++ [p])) by rw [e1]; simp [celB, celL, ltP, lfP], show (((jnP pre).length + 6) + 6) + 2 = (jnP (pre ++ [p])).length by omega] at z
          exact z
        · exact app_row (id := 0) (n := (jnP pre).length) (m := 5) (o := oR 1 (celB (jnP pre))) rfl (.inl rfl) rfl (celB_length _) (by kernel_rfl) (by omega)
        · exact app_row (id := 3) (n := (jnP pre).length + 6) (m := 5) (o := oR 3 (celB (jnP pre) ++ aA p.t0 p.t1 p.t2 p.t3 p.t4 p.t5)) rfl (.inr rfl) rfl (by simp [celB_length]) (by kernel_rfl) (by omega)
        · exact app_row (id := 0) (n := (jnP pre).length) (m := 5) (o := oR 1 (celB (jnP pre))) rfl (.inl rfl) rfl (celB_length _) (by kernel_rfl) (by omega)
        · exact app_row (id := 3) (n := (jnP pre).length + 6) (m := 5) (o := oR 3 (celB (jnP pre) ++ aA p.t0 p.t1 p.t2 p.t3 p.t4 p.t5)) rfl (.inr rfl) rfl (by simp [celB_length]) (by kernel_rfl) (by omega)
        · exact app_row (id := 4) (n := ((jnP pre).length + 6) + 6) (m := 1) (o := oR 3 ((celB (jnP pre) ++ aA p.t0 p.t1 p.t2 p.t3 p.t4 p.t5) ++ aA p.f0 p.f1 p.f2 p.f3 p.f4 p.f5)) rfl (.inr rfl) rfl (by simp [celB_length]) (by kernel_rfl) (by omega)
      | succ z' =>
        rw [hz] at hlen heq hMz
        have hz3 : z' + 1 ≤ 3 := by rw [← hz]; unfold mis; omega
        have e1 : jnP (pre ++ [p]) = (jnP pre ++ zrs (z' + 1)) ++ celL p := by rw [heq, e0]
        have z := zgm_ok tab_ok mixed fun_ok noC_ok (qC (pkR l) (pkR l).length pre.length (jnP pre).length (celB (jnP pre)) (z' + 1) ((jnP pre).length + (z' + 1)) (celB (zrs (z' + 1))) p.t0 p.t1 p.t2 p.t3 p.t4 p.t5 p.f0 p.f1 p.f2 p.f3 p.f4 p.f5) (.cons (flat_row (bs := (jnP pre ++ zrs (z' + 1)) ++ celL p) rfl (by simp [celB, celL, ltP, lfP])) (.cons hlt (.cons hi (.cons xx (.cons hMz (.cons ?_ (.cons g0 (.cons ?_ (.cons ?_ (.cons ?_ (.cons ?_ (.cons ?_ (.cons hw .nil)))))))))))))
        · rw [show (((celB (jnP pre) ++ celB (zrs (z' + 1))) ++ aA p.t0 p.t1 p.t2 p.t3 p.t4 p.t5) ++ aA p.f0 p.f1 p.f2 p.f3 p.f4 p.f5) ++ [i8 0, i8 0] = celB (jnP (pre ++ [p])) by rw [e1]; simp [celB, celL, ltP, lfP], show ((((jnP pre).length + (z' + 1)) + 6) + 6) + 2 = (jnP (pre ++ [p])).length by omega] at z
          exact z
        · exact app_rowZ (id := 0) (n := (jnP pre).length) (m := z') (o := oR 1 (celB (jnP pre))) rfl (.inl rfl) rfl (celB_length _) (by omega)
        · exact app_row (id := 2) (n := (jnP pre).length + (z' + 1)) (m := 5) (o := oR 3 (celB (jnP pre) ++ celB (zrs (z' + 1)))) rfl (.inr rfl) rfl (by simp [celB_length, zrs_length]) (by kernel_rfl) (by omega)
        · exact app_row (id := 4) (n := ((jnP pre).length + (z' + 1)) + 6) (m := 5) (o := oR 3 ((celB (jnP pre) ++ celB (zrs (z' + 1))) ++ aA p.t0 p.t1 p.t2 p.t3 p.t4 p.t5)) rfl (.inr rfl) rfl (by simp [celB_length, zrs_length]; omega) (by kernel_rfl) (by omega)
        · exact app_row (id := 2) (n := (jnP pre).length + (z' + 1)) (m := 5) (o := oR 3 (celB (jnP pre) ++ celB (zrs (z' + 1)))) rfl (.inr rfl) rfl (by simp [celB_length, zrs_length]) (by kernel_rfl) (by omega)
        · exact app_row (id := 4) (n := ((jnP pre).length + (z' + 1)) + 6) (m := 5) (o := oR 3 ((celB (jnP pre) ++ celB (zrs (z' + 1))) ++ aA p.t0 p.t1 p.t2 p.t3 p.t4 p.t5)) rfl (.inr rfl) rfl (by simp [celB_length, zrs_length]; omega) (by kernel_rfl) (by omega)
        · exact app_row (id := 5) (n := (((jnP pre).length + (z' + 1)) + 6) + 6) (m := 1) (o := oR 3 (((celB (jnP pre) ++ celB (zrs (z' + 1))) ++ aA p.t0 p.t1 p.t2 p.t3 p.t4 p.t5) ++ aA p.f0 p.f1 p.f2 p.f3 p.f4 p.f5)) rfl (.inr rfl) rfl (by simp [celB_length, zrs_length]; omega) (by kernel_rfl) (by omega)
  | cons c r =>
    obtain ⟨n, hN⟩ : ∃ n, n = p.d.length := ⟨_, rfl⟩
    have hrn : n = r.length + 1 := by rw [hN, hd]; rfl
    have hcd : contD h00 1 (byL p.d) = some (r.length + 1, celB p.d) := by rw [contD_list, hd]; rfl
    have e0 : pent p = celM p ++ p.d := rfl
    by_cases hb : jnP pre = []
    · rw [hb] at hlen heq ⊢
      have e1 : jnP (pre ++ [p]) = celM p ++ p.d := by rw [heq, e0]; rfl
      have z := zgm_ok tab_ok mixed fun_ok noC_ok (pA (pkR l) (by1 p.d) (pkR l).length pre.length (loB p.d.length) (hiB p.d.length) (celB p.d) (jnP (pre ++ [p])).length p.t0 p.t1 p.t2 p.t3 p.t4 p.t5 p.f0 p.f1 p.f2 p.f3 p.f4 p.f5) (.cons (flat_row (bs := celM p ++ p.d) rfl (by simp [celB, celM, ltP, lfP])) (.cons hlt (.cons hi (.cons hx (.cons g0 (.cons d2 (.cons d3 (.cons d4 (.cons ?_ (.cons hw .nil))))))))))
      · rw [show ((aA p.t0 p.t1 p.t2 p.t3 p.t4 p.t5 ++ aA p.f0 p.f1 p.f2 p.f3 p.f4 p.f5) ++ [i8 (loB p.d.length), i8 (hiB p.d.length)]) ++ celB p.d = celB (jnP (pre ++ [p])) by rw [e1]; simp [celB, celM, ltP, lfP]] at z
        exact z
      · have hL : (jnP (pre ++ [p])).length = 14 + (r.length + 1) := by rw [hlen]; show 0 + 0 + (14 + p.d.length) = _; omega
        rw [hL]
        exact app_row (id := 5) (n := 14) (m := r.length) (o := ⟨3, 2, 5, (aA p.t0 p.t1 p.t2 p.t3 p.t4 p.t5 ++ aA p.f0 p.f1 p.f2 p.f3 p.f4 p.f5) ++ [i8 (loB p.d.length), i8 (hiB p.d.length)]⟩) rfl (.inr rfl) rfl rfl hcd (by omega)
    · obtain ⟨w3, w4⟩ := wd_ne hb
      rw [w3, w4]
      cases hz : mis (jnP pre).length with
      | zero =>
        rw [hz] at hlen heq hMz
        have e1 : jnP (pre ++ [p]) = (jnP pre ++ celM p) ++ p.d := by rw [heq, e0]; simp [zrs]
        have z := zgm_ok tab_ok mixed fun_ok noC_ok (pB (pkR l) (by1 p.d) (pkR l).length pre.length (jnP pre).length (celB (jnP pre)) (loB p.d.length) (hiB p.d.length) (celB p.d) (jnP (pre ++ [p])).length p.t0 p.t1 p.t2 p.t3 p.t4 p.t5 p.f0 p.f1 p.f2 p.f3 p.f4 p.f5) (.cons (flat_row (bs := (jnP pre ++ celM p) ++ p.d) rfl (by simp [celB, celM, ltP, lfP])) (.cons hlt (.cons hi (.cons hx (.cons hMz (.cons g0 (.cons d2 (.cons ?_ (.cons ?_ (.cons ?_ (.cons ?_ (.cons d3 (.cons d4 (.cons ?_ (.cons ?_ (.cons hw .nil))))))))))))))))
        · rw [show ((((celB (jnP pre)) ++ aA p.t0 p.t1 p.t2 p.t3 p.t4 p.t5) ++ aA p.f0 p.f1 p.f2 p.f3 p.f4 p.f5) ++ [i8 (loB p.d.length), i8 (hiB p.d.length)]) ++ celB p.d = celB (jnP (pre ++ [p])) by rw [e1]; simp [celB, celM, ltP, lfP]] at z
          exact z
        · exact app_row (id := 0) (n := (jnP pre).length) (m := 5) (o := oR 1 (celB (jnP pre))) rfl (.inl rfl) rfl (celB_length _) (by kernel_rfl) (by omega)
        · exact app_row (id := 3) (n := (jnP pre).length + 6) (m := 5) (o := oR 3 (celB (jnP pre) ++ aA p.t0 p.t1 p.t2 p.t3 p.t4 p.t5)) rfl (.inr rfl) rfl (by simp [celB_length]) (by kernel_rfl) (by omega)
        · exact app_row (id := 0) (n := (jnP pre).length) (m := 5) (o := oR 1 (celB (jnP pre))) rfl (.inl rfl) rfl (celB_length _) (by kernel_rfl) (by omega)
        · exact app_row (id := 3) (n := (jnP pre).length + 6) (m := 5) (o := oR 3 (celB (jnP pre) ++ aA p.t0 p.t1 p.t2 p.t3 p.t4 p.t5)) rfl (.inr rfl) rfl (by simp [celB_length]) (by kernel_rfl) (by omega)
        · exact app_row (id := 4) (n := ((jnP pre).length + 6) + 6) (m := 1) (o := oR 3 ((celB (jnP pre) ++ aA p.t0 p.t1 p.t2 p.t3 p.t4 p.t5) ++ aA p.f0 p.f1 p.f2 p.f3 p.f4 p.f5)) rfl (.inr rfl) rfl (by simp [celB_length]) (by kernel_rfl) (by omega)
        · have hL : (jnP (pre ++ [p])).length = ((((jnP pre).length + 6) + 6) + 2) + (r.length + 1) := by rw [hlen]; omega
          rw [hL]
          exact app_row (id := 6) (n := (((jnP pre).length + 6) + 6) + 2) (m := r.length) (o := oR 3 (((celB (jnP pre) ++ aA p.t0 p.t1 p.t2 p.t3 p.t4 p.t5) ++ aA p.f0 p.f1 p.f2 p.f3 p.f4 p.f5) ++ [i8 (loB p.d.length), i8 (hiB p.d.length)])) rfl (.inr rfl) rfl (by simp [celB_length]) hcd (by omega)
      | succ z' =>
        rw [hz] at hlen heq hMz
        have hz3 : z' + 1 ≤ 3 := by rw [← hz]; unfold mis; omega
        have e1 : jnP (pre ++ [p]) = ((jnP pre ++ zrs (z' + 1)) ++ celM p) ++ p.d := by rw [heq, e0]; simp
        have z := zgm_ok tab_ok mixed fun_ok noC_ok (pC (pkR l) (by1 p.d) (pkR l).length pre.length (jnP pre).length (celB (jnP pre)) (z' + 1) ((jnP pre).length + (z' + 1)) (celB (zrs (z' + 1))) (loB p.d.length) (hiB p.d.length) (celB p.d) (jnP (pre ++ [p])).length p.t0 p.t1 p.t2 p.t3 p.t4 p.t5 p.f0 p.f1 p.f2 p.f3 p.f4 p.f5) (.cons (flat_row (bs := ((jnP pre ++ zrs (z' + 1)) ++ celM p) ++ p.d) rfl (by simp [celB, celM, ltP, lfP])) (.cons hlt (.cons hi (.cons hx (.cons hMz (.cons ?_ (.cons g0 (.cons d2 (.cons ?_ (.cons ?_ (.cons ?_ (.cons ?_ (.cons d3 (.cons d4 (.cons ?_ (.cons ?_ (.cons hw .nil)))))))))))))))))
        · rw [show ((((celB (jnP pre) ++ celB (zrs (z' + 1))) ++ aA p.t0 p.t1 p.t2 p.t3 p.t4 p.t5) ++ aA p.f0 p.f1 p.f2 p.f3 p.f4 p.f5) ++ [i8 (loB p.d.length), i8 (hiB p.d.length)]) ++ celB p.d = celB (jnP (pre ++ [p])) by rw [e1]; simp [celB, celM, ltP, lfP]] at z
          exact z
        · exact app_rowZ (id := 0) (n := (jnP pre).length) (m := z') (o := oR 1 (celB (jnP pre))) rfl (.inl rfl) rfl (celB_length _) (by omega)
        · exact app_row (id := 2) (n := (jnP pre).length + (z' + 1)) (m := 5) (o := oR 3 (celB (jnP pre) ++ celB (zrs (z' + 1)))) rfl (.inr rfl) rfl (by simp [celB_length, zrs_length]) (by kernel_rfl) (by omega)
        · exact app_row (id := 4) (n := ((jnP pre).length + (z' + 1)) + 6) (m := 5) (o := oR 3 ((celB (jnP pre) ++ celB (zrs (z' + 1))) ++ aA p.t0 p.t1 p.t2 p.t3 p.t4 p.t5)) rfl (.inr rfl) rfl (by simp [celB_length, zrs_length]; omega) (by kernel_rfl) (by omega)
        · exact app_row (id := 2) (n := (jnP pre).length + (z' + 1)) (m := 5) (o := oR 3 (celB (jnP pre) ++ celB (zrs (z' + 1)))) rfl (.inr rfl) rfl (by simp [celB_length, zrs_length]) (by kernel_rfl) (by omega)
        · exact app_row (id := 4) (n := ((jnP pre).length + (z' + 1)) + 6) (m := 5) (o := oR 3 ((celB (jnP pre) ++ celB (zrs (z' + 1))) ++ aA p.t0 p.t1 p.t2 p.t3 p.t4 p.t5)) rfl (.inr rfl) rfl (by simp [celB_length, zrs_length]; omega) (by kernel_rfl) (by omega)
        · exact app_row (id := 5) (n := (((jnP pre).length + (z' + 1)) + 6) + 6) (m := 1) (o := oR 3 (((celB (jnP pre) ++ celB (zrs (z' + 1))) ++ aA p.t0 p.t1 p.t2 p.t3 p.t4 p.t5) ++ aA p.f0 p.f1 p.f2 p.f3 p.f4 p.f5)) rfl (.inr rfl) rfl (by simp [celB_length, zrs_length]; omega) (by kernel_rfl) (by omega)
        · have hL : (jnP (pre ++ [p])).length = (((((jnP pre).length + (z' + 1)) + 6) + 6) + 2) + (r.length + 1) := by rw [hlen]; omega
          rw [hL]
          exact app_row (id := 7) (n := ((((jnP pre).length + (z' + 1)) + 6) + 6) + 2) (m := r.length) (o := oR 3 ((((celB (jnP pre) ++ celB (zrs (z' + 1))) ++ aA p.t0 p.t1 p.t2 p.t3 p.t4 p.t5) ++ aA p.f0 p.f1 p.f2 p.f3 p.f4 p.f5) ++ [i8 (loB p.d.length), i8 (hiB p.d.length)])) rfl (.inr rfl) rfl (by simp [celB_length, zrs_length]; omega) hcd (by omega)
end
end Go.Proofs.Ytmpmhkjfpeagkaa
