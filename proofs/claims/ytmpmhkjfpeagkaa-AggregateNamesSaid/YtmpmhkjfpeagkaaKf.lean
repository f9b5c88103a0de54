/- Join: a contract. -/
import Derived.Test.YtmpmhkjfpeagkaaKe
namespace Go.Proofs.Ytmpmhkjfpeagkaa
open Go.RowKit

noncomputable section
theorem nlist_length (n : Nat) (d : DV) : (nlist n [d]).length = n := by
  induction n with
  | zero => rfl
  | succ n ih => simp [nlist, ih]
theorem nlist_zrs (n : Nat) : nlist n [.int .u8 0] = celB (zrs n) := by
  induction n with
  | zero => rfl
  | succ n ih =>
    show DV.int .u8 0 :: nlist n [.int .u8 0] = _
    rw [ih]
    rfl
theorem app_tabZ (hp : Hp) (d : DV) (l : Int) : builtinD tab hp .append [d, .int .i64 l] tyZ = match decide (0 ≤ l) && fitB l.toNat 1 with
    | true => appH hp 5 u8TI d l.toNat (nlist l.toNat [.int .u8 0])
    | false => none := by kernel_rfl
/-- zeros behind a row of one's own -/
theorem app_rowZ {hp : Hp} {id n m : Nat} {o : Ob} (hg : hp.get id = some o) (hk : o.k = 1 ∨ o.k = 3) (ht : o.t = 5) (hn : o.cs.length = n) (hl : n + (m + 1) ≤ 2 ^ 40) :
    builtinD tab hp .append [.sl id 0 1 n n, iN (m + 1)] tyZ = some (.sl hp.n 0 1 (n + (m + 1)) (n + (m + 1)), (hp.put id ⟨2, o.r, o.t, o.cs⟩).push ⟨3, rootOf o.k o.r id, o.t, o.cs ++ celB (zrs (m + 1))⟩, mmin (some (rootOf o.k o.r id)) (some id)) := by
  have hf0 := fitB_le (n := m + 1) (by omega)
  refine (app_tabZ hp _ ((m + 1 : Nat) : Int)).trans ?_
  rw [Int.toNat_natCast, hf0, show decide ((0 : Int) ≤ ((m + 1 : Nat) : Int)) = true from decide_eq_true (by omega), nlist_zrs]
  have hf := fitB_le (n := n + (m + 1)) hl
  have hb : Nat.ble (n + (m + 1)) n = false := bleF (by omega)
  have he : Nat.ble (0 + n * 1) o.cs.length = true := bleT (by omega)
  have hq : Nat.beq (0 + n * 1) o.cs.length = true := beqT (by omega)
  have hte : Nat.beq o.t 5 = true := beqT ht
  show appH hp 5 u8TI (.sl id 0 1 n n) (m + 1) (celB (zrs (m + 1))) = _
  rcases hk with hk | hk
  · simp only [appH, show Nat.beq 1 1 = true from rfl, hg, hb, he, hf, hk, hq, hte, List.drop_zero]
  · simp only [appH, show Nat.beq 1 1 = true from rfl, hg, hb, he, hf, hk, hq, hte, List.drop_zero]
theorem app_noneZ {hp : Hp} {id n : Nat} : builtinD tab hp .append [.sl id 0 1 n n, iN 0] tyZ = some (.sl id 0 1 n n, hp, none) := rfl
theorem lo_ok (n : Nat) : DV.int .u8 (IntKind.u8.wrap (n : Int)) = i8 (loB n) := by
  rw [wrapU rfl, i8, loB, UInt8.toNat_ofNat_of_lt' (Nat.mod_lt _ (by decide))]
  rfl
theorem hi_ok (n : Nat) : DV.int .u8 (IntKind.u8.wrap (shrD .i64 (n : Int) 8)) = i8 (hiB n) := by
  rw [show shrD .i64 (n : Int) 8 = ((n / 2 ^ 8 : Nat) : Int) from shrU (k := .i64) n (n := 8) (by decide), wrapU rfl, i8, hiB, UInt8.toNat_ofNat_of_lt' (Nat.mod_lt _ (by decide))]
  rfl
theorem c8_at {hp : Hp} {id c : Nat} {o : Ob} {a b : UInt8} (hg : hp.get id = some o) (ho : o.cs = [i8 a, i8 b]) : cC8 fC8 [.sl id 0 1 2 c] hp = some (i8 (c8 a b), hp, none) :=
  cC8_at ⟨[a, b], by show 2 < 2 ^ 30; decide⟩ (frz_bytes (bs := [a, b]) hg fun i x hx => by
    rw [ho]
    match i, hx with
    | 0, hx => cases hx; rfl
    | 1, hx => cases hx; rfl)
theorem dl_cel (n : Nat) : dl (loB n) (hiB n) (c8 (loB n) (hiB n)) = celB (dlm n) := rfl
theorem plain_celB (bs : List UInt8) : ∀ x ∈ celB bs, plain x = true := fun x hx => by
  simp only [celB, List.mem_map] at hx
  obtain ⟨c, _, rfl⟩ := hx
  rfl
theorem plain_all {os : List Ob} {n : Nat} (h : ∀ o ∈ os, ∃ bs, o.cs = celB bs) : Plain ⟨n, os, []⟩ := fun id o hg d hd => by
  rw [Hp.get_eq] at hg
  obtain ⟨bs, hb⟩ := h o (List.mem_of_getElem? (by
    have : (⟨n, os, []⟩ : Hp).get id = some o := by rw [Hp.get_eq]; exact hg
    revert hg
    exact fun hg => by split at hg <;> first | exact hg | cases hg))
  exact plain_celB bs d (hb ▸ hd)
theorem plain_hA (n : Nat) (p : List UInt8) : Plain (hA3 (loB n) (hiB n) (c8 (loB n) (hiB n)) (celB p)) := plain_all fun o ho => by
  simp only [List.mem_cons, List.not_mem_nil, or_false] at ho
  rcases ho with rfl | rfl | rfl
  · exact ⟨dlm n ++ p, by rw [celB_append]; rfl⟩
  · exact ⟨dlm n, rfl⟩
  · exact ⟨dlm n, rfl⟩
theorem plain_hB (b : List UInt8) (n : Nat) (p : List UInt8) : Plain (hB4 (celB b) (loB n) (hiB n) (c8 (loB n) (hiB n)) (celB p)) := plain_all fun o ho => by
  simp only [List.mem_cons, List.not_mem_nil, or_false] at ho
  rcases ho with rfl | rfl | rfl | rfl
  · exact ⟨(b ++ dlm n) ++ p, by rw [celB_append, celB_append]; rfl⟩
  · exact ⟨b ++ dlm n, by rw [celB_append]; rfl⟩
  · exact ⟨dlm n, rfl⟩
  · exact ⟨b, rfl⟩
theorem plain_hC (b zb : List UInt8) (n : Nat) (p : List UInt8) : Plain (hC4 (celB b) (celB zb) (loB n) (hiB n) (c8 (loB n) (hiB n)) (celB p)) := plain_all fun o ho => by
  simp only [List.mem_cons, List.not_mem_nil, or_false] at ho
  rcases ho with rfl | rfl | rfl | rfl | rfl
  · exact ⟨((b ++ zb) ++ dlm n) ++ p, by rw [celB_append, celB_append, celB_append]; rfl⟩
  · exact ⟨(b ++ zb) ++ dlm n, by rw [celB_append, celB_append]; rfl⟩
  · exact ⟨dlm n, rfl⟩
  · exact ⟨b ++ zb, by rw [celB_append]⟩
  · exact ⟨b, rfl⟩
def wd (b : List UInt8) : DV := match b with
  | [] => .nil
  | c :: r => .sl 0 0 1 (c :: r).length (c :: r).length
def wh (b : List UInt8) : Hp := match b with
  | [] => h00
  | c :: r => J0 (celB (c :: r))
theorem wd_ne {b : List UInt8} (h : b ≠ []) : wd b = .sl 0 0 1 b.length b.length ∧ wh b = J0 (celB b) := by
  cases b with
  | nil => exact absurd rfl h
  | cons c r => exact ⟨rfl, rfl⟩
theorem jn_ne (l : List (List UInt8)) (p : List UInt8) : jn (l ++ [p]) ≠ [] := fun h => by
  have := jn_len_st l p
  rw [h] at this
  simp at this
  omega
theorem wrM_ok (n : Nat) : wrM n (mis n) := congrArg (DV.int .i64) (misI n)
theorem jn_small {pre : List (List UInt8)} (h : ∀ q ∈ pre, okP q) (h64 : pre.length ≤ 64) : (jn pre).length ≤ 160000 := by
  have h1 := stA_small (l := pre) ⟨h64, h⟩ pre.length
  rw [List.take_length, ← jn_st] at h1
  omega
theorem wr_round {l pre : List (List UInt8)} {p : List UInt8} (hl : l.length ≤ 64) (hj : l[pre.length]? = some p) (hpre : ∀ q ∈ pre, okP q) (hp : okP p) :
    Goes Try.prog tab kWr wrL (wrS (fs1 l) (wd (jn pre)) (fs1 l).length pre.length) (wh (jn pre)) .normal (wrS (fs1 l) (wd (jn (pre ++ [p]))) (fs1 l).length (pre.length + 1)) (wh (jn (pre ++ [p]))) := by
  have hn := fs1_length l
  have hk := (List.getElem?_eq_some_iff.1 hj).1
  have hsm := jn_small hpre (by omega)
  obtain ⟨w1, w2⟩ := wd_ne (jn_ne pre p)
  rw [w1, w2]
  have hlt : decide ((pre.length : Int) < ((fs1 l).length : Int)) = true := decide_eq_true (by omega)
  have hi : idxOk (pre.length : Int) (fs1 l).length = true := idxOk_lt (by omega)
  have hx := fs1_nth hj
  have hw : wrK pre.length := congrArg (DV.int .i64) (wrapI (n := pre.length + 1) (by omega))
  have hp1 := hp.1
  have hp2 := hp.2
  have d1 : (((by1 p).length : Int) == 0) = false := by rw [by1_length]; exact beq_false_of_ne (by omega)
  have d2 : decide (((by1 p).length : Int) > 2400) = false := decide_eq_false (by rw [by1_length]; omega)
  have d3 : DV.int .u8 (IntKind.u8.wrap ((by1 p).length : Int)) = i8 (loB p.length) := by rw [by1_length]; exact lo_ok _
  have d4 : DV.int .u8 (IntKind.u8.wrap (shrD .i64 ((by1 p).length : Int) 8)) = i8 (hiB p.length) := by rw [by1_length]; exact hi_ok _
  have hlen := jn_len_snoc pre p
  have heq : jn (pre ++ [p]) = ((jn pre ++ zrs (mis (jn pre).length)) ++ dlm p.length) ++ p := by rw [jn_snoc, ent, List.append_assoc]; simp
  obtain ⟨n, hN⟩ : ∃ n, n = p.length := ⟨_, rfl⟩
  obtain ⟨c, r, hcr⟩ : ∃ c r, p = c :: r := by
    cases p with
    | nil => simp at hp1
    | cons c r => exact ⟨c, r, rfl⟩
  have hrn : n = r.length + 1 := by rw [hN, hcr]; rfl
  by_cases hb : jn pre = []
  · rw [hb] at hlen heq ⊢
    have e0 : jn (pre ++ [p]) = dlm p.length ++ p := by rw [heq]; rfl
    have z := zgc_ok tab_ok mixed fun_ok cC8_ok (wr1 (fs1 l) (by1 p) (fs1 l).length pre.length (jn (pre ++ [p])).length (loB p.length) (hiB p.length) (c8 (loB p.length) (hiB p.length)) (celB p)) (.cons (plain_hA _ _) (.cons hlt (.cons hi (.cons hx (.cons d1 (.cons d2 (.cons d3 (.cons d4 (.cons (c8_at (o := oR 0 [i8 (loB p.length), i8 (hiB p.length)]) rfl rfl) (.cons ?_ (.cons hw .nil)))))))))))
    · rw [show dl (loB p.length) (hiB p.length) (c8 (loB p.length) (hiB p.length)) ++ celB p = celB (jn (pre ++ [p])) by rw [e0, celB_append]; rfl] at z
      exact z
    · have hL : (jn (pre ++ [p])).length = 4 + (r.length + 1) := by rw [hlen]; show 0 + 0 + (4 + p.length) = _; omega
      rw [hL]
      subst hcr
      exact app_row (hp := hA2 _ _ _) (id := 1) (n := 4) (m := r.length) (o := oR 1 (dl _ _ _)) rfl (.inl rfl) rfl rfl (contD_list _ (c :: r)) (by omega)
  · obtain ⟨w3, w4⟩ := wd_ne hb
    rw [w3, w4]
    cases hz : mis (jn pre).length with
    | zero =>
      rw [hz] at heq hlen
      have hL : (jn (pre ++ [p])).length = (jn pre).length + 4 + (r.length + 1) := by rw [hlen]; omega
      have hM : wrM (jn pre).length 0 := by rw [← hz]; exact wrM_ok _
      have z := zgc_ok tab_ok mixed fun_ok cC8_ok (wr2 (fs1 l) (by1 p) (fs1 l).length pre.length (jn pre).length (jn (pre ++ [p])).length (loB p.length) (hiB p.length) (c8 (loB p.length) (hiB p.length)) (celB (jn pre)) (celB p)) (.cons (plain_hB _ _ _) (.cons hlt (.cons hi (.cons hx (.cons hM (.cons d1 (.cons d2 (.cons d3 (.cons d4 (.cons (c8_at (o := oR 0 [i8 (loB p.length), i8 (hiB p.length)]) rfl rfl) (.cons ?_ (.cons ?_ (.cons hw .nil)))))))))))))
      · rw [show (celB (jn pre) ++ dl (loB p.length) (hiB p.length) (c8 (loB p.length) (hiB p.length))) ++ celB p = celB (jn (pre ++ [p])) by
          rw [heq, celB_append, celB_append, celB_append]
          show _ = ((celB (jn pre) ++ []) ++ _) ++ _
          rw [List.append_nil]
          rfl] at z
        exact z
      · exact app_row (hp := hB2 _ _ _ _) (id := 0) (n := (jn pre).length) (m := 3) (o := oR 1 (celB (jn pre))) rfl (.inl rfl) rfl (celB_length _) rfl (by omega)
      · rw [hL]
        subst hcr
        exact app_row (hp := hB3 _ _ _ _) (id := 2) (n := (jn pre).length + 4) (m := r.length) (o := oR 3 (celB (jn pre) ++ dl _ _ _)) rfl (.inr rfl) rfl (by simp [celB_length]) (contD_list _ (c :: r)) (by omega)
    | succ z' =>
      rw [hz] at heq hlen
      have hz3 : z' + 1 ≤ 3 := by rw [← hz]; unfold mis; omega
      have hL : (jn (pre ++ [p])).length = (jn pre).length + (z' + 1) + 4 + (r.length + 1) := by rw [hlen]; omega
      have hM : wrM (jn pre).length (z' + 1) := by rw [← hz]; exact wrM_ok _
      have z := zgc_ok tab_ok mixed fun_ok cC8_ok (wr3 (fs1 l) (by1 p) (fs1 l).length pre.length (jn pre).length (z' + 1) ((jn pre).length + (z' + 1)) (jn (pre ++ [p])).length (loB p.length) (hiB p.length) (c8 (loB p.length) (hiB p.length)) (celB (jn pre)) (celB (zrs (z' + 1))) (celB p)) (.cons (plain_hC _ _ _ _) (.cons hlt (.cons hi (.cons hx (.cons hM (.cons ?_ (.cons d1 (.cons d2 (.cons d3 (.cons d4 (.cons (c8_at (o := oR 0 [i8 (loB p.length), i8 (hiB p.length)]) rfl rfl) (.cons ?_ (.cons ?_ (.cons hw .nil))))))))))))))
      · rw [show ((celB (jn pre) ++ celB (zrs (z' + 1))) ++ dl (loB p.length) (hiB p.length) (c8 (loB p.length) (hiB p.length))) ++ celB p = celB (jn (pre ++ [p])) by
          rw [heq, celB_append, celB_append, celB_append]
          rfl] at z
        exact z
      · exact app_rowZ (hp := J0 _) (id := 0) (n := (jn pre).length) (m := z') (o := oR 1 (celB (jn pre))) rfl (.inl rfl) rfl (celB_length _) (by omega)
      · exact app_row (hp := hC2 _ _ _ _ _) (id := 1) (n := (jn pre).length + (z' + 1)) (m := 3) (o := oR 3 (celB (jn pre) ++ celB (zrs (z' + 1)))) rfl (.inr rfl) rfl (by simp [celB_length, zrs_length]) rfl (by omega)
      · rw [hL]
        subst hcr
        exact app_row (hp := hC3 _ _ _ _ _) (id := 3) (n := (jn pre).length + (z' + 1) + 4) (m := r.length) (o := oR 3 ((celB (jn pre) ++ celB (zrs (z' + 1))) ++ dl _ _ _)) rfl (.inr rfl) rfl (by simp [celB_length, zrs_length]; omega) (contD_list _ (c :: r)) (by omega)
end
end Go.Proofs.Ytmpmhkjfpeagkaa
