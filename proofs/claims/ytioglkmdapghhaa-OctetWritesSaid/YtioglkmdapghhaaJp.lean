/- Join's contract: the loops. -/
import Derived.Test.YtioglkmdapghhaaJo
namespace Go.Proofs.Ytioglkmdapghhaa
open Go.RowKit

noncomputable section
abbrev lo8 (n : Nat) : UInt8 := UInt8.ofNat (n % 256)
abbrev hi8 (n : Nat) : UInt8 := UInt8.ofNat (n / 256)
/-- one field, joined -/
def jf (f : List UInt8) : List UInt8 := [lo8 f.length, hi8 f.length] ++ f
def joinB (fs : List (List UInt8)) : List UInt8 := fs.flatMap jf
theorem jf_length (f : List UInt8) : (jf f).length = f.length + 2 := by simp [jf]
theorem joinB_cons (f : List UInt8) (fs : List (List UInt8)) : joinB (f :: fs) = jf f ++ joinB fs := by simp [joinB]
theorem joinB_append (fs gs : List (List UInt8)) : joinB (fs ++ gs) = joinB fs ++ joinB gs := by simp [joinB]
def szs (fs : List (List UInt8)) : Nat := (joinB fs).length
theorem take_snoc {α : Type} {l : List α} {k : Nat} {x : α} (h : l[k]? = some x) : l.take (k + 1) = l.take k ++ [x] := by
  rw [List.take_add_one, h]
  rfl
theorem szs_step {fs : List (List UInt8)} {k : Nat} {f : List UInt8} (h : fs[k]? = some f) : szs (fs.take (k + 1)) = szs (fs.take k) + (f.length + 2) := by
  rw [take_snoc h, szs, joinB_append, List.length_append]
  simp [joinB, jf_length, szs]
theorem szs_le {fs : List (List UInt8)} : ∀ (k : Nat), (∀ f ∈ fs.take k, f.length ≤ 65535) → szs (fs.take k) ≤ 65537 * k
  | 0, _ => by simp [szs, joinB]
  | k + 1, h => by
    cases hf : fs[k]? with
    | none =>
      have : fs.length ≤ k := List.getElem?_eq_none_iff.1 hf
      have e : fs.take (k + 1) = fs.take k := by rw [List.take_of_length_le (by omega), List.take_of_length_le this]
      rw [e] at h ⊢
      have := szs_le k h
      omega
    | some f =>
      rw [take_snoc hf] at h
      have h1 := szs_le k fun x hx => h x (List.mem_append_left _ hx)
      have h2 := h f (List.mem_append_right _ (List.mem_singleton.2 rfl))
      rw [szs_step hf]
      omega
theorem plain_of {hp : Hp} (h : ∀ o ∈ hp.l, ∀ d ∈ o.cs, plain d = true) : Plain hp := fun id o hg d hd => by
  rw [Hp.get_eq] at hg
  split at hg
  · exact h o (List.mem_of_getElem? hg) d hd
  · cases hg
theorem plain_cel {bs : List UInt8} : ∀ d ∈ celB bs, plain d = true := by
  intro d hd
  simp only [celB, List.mem_map] at hd
  obtain ⟨c, _, rfl⟩ := hd
  rfl
theorem plain_one (c : UInt8) : ∀ d ∈ [i8 c], plain d = true := by
  intro d hd
  rw [List.mem_singleton] at hd
  subst hd
  rfl
theorem cel2 (bs : List UInt8) (c0 c1 : UInt8) : (celB bs ++ [i8 c0]) ++ [i8 c1] = celB (bs ++ [c0, c1]) := by simp [celB]
theorem cel1 (bs : List UInt8) (c0 : UInt8) : celB bs ++ [i8 c0] = celB (bs ++ [c0]) := by simp [celB]
theorem plain_J4 (bs : List UInt8) (c0 c1 : UInt8) : Plain (J4 (celB bs) c0 c1) := plain_of fun o ho => by
  simp only [List.mem_cons, List.not_mem_nil, or_false] at ho
  rcases ho with rfl | rfl | rfl | rfl | rfl
  · show ∀ d ∈ (celB bs ++ [i8 c0]) ++ [i8 c1], _
    rw [cel2]
    exact plain_cel
  · exact plain_one c1
  · show ∀ d ∈ celB bs ++ [i8 c0], _
    rw [cel1]
    exact plain_cel
  · exact plain_one c0
  · exact plain_cel
theorem plain_J5 (bs fl : List UInt8) (c0 c1 : UInt8) : Plain (J5 (celB bs) (celB fl) c0 c1) := plain_of fun o ho => by
  simp only [List.mem_cons, List.not_mem_nil, or_false] at ho
  rcases ho with rfl | rfl | rfl | rfl | rfl | rfl
  · show ∀ d ∈ ((celB bs ++ [i8 c0]) ++ [i8 c1]) ++ celB fl, _
    rw [cel2, ← celB_append]
    exact plain_cel
  · show ∀ d ∈ (celB bs ++ [i8 c0]) ++ [i8 c1], _
    rw [cel2]
    exact plain_cel
  · exact plain_one c1
  · show ∀ d ∈ celB bs ++ [i8 c0], _
    rw [cel1]
    exact plain_cel
  · exact plain_one c0
  · exact plain_cel
/-- the sizes are added -/
theorem jo_sizes (fs : List (List UInt8)) (hn : fs.length ≤ 256) (hs : ∀ f ∈ fs, f.length ≤ 65535) : Goes Try.prog tab kJo (.loop jl1) (js1 (fs1 fs) 0 (fs1 fs).length 0) ⟨0, [], []⟩ (.exit 0) (js2 (fs1 fs) (szs fs)) ⟨0, [], []⟩ := by
  have hl := fs1_length fs
  have key := Goes.loop (P := Try.prog) (T := tab) (ks := kJo) (x := jl1) fs.length (fun k => js1 (fs1 fs) (szs (fs.take k)) (fs1 fs).length k) (fun _ => ⟨0, [], []⟩) (e := .exit 0) (s1 := js2 (fs1 fs) (szs (fs.take fs.length))) (h1 := ⟨0, [], []⟩) (fun k hk => ?_) ?_ (by intro h; cases h)
  · rw [List.take_length] at key
    exact key
  · obtain ⟨f, hf⟩ : ∃ f, fs[k]? = some f := ⟨_, List.getElem?_eq_getElem hk⟩
    have h1 := hs f (List.mem_of_getElem? hf)
    have h2 := szs_le k fun x hx => hs x (List.mem_of_mem_take hx)
    have h3 := by1_length f
    refine zsee_ok tab_ok mixed fun_ok noC_ok (jo1 (fs1 fs) (by1 f) (szs (fs.take k)) (szs (fs.take (k + 1))) (fs1 fs).length k) (.cons (decide_eq_true (by omega)) (.cons (idxOk_lt (by omega)) (.cons (fs1_nth hf) (.cons (decide_eq_false (by omega)) (.cons ?_ (.cons (congrArg (DV.int .i64) (wrapI (n := k + 1) (by omega))) .nil))))))
    rw [h3, show (2 : Int) + (f.length : Int) = ((2 + f.length : Nat) : Int) by omega, wrapI (by omega), show (szs (fs.take k) : Int) + ((2 + f.length : Nat) : Int) = ((szs (fs.take k) + (2 + f.length) : Nat) : Int) by omega, wrapI (by omega), szs_step hf, Nat.add_comm 2]
    rfl
  · exact zsee_ok tab_ok mixed fun_ok noC_ok (jo1o (fs1 fs) _ (fs1 fs).length fs.length) (.cons (decide_eq_false (by omega)) .nil)
/-- a field is too long -/
theorem jo_long (fs : List (List UInt8)) (hn : fs.length ≤ 256) {j : Nat} {f : List UInt8} (hj : fs[j]? = some f) (hf : f.length > 65535) (hs : ∀ f ∈ fs.take j, f.length ≤ 65535) : Goes Try.prog tab kJo (.loop jl1) (js1 (fs1 fs) 0 (fs1 fs).length 0) ⟨0, [], []⟩ .ret (jE 11) ⟨0, [], []⟩ := by
  have hl := fs1_length fs
  have hjl := (List.getElem?_eq_some_iff.1 hj).1
  refine Goes.loop (P := Try.prog) (T := tab) (ks := kJo) (x := jl1) j (fun k => js1 (fs1 fs) (szs (fs.take k)) (fs1 fs).length k) (fun _ => ⟨0, [], []⟩) (e := .ret) (s1 := jE 11) (h1 := ⟨0, [], []⟩) (fun k hk => ?_) ?_ (by intro h; cases h)
  · obtain ⟨g, hg⟩ : ∃ f, fs[k]? = some f := ⟨_, List.getElem?_eq_getElem (by omega)⟩
    have hg' : (fs.take j)[k]? = some g := by rw [List.getElem?_take, if_pos hk]; exact hg
    have h1 := hs g (List.mem_of_getElem? hg')
    have h2 := szs_le (fs := fs) k fun x hx => hs x (by
      have : fs.take k = (fs.take j).take k := by rw [List.take_take, Nat.min_eq_left (by omega)]
      rw [this] at hx
      exact List.mem_of_mem_take hx)
    have h3 := by1_length g
    refine zsee_ok tab_ok mixed fun_ok noC_ok (jo1 (fs1 fs) (by1 g) (szs (fs.take k)) (szs (fs.take (k + 1))) (fs1 fs).length k) (.cons (decide_eq_true (by omega)) (.cons (idxOk_lt (by omega)) (.cons (fs1_nth hg) (.cons (decide_eq_false (by omega)) (.cons ?_ (.cons (congrArg (DV.int .i64) (wrapI (n := k + 1) (by omega))) .nil))))))
    rw [h3, show (2 : Int) + (g.length : Int) = ((2 + g.length : Nat) : Int) by omega, wrapI (by omega), show (szs (fs.take k) : Int) + ((2 + g.length : Nat) : Int) = ((szs (fs.take k) + (2 + g.length) : Nat) : Int) by omega, wrapI (by omega), szs_step hg, Nat.add_comm 2]
    rfl
  · exact zsee_ok tab_ok mixed fun_ok noC_ok (jo1x (fs1 fs) (by1 f) _ (fs1 fs).length j) (.cons (decide_eq_true (by omega)) (.cons (idxOk_lt (by omega)) (.cons (fs1_nth hj) (.cons (decide_eq_true (by rw [by1_length]; omega)) .nil))))
theorem contD_one {hp : Hp} {id : Nat} {o : Ob} {d : DV} (hg : hp.get id = some o) (ho : o.cs = [d]) : contD hp 1 (.sl id 0 1 1 1) = some (0 + 1, [d]) := by
  simp only [contD, hg, ho]
  rfl
theorem lo_eq {q : Nat} (h : q ≤ 65535) : DV.int .u8 (IntKind.u8.wrap (shrD .u64 (IntKind.u64.wrap (q : Int)) 0)) = i8 (lo8 q) := by
  rw [wrapU rfl, Nat.mod_eq_of_lt (show q < 2 ^ IntKind.u64.bits from Nat.lt_of_le_of_lt h (by decide)), show shrD .u64 (q : Int) 0 = ((q / 2 ^ 0 : Nat) : Int) from shrU (k := .u64) q (n := 0) (by decide), wrapU rfl, i8, lo8, UInt8.toNat_ofNat_of_lt' (show q % 256 < 256 by omega)]
  simp
  rfl
theorem hi_eq {q : Nat} (h : q ≤ 65535) : DV.int .u8 (IntKind.u8.wrap (shrD .u64 (IntKind.u64.wrap (q : Int)) 8)) = i8 (hi8 q) := by
  rw [wrapU rfl, Nat.mod_eq_of_lt (show q < 2 ^ IntKind.u64.bits from Nat.lt_of_le_of_lt h (by decide)), show shrD .u64 (q : Int) 8 = ((q / 2 ^ 8 : Nat) : Int) from shrU (k := .u64) q (n := 8) (by decide), wrapU rfl, i8, hi8, UInt8.toNat_ofNat_of_lt' (show q / 256 < 256 by omega), Nat.mod_eq_of_lt (show q / 2 ^ 8 < 2 ^ IntKind.u8.bits by show q / 256 < 256; omega)]
/-- the fields are put one behind the other -/
theorem jo_bytes (fs : List (List UInt8)) (hn : fs.length ≤ 256) (hs : ∀ f ∈ fs, f.length ≤ 65535) : Goes Try.prog tab kJo (.loop jl2) (js3 (fs1 fs) 0 (fs1 fs).length 0) (J0 []) (.exit 2) (js4 (joinB fs).length) (J0 (celB (joinB fs))) := by
  have hl := fs1_length fs
  have key := Goes.loop (P := Try.prog) (T := tab) (ks := kJo) (x := jl2) fs.length (fun k => js3 (fs1 fs) (joinB (fs.take k)).length (fs1 fs).length k) (fun k => J0 (celB (joinB (fs.take k)))) (e := .exit 2) (s1 := js4 (joinB (fs.take fs.length)).length) (h1 := J0 (celB (joinB (fs.take fs.length)))) (fun k hk => ?_) ?_ (by intro h; cases h)
  · rw [List.take_length] at key
    exact key
  · obtain ⟨f, hf⟩ : ∃ f, fs[k]? = some f := ⟨_, List.getElem?_eq_getElem hk⟩
    have h1 := hs f (List.mem_of_getElem? hf)
    have h2 := szs_le k fun x hx => hs x (List.mem_of_mem_take hx)
    have h3 := by1_length f
    have hst : joinB (fs.take (k + 1)) = joinB (fs.take k) ++ [lo8 f.length, hi8 f.length] ++ f := by
      rw [take_snoc hf, joinB_append, List.append_assoc]
      simp [joinB, jf]
    unfold szs at h2
    rw [hst]
    generalize joinB (fs.take k) = bs at *
    have hA : ∀ {t : List Prop}, AskedP t → AskedP (ajA (fs1 fs) (by1 f) (fs1 fs).length k t) := fun ht => .cons (decide_eq_true (by omega)) (.cons (idxOk_lt (by omega)) (.cons (fs1_nth hf) ht))
    have hB : ∀ {t : List Prop}, AskedP t → AskedP (ajB (celB bs) bs.length f.length (by1 f) (lo8 f.length) (hi8 f.length) t) := fun ht => by
      refine .cons ?_ (.cons (lo_eq h1) (.cons ?_ (.cons (hi_eq h1) (.cons ?_ ht))))
      · rw [h3, wrapU rfl, Nat.mod_eq_of_lt (show f.length < 2 ^ IntKind.u16.bits from Nat.lt_of_le_of_lt h1 (by decide))]
      · exact app_row (hp := ⟨2, [oR 0 [i8 (lo8 f.length)], oR 1 (celB bs)], []⟩) (id := 0) (o := oR 1 (celB bs)) rfl (.inl rfl) rfl (celB_length bs) (contD_one (id := 1) rfl rfl) (by omega)
      · exact app_row (hp := ⟨4, [oR 0 [i8 (hi8 f.length)], oR 3 (celB bs ++ [i8 (lo8 f.length)]), oR 0 [i8 (lo8 f.length)], oR 2 (celB bs)], []⟩) (id := 2) (o := oR 3 (celB bs ++ [i8 (lo8 f.length)])) rfl (.inr rfl) rfl (by simp [celB_length]) (contD_one (id := 3) rfl rfl) (by omega)
    have hlast : AskedP ((DV.int .i64 (IntKind.i64.wrap ((k : Int) + 1)) = iN (k + 1)) :: []) := .cons (congrArg (DV.int .i64) (wrapI (n := k + 1) (by omega))) .nil
    cases f with
    | nil =>
      have e : bs ++ [lo8 ([] : List UInt8).length, hi8 ([] : List UInt8).length] ++ [] = bs ++ [lo8 ([] : List UInt8).length, hi8 ([] : List UInt8).length] := List.append_nil _
      have z := zgc_ok tab_ok mixed fun_ok noC_ok (jo2e (fs1 fs) (by1 []) (celB bs) bs.length (fs1 fs).length k 0 (lo8 0) (hi8 0)) (.cons (plain_J4 _ _ _) (hA (hB (.cons (app_none rfl) hlast))))
      rw [cel2] at z
      rw [e]
      have e2 : (bs ++ [lo8 ([] : List UInt8).length, hi8 ([] : List UInt8).length]).length = bs.length + 1 + 1 := by simp
      rw [e2]
      exact z
    | cons c f =>
      have hc := contD_list (J4 (celB bs) (lo8 (c :: f).length) (hi8 (c :: f).length)) (c :: f)
      have z := zgc_ok tab_ok mixed fun_ok noC_ok (jo2 (fs1 fs) (by1 (c :: f)) (celB bs) (celB (c :: f)) bs.length (fs1 fs).length k (c :: f).length (bs.length + 1 + 1 + (f.length + 1)) (lo8 (c :: f).length) (hi8 (c :: f).length)) (.cons (plain_J5 _ _ _ _) (hA (hB (.cons ?_ hlast))))
      · rw [cel2, ← celB_append] at z
        have e2 : (bs ++ [lo8 (c :: f).length, hi8 (c :: f).length] ++ (c :: f)).length = bs.length + 1 + 1 + (f.length + 1) := by simp; omega
        rw [e2]
        exact z
      · exact app_row (hp := J4 (celB bs) (lo8 (c :: f).length) (hi8 (c :: f).length)) (id := 4) (m := f.length) (o := oR 3 ((celB bs ++ [i8 (lo8 (c :: f).length)]) ++ [i8 (hi8 (c :: f).length)])) rfl (.inr rfl) rfl (by simp [celB_length]) hc (by simp only [List.length_cons] at h1; omega)
  · exact zsee_ok tab_ok mixed fun_ok noC_ok (jo2o (fs1 fs) _ (fs1 fs).length fs.length _) (.cons (decide_eq_false (by omega)) .nil)
/-! ### The contract -/
def longF (fs : List (List UInt8)) : Bool := fs.any fun f => decide (f.length > 65535)
/-- what Join answers -/
def joA (fs : List (List UInt8)) : DV × Hp := match decide (fs.length > 256) with
  | true => (.tuple [.nil, .int .i64 4], ⟨0, [], []⟩)
  | false => match longF fs with
    | true => (.tuple [.nil, .int .i64 11], ⟨0, [], []⟩)
    | false => (.tuple [.sl 0 0 1 (joinB fs).length (joinB fs).length, .int .i64 0], J0 (celB (joinB fs)))
theorem first_long : ∀ {fs : List (List UInt8)}, longF fs = true → ∃ j f, fs[j]? = some f ∧ f.length > 65535 ∧ ∀ g ∈ fs.take j, g.length ≤ 65535
  | [], h => by cases h
  | f :: fs, h => by
    by_cases hf : f.length > 65535
    · exact ⟨0, f, rfl, hf, fun g hg => by simp at hg⟩
    · have : longF fs = true := by
        simp only [longF, List.any_cons, decide_eq_false hf, Bool.false_or] at h
        exact h
      obtain ⟨j, g, h1, h2, h3⟩ := first_long this
      refine ⟨j + 1, g, by simpa using h1, h2, fun x hx => ?_⟩
      rw [List.take_succ_cons] at hx
      rcases List.mem_cons.1 hx with rfl | hx
      · omega
      · exact h3 x hx
theorem not_long {fs : List (List UInt8)} (h : longF fs = false) : ∀ f ∈ fs, f.length ≤ 65535 := fun f hf => by
  have := List.any_eq_false.1 h f hf
  simp at this
  omega
theorem jo_ans (fs : List (List UInt8)) : Ans Try.prog fJo [fsD fs] (joA fs).1 (joA fs).2 := by
  have hl := fs1_length fs
  unfold joA
  cases hm : decide (fs.length > 256) with
  | true => exact zflat_ok tab_ok mixed fun_ok noC_ok (joM (fs1 fs)) (.cons (decide_eq_true (by have := of_decide_eq_true hm; omega)) .nil)
  | false =>
    have hm := of_decide_eq_false hm
    have n1 : decide (((fs1 fs).length : Int) > 256) = false := decide_eq_false (by omega)
    cases hg : longF fs with
    | true =>
      obtain ⟨j, f, h1, h2, h3⟩ := first_long hg
      exact zflat_ok tab_ok mixed fun_ok noC_ok (joL (fs1 fs)) (.cons n1 (.cons (jo_long fs (by omega) h1 h2 h3) .nil))
    | false =>
      have hs := not_long hg
      have hz := szs_le (fs := fs) fs.length (by rw [List.take_length]; exact hs)
      rw [List.take_length] at hz
      refine zans_ok tab_ok mixed fun_ok noC_ok (joO (fs1 fs) (szs fs) (joinB fs).length (celB (joinB fs))) (.cons n1 (.cons (jo_sizes fs (by omega) hs) (.cons ?_ (.cons rfl (.cons (jo_bytes fs (by omega) hs) .nil)))))
      rw [Bool.and_eq_true, Bool.and_eq_true]
      exact ⟨⟨rfl, decide_eq_true (by omega)⟩, by rw [Int.toNat_natCast]; exact fitB_le (by omega)⟩
end
end Go.Proofs.Ytioglkmdapghhaa
