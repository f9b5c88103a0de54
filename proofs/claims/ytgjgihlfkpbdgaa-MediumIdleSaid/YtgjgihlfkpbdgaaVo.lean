/- Receivers: contract. -/
import Derived.Test.YtgjgihlfkpbdgaaVn
namespace Go.Proofs.Ytgjgihlfkpbdgaa
open Go.RowKit

noncomputable section
def b1 (l : List Bool) : List (List DV) := l.map fun b => [.bool b]
theorem b1_length (l : List Bool) : (b1 l).length = l.length := by simp [b1]
/-- one pair: is it received, and which draws are left -/
def stp (v : Bool) (j : Nat) (p : List Int × List Bool) : List Int × List Bool := match v with
  | false => p
  | true => match p.2 with
    | [] => (p.1 ++ [(j : Int)], [])
    | true :: d => (p.1, d)
    | false :: d => (p.1 ++ [(j : Int)], d)
def inn (f : Nat → Bool) (dr : List Bool) : Nat → List Int × List Bool
  | 0 => ([], dr)
  | j + 1 => stp (f j) j (inn f dr j)
def out (F : Nat → Nat → Bool) (m : Nat) (dr : List Bool) : Nat → List (List Int) × List Bool
  | 0 => ([], dr)
  | i + 1 => ((out F m dr i).1 ++ [(inn (F i) (out F m dr i).2 m).1], (inn (F i) (out F m dr i).2 m).2)
theorem out_len (F : Nat → Nat → Bool) (m : Nat) (dr : List Bool) : ∀ i, (out F m dr i).1.length = i
  | 0 => rfl
  | i + 1 => by
    show ((out F m dr i).1 ++ [_]).length = _
    rw [List.length_append, out_len F m dr i]
    rfl
theorem inn_len (f : Nat → Bool) (dr : List Bool) : ∀ j, (inn f dr j).1.length ≤ j
  | 0 => Nat.le_refl _
  | j + 1 => by
    have := inn_len f dr j
    show (stp (f j) j (inn f dr j)).1.length ≤ _
    unfold stp
    split
    · omega
    · split <;> simp <;> omega
def nH (w : Wd) (l : List Sn) (xs : List (List DV)) (rs : List (List Int)) (mm : Nat) : List Int → Hp
  | [] => reH w l xs 0 (rX rs .nil mm)
  | x :: r => reH1 w l xs (rX rs (.sl 9 0 1 (x :: r).length (x :: r).length) mm) (celI (x :: r))
theorem ptr_r (i : Nat) : DV.ptr 4 (0 + ((i : Int).toNat) * 1) = .ptr 4 i := by
  rw [Int.toNat_natCast, Nat.zero_add, Nat.mul_one]
theorem sto4 {hp hp' : Hp} {X X' : List DV} {i : Nat} {d : DV} (hg : hp.get 4 = some ⟨0, 0, tIs, X⟩) (hi : i < X.length) (hX : X.set i d = X') (he : hp.put 4 ⟨0, 0, tIs, X'⟩ = hp') : storeH hp 4 i [d] = some (hp', some 4) := by
  have hb : Nat.ble (i + [d].length) X.length = true := bleT (show i + 1 ≤ _ by omega)
  simp only [storeH, hg, hb]
  rw [layD_set _ _ _ hi, hX, he]
abbrev sbT : TI := ⟨.slice 4, 1, 24, [.nil], true⟩
theorem slice_tail (hp : Hp) (y : List DV) (ys : List (List DV)) : sliceD tab hp sbT (.list 1 (y :: ys)) (some (iI 1)) none none = some (.list 1 ys) := by
  have e : sliceD tab hp sbT (.list 1 (y :: ys)) (some (iI 1)) none none = match Nat.beq 1 1 && Nat.ble 1 (ys.length + 1) && Nat.ble (ys.length + 1) (ys.length + 1) with
    | true => some (.list 1 (ys.take (ys.length + 1 - 1)))
    | false => none := by kernel_rfl
  rw [e, bleT (show 1 ≤ ys.length + 1 by omega), bleT (Nat.le_refl _)]
  show some (DV.list 1 (ys.take (ys.length + 1 - 1))) = _
  rw [Nat.add_sub_cancel, List.take_length]
section
variable (w : Wd) (l : List Sn) (hc : chB w l = true)
include hc
theorem ri_go (rs : List (List Int)) (mm : Nat) (hl : l.length = rs.length + (mm + 1)) (row : List Int) (d : List Bool) (j : Nat) (hj : j < w.r.length) (hrow : row.length ≤ 1000) :
    Goes Try.prog tab kPr prI (qiS l.length w.r.length rs.length j) (nH w l (b1 d) rs mm row) .normal (qiS l.length w.r.length rs.length (j + 1)) (nH w l (b1 (stp (rcvB w l (l.getD rs.length sn0) j) j (row, d)).2) rs mm (stp (rcvB w l (l.getD rs.length sn0) j) j (row, d)).1) := by
  have e := snR_length l
  have va := (va_iff w).1 (chB_ok hc).1
  have v2 := va.n2
  have n := chB_len hc
  have hi : rs.length < l.length := by omega
  have a := rb_ans w l hc (l.getD rs.length sn0) (getD_mem hi) (j : Int) ⟨by omega, by omega⟩
  unfold stp
  cases hv : rcvB w l (l.getD rs.length sn0) (j : Int) with
  | false =>
    rw [hv] at a
    cases row with
    | nil => exact zsee_ok tab_ok mixed fun_ok (calC_ok a) (yr0n w l _ _ _ j (l.getD rs.length sn0) (b1 d) [] _ [] [] 0) (.cons (decide_eq_true (by omega)) (.cons (idxOk_lt (by omega)) (.cons (snR_get (by omega)) (.cons (calC_at _ rfl rfl) (.cons (wrK_at (by omega)) .nil)))))
    | cons x r => exact zsee_ok tab_ok mixed fun_ok (calC_ok a) (yr1n w l _ _ _ j (l.getD rs.length sn0) (b1 d) [] _ [] _ 0) (.cons (decide_eq_true (by omega)) (.cons (idxOk_lt (by omega)) (.cons (snR_get (by omega)) (.cons (calC_at _ rfl rfl) (.cons (wrK_at (by omega)) .nil)))))
  | true =>
    rw [hv] at a
    cases d with
    | nil =>
      cases row with
      | nil => exact Goes.post (zsee_ok tab_ok mixed fun_ok (calC_ok a) (yr0e w l _ _ _ j (l.getD rs.length sn0) (b1 []) [] (rX rs .nil mm) (rX rs (.sl 10 0 1 1 1) mm) [] 0) (.cons (decide_eq_true (by omega)) (.cons (idxOk_lt (by omega)) (.cons (snR_get (by omega)) (.cons (calC_at _ rfl rfl) (.cons rfl (.cons (idxOk_lt (by omega)) (.cons (ptr_r _) (.cons (rX_at ..) (.cons (idxOk_lt (by omega)) (.cons (ptr_r _) (.cons (sto4 rfl (by rw [rX_len]; omega) (rX_set ..) rfl) (.cons (wrK_at (by omega)) .nil))))))))))))) grow0
      | cons x r =>
        have es : nH w l (b1 []) rs mm (x :: r ++ [(j : Int)]) = reH1 w l (b1 []) (rX rs (.sl 9 0 1 ((x :: r).length + 1) ((x :: r).length + 1)) mm) (celI (x :: r) ++ [iN j]) := by
          rw [← celI_snoc]
          show reH1 _ _ _ (rX rs (.sl 9 0 1 (x :: (r ++ [(j : Int)])).length _) mm) _ = _
          simp
        dsimp only
        rw [es]
        exact Goes.post (zsee_ok tab_ok mixed fun_ok (calC_ok a) (yr1e w l _ _ _ j (l.getD rs.length sn0) (b1 []) [] (rX rs (.sl 9 0 1 (x :: r).length (x :: r).length) mm) (rX rs (.sl 11 0 1 ((x :: r).length + 1) ((x :: r).length + 1)) mm) (celI (x :: r)) (x :: r).length) (.cons (decide_eq_true (by omega)) (.cons (idxOk_lt (by omega)) (.cons (snR_get (by omega)) (.cons (calC_at _ rfl rfl) (.cons rfl (.cons (idxOk_lt (by omega)) (.cons (ptr_r _) (.cons (rX_at ..) (.cons (by rw [app_tabI]; exact appH_grow (id := 9) (n := (x :: r).length) (m := 0) (e := 3) (j := inT) (o := oJ 1 (celI (x :: r))) (news := [iN j]) rfl rfl rfl (.inl rfl) rfl (by rw [celI_length, Nat.mul_one]) (fit_at (by show (_ + (0 + 1)) * 8 ≤ _; omega) (by omega))) (.cons (idxOk_lt (by omega)) (.cons (ptr_r _) (.cons (sto4 rfl (by rw [rX_len]; omega) (rX_set ..) rfl) (.cons (wrK_at (by omega)) .nil)))))))))))))) (grow1 (flatten_flat (i1_flat _)))
    | cons b d =>
      cases b with
      | true =>
        cases row with
        | nil => exact zsee_ok tab_ok mixed fun_ok (calC_ok a) (yr0l w l _ _ _ j (l.getD rs.length sn0) [] (b1 d) _ [] [] 0) (.cons (decide_eq_true (by omega)) (.cons (idxOk_lt (by omega)) (.cons (snR_get (by omega)) (.cons (calC_at _ rfl rfl) (.cons (decide_eq_true (by simp)) (.cons (idxOk_lt (k := 0) (by simp)) (.cons rfl (.cons (slice_tail ..) (.cons (wrK_at (by omega)) .nil)))))))))
        | cons x r => exact zsee_ok tab_ok mixed fun_ok (calC_ok a) (yr1l w l _ _ _ j (l.getD rs.length sn0) [] (b1 d) _ [] _ 0) (.cons (decide_eq_true (by omega)) (.cons (idxOk_lt (by omega)) (.cons (snR_get (by omega)) (.cons (calC_at _ rfl rfl) (.cons (decide_eq_true (by simp)) (.cons (idxOk_lt (k := 0) (by simp)) (.cons rfl (.cons (slice_tail ..) (.cons (wrK_at (by omega)) .nil)))))))))
      | false =>
        cases row with
        | nil => exact Goes.post (zsee_ok tab_ok mixed fun_ok (calC_ok a) (yr0k w l _ _ _ j (l.getD rs.length sn0) [] (b1 d) (rX rs .nil mm) (rX rs (.sl 10 0 1 1 1) mm) [] 0) (.cons (decide_eq_true (by omega)) (.cons (idxOk_lt (by omega)) (.cons (snR_get (by omega)) (.cons (calC_at _ rfl rfl) (.cons (decide_eq_true (by simp)) (.cons (idxOk_lt (k := 0) (by simp)) (.cons rfl (.cons (slice_tail ..) (.cons (idxOk_lt (by omega)) (.cons (ptr_r _) (.cons (rX_at ..) (.cons (idxOk_lt (by omega)) (.cons (ptr_r _) (.cons (sto4 rfl (by rw [rX_len]; omega) (rX_set ..) rfl) (.cons (wrK_at (by omega)) .nil)))))))))))))))) grow0
        | cons x r =>
          have es : nH w l (b1 d) rs mm (x :: r ++ [(j : Int)]) = reH1 w l (b1 d) (rX rs (.sl 9 0 1 ((x :: r).length + 1) ((x :: r).length + 1)) mm) (celI (x :: r) ++ [iN j]) := by
            rw [← celI_snoc]
            show reH1 _ _ _ (rX rs (.sl 9 0 1 (x :: (r ++ [(j : Int)])).length _) mm) _ = _
            simp
          dsimp only
          rw [es]
          exact Goes.post (zsee_ok tab_ok mixed fun_ok (calC_ok a) (yr1k w l _ _ _ j (l.getD rs.length sn0) [] (b1 d) (rX rs (.sl 9 0 1 (x :: r).length (x :: r).length) mm) (rX rs (.sl 11 0 1 ((x :: r).length + 1) ((x :: r).length + 1)) mm) (celI (x :: r)) (x :: r).length) (.cons (decide_eq_true (by omega)) (.cons (idxOk_lt (by omega)) (.cons (snR_get (by omega)) (.cons (calC_at _ rfl rfl) (.cons (decide_eq_true (by simp)) (.cons (idxOk_lt (k := 0) (by simp)) (.cons rfl (.cons (slice_tail ..) (.cons (idxOk_lt (by omega)) (.cons (ptr_r _) (.cons (rX_at ..) (.cons (by rw [app_tabI]; exact appH_grow (id := 9) (n := (x :: r).length) (m := 0) (e := 3) (j := inT) (o := oJ 1 (celI (x :: r))) (news := [iN j]) rfl rfl rfl (.inl rfl) rfl (by rw [celI_length, Nat.mul_one]) (fit_at (by show (_ + (0 + 1)) * 8 ≤ _; omega) (by omega))) (.cons (idxOk_lt (by omega)) (.cons (ptr_r _) (.cons (sto4 rfl (by rw [rX_len]; omega) (rX_set ..) rfl) (.cons (wrK_at (by omega)) .nil))))))))))))))))) (grow1 (flatten_flat (i1_flat _)))
end
section
variable (w : Wd) (l : List Sn) (hc : chB w l = true)
include hc
theorem ri_loop (rs : List (List Int)) (mm : Nat) (hl : l.length = rs.length + (mm + 1)) (d : List Bool) : Goes Try.prog tab kPr (.loop prI) (qiS l.length w.r.length rs.length 0) (reH w l (b1 d) 0 (rX rs .nil mm)) (.exit 2) (qoS l.length rs.length) (reH w l (b1 (inn (fun j => rcvB w l (l.getD rs.length sn0) j) d w.r.length).2) 0 (rX rs (.list 1 (i1 (inn (fun j => rcvB w l (l.getD rs.length sn0) j) d w.r.length).1)) mm)) := by
  have va := (va_iff w).1 (chB_ok hc).1
  have v2 := va.n2
  have key : Goes Try.prog tab kPr (.loop prI) (qiS l.length w.r.length rs.length 0) (nH w l (b1 (inn (fun j => rcvB w l (l.getD rs.length sn0) j) d 0).2) rs mm (inn (fun j => rcvB w l (l.getD rs.length sn0) j) d 0).1) (.exit 2) (qoS l.length rs.length) (reH w l (b1 (inn (fun j => rcvB w l (l.getD rs.length sn0) j) d w.r.length).2) 0 (rX rs (.list 1 (i1 (inn (fun j => rcvB w l (l.getD rs.length sn0) j) d w.r.length).1)) mm)) := Goes.loop (P := Try.prog) (T := tab) (ks := kPr) w.r.length (fun j => qiS l.length w.r.length rs.length j) (fun j => nH w l (b1 (inn (fun j => rcvB w l (l.getD rs.length sn0) j) d j).2) rs mm (inn (fun j => rcvB w l (l.getD rs.length sn0) j) d j).1)
    (fun j hj => ri_go w l hc rs mm hl _ _ j hj (by have := inn_len (fun j => rcvB w l (l.getD rs.length sn0) j) d j; omega)) (by
      generalize inn (fun j => rcvB w l (l.getD rs.length sn0) j) d w.r.length = p
      obtain ⟨row, d'⟩ := p
      cases row with
      | nil => exact Goes.post (zsee_ok tab_ok mixed fun_ok noC_ok (yr0O w l _ _ _ w.r.length sn0 (b1 d') [] _ [] [] 0) (.cons (decide_eq_false (by omega)) .nil)) endr0
      | cons x r => exact Goes.post (zsee_ok tab_ok mixed fun_ok noC_ok (yr1O w l _ _ _ w.r.length sn0 (b1 d') [] _ [] _ 0) (.cons (decide_eq_false (by omega)) .nil)) (endr1 x r)) (by intro h; cases h)
  exact key
/-- what Receivers answers in the valid case -/
def reO (w : Wd) (l : List Sn) (dr : List Bool) (i : Nat) : List (List Int) × List Bool := out (fun i j => rcvB w l (l.getD i sn0) j) w.r.length dr i
theorem ro_go (dr : List Bool) (i : Nat) (hi : i < l.length) : Goes Try.prog tab kPr prO (qoS l.length i) (reH w l (b1 (reO w l dr i).2) 0 (celS (reO w l dr i).1 ++ List.replicate (l.length - i) .nil)) .normal (qoS l.length (i + 1)) (reH w l (b1 (reO w l dr (i + 1)).2) 0 (celS (reO w l dr (i + 1)).1 ++ List.replicate (l.length - (i + 1)) .nil)) := by
  have n := chB_len hc
  have e1 := rsR_length w.r
  have hlen := out_len (fun i j => rcvB w l (l.getD i sn0) j) w.r.length dr i
  have en : reO w l dr (i + 1) = ((reO w l dr i).1 ++ [(inn (fun j => rcvB w l (l.getD i sn0) j) (reO w l dr i).2 w.r.length).1], (inn (fun j => rcvB w l (l.getD i sn0) j) (reO w l dr i).2 w.r.length).2) := rfl
  rw [en]
  change (reO w l dr i).1.length = i at hlen
  generalize reO w l dr i = p at *
  obtain ⟨rs, d⟩ := p
  change rs.length = i at hlen
  subst hlen
  have g := ri_loop w l hc rs (l.length - (rs.length + 1)) (by omega) d
  have x0 : celS rs ++ List.replicate (l.length - rs.length) DV.nil = rX rs .nil (l.length - (rs.length + 1)) := by
    rw [show l.length - rs.length = (l.length - (rs.length + 1)) + 1 by omega, List.replicate_succ]
    rfl
  have x1 : celS (rs ++ [(inn (fun j => rcvB w l (l.getD rs.length sn0) j) d w.r.length).1]) ++ List.replicate (l.length - (rs.length + 1)) DV.nil = rX rs (.list 1 (i1 (inn (fun j => rcvB w l (l.getD rs.length sn0) j) d w.r.length).1)) (l.length - (rs.length + 1)) := by
    rw [celS_snoc, List.append_assoc]
    rfl
  dsimp only
  rw [x0, x1]
  rw [show qiS l.length w.r.length rs.length 0 = qiS l.length (rsR w.r).length rs.length 0 by rw [e1]] at g
  exact zsee_ok tab_ok mixed fun_ok noC_ok (yo1 w l l.length rs.length (b1 d) _ _) (.cons (decide_eq_true (by omega)) (.cons g (.cons (wrK_at (by omega)) .nil)))
theorem ro_loop (dr : List Bool) (K : Nat) (hK : l.length ≠ 0 → K = 0) : Goes Try.prog tab kPr (.loop prO) (qoS l.length 0) (reH w l (b1 dr) K (List.replicate l.length .nil)) (.exit 0) (mkT 21 []) (reH w l (b1 (reO w l dr l.length).2) K (celS (reO w l dr l.length).1)) := by
  by_cases h : l.length = 0
  · have z := zsee_ok tab_ok mixed fun_ok noC_ok (yoO w l 0 0 K (b1 dr) []) (.cons (decide_eq_false (by omega)) .nil)
    rw [h]
    exact Goes.loop 0 (fun _ => qoS 0 0) (fun _ => reH w l (b1 dr) K []) (fun k hk => absurd hk (by omega)) z (by intro h; cases h)
  · rw [hK h]
    have z := zsee_ok tab_ok mixed fun_ok noC_ok (yoO w l l.length l.length 0 (b1 (reO w l dr l.length).2) (celS (reO w l dr l.length).1)) (.cons (decide_eq_false (by omega)) .nil)
    have g := Goes.loop (P := Try.prog) (T := tab) (ks := kPr) (x := prO) l.length (qoS l.length) (fun i => reH w l (b1 (reO w l dr i).2) 0 (celS (reO w l dr i).1 ++ List.replicate (l.length - i) .nil)) (ro_go w l hc dr) (by
      rw [Nat.sub_self, List.replicate_zero, List.append_nil]
      exact z) (by intro h; cases h)
    exact g
theorem re_rng (dr : List Bool) (K : Nat) (hK : l.length ≠ 0 → K = 0) : Goes Try.prog tab kRe (.rangeFunc (.tmp 31) #[32, 33] (rngA (bodyOf ftab fRe)) (rngB (bodyOf ftab fRe))) reF (reS w l (b1 dr) K (List.replicate l.length .nil)) .normal reF (reX w l (b1 (reO w l dr l.length).2) K (celS (reO w l dr l.length).1)) := by
  have e := snR_length l
  have g := ro_loop w l hc dr K hK
  rw [show qoS l.length 0 = qoS (snR l).length 0 by rw [e]] at g
  have h := zsee_ok tab_ok mixed fun_ok noC_ok (yit w l (b1 dr) (List.replicate l.length .nil) K _) (.cons g .nil)
  have hA : AnsH Try.prog fPr [.yld 8, .ptr 6 0, .ptr 7 0] (reH w l (b1 dr) K (List.replicate l.length .nil)) (one []) (reH w l (b1 (reO w l dr l.length).2) K (celS (reO w l dr l.length).1)) :=
    ansH_of_goes (fn := ⟨21, bodyOf ftab fPr, [], kPr⟩) (e := .normal) (sl' := mkT 21 []) (ds := []) tab_ok fun_ok pr_tab rfl h (by intro i h; cases h) rfl
  exact Goes.range (P := Try.prog) (T := tab) (ks := kRe) (g := .tmp 31) (ps := #[32, 33]) (x := rngA (bodyOf ftab fRe)) (y := rngB (bodyOf ftab fRe)) (sl := reF) (hp := reS w l (b1 dr) K (List.replicate l.length .nil)) (hp1 := reH w l (b1 (reO w l dr l.length).2) K (celS (reO w l dr l.length).1)) (f := fPr) (captured := [.ptr 6 0, .ptr 7 0]) (d := one []) (nc := 64) (R := reR 0 none) (e := .normal) rfl (by kernel_rfl) rfl hA rfl rfl
end
def reV (w : Wd) (l : List Sn) (dr : List Bool) : List (List Int) := match chB w l with
  | true => (reO w l dr l.length).1
  | false => []
def reD (w : Wd) (l : List Sn) (dr : List Bool) : DV := .tuple [.list 1 (ssR (reV w l dr)), iI (chM w l)]
theorem re_ans (w : Wd) (ok : OkW w) (l : List Sn) (hl : l.length < 2 ^ 63) (dr : List Bool) : Ans Try.prog fRe [wdD w, snL l, .list 1 (b1 dr)] (reD w l dr) ⟨0, [], []⟩ := by
  have e := snR_length l
  unfold reD reV
  cases h1 : chB w l with
  | false =>
    rw [chM_f h1]
    have z := zflat_ok tab_ok mixed fun_ok (calC_ok (mk_f ok hl h1)) (yf0 _ w l (b1 dr)) (.cons (calC_at _ rfl rfl) .nil)
    exact AnsH.frz z rfl (FrzL.tuple (L := []) (ds := [.nil, iI 8]) (es := [.list 1 (ssR []), iI 8]) ⟨.nl _, .flat _ rfl, trivial⟩)
  | true =>
    rw [chM_t h1]
    have n := chB_len h1
    have a := mk_t ok hl h1
    have b := lk_ans w ok l h1
    obtain ⟨K, hK, hm⟩ : ∃ K, (l.length ≠ 0 → K = 0) ∧ mkRow ⟨4, [oFr (frL w l), oBd (b1 dr), oBl l, oW w], []⟩ tIs 1 [.nil] (((snR l).length : Int).toNat) (((snR l).length : Int).toNat) = (.sl 4 0 1 (snR l).length (snR l).length, ⟨5, [⟨K, 0, tIs, List.replicate l.length .nil⟩, oFr (frL w l), oBd (b1 dr), oBl l, oW w], []⟩, none) := by
      rw [Int.toNat_natCast, e]
      cases hn : l.length with
      | zero => exact ⟨1, fun h => absurd rfl h, rfl⟩
      | succ m =>
        refine ⟨0, fun _ => rfl, ?_⟩
        have q : ∀ n, nlist n [DV.nil] = List.replicate n .nil := fun n => by
          rw [nlist_flat]
          induction n with
          | zero => rfl
          | succ n ih => rw [List.replicate_succ, List.flatten_cons, ih, List.replicate_succ]; rfl
        rw [← q]
        rfl
    have g := re_rng w l h1 dr K hK
    have z := zans_ok tab_ok mixed fun_ok (orK_ok (calC_ok a) (calC_ok b)) (yf1 w l (b1 dr) (b1 (reO w l dr l.length).2) K (List.replicate l.length .nil) (celS (reO w l dr l.length).1)) (.cons (orK_left (calC_at _ rfl rfl)) (.cons (orK_right (calC_oth (by kernel_rfl)) (calC_at _ rfl rfl)) (.cons (by rw [Int.toNat_natCast, fit_at (by omega) (by omega)]; simp) (.cons hm (.cons g .nil)))))
    have hr : (reO w l dr l.length).1.length = l.length := out_len _ _ _ _
    refine AnsH.frz z rfl (FrzL.tuple ⟨frz_rows (L := []) (s := 1) (xs := ssR (reO w l dr l.length).1) rfl rfl ?_ rfl (by rw [ssR_length, hr, e]) (ssR_len1 _) (ssR_flat _), .flat _ rfl, trivial⟩)
    show K ≠ 2
    by_cases h0 : l.length = 0
    · intro hk
      rw [hk] at hm
      rw [Int.toNat_natCast, e, h0] at hm
      simp [mkRow, pushH, Hp.push] at hm
    · rw [hK h0]
      decide
end
end Go.Proofs.Ytgjgihlfkpbdgaa
