/- Receivers of the reference: contract. -/
import Derived.Test.YtgjgihlfkpbdgaaVs
namespace Go.Proofs.Ytgjgihlfkpbdgaa
open Go.RowKit

noncomputable section
theorem rzS00 (w : Wd) (l : List Sn) (xs : List (List DV)) (n i : Nat) : Seen (rzE l xs (oD []) n i (nDr [] [])) (nHr w [] []) (rzE l xs (oD []) n i (.list 1 (i1 []))) (oH w []) :=
  seen_melt (L := [0]) (melt_objs rfl rfl rfl fun a id h => by
    match a with
    | 0 => cases h; exact ⟨oW w, oW w, rfl, by show (0 : Nat) ≠ 2; decide, rfl, rfl, rfl, MltL.flat (wdC_flat w)⟩
    | a + 1 => simp at h) fun t d h => by
    simp only [List.mem_cons, List.not_mem_nil, or_false, Prod.mk.injEq] at h
    rcases h with ⟨rfl, rfl⟩ | ⟨rfl, rfl⟩ | ⟨rfl, rfl⟩ | ⟨rfl, rfl⟩ | ⟨rfl, rfl⟩ | ⟨rfl, rfl⟩ | ⟨rfl, rfl⟩
    · exact ⟨snL l, by kernel_rfl, .frz _ _ (.flat _ rfl)⟩
    · exact ⟨.list 1 xs, by kernel_rfl, .frz _ _ (.flat _ rfl)⟩
    · exact ⟨.ptr 0 0, by kernel_rfl, .ptr _ _ _ rfl⟩
    · exact ⟨oD [], by kernel_rfl, .frz _ _ (.flat _ rfl)⟩
    · exact ⟨iN n, by kernel_rfl, .frz _ _ (.flat _ rfl)⟩
    · exact ⟨iN i, by kernel_rfl, .frz _ _ (.flat _ rfl)⟩
    · exact ⟨nDr [] [], by kernel_rfl, .frz _ _ (.nl _)⟩

theorem rzS01 (w : Wd) (l : List Sn) (xs : List (List DV)) (n i : Nat) (x : Int) (r : List Int) : Seen (rzE l xs (oD []) n i (nDr [] (x :: r))) (nHr w [] (x :: r)) (rzE l xs (oD []) n i (.list 1 (i1 (x :: r)))) (oH w []) :=
  seen_melt (L := [0]) (melt_objs rfl rfl rfl fun a id h => by
    match a with
    | 0 => cases h; exact ⟨oW w, oW w, rfl, by show (0 : Nat) ≠ 2; decide, rfl, rfl, rfl, MltL.flat (wdC_flat w)⟩
    | a + 1 => simp at h) fun t d h => by
    simp only [List.mem_cons, List.not_mem_nil, or_false, Prod.mk.injEq] at h
    rcases h with ⟨rfl, rfl⟩ | ⟨rfl, rfl⟩ | ⟨rfl, rfl⟩ | ⟨rfl, rfl⟩ | ⟨rfl, rfl⟩ | ⟨rfl, rfl⟩ | ⟨rfl, rfl⟩
    · exact ⟨snL l, by kernel_rfl, .frz _ _ (.flat _ rfl)⟩
    · exact ⟨.list 1 xs, by kernel_rfl, .frz _ _ (.flat _ rfl)⟩
    · exact ⟨.ptr 0 0, by kernel_rfl, .ptr _ _ _ rfl⟩
    · exact ⟨oD [], by kernel_rfl, .frz _ _ (.flat _ rfl)⟩
    · exact ⟨iN n, by kernel_rfl, .frz _ _ (.flat _ rfl)⟩
    · exact ⟨iN i, by kernel_rfl, .frz _ _ (.flat _ rfl)⟩
    · exact ⟨nDr [] (x :: r), by kernel_rfl, .frz _ _ (frz_rows rfl rfl (by show (1 : Nat) ≠ 2; decide) rfl (i1_length _) (i1_len1 _) (i1_flat _))⟩

theorem rzS10 (w : Wd) (l : List Sn) (xs : List (List DV)) (n i : Nat) (y : List Int) (s : List (List Int)) : Seen (rzE l xs (oD (y :: s)) n i (nDr (y :: s) [])) (nHr w (y :: s) []) (rzE l xs (oD (y :: s)) n i (.list 1 (i1 []))) (oH w (y :: s)) :=
  seen_melt (L := [0, 1]) (melt_objs rfl rfl rfl fun a id h => by
    match a with
    | 0 => cases h; exact ⟨oW w, oW w, rfl, by show (0 : Nat) ≠ 2; decide, rfl, rfl, rfl, MltL.flat (wdC_flat w)⟩
    | 1 => cases h; exact ⟨⟨1, 0, tIs, celS (y :: s)⟩, ⟨1, 0, tIs, celS (y :: s)⟩, rfl, by show (1 : Nat) ≠ 2; decide, rfl, rfl, rfl, MltL.flat (celS_flat _)⟩
    | a + 2 => simp at h) fun t d h => by
    simp only [List.mem_cons, List.not_mem_nil, or_false, Prod.mk.injEq] at h
    rcases h with ⟨rfl, rfl⟩ | ⟨rfl, rfl⟩ | ⟨rfl, rfl⟩ | ⟨rfl, rfl⟩ | ⟨rfl, rfl⟩ | ⟨rfl, rfl⟩ | ⟨rfl, rfl⟩
    · exact ⟨snL l, by kernel_rfl, .frz _ _ (.flat _ rfl)⟩
    · exact ⟨.list 1 xs, by kernel_rfl, .frz _ _ (.flat _ rfl)⟩
    · exact ⟨.ptr 0 0, by kernel_rfl, .ptr _ _ _ rfl⟩
    · exact ⟨oD (y :: s), by kernel_rfl, .sl _ _ _ _ _ _ rfl⟩
    · exact ⟨iN n, by kernel_rfl, .frz _ _ (.flat _ rfl)⟩
    · exact ⟨iN i, by kernel_rfl, .frz _ _ (.flat _ rfl)⟩
    · exact ⟨nDr (y :: s) [], by kernel_rfl, .frz _ _ (.nl _)⟩

theorem rzS11 (w : Wd) (l : List Sn) (xs : List (List DV)) (n i : Nat) (y : List Int) (s : List (List Int)) (x : Int) (r : List Int) : Seen (rzE l xs (oD (y :: s)) n i (nDr (y :: s) (x :: r))) (nHr w (y :: s) (x :: r)) (rzE l xs (oD (y :: s)) n i (.list 1 (i1 (x :: r)))) (oH w (y :: s)) :=
  seen_melt (L := [0, 1]) (melt_objs rfl rfl rfl fun a id h => by
    match a with
    | 0 => cases h; exact ⟨oW w, oW w, rfl, by show (0 : Nat) ≠ 2; decide, rfl, rfl, rfl, MltL.flat (wdC_flat w)⟩
    | 1 => cases h; exact ⟨⟨1, 0, tIs, celS (y :: s)⟩, ⟨1, 0, tIs, celS (y :: s)⟩, rfl, by show (1 : Nat) ≠ 2; decide, rfl, rfl, rfl, MltL.flat (celS_flat _)⟩
    | a + 2 => simp at h) fun t d h => by
    simp only [List.mem_cons, List.not_mem_nil, or_false, Prod.mk.injEq] at h
    rcases h with ⟨rfl, rfl⟩ | ⟨rfl, rfl⟩ | ⟨rfl, rfl⟩ | ⟨rfl, rfl⟩ | ⟨rfl, rfl⟩ | ⟨rfl, rfl⟩ | ⟨rfl, rfl⟩
    · exact ⟨snL l, by kernel_rfl, .frz _ _ (.flat _ rfl)⟩
    · exact ⟨.list 1 xs, by kernel_rfl, .frz _ _ (.flat _ rfl)⟩
    · exact ⟨.ptr 0 0, by kernel_rfl, .ptr _ _ _ rfl⟩
    · exact ⟨oD (y :: s), by kernel_rfl, .sl _ _ _ _ _ _ rfl⟩
    · exact ⟨iN n, by kernel_rfl, .frz _ _ (.flat _ rfl)⟩
    · exact ⟨iN i, by kernel_rfl, .frz _ _ (.flat _ rfl)⟩
    · exact ⟨nDr (y :: s) (x :: r), by kernel_rfl, .frz _ _ (frz_rows rfl rfl (by show (1 : Nat) ≠ 2; decide) rfl (i1_length _) (i1_len1 _) (i1_flat _))⟩
section
variable (w : Wd) (l : List Sn) (hc : chB w l = true) (ds : List Bool)
include hc
theorem rz_loop (i : Nat) (hi : i < l.length) (rs : List (List Int)) (n : Nat) (hn : n < 2 ^ 61) : Goes Try.prog tab kZr (.loop rzI) (rzS l (b1 ds) (oD rs) n i .nil 0) (oH w rs) (.exit 2) (rzE l (b1 ds) (oD rs) (innR ds (fun j => canB w l i j) n w.r.length).2 i (.list 1 (i1 (innR ds (fun j => canB w l i j) n w.r.length).1))) (oH w rs) := by
  have va := (va_iff w).1 (chB_ok hc).1
  have v2 := va.n2
  have e1 := rsR_length w.r
  have en : Goes Try.prog tab kZr rzI (rzS l (b1 ds) (oD rs) (innR ds (fun j => canB w l i j) n w.r.length).2 i (nDr rs (innR ds (fun j => canB w l i j) n w.r.length).1) w.r.length) (nHr w rs (innR ds (fun j => canB w l i j) n w.r.length).1) (.exit 2) (rzE l (b1 ds) (oD rs) (innR ds (fun j => canB w l i j) n w.r.length).2 i (.list 1 (i1 (innR ds (fun j => canB w l i j) n w.r.length).1))) (oH w rs) := by
    generalize innR ds (fun j => canB w l i j) n w.r.length = p
    obtain ⟨row, n⟩ := p
    cases rs with
    | nil =>
      cases row with
      | nil =>
        exact Goes.post (zsee_ok tab_ok mixed fun_ok noC_ok (rz00O w l (b1 ds) n i w.r.length 0 0 [] []) (.cons (decide_eq_false (by omega)) .nil)) (rzS00 w l (b1 ds) n i)
      | cons x r =>
        exact Goes.post (zsee_ok tab_ok mixed fun_ok noC_ok (rz01O w l (b1 ds) n i w.r.length 0 (x :: r).length [] (celI (x :: r))) (.cons (decide_eq_false (by omega)) .nil)) (rzS01 w l (b1 ds) n i x r)
    | cons y s =>
      cases row with
      | nil =>
        exact Goes.post (zsee_ok tab_ok mixed fun_ok noC_ok (rz10O w l (b1 ds) n i w.r.length (y :: s).length 0 (celS (y :: s)) []) (.cons (decide_eq_false (by omega)) .nil)) (rzS10 w l (b1 ds) n i y s)
      | cons x r =>
        exact Goes.post (zsee_ok tab_ok mixed fun_ok noC_ok (rz11O w l (b1 ds) n i w.r.length (y :: s).length (x :: r).length (celS (y :: s)) (celI (x :: r))) (.cons (decide_eq_false (by omega)) .nil)) (rzS11 w l (b1 ds) n i y s x r)
  have key : Goes Try.prog tab kZr (.loop rzI) (rzS l (b1 ds) (oD rs) (innR ds (fun j => canB w l i j) n 0).2 i (nDr rs (innR ds (fun j => canB w l i j) n 0).1) 0) (nHr w rs (innR ds (fun j => canB w l i j) n 0).1) (.exit 2) (rzE l (b1 ds) (oD rs) (innR ds (fun j => canB w l i j) n w.r.length).2 i (.list 1 (i1 (innR ds (fun j => canB w l i j) n w.r.length).1))) (oH w rs) :=
    Goes.loop (P := Try.prog) (T := tab) (ks := kZr) w.r.length (fun j => rzS l (b1 ds) (oD rs) (innR ds (fun j => canB w l i j) n j).2 i (nDr rs (innR ds (fun j => canB w l i j) n j).1) j) (fun j => nHr w rs (innR ds (fun j => canB w l i j) n j).1)
      (fun j hj => rz_go w l hc ds i hi rs _ _ (by have := innR_len ds (fun j => canB w l i j) n j; omega) j hj (by have := innR_len ds (fun j => canB w l i j) n j; omega)) en (by intro h; cases h)
  cases rs <;> exact key
def rzF (w : Wd) (l : List Sn) (i j : Nat) : Bool := canB w l i j
theorem ry_go (i : Nat) (hi : i < l.length) : Goes Try.prog tab kZr rzL (rzO l (b1 ds) (oD (ouR ds (rzF w l) w.r.length i).1) (ouR ds (rzF w l) w.r.length i).2 i) (oH w (ouR ds (rzF w l) w.r.length i).1) .normal (rzO l (b1 ds) (oD (ouR ds (rzF w l) w.r.length (i + 1)).1) (ouR ds (rzF w l) w.r.length (i + 1)).2 (i + 1)) (oH w (ouR ds (rzF w l) w.r.length (i + 1)).1) := by
  have e := snR_length l
  have n64 := chB_len hc
  have va := (va_iff w).1 (chB_ok hc).1
  have v2 := va.n2
  have hl := ouR_len ds (rzF w l) w.r.length i
  have hm : i * w.r.length ≤ 64 * 32 := Nat.mul_le_mul (by omega) v2
  have g := rz_loop w l hc ds i hi (ouR ds (rzF w l) w.r.length i).1 (ouR ds (rzF w l) w.r.length i).2 (by omega)
  show Goes _ _ _ _ _ _ _ (rzO l (b1 ds) (oD ((ouR ds (rzF w l) w.r.length i).1 ++ [(innR ds (fun j => canB w l i j) (ouR ds (rzF w l) w.r.length i).2 w.r.length).1])) (innR ds (fun j => canB w l i j) (ouR ds (rzF w l) w.r.length i).2 w.r.length).2 (i + 1)) (oH w ((ouR ds (rzF w l) w.r.length i).1 ++ [(innR ds (fun j => canB w l i j) (ouR ds (rzF w l) w.r.length i).2 w.r.length).1]))
  generalize (innR ds (fun j => canB w l i j) (ouR ds (rzF w l) w.r.length i).2 w.r.length) = q at *
  generalize (ouR ds (rzF w l) w.r.length i) = p at *
  obtain ⟨rs, n⟩ := p
  obtain ⟨row, n'⟩ := q
  dsimp only at *
  cases rs with
  | nil => exact zgm_ok tab_ok mixed fun_ok noC_ok (ry0 w l (b1 ds) (i1 row) n n' i 0 []) (.cons (flatOne rfl (one_flat rfl)) (.cons (decide_eq_true (by omega)) (.cons g (.cons (wrK_at (by omega)) .nil))))
  | cons y s =>
    rw [show oD (y :: s ++ [row]) = .sl 1 0 1 ((y :: s).length + 1) ((y :: s).length + 1) by show DV.sl 1 0 1 (y :: (s ++ [row])).length _ = _; simp, show oH w (y :: s ++ [row]) = ⟨2, [⟨1, 0, tIs, celS (y :: s) ++ [.list 1 (i1 row)]⟩, oW w], []⟩ by rw [← celS_snoc]; rfl]
    exact zgm_ok tab_ok mixed fun_ok noC_ok (ry1 w l (b1 ds) (i1 row) n n' i (y :: s).length (celS (y :: s))) (.cons (flatOne rfl (app_flat (celS_flat _) (one_flat rfl))) (.cons (decide_eq_true (by omega)) (.cons g (.cons (by rw [app_tabS]; exact appH_grow (id := 1) (n := (y :: s).length) (m := 0) (e := tIs) (j := roT) (o := ⟨1, 0, tIs, celS (y :: s)⟩) (news := [.list 1 (i1 row)]) rfl rfl rfl (.inl rfl) rfl (by rw [celS_length, Nat.mul_one]) (fit_at (by show (_ + (0 + 1)) * 24 ≤ _; omega) (by omega))) (.cons (wrK_at (by omega)) .nil)))))
theorem ry_loop : Goes Try.prog tab kZr (.loop rzL) (rzO l (b1 ds) .nil 0 0) ⟨1, [oW w], []⟩ (.exit 0) (mkT 60 [(9, oD (ouR ds (rzF w l) w.r.length l.length).1)]) (oH w (ouR ds (rzF w l) w.r.length l.length).1) := by
  have e := snR_length l
  have n64 := chB_len hc
  have en : Goes Try.prog tab kZr rzL (rzO l (b1 ds) (oD (ouR ds (rzF w l) w.r.length l.length).1) (ouR ds (rzF w l) w.r.length l.length).2 l.length) (oH w (ouR ds (rzF w l) w.r.length l.length).1) (.exit 0) (mkT 60 [(9, oD (ouR ds (rzF w l) w.r.length l.length).1)]) (oH w (ouR ds (rzF w l) w.r.length l.length).1) := by
    generalize (ouR ds (rzF w l) w.r.length l.length) = p
    obtain ⟨rs, n⟩ := p
    cases rs with
    | nil => exact zsee_ok tab_ok mixed fun_ok noC_ok (ryO0 w l (b1 ds) [] n 0 l.length 0 []) (.cons (decide_eq_false (by omega)) .nil)
    | cons y s => exact zsee_ok tab_ok mixed fun_ok noC_ok (ryO1 w l (b1 ds) [] n 0 l.length (y :: s).length (celS (y :: s))) (.cons (decide_eq_false (by omega)) .nil)
  exact Goes.loop (P := Try.prog) (T := tab) (ks := kZr) l.length (fun i => rzO l (b1 ds) (oD (ouR ds (rzF w l) w.r.length i).1) (ouR ds (rzF w l) w.r.length i).2 i) (fun i => oH w (ouR ds (rzF w l) w.r.length i).1) (ry_go w l hc ds) en (by intro h; cases h)
end
theorem out_congr {F F' : Nat → Nat → Bool} {m : Nat} {dr : List Bool} : ∀ {k : Nat}, (∀ i, i < k → F i = F' i) → out F m dr k = out F' m dr k
  | 0, _ => rfl
  | k + 1, h => by
    have ih := out_congr (F := F) (F' := F') (m := m) (dr := dr) (k := k) fun i hi => h i (by omega)
    rw [out, out, ih, h k (by omega)]
theorem reO_ouR {w : Wd} {l : List Sn} (hc : chB w l = true) (ds : List Bool) : (reO w l ds l.length).1 = (ouR ds (rzF w l) w.r.length l.length).1 := by
  unfold reO
  rw [out_congr (F' := rzF w l) fun i hi => funext fun j => rcv_can hc hi (j : Int), out_rel]
theorem rZ_ans (w : Wd) (ok : OkW w) (l : List Sn) (hl : l.length < 2 ^ 63) (dr : List Bool) : Ans Try.prog fZr [wdD w, snL l, .list 1 (b1 dr)] (reD w l dr) ⟨0, [], []⟩ := by
  unfold reD reV
  cases h1 : chB w l with
  | false =>
    rw [chM_f h1]
    have z := zflat_ok tab_ok mixed fun_ok (calC_ok (rm_f ok hl h1)) (rx2 _ w l (b1 dr)) (.cons (calC_at _ rfl rfl) .nil)
    exact AnsH.frz z rfl (FrzL.tuple (L := []) (ds := [.nil, iI 8]) (es := [.list 1 (ssR []), iI 8]) ⟨.nl _, .flat _ rfl, trivial⟩)
  | true =>
    rw [chM_t h1]
    dsimp only
    rw [reO_ouR h1]
    have g := ry_loop w l h1 dr
    have a := rm_t ok hl h1
    generalize (ouR dr (rzF w l) w.r.length l.length).1 = rs at *
    cases rs with
    | nil =>
      have z := zans_ok tab_ok mixed fun_ok (calC_ok a) (rx0 _ w l (b1 dr) 0 []) (.cons (calC_at _ rfl rfl) (.cons g .nil))
      exact AnsH.frz z rfl (FrzL.tuple (L := []) (ds := [.nil, iI 0]) (es := [.list 1 (ssR []), iI 0]) ⟨.nl _, .flat _ rfl, trivial⟩)
    | cons y s =>
      have z := zans_ok tab_ok mixed fun_ok (calC_ok a) (rx1 _ w l (b1 dr) (y :: s).length (celS (y :: s))) (.cons (calC_at _ rfl rfl) (.cons g .nil))
      exact AnsH.frz z rfl (FrzL.tuple ⟨frz_rows (L := []) (s := 1) (xs := ssR (y :: s)) rfl rfl (by show (1 : Nat) ≠ 2; decide) rfl (ssR_length _) (ssR_len1 _) (ssR_flat _), .flat _ rfl, trivial⟩)
end
end Go.Proofs.Ytgjgihlfkpbdgaa
