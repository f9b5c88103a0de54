/- The reference's sets of addresses: Remove, Meet, Union, Add, Has. -/
import Derived.Test.YtnhbhdfeenpedaaTc
namespace Go.Proofs.Ytnhbhdfeenpedaa
open Go.RowKit

noncomputable section
theorem wth_true (a : Nat) : ∀ {xs : List Nat}, (∀ n ∈ xs, n ≠ a) → wth a true xs = xs
  | [], _ => by rw [wth, if_pos rfl]
  | x :: xs, h => by
    rw [wth, if_neg (h x (List.mem_cons_self ..)), wth_true a fun n hn => h n (List.mem_cons_of_mem _ hn)]
theorem wth_uni (a : Nat) : ∀ {xs : List Nat}, Srt xs → wth a false xs = uni xs [a]
  | [], _ => by rw [wth, if_neg (by decide), uni]
  | x :: xs, h => by
    have hx := List.pairwise_cons.1 h
    rw [wth, uni]
    by_cases h1 : x < a
    · rw [if_pos h1, if_pos h1, wth_uni a hx.2]
    · rw [if_neg h1, if_neg h1]
      have ht : wth a true xs = xs := wth_true a fun n hn => by
        have := hx.1 n hn
        omega
      by_cases h2 : x = a
      · rw [if_pos h2, if_neg (by omega), uni_nil_r, ht]
      · rw [if_neg h2, if_pos (by omega), uni_nil_r, ht]
theorem dif_filter {s : List Nat} (a : Nat) (h : Srt s) : s.filter (fun n => decide (n ≠ a)) = dif s [a] :=
  srt_ext (h.filter _) (srt_dif h (List.pairwise_singleton _ _)) fun n => by
    rw [mem_dif n h (List.pairwise_singleton _ _), List.mem_filter]
    simp
theorem mee_filter {s t : List Nat} (h : Srt s) (k : Srt t) : s.filter (fun n => decide (n ∈ t)) = mee s t :=
  srt_ext (h.filter _) (srt_mee h k) fun n => by
    rw [mem_mee n h k, List.mem_filter]
    simp
/-- one after another put in -/
def put1 (s t : List Nat) : List Nat := t.foldl (fun r n => wth n false r) s
theorem put1_snoc (s t : List Nat) (n : Nat) : put1 s (t ++ [n]) = wth n false (put1 s t) := by simp [put1]
theorem put1_ok {s : List Nat} (h : Srt s) : ∀ t : List Nat, Srt (put1 s t) ∧ ∀ n, n ∈ put1 s t ↔ n ∈ s ∨ n ∈ t := by
  intro t
  induction t using snocRec with
  | nil => exact ⟨h, fun n => by simp [put1]⟩
  | snoc t x ih =>
    rw [put1_snoc, wth_uni x ih.1]
    refine ⟨srt_uni ih.1 (List.pairwise_singleton _ _), fun n => ?_⟩
    rw [mem_uni, ih.2 n, List.mem_append, or_assoc]
where
  snocRec {m : List Nat → Prop} (t : List Nat) (nil : m []) (snoc : ∀ t x, m t → m (t ++ [x])) : m t := by
    have key : ∀ r : List Nat, m r.reverse := by
      intro r
      induction r with
      | nil => exact nil
      | cons a l ih =>
        rw [List.reverse_cons]
        exact snoc _ _ ih
    have := key t.reverse
    rwa [List.reverse_reverse] at this
theorem put1_uni {s t : List Nat} (h : Srt s) (k : Srt t) : put1 s t = uni s t :=
  srt_ext (put1_ok h t).1 (srt_uni h k) fun n => by rw [(put1_ok h t).2, mem_uni]
theorem put1_len (s : List Nat) : ∀ t : List Nat, (put1 s t).length ≤ s.length + t.length := by
  intro t
  induction t using put1_ok.snocRec with
  | nil => exact Nat.le_refl _
  | snoc t x ih =>
    rw [put1_snoc, List.length_append, List.length_singleton]
    have := wth_len x (put1 s t) false
    omega
theorem mem_wth {a n : Nat} : ∀ {xs : List Nat} {p : Bool}, n ∈ wth a p xs → n = a ∨ n ∈ xs
  | [], p, h => by
    rw [wth] at h
    split at h
    · cases h
    · exact .inl (by simpa using h)
  | x :: xs, false, h => by
    rw [wth] at h
    split at h
    · rcases List.mem_cons.1 h with rfl | h
      · exact .inr (List.mem_cons_self ..)
      · exact (mem_wth h).imp id (List.mem_cons_of_mem _)
    · split at h
      · rcases List.mem_cons.1 h with rfl | h
        · exact .inl rfl
        · exact (mem_wth h).imp id (List.mem_cons_of_mem _)
      · rcases List.mem_cons.1 h with rfl | h
        · exact .inl rfl
        · rcases List.mem_cons.1 h with rfl | h
          · exact .inr (List.mem_cons_self ..)
          · exact (mem_wth h).imp id (List.mem_cons_of_mem _)
  | x :: xs, true, h => by
    rw [wth] at h
    split at h
    · exact (mem_wth h).imp id (List.mem_cons_of_mem _)
    · rcases List.mem_cons.1 h with rfl | h
      · exact .inr (List.mem_cons_self ..)
      · exact (mem_wth h).imp id (List.mem_cons_of_mem _)
theorem put1_lt {s : List Nat} (hs : ∀ n ∈ s, n < 2 ^ 48) : ∀ {t : List Nat}, (∀ n ∈ t, n < 2 ^ 48) → ∀ n ∈ put1 s t, n < 2 ^ 48 := by
  intro t
  induction t using put1_ok.snocRec with
  | nil => exact fun _ => hs
  | snoc t x ih =>
    intro ht n hn
    rw [put1_snoc] at hn
    rcases mem_wth hn with rfl | hn
    · exact ht _ (by simp)
    · exact ih (fun m hm => ht m (by simp [hm])) n hn
/-! ### What is answered -/
def addR (s : List Nat) (a : Nat) : List Nat × Int := if chk s = 0 then (if (uni s [a]).length ≤ 256 then (uni s [a], 0) else ([], 22)) else ([], 8)
def remR (s : List Nat) (a : Nat) : List Nat × Int := if chk s = 0 then (if a ∈ s then (dif s [a], 0) else ([], 6)) else ([], 8)
def hasR (s : List Nat) (a : Nat) : Bool × Int := if chk s = 0 then (decide (a ∈ s), 0) else (false, 8)
def uniR (s t : List Nat) : List Nat × Int := if chk s = 0 ∧ chk t = 0 then (if (uni s t).length ≤ 256 then (uni s t, 0) else ([], 22)) else ([], 8)
def meeR (s t : List Nat) : List Nat × Int := if chk s = 0 ∧ chk t = 0 then (mee s t, 0) else ([], 8)
def lsD (r : List Nat × Int) : DV := .tuple [adL r.1, .int .i64 r.2]
def cRS : CallF := orK cSt cIn
theorem cRS_ok : CallOk Try.prog cRS := orK_ok cSt_ok cIn_ok
theorem cRS_st (hp : Hp) (x : Ads) : cRS 77 [adL x.1] hp = some (.bool (decide (chk x.1 = 0)), hp, none) := orK_left (cSt_at hp x)
theorem cRS_in (hp : Hp) (x : Ads) (y : Adr) : cRS 124 [adL x.1, aD y.1] hp = some (.bool (decide (y.1 ∈ x.1)), hp, none) := orK_right (conC_other (by kernel_rfl)) (cIn_at hp (x, y))
/-! ### Remove -/
set_option maxRecDepth 1000000 in
theorem rmKeep (xs : List (List DV)) (a : Nat) (k m : Nat) (d d2 : DV) (h h2 : Hp) (m2 : Mut) : zsee Try.prog tab ftab cRS (ksF ftab 69) [0, 3, 6, 7] (loopAt (bodyOf ftab 69) 0) (mkT 35 [(0, .list 6 xs), (3, .fptr (aC a)), (6, d), (7, iN k)]) h [(18, .b true), (23, .n (.fptr (aC m))), (26, .n (.bool true)), (30, .n (.fptr (aC m))), (33, .h d2 h2 m2), (20, .w (iN (k + 1)))] =
    some (.normal, (mkT 35 [(0, .list 6 xs), (3, .fptr (aC a)), (6, d2), (7, iN (k + 1))]), h2, [decide ((k : Int) < (xs.length : Int)) = true, idxOk (k : Int) xs.length = true, nth xs (k : Int).toNat = some (aC m), binD tab .neq 77 (aD m) (aD a) = some (.bool true), idxOk (k : Int) xs.length = true, nth xs (k : Int).toNat = some (aC m), builtinD tab (pushH h 0 77 (aC m)) .append [d, .sl h.n 0 6 1 1] [82, 82] = some (d2, h2, m2), DV.int .i64 (IntKind.i64.wrap ((k : Int) + 1)) = iN (k + 1)]) := by
  kernel_rfl
set_option maxRecDepth 1000000 in
theorem rmSkip (xs : List (List DV)) (a : Nat) (k m : Nat) (d : DV) (h : Hp) : zsee Try.prog tab ftab cRS (ksF ftab 69) [0, 3, 6, 7] (loopAt (bodyOf ftab 69) 0) (mkT 35 [(0, .list 6 xs), (3, .fptr (aC a)), (6, d), (7, iN k)]) h [(18, .b true), (23, .n (.fptr (aC m))), (26, .n (.bool false)), (20, .w (iN (k + 1)))] =
    some (.normal, (mkT 35 [(0, .list 6 xs), (3, .fptr (aC a)), (6, d), (7, iN (k + 1))]), h, [decide ((k : Int) < (xs.length : Int)) = true, idxOk (k : Int) xs.length = true, nth xs (k : Int).toNat = some (aC m), binD tab .neq 77 (aD m) (aD a) = some (.bool false), DV.int .i64 (IntKind.i64.wrap ((k : Int) + 1)) = iN (k + 1)]) := by
  kernel_rfl
set_option maxRecDepth 1000000 in
theorem rmOut (xs : List (List DV)) (a : Nat) (k : Nat) (d : DV) (h : Hp) : zsee Try.prog tab ftab cRS (ksF ftab 69) [6] (loopAt (bodyOf ftab 69) 0) (mkT 35 [(0, .list 6 xs), (3, .fptr (aC a)), (6, d), (7, iN k)]) h [(18, .b false)] =
    some (.exit 0, (mkT 35 [(6, d)]), h, [decide ((k : Int) < (xs.length : Int)) = false]) := by
  kernel_rfl
set_option maxRecDepth 1000000 in
theorem rmBad (xs : List (List DV)) (a : Nat) : zflat (zans Try.prog tab ftab cRS 69 [.list 6 xs, aD a] [(9, .q (.bool false))]) =
    some (.tuple [.nil, .int .i64 8], [cRS 77 [.list 6 xs] ⟨1, [⟨0, 0, 77, aC a⟩]⟩ = some (.bool false, ⟨1, [⟨0, 0, 77, aC a⟩]⟩, none)]) := by
  kernel_rfl
set_option maxRecDepth 1000000 in
theorem rmNot (xs : List (List DV)) (a : Nat) : zflat (zans Try.prog tab ftab cRS 69 [.list 6 xs, aD a] [(9, .q (.bool true)), (13, .q (.bool false))]) =
    some (.tuple [.nil, .int .i64 6], [cRS 77 [.list 6 xs] ⟨1, [⟨0, 0, 77, aC a⟩]⟩ = some (.bool true, ⟨1, [⟨0, 0, 77, aC a⟩]⟩, none), cRS 124 [.list 6 xs, aD a] ⟨1, [⟨0, 0, 77, aC a⟩]⟩ = some (.bool false, ⟨1, [⟨0, 0, 77, aC a⟩]⟩, none)]) := by
  kernel_rfl
set_option maxRecDepth 1000000 in
theorem rmYes (xs ys : List (List DV)) (a : Nat) (d : DV) (h : Hp) : zflat (zans Try.prog tab ftab cRS 69 [.list 6 xs, aD a] [(9, .q (.bool true)), (13, .q (.bool true)), (5, .s [0, 3] (mkT 35 [(0, .list 6 xs), (3, .fptr (aC a))]) ⟨0, []⟩), (0, .l [0, 3, 6, 7] (.exit 0) (mkT 35 [(6, d)]) h), (11, .s [6] (mkT 35 [(6, .list 6 ys)]) ⟨0, []⟩)]) =
    some (.tuple [.list 6 ys, .int .i64 0], [cRS 77 [.list 6 xs] ⟨1, [⟨0, 0, 77, aC a⟩]⟩ = some (.bool true, ⟨1, [⟨0, 0, 77, aC a⟩]⟩, none), cRS 124 [.list 6 xs, aD a] ⟨1, [⟨0, 0, 77, aC a⟩]⟩ = some (.bool true, ⟨1, [⟨0, 0, 77, aC a⟩]⟩, none), Seen (mkT 35 [(0, .list 6 xs), (3, .ptr 0 0)]) ⟨1, [⟨0, 0, 77, aC a⟩]⟩ (mkT 35 [(0, .list 6 xs), (3, .fptr (aC a))]) ⟨0, []⟩, Goes Try.prog tab (ksF ftab 69) (.loop (loopAt (bodyOf ftab 69) 0)) (mkT 35 [(0, .list 6 xs), (3, .fptr (aC a)), (6, .nil), (7, iN 0)]) ⟨0, []⟩ (.exit 0) (mkT 35 [(6, d)]) h, Seen (mkT 35 [(6, d)]) h (mkT 35 [(6, .list 6 ys)]) ⟨0, []⟩]) := by
  kernel_rfl
theorem rm_loop {ns : List Nat} (hb : ∀ n ∈ ns, n < 2 ^ 48) (hl : ns.length < 2 ^ 29) {a : Nat} (ha : a < 2 ^ 48) : ∃ (d : DV) (h : Hp), ShZ h d (ns.filter (fun n => decide (n ≠ a))) ∧ (fun xs => Goes Try.prog tab (ksF ftab 69) (.loop (loopAt (bodyOf ftab 69) 0)) (mkT 35 [(0, .list 6 xs), (3, .fptr (aC a)), (6, .nil), (7, iN 0)]) ⟨0, []⟩ (.exit 0) (mkT 35 [(6, d)]) h) (rows ns) := by
  have hr := rows_length ns
  have loop := Goes.loopI (P := Try.prog) (T := tab) (ks := (ksF ftab 69)) (x := (loopAt (bodyOf ftab 69) 0)) (e := .exit 0) ns.length
    (fun k sl h => ∃ (d : DV) (acc : List Nat), sl = (fun xs => (mkT 35 [(0, .list 6 xs), (3, .fptr (aC a)), (6, d), (7, iN k)])) (rows ns) ∧ ShZ h d acc ∧ acc.length ≤ k ∧ acc ++ (ns.drop k).filter (fun n => decide (n ≠ a)) = ns.filter (fun n => decide (n ≠ a)))
    (fun sl h => ∃ (d : DV), sl = (mkT 35 [(6, d)]) ∧ ShZ h d (ns.filter (fun n => decide (n ≠ a)))) (by intro h; cases h) ?_ ?_ (sl := (fun xs => (mkT 35 [(0, .list 6 xs), (3, .fptr (aC a)), (6, .nil), (7, iN 0)])) (rows ns)) (hp := ⟨0, []⟩) ⟨.nil, [], rfl, .inl ⟨rfl, rfl⟩, Nat.zero_le _, rfl⟩
  · obtain ⟨s1, h1, g, d, rfl, h2⟩ := loop
    exact ⟨d, h1, h2, g⟩
  · rintro k sl h hk ⟨d, acc, rfl, sh, hlen, hw⟩
    have hm := gD_lt hb hk
    have hd : ns.drop k = ns.getD k 0 :: ns.drop (k + 1) := by
      rw [List.drop_eq_getElem_cons hk]
      congr 1
      rw [List.getD_eq_getElem?_getD, List.getElem?_eq_getElem hk]
      rfl
    rw [hd, List.filter_cons] at hw
    have i0 : decide ((k : Int) < ((rows ns).length : Int)) = true := decide_eq_true (by omega)
    have i1 := idxOk_lt (k := k) (n := (rows ns).length) (by omega)
    have i2 := rows_nth (gD hk)
    have i3 := inc (k := k) (by omega)
    generalize ns.getD k 0 = m at *
    by_cases hc : (fun n => decide (n ≠ a)) m = true
    · rw [if_pos hc] at hw
      obtain ⟨d2, h2, m2, e2, sh2⟩ := app6 sh (by omega) m
      exact ⟨_, _, zsee_ok tab_ok mixed fun_ok cRS_ok (rmKeep (rows ns) a k m d d2 h h2 m2) (.cons i0 (.cons i1 (.cons i2 (.cons (by have q := ne_adr hm ha; rw [show decide (m ≠ a) = true from hc] at q; exact q) (.cons i1 (.cons i2 (.cons e2 (.cons i3 .nil)))))))), d2, acc ++ [m], rfl, sh2, by rw [List.length_append, List.length_singleton]; omega, by rw [List.append_assoc]; exact hw⟩
    · rw [if_neg hc] at hw
      exact ⟨_, _, zsee_ok tab_ok mixed fun_ok cRS_ok (rmSkip (rows ns) a k m d h) (.cons i0 (.cons i1 (.cons i2 (.cons (by have q := ne_adr hm ha; rw [show decide (m ≠ a) = false from Bool.eq_false_iff.2 hc] at q; exact q) (.cons i3 .nil))))), d, acc, rfl, sh, by omega, hw⟩
  · rintro sl h ⟨d, acc, rfl, sh, hlen, hw⟩
    rw [List.drop_length, List.filter_nil, List.append_nil] at hw
    subst hw
    exact ⟨_, _, zsee_ok tab_ok mixed fun_ok cRS_ok (rmOut (rows ns) a ns.length d h) (.cons (decide_eq_false (by omega)) .nil), d, rfl, sh⟩
theorem ans_cRr (x : InW) : Ans Try.prog 69 [adL x.1.1.1, aD x.1.2.1] (lsD (remR x.1.1.1 x.1.2.1)) ⟨0, []⟩ := by
  obtain ⟨⟨⟨ns, hb, hl'⟩, a, ha⟩, hl⟩ := x
  have hl : ns.length < 2 ^ 29 := hl
  have q1 := fun hp => cRS_st hp ⟨ns, hb, hl'⟩
  have q2 := fun hp => cRS_in hp ⟨ns, hb, hl'⟩ ⟨a, ha⟩
  simp only [remR] at q1 q2 ⊢
  by_cases h1 : chk ns = 0
  · rw [decide_eq_true h1] at q1
    rw [if_pos h1]
    by_cases h2 : a ∈ ns
    · rw [decide_eq_true h2] at q2
      rw [if_pos h2]
      obtain ⟨d, h, sh, g⟩ := rm_loop hb hl ha
      rw [dif_filter a (chk_ok h1).2] at sh
      exact zflat_ok tab_ok mixed fun_ok cRS_ok (rmYes (rows ns) (rows (dif ns [a])) a d h) (.cons (q1 _) (.cons (q2 _) (.cons (seen_box rfl rfl) (.cons g (.cons (seen_sh (by kernel_rfl) sh) .nil)))))
    · rw [decide_eq_false h2] at q2
      rw [if_neg h2]
      exact (zflat_ok tab_ok mixed fun_ok cRS_ok (rmNot (rows ns) a) (.cons (q1 _) (.cons (q2 _) .nil))).nilT
  · rw [decide_eq_false h1] at q1
    rw [if_neg h1]
    exact (zflat_ok tab_ok mixed fun_ok cRS_ok (rmBad (rows ns) a) (.cons (q1 _) .nil)).nilT
def cRr : CallF := liftC (eqC 69 (fun x : InW => [adL x.1.1.1, aD x.1.2.1]) fun x => (lsD (remR x.1.1.1 x.1.2.1), ⟨0, []⟩))
theorem cRr_ok : CallOk Try.prog cRr := liftC_ok (eqC_ok ans_cRr)
theorem cRr_at (hp : Hp) (x : InW) : cRr 69 [adL x.1.1.1, aD x.1.2.1] hp = some (lsD (remR x.1.1.1 x.1.2.1), hp, none) :=
  lift_at (A := fun x : InW => [adL x.1.1.1, aD x.1.2.1]) (D := fun x => lsD (remR x.1.1.1 x.1.2.1)) (fun x y hxy => by
    obtain ⟨⟨x1, x2⟩, _⟩ := x
    obtain ⟨⟨y1, y2⟩, _⟩ := y
    simp only [List.cons.injEq, and_true] at hxy
    simp only [adL_inj hxy.1, aD_inj hxy.2]) hp x rfl rfl
/-! ### Has -/
set_option maxRecDepth 1000000 in
theorem hsBad (xs : List (List DV)) (a : Nat) : zflat (zans Try.prog tab ftab cRS 71 [.list 6 xs, aD a] [(7, .q (.bool false))]) =
    some (.tuple [.bool false, .int .i64 8], [cRS 77 [.list 6 xs] ⟨1, [⟨0, 0, 77, aC a⟩]⟩ = some (.bool false, ⟨1, [⟨0, 0, 77, aC a⟩]⟩, none)]) := by
  kernel_rfl
set_option maxRecDepth 1000000 in
theorem hsYes (xs : List (List DV)) (a : Nat) (v : Bool) : zflat (zans Try.prog tab ftab cRS 71 [.list 6 xs, aD a] [(7, .q (.bool true)), (11, .q (.bool v))]) =
    some (.tuple [.bool v, .int .i64 0], [cRS 77 [.list 6 xs] ⟨1, [⟨0, 0, 77, aC a⟩]⟩ = some (.bool true, ⟨1, [⟨0, 0, 77, aC a⟩]⟩, none), cRS 124 [.list 6 xs, aD a] ⟨1, [⟨0, 0, 77, aC a⟩]⟩ = some (.bool v, ⟨1, [⟨0, 0, 77, aC a⟩]⟩, none)]) := by
  kernel_rfl
theorem ans_cRh (x : InW) : Ans Try.prog 71 [adL x.1.1.1, aD x.1.2.1] (.tuple [.bool (hasR x.1.1.1 x.1.2.1).1, .int .i64 (hasR x.1.1.1 x.1.2.1).2]) ⟨0, []⟩ := by
  obtain ⟨⟨⟨ns, hb, hl'⟩, a, ha⟩, hl⟩ := x
  have q1 := fun hp => cRS_st hp ⟨ns, hb, hl'⟩
  have q2 := fun hp => cRS_in hp ⟨ns, hb, hl'⟩ ⟨a, ha⟩
  simp only [hasR] at q1 q2 ⊢
  by_cases h1 : chk ns = 0
  · rw [decide_eq_true h1] at q1
    rw [if_pos h1]
    exact zflat_ok tab_ok mixed fun_ok cRS_ok (hsYes (rows ns) a _) (.cons (q1 _) (.cons (q2 _) .nil))
  · rw [decide_eq_false h1] at q1
    rw [if_neg h1]
    exact zflat_ok tab_ok mixed fun_ok cRS_ok (hsBad (rows ns) a) (.cons (q1 _) .nil)
def cRh : CallF := liftC (eqC 71 (fun x : InW => [adL x.1.1.1, aD x.1.2.1]) fun x => (.tuple [.bool (hasR x.1.1.1 x.1.2.1).1, .int .i64 (hasR x.1.1.1 x.1.2.1).2], ⟨0, []⟩))
theorem cRh_ok : CallOk Try.prog cRh := liftC_ok (eqC_ok ans_cRh)
theorem cRh_at (hp : Hp) (x : InW) : cRh 71 [adL x.1.1.1, aD x.1.2.1] hp = some (.tuple [.bool (hasR x.1.1.1 x.1.2.1).1, .int .i64 (hasR x.1.1.1 x.1.2.1).2], hp, none) :=
  lift_at (A := fun x : InW => [adL x.1.1.1, aD x.1.2.1]) (D := fun x => .tuple [.bool (hasR x.1.1.1 x.1.2.1).1, .int .i64 (hasR x.1.1.1 x.1.2.1).2]) (fun x y hxy => by
    obtain ⟨⟨x1, x2⟩, _⟩ := x
    obtain ⟨⟨y1, y2⟩, _⟩ := y
    simp only [List.cons.injEq, and_true] at hxy
    simp only [adL_inj hxy.1, aD_inj hxy.2]) hp x rfl rfl
/-! ### Meet -/
set_option maxRecDepth 1000000 in
theorem mtKeep (xs ys : List (List DV)) (k m : Nat) (d d2 : DV) (h h2 : Hp) (m2 : Mut) : zsee Try.prog tab ftab cRS (ksF ftab 75) [0, 1, 6, 7] (loopAt (bodyOf ftab 75) 0) (mkT 36 [(0, .list 6 xs), (1, .list 6 ys), (6, d), (7, iN k)]) h [(19, .b true), (25, .n (.fptr (aC m))), (27, .q (.bool true)), (31, .n (.fptr (aC m))), (34, .h d2 h2 m2), (21, .w (iN (k + 1)))] =
    some (.normal, (mkT 36 [(0, .list 6 xs), (1, .list 6 ys), (6, d2), (7, iN (k + 1))]), h2, [decide ((k : Int) < (xs.length : Int)) = true, idxOk (k : Int) xs.length = true, nth xs (k : Int).toNat = some (aC m), cRS 124 [.list 6 ys, aD m] h = some (.bool true, h, none), idxOk (k : Int) xs.length = true, nth xs (k : Int).toNat = some (aC m), builtinD tab (pushH h 0 77 (aC m)) .append [d, .sl h.n 0 6 1 1] [82, 82] = some (d2, h2, m2), DV.int .i64 (IntKind.i64.wrap ((k : Int) + 1)) = iN (k + 1)]) := by
  kernel_rfl
set_option maxRecDepth 1000000 in
theorem mtSkip (xs ys : List (List DV)) (k m : Nat) (d : DV) (h : Hp) : zsee Try.prog tab ftab cRS (ksF ftab 75) [0, 1, 6, 7] (loopAt (bodyOf ftab 75) 0) (mkT 36 [(0, .list 6 xs), (1, .list 6 ys), (6, d), (7, iN k)]) h [(19, .b true), (25, .n (.fptr (aC m))), (27, .q (.bool false)), (21, .w (iN (k + 1)))] =
    some (.normal, (mkT 36 [(0, .list 6 xs), (1, .list 6 ys), (6, d), (7, iN (k + 1))]), h, [decide ((k : Int) < (xs.length : Int)) = true, idxOk (k : Int) xs.length = true, nth xs (k : Int).toNat = some (aC m), cRS 124 [.list 6 ys, aD m] h = some (.bool false, h, none), DV.int .i64 (IntKind.i64.wrap ((k : Int) + 1)) = iN (k + 1)]) := by
  kernel_rfl
set_option maxRecDepth 1000000 in
theorem mtOut (xs ys : List (List DV)) (k : Nat) (d : DV) (h : Hp) : zsee Try.prog tab ftab cRS (ksF ftab 75) [6] (loopAt (bodyOf ftab 75) 0) (mkT 36 [(0, .list 6 xs), (1, .list 6 ys), (6, d), (7, iN k)]) h [(19, .b false)] =
    some (.exit 0, (mkT 36 [(6, d)]), h, [decide ((k : Int) < (xs.length : Int)) = false]) := by
  kernel_rfl
set_option maxRecDepth 1000000 in
theorem mtBad1 (xs ys : List (List DV)) : zflat (zans Try.prog tab ftab cRS 75 [.list 6 xs, .list 6 ys] [(9, .q (.bool false))]) =
    some (.tuple [.nil, .int .i64 8], [cRS 77 [.list 6 xs] ⟨0, []⟩ = some (.bool false, ⟨0, []⟩, none)]) := by
  kernel_rfl
set_option maxRecDepth 1000000 in
theorem mtBad2 (xs ys : List (List DV)) : zflat (zans Try.prog tab ftab cRS 75 [.list 6 xs, .list 6 ys] [(9, .q (.bool true)), (13, .q (.bool false))]) =
    some (.tuple [.nil, .int .i64 8], [cRS 77 [.list 6 xs] ⟨0, []⟩ = some (.bool true, ⟨0, []⟩, none), cRS 77 [.list 6 ys] ⟨0, []⟩ = some (.bool false, ⟨0, []⟩, none)]) := by
  kernel_rfl
set_option maxRecDepth 1000000 in
theorem mtYes (xs ys zs : List (List DV)) (d : DV) (h : Hp) : zflat (zans Try.prog tab ftab cRS 75 [.list 6 xs, .list 6 ys] [(9, .q (.bool true)), (13, .q (.bool true)), (0, .l [0, 1, 6, 7] (.exit 0) (mkT 36 [(6, d)]) h), (9, .s [6] (mkT 36 [(6, .list 6 zs)]) ⟨0, []⟩)]) =
    some (.tuple [.list 6 zs, .int .i64 0], [cRS 77 [.list 6 xs] ⟨0, []⟩ = some (.bool true, ⟨0, []⟩, none), cRS 77 [.list 6 ys] ⟨0, []⟩ = some (.bool true, ⟨0, []⟩, none), Goes Try.prog tab (ksF ftab 75) (.loop (loopAt (bodyOf ftab 75) 0)) (mkT 36 [(0, .list 6 xs), (1, .list 6 ys), (6, .nil), (7, iN 0)]) ⟨0, []⟩ (.exit 0) (mkT 36 [(6, d)]) h, Seen (mkT 36 [(6, d)]) h (mkT 36 [(6, .list 6 zs)]) ⟨0, []⟩]) := by
  kernel_rfl
theorem mt_loop {ns : List Nat} (hb : ∀ n ∈ ns, n < 2 ^ 48) (hl : ns.length < 2 ^ 29) (t : Ads) : ∃ (d : DV) (h : Hp), ShZ h d (ns.filter (fun n => decide (n ∈ t.1))) ∧ (fun xs => (fun ys => Goes Try.prog tab (ksF ftab 75) (.loop (loopAt (bodyOf ftab 75) 0)) (mkT 36 [(0, .list 6 xs), (1, .list 6 ys), (6, .nil), (7, iN 0)]) ⟨0, []⟩ (.exit 0) (mkT 36 [(6, d)]) h) (rows t.1)) (rows ns) := by
  have hr := rows_length ns
  have loop := Goes.loopI (P := Try.prog) (T := tab) (ks := (ksF ftab 75)) (x := (loopAt (bodyOf ftab 75) 0)) (e := .exit 0) ns.length
    (fun k sl h => ∃ (d : DV) (acc : List Nat), sl = (fun xs ys => (mkT 36 [(0, .list 6 xs), (1, .list 6 ys), (6, d), (7, iN k)])) (rows ns) (rows t.1) ∧ ShZ h d acc ∧ acc.length ≤ k ∧ acc ++ (ns.drop k).filter (fun n => decide (n ∈ t.1)) = ns.filter (fun n => decide (n ∈ t.1)))
    (fun sl h => ∃ (d : DV), sl = (mkT 36 [(6, d)]) ∧ ShZ h d (ns.filter (fun n => decide (n ∈ t.1)))) (by intro h; cases h) ?_ ?_ (sl := (fun xs ys => (mkT 36 [(0, .list 6 xs), (1, .list 6 ys), (6, .nil), (7, iN 0)])) (rows ns) (rows t.1)) (hp := ⟨0, []⟩) ⟨.nil, [], rfl, .inl ⟨rfl, rfl⟩, Nat.zero_le _, rfl⟩
  · obtain ⟨s1, h1, g, d, rfl, h2⟩ := loop
    exact ⟨d, h1, h2, g⟩
  · rintro k sl h hk ⟨d, acc, rfl, sh, hlen, hw⟩
    have hm := gD_lt hb hk
    have hd : ns.drop k = ns.getD k 0 :: ns.drop (k + 1) := by
      rw [List.drop_eq_getElem_cons hk]
      congr 1
      rw [List.getD_eq_getElem?_getD, List.getElem?_eq_getElem hk]
      rfl
    rw [hd, List.filter_cons] at hw
    have i0 : decide ((k : Int) < ((rows ns).length : Int)) = true := decide_eq_true (by omega)
    have i1 := idxOk_lt (k := k) (n := (rows ns).length) (by omega)
    have i2 := rows_nth (gD hk)
    have i3 := inc (k := k) (by omega)
    generalize ns.getD k 0 = m at *
    by_cases hc : (fun n => decide (n ∈ t.1)) m = true
    · rw [if_pos hc] at hw
      obtain ⟨d2, h2, m2, e2, sh2⟩ := app6 sh (by omega) m
      exact ⟨_, _, zsee_ok tab_ok mixed fun_ok cRS_ok (mtKeep (rows ns) (rows t.1) k m d d2 h h2 m2) (.cons i0 (.cons i1 (.cons i2 (.cons (by have q := cRS_in h t ⟨_, hm⟩; simp only at q; rw [show decide (m ∈ t.1) = true from hc] at q; exact q) (.cons i1 (.cons i2 (.cons e2 (.cons i3 .nil)))))))), d2, acc ++ [m], rfl, sh2, by rw [List.length_append, List.length_singleton]; omega, by rw [List.append_assoc]; exact hw⟩
    · rw [if_neg hc] at hw
      exact ⟨_, _, zsee_ok tab_ok mixed fun_ok cRS_ok (mtSkip (rows ns) (rows t.1) k m d h) (.cons i0 (.cons i1 (.cons i2 (.cons (by have q := cRS_in h t ⟨_, hm⟩; simp only at q; rw [show decide (m ∈ t.1) = false from Bool.eq_false_iff.2 hc] at q; exact q) (.cons i3 .nil))))), d, acc, rfl, sh, by omega, hw⟩
  · rintro sl h ⟨d, acc, rfl, sh, hlen, hw⟩
    rw [List.drop_length, List.filter_nil, List.append_nil] at hw
    subst hw
    exact ⟨_, _, zsee_ok tab_ok mixed fun_ok cRS_ok (mtOut (rows ns) (rows t.1) ns.length d h) (.cons (decide_eq_false (by omega)) .nil), d, rfl, sh⟩
abbrev Pr2 : Type := {x : Ads × Ads // x.1.1.length < 2 ^ 20 ∧ x.2.1.length < 2 ^ 20}
theorem ans_cRt (x : Pr2) : Ans Try.prog 75 [adL x.1.1.1, adL x.1.2.1] (lsD (meeR x.1.1.1 x.1.2.1)) ⟨0, []⟩ := by
  obtain ⟨⟨⟨s, hs, hs'⟩, t, ht, ht'⟩, hl, hl2⟩ := x
  have hl : s.length < 2 ^ 20 := hl
  have q1 := fun hp => cRS_st hp ⟨s, hs, hs'⟩
  have q2 := fun hp => cRS_st hp ⟨t, ht, ht'⟩
  simp only [meeR] at q1 q2 ⊢
  by_cases h1 : chk s = 0
  · rw [decide_eq_true h1] at q1
    by_cases h2 : chk t = 0
    · rw [decide_eq_true h2] at q2
      rw [if_pos ⟨h1, h2⟩]
      obtain ⟨d, h, sh, g⟩ := mt_loop hs (by omega) ⟨t, ht, ht'⟩
      rw [mee_filter (chk_ok h1).2 (chk_ok h2).2] at sh
      exact zflat_ok tab_ok mixed fun_ok cRS_ok (mtYes (rows s) (rows t) (rows (mee s t)) d h) (.cons (q1 _) (.cons (q2 _) (.cons g (.cons (seen_sh (by kernel_rfl) sh) .nil))))
    · rw [decide_eq_false h2] at q2
      rw [if_neg fun h => h2 h.2]
      exact (zflat_ok tab_ok mixed fun_ok cRS_ok (mtBad2 (rows s) (rows t)) (.cons (q1 _) (.cons (q2 _) .nil))).nilT
  · rw [decide_eq_false h1] at q1
    rw [if_neg fun h => h1 h.1]
    exact (zflat_ok tab_ok mixed fun_ok cRS_ok (mtBad1 (rows s) (rows t)) (.cons (q1 _) .nil)).nilT
def cRt : CallF := liftC (eqC 75 (fun x : Pr2 => [adL x.1.1.1, adL x.1.2.1]) fun x => (lsD (meeR x.1.1.1 x.1.2.1), ⟨0, []⟩))
theorem cRt_ok : CallOk Try.prog cRt := liftC_ok (eqC_ok ans_cRt)
theorem cRt_at (hp : Hp) (x : Pr2) : cRt 75 [adL x.1.1.1, adL x.1.2.1] hp = some (lsD (meeR x.1.1.1 x.1.2.1), hp, none) :=
  lift_at (A := fun x : Pr2 => [adL x.1.1.1, adL x.1.2.1]) (D := fun x => lsD (meeR x.1.1.1 x.1.2.1)) (fun x y hxy => by
    obtain ⟨⟨x1, x2⟩, _⟩ := x
    obtain ⟨⟨y1, y2⟩, _⟩ := y
    simp only [List.cons.injEq, and_true] at hxy
    simp only [adL_inj hxy.1, adL_inj hxy.2]) hp x rfl rfl
/-! ### Union, Add -/
def cRU : CallF := orK cSt cWi
theorem cRU_ok : CallOk Try.prog cRU := orK_ok cSt_ok cWi_ok
theorem cRU_st (hp : Hp) (x : Ads) : cRU 77 [adL x.1] hp = some (.bool (decide (chk x.1 = 0)), hp, none) := orK_left (cSt_at hp x)
theorem cRU_wi (hp : Hp) (x : InW) : cRU 123 [adL x.1.1.1, aD x.1.2.1] hp = some (adL (wth x.1.2.1 false x.1.1.1), hp, none) := orK_right (conC_other (by kernel_rfl)) (cWi_at hp x)
set_option maxRecDepth 1000000 in
theorem unGo (xs r r2 : List (List DV)) (k m : Nat) : zsee Try.prog tab ftab cRU (ksF ftab 73) [1, 6, 7] (loopAt (bodyOf ftab 73) 0) (mkT 38 [(1, .list 6 xs), (6, .list 6 r), (7, iN k)]) ⟨0, []⟩ [(22, .b true), (28, .n (.fptr (aC m))), (30, .q (.list 6 r2)), (24, .w (iN (k + 1)))] =
    some (.normal, (mkT 38 [(1, .list 6 xs), (6, .list 6 r2), (7, iN (k + 1))]), ⟨0, []⟩, [decide ((k : Int) < (xs.length : Int)) = true, idxOk (k : Int) xs.length = true, nth xs (k : Int).toNat = some (aC m), cRU 123 [.list 6 r, aD m] ⟨0, []⟩ = some (.list 6 r2, ⟨0, []⟩, none), DV.int .i64 (IntKind.i64.wrap ((k : Int) + 1)) = iN (k + 1)]) := by
  kernel_rfl
set_option maxRecDepth 1000000 in
theorem unOut (xs r : List (List DV)) (k : Nat) : zsee Try.prog tab ftab cRU (ksF ftab 73) [6] (loopAt (bodyOf ftab 73) 0) (mkT 38 [(1, .list 6 xs), (6, .list 6 r), (7, iN k)]) ⟨0, []⟩ [(22, .b false)] =
    some (.exit 0, (mkT 38 [(6, .list 6 r)]), ⟨0, []⟩, [decide ((k : Int) < (xs.length : Int)) = false]) := by
  kernel_rfl
set_option maxRecDepth 1000000 in
theorem unBad1 (ss xs : List (List DV)) : zflat (zans Try.prog tab ftab cRU 73 [.list 6 ss, .list 6 xs] [(11, .q (.bool false))]) =
    some (.tuple [.nil, .int .i64 8], [cRU 77 [.list 6 ss] ⟨0, []⟩ = some (.bool false, ⟨0, []⟩, none)]) := by
  kernel_rfl
set_option maxRecDepth 1000000 in
theorem unBad2 (ss xs : List (List DV)) : zflat (zans Try.prog tab ftab cRU 73 [.list 6 ss, .list 6 xs] [(11, .q (.bool true)), (15, .q (.bool false))]) =
    some (.tuple [.nil, .int .i64 8], [cRU 77 [.list 6 ss] ⟨0, []⟩ = some (.bool true, ⟨0, []⟩, none), cRU 77 [.list 6 xs] ⟨0, []⟩ = some (.bool false, ⟨0, []⟩, none)]) := by
  kernel_rfl
set_option maxRecDepth 1000000 in
theorem unYes (ss xs r : List (List DV)) : zflat (zans Try.prog tab ftab cRU 73 [.list 6 ss, .list 6 xs] [(11, .q (.bool true)), (15, .q (.bool true)), (0, .l [1, 6, 7] (.exit 0) (mkT 38 [(6, .list 6 r)]) ⟨0, []⟩), (33, .c [(6, .b false)])]) =
    some (.tuple [.list 6 r, .int .i64 0], [cRU 77 [.list 6 ss] ⟨0, []⟩ = some (.bool true, ⟨0, []⟩, none), cRU 77 [.list 6 xs] ⟨0, []⟩ = some (.bool true, ⟨0, []⟩, none), Goes Try.prog tab (ksF ftab 73) (.loop (loopAt (bodyOf ftab 73) 0)) (mkT 38 [(1, .list 6 xs), (6, .list 6 ss), (7, iN 0)]) ⟨0, []⟩ (.exit 0) (mkT 38 [(6, .list 6 r)]) ⟨0, []⟩, decide ((r.length : Int) > 256) = false]) := by
  kernel_rfl
set_option maxRecDepth 1000000 in
theorem unBig (ss xs r : List (List DV)) : zflat (zans Try.prog tab ftab cRU 73 [.list 6 ss, .list 6 xs] [(11, .q (.bool true)), (15, .q (.bool true)), (0, .l [1, 6, 7] (.exit 0) (mkT 38 [(6, .list 6 r)]) ⟨0, []⟩), (33, .c [(6, .b true)])]) =
    some (.tuple [.nil, .int .i64 22], [cRU 77 [.list 6 ss] ⟨0, []⟩ = some (.bool true, ⟨0, []⟩, none), cRU 77 [.list 6 xs] ⟨0, []⟩ = some (.bool true, ⟨0, []⟩, none), Goes Try.prog tab (ksF ftab 73) (.loop (loopAt (bodyOf ftab 73) 0)) (mkT 38 [(1, .list 6 xs), (6, .list 6 ss), (7, iN 0)]) ⟨0, []⟩ (.exit 0) (mkT 38 [(6, .list 6 r)]) ⟨0, []⟩, decide ((r.length : Int) > 256) = true]) := by
  kernel_rfl
theorem un_loop {s : List Nat} (hs : ∀ n ∈ s, n < 2 ^ 48) {t : List Nat} (ht : ∀ n ∈ t, n < 2 ^ 48) (h1 : s.length < 2 ^ 20) (h2 : t.length < 2 ^ 20) : (fun ss xs r => Goes Try.prog tab (ksF ftab 73) (.loop (loopAt (bodyOf ftab 73) 0)) (mkT 38 [(1, .list 6 xs), (6, .list 6 ss), (7, iN 0)]) ⟨0, []⟩ (.exit 0) (mkT 38 [(6, .list 6 r)]) ⟨0, []⟩) (rows s) (rows t) (rows (put1 s t)) := by
  have hr := rows_length t
  have loop := Goes.loop (P := Try.prog) (T := tab) (ks := (ksF ftab 73)) (x := (loopAt (bodyOf ftab 73) 0)) (e := .exit 0) t.length (fun k => (fun xs r => (mkT 38 [(1, .list 6 xs), (6, .list 6 r), (7, iN k)])) (rows t) (rows (put1 s (t.take k)))) (fun _ => ⟨0, []⟩) (s1 := (fun r => (mkT 38 [(6, .list 6 r)])) (rows (put1 s t))) (h1 := ⟨0, []⟩) (fun k hk => ?_) ?_ (by intro h; cases h)
  · exact loop
  · have e : t.take (k + 1) = t.take k ++ [t.getD k 0] := by
      rw [List.take_add_one, gD hk]
      rfl
    have hm := gD_lt ht hk
    have hp := put1_lt hs (t := t.take k) fun n hn => ht n (List.mem_of_mem_take hn)
    have hl := put1_len s (t.take k)
    rw [List.length_take] at hl
    rw [e, put1_snoc]
    exact zsee_ok tab_ok mixed fun_ok cRU_ok (unGo (rows t) _ _ k (t.getD k 0)) (.cons (decide_eq_true (by omega)) (.cons (idxOk_lt (by omega)) (.cons (rows_nth (gD hk)) (.cons (cRU_wi ⟨0, []⟩ ⟨(⟨put1 s (t.take k), hp, by omega⟩, ⟨_, hm⟩), by simp only; omega⟩) (.cons (inc (by omega)) .nil)))))
  · rw [List.take_length]
    exact zsee_ok tab_ok mixed fun_ok cRU_ok (unOut (rows t) _ t.length) (.cons (decide_eq_false (by omega)) .nil)
theorem ans_cRn2 (x : Pr2) : Ans Try.prog 73 [adL x.1.1.1, adL x.1.2.1] (lsD (uniR x.1.1.1 x.1.2.1)) ⟨0, []⟩ := by
  obtain ⟨⟨⟨s, hs, hs'⟩, t, ht, ht'⟩, hl, hl2⟩ := x
  have hl : s.length < 2 ^ 20 := hl
  have hl2 : t.length < 2 ^ 20 := hl2
  have q1 := fun hp => cRU_st hp ⟨s, hs, hs'⟩
  have q2 := fun hp => cRU_st hp ⟨t, ht, ht'⟩
  simp only [uniR] at q1 q2 ⊢
  by_cases h1 : chk s = 0
  · rw [decide_eq_true h1] at q1
    by_cases h2 : chk t = 0
    · rw [decide_eq_true h2] at q2
      rw [if_pos ⟨h1, h2⟩]
      have g := un_loop hs ht hl hl2
      rw [put1_uni (chk_ok h1).2 (chk_ok h2).2] at g
      have hr := rows_length (uni s t)
      by_cases h3 : (uni s t).length ≤ 256
      · rw [if_pos h3]
        exact zflat_ok tab_ok mixed fun_ok cRU_ok (unYes (rows s) (rows t) (rows (uni s t))) (.cons (q1 _) (.cons (q2 _) (.cons g (.cons (decide_eq_false (by omega)) .nil))))
      · rw [if_neg h3]
        exact (zflat_ok tab_ok mixed fun_ok cRU_ok (unBig (rows s) (rows t) (rows (uni s t))) (.cons (q1 _) (.cons (q2 _) (.cons g (.cons (decide_eq_true (by omega)) .nil))))).nilT
    · rw [decide_eq_false h2] at q2
      rw [if_neg fun h => h2 h.2]
      exact (zflat_ok tab_ok mixed fun_ok cRU_ok (unBad2 (rows s) (rows t)) (.cons (q1 _) (.cons (q2 _) .nil))).nilT
  · rw [decide_eq_false h1] at q1
    rw [if_neg fun h => h1 h.1]
    exact (zflat_ok tab_ok mixed fun_ok cRU_ok (unBad1 (rows s) (rows t)) (.cons (q1 _) .nil)).nilT
def cRn2 : CallF := liftC (eqC 73 (fun x : Pr2 => [adL x.1.1.1, adL x.1.2.1]) fun x => (lsD (uniR x.1.1.1 x.1.2.1), ⟨0, []⟩))
theorem cRn2_ok : CallOk Try.prog cRn2 := liftC_ok (eqC_ok ans_cRn2)
theorem cRn2_at (hp : Hp) (x : Pr2) : cRn2 73 [adL x.1.1.1, adL x.1.2.1] hp = some (lsD (uniR x.1.1.1 x.1.2.1), hp, none) :=
  lift_at (A := fun x : Pr2 => [adL x.1.1.1, adL x.1.2.1]) (D := fun x => lsD (uniR x.1.1.1 x.1.2.1)) (fun x y hxy => by
    obtain ⟨⟨x1, x2⟩, _⟩ := x
    obtain ⟨⟨y1, y2⟩, _⟩ := y
    simp only [List.cons.injEq, and_true] at hxy
    simp only [adL_inj hxy.1, adL_inj hxy.2]) hp x rfl rfl
set_option maxRecDepth 1000000 in
theorem adBad (xs : List (List DV)) (a : Nat) : zflat (zans Try.prog tab ftab cRU 68 [.list 6 xs, aD a] [(9, .q (.bool false))]) =
    some (.tuple [.nil, .int .i64 8], [cRU 77 [.list 6 xs] ⟨1, [⟨0, 0, 77, aC a⟩]⟩ = some (.bool false, ⟨1, [⟨0, 0, 77, aC a⟩]⟩, none)]) := by
  kernel_rfl
set_option maxRecDepth 1000000 in
theorem adYes (xs r : List (List DV)) (a : Nat) : zflat (zans Try.prog tab ftab cRU 68 [.list 6 xs, aD a] [(9, .q (.bool true)), (14, .q (.list 6 r)), (15, .c [(6, .b false)])]) =
    some (.tuple [.list 6 r, .int .i64 0], [cRU 77 [.list 6 xs] ⟨1, [⟨0, 0, 77, aC a⟩]⟩ = some (.bool true, ⟨1, [⟨0, 0, 77, aC a⟩]⟩, none), cRU 123 [.list 6 xs, aD a] ⟨1, [⟨0, 0, 77, aC a⟩]⟩ = some (.list 6 r, ⟨1, [⟨0, 0, 77, aC a⟩]⟩, none), decide ((r.length : Int) > 256) = false]) := by
  kernel_rfl
set_option maxRecDepth 1000000 in
theorem adBig (xs r : List (List DV)) (a : Nat) : zflat (zans Try.prog tab ftab cRU 68 [.list 6 xs, aD a] [(9, .q (.bool true)), (14, .q (.list 6 r)), (15, .c [(6, .b true)])]) =
    some (.tuple [.nil, .int .i64 22], [cRU 77 [.list 6 xs] ⟨1, [⟨0, 0, 77, aC a⟩]⟩ = some (.bool true, ⟨1, [⟨0, 0, 77, aC a⟩]⟩, none), cRU 123 [.list 6 xs, aD a] ⟨1, [⟨0, 0, 77, aC a⟩]⟩ = some (.list 6 r, ⟨1, [⟨0, 0, 77, aC a⟩]⟩, none), decide ((r.length : Int) > 256) = true]) := by
  kernel_rfl
theorem ans_cRa (x : InW) : Ans Try.prog 68 [adL x.1.1.1, aD x.1.2.1] (lsD (addR x.1.1.1 x.1.2.1)) ⟨0, []⟩ := by
  obtain ⟨⟨⟨ns, hb, hl'⟩, a, ha⟩, hl⟩ := x
  have q1 := fun hp => cRU_st hp ⟨ns, hb, hl'⟩
  have q2 := fun hp => cRU_wi hp ⟨(⟨ns, hb, hl'⟩, ⟨a, ha⟩), hl⟩
  simp only [addR] at q1 q2 ⊢
  by_cases h1 : chk ns = 0
  · rw [decide_eq_true h1] at q1
    rw [if_pos h1]
    rw [wth_uni a (chk_ok h1).2] at q2
    have hr := rows_length (uni ns [a])
    by_cases h3 : (uni ns [a]).length ≤ 256
    · rw [if_pos h3]
      exact zflat_ok tab_ok mixed fun_ok cRU_ok (adYes (rows ns) (rows (uni ns [a])) a) (.cons (q1 _) (.cons (q2 _) (.cons (decide_eq_false (by omega)) .nil)))
    · rw [if_neg h3]
      exact (zflat_ok tab_ok mixed fun_ok cRU_ok (adBig (rows ns) (rows (uni ns [a])) a) (.cons (q1 _) (.cons (q2 _) (.cons (decide_eq_true (by omega)) .nil)))).nilT
  · rw [decide_eq_false h1] at q1
    rw [if_neg h1]
    exact (zflat_ok tab_ok mixed fun_ok cRU_ok (adBad (rows ns) a) (.cons (q1 _) .nil)).nilT
def cRa : CallF := liftC (eqC 68 (fun x : InW => [adL x.1.1.1, aD x.1.2.1]) fun x => (lsD (addR x.1.1.1 x.1.2.1), ⟨0, []⟩))
theorem cRa_ok : CallOk Try.prog cRa := liftC_ok (eqC_ok ans_cRa)
theorem cRa_at (hp : Hp) (x : InW) : cRa 68 [adL x.1.1.1, aD x.1.2.1] hp = some (lsD (addR x.1.1.1 x.1.2.1), hp, none) :=
  lift_at (A := fun x : InW => [adL x.1.1.1, aD x.1.2.1]) (D := fun x => lsD (addR x.1.1.1 x.1.2.1)) (fun x y hxy => by
    obtain ⟨⟨x1, x2⟩, _⟩ := x
    obtain ⟨⟨y1, y2⟩, _⟩ := y
    simp only [List.cons.injEq, and_true] at hxy
    simp only [adL_inj hxy.1, aD_inj hxy.2]) hp x rfl rfl
end
end Go.Proofs.Ytnhbhdfeenpedaa
