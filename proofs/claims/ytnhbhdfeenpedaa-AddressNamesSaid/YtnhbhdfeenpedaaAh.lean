/- Has, Add, Remove. -/
import Derived.Test.YtnhbhdfeenpedaaAr
namespace Go.Proofs.Ytnhbhdfeenpedaa
open Go.RowKit

noncomputable section

set_option maxRecDepth 1000000 in
theorem bsLt (xs : List (List DV)) (a i j s h m : Nat) : zsee Try.prog tab ftab cCo (ksF ftab 125) [0, 2, 4, 8, 9, 10] (loopAt (bodyOf ftab 125) 0) (mkT 49 [(0, .list 6 xs), (2, .fn 60 [] []), (4, .ptr 0 0), (8, iN xs.length), (9, iN i), (10, iN j)]) ⟨1, [⟨0, 0, 77, aC a⟩]⟩ [(17, .b true), (20, .w (iN s)), (21, .w (.int .u64 (s : Int))), (23, .w (iN h)), (27, .n (.fptr (aC m))), (30, .q (.int .i64 (-1))), (33, .w (iN (h + 1)))] =
    some (.normal, mkT 49 [(0, .list 6 xs), (2, .fn 60 [] []), (4, .ptr 0 0), (8, iN xs.length), (9, iN (h + 1)), (10, iN j)], ⟨1, [⟨0, 0, 77, aC a⟩]⟩, [decide ((i : Int) < (j : Int)) = true, DV.int .i64 (IntKind.i64.wrap ((i : Int) + (j : Int))) = iN s, DV.int .u64 (IntKind.u64.wrap (s : Int)) = .int .u64 (s : Int), DV.int .i64 (IntKind.i64.wrap (shrD .u64 (s : Int) 1)) = iN h, idxOk (h : Int) xs.length = true, nth xs (h : Int).toNat = some (aC m), cCo 60 [aD m, aD a] ⟨1, [⟨0, 0, 77, aC a⟩]⟩ = some (.int .i64 (-1), ⟨1, [⟨0, 0, 77, aC a⟩]⟩, none), DV.int .i64 (IntKind.i64.wrap ((h : Int) + 1)) = iN (h + 1)]) := by
  kernel_rfl

set_option maxRecDepth 1000000 in
theorem bsEq (xs : List (List DV)) (a i j s h m : Nat) : zsee Try.prog tab ftab cCo (ksF ftab 125) [0, 2, 4, 8, 9, 10] (loopAt (bodyOf ftab 125) 0) (mkT 49 [(0, .list 6 xs), (2, .fn 60 [] []), (4, .ptr 0 0), (8, iN xs.length), (9, iN i), (10, iN j)]) ⟨1, [⟨0, 0, 77, aC a⟩]⟩ [(17, .b true), (20, .w (iN s)), (21, .w (.int .u64 (s : Int))), (23, .w (iN h)), (27, .n (.fptr (aC m))), (30, .q (.int .i64 (0)))] =
    some (.normal, mkT 49 [(0, .list 6 xs), (2, .fn 60 [] []), (4, .ptr 0 0), (8, iN xs.length), (9, iN i), (10, iN h)], ⟨1, [⟨0, 0, 77, aC a⟩]⟩, [decide ((i : Int) < (j : Int)) = true, DV.int .i64 (IntKind.i64.wrap ((i : Int) + (j : Int))) = iN s, DV.int .u64 (IntKind.u64.wrap (s : Int)) = .int .u64 (s : Int), DV.int .i64 (IntKind.i64.wrap (shrD .u64 (s : Int) 1)) = iN h, idxOk (h : Int) xs.length = true, nth xs (h : Int).toNat = some (aC m), cCo 60 [aD m, aD a] ⟨1, [⟨0, 0, 77, aC a⟩]⟩ = some (.int .i64 (0), ⟨1, [⟨0, 0, 77, aC a⟩]⟩, none)]) := by
  kernel_rfl

set_option maxRecDepth 1000000 in
theorem bsGt (xs : List (List DV)) (a i j s h m : Nat) : zsee Try.prog tab ftab cCo (ksF ftab 125) [0, 2, 4, 8, 9, 10] (loopAt (bodyOf ftab 125) 0) (mkT 49 [(0, .list 6 xs), (2, .fn 60 [] []), (4, .ptr 0 0), (8, iN xs.length), (9, iN i), (10, iN j)]) ⟨1, [⟨0, 0, 77, aC a⟩]⟩ [(17, .b true), (20, .w (iN s)), (21, .w (.int .u64 (s : Int))), (23, .w (iN h)), (27, .n (.fptr (aC m))), (30, .q (.int .i64 (1)))] =
    some (.normal, mkT 49 [(0, .list 6 xs), (2, .fn 60 [] []), (4, .ptr 0 0), (8, iN xs.length), (9, iN i), (10, iN h)], ⟨1, [⟨0, 0, 77, aC a⟩]⟩, [decide ((i : Int) < (j : Int)) = true, DV.int .i64 (IntKind.i64.wrap ((i : Int) + (j : Int))) = iN s, DV.int .u64 (IntKind.u64.wrap (s : Int)) = .int .u64 (s : Int), DV.int .i64 (IntKind.i64.wrap (shrD .u64 (s : Int) 1)) = iN h, idxOk (h : Int) xs.length = true, nth xs (h : Int).toNat = some (aC m), cCo 60 [aD m, aD a] ⟨1, [⟨0, 0, 77, aC a⟩]⟩ = some (.int .i64 (1), ⟨1, [⟨0, 0, 77, aC a⟩]⟩, none)]) := by
  kernel_rfl

set_option maxRecDepth 1000000 in
theorem bsOut (xs : List (List DV)) (a p j : Nat) : zsee Try.prog tab ftab cCo (ksF ftab 125) [0, 2, 4, 8, 9] (loopAt (bodyOf ftab 125) 0) (mkT 49 [(0, .list 6 xs), (2, .fn 60 [] []), (4, .ptr 0 0), (8, iN xs.length), (9, iN p), (10, iN j)]) ⟨1, [⟨0, 0, 77, aC a⟩]⟩ [(17, .b false)] = some (.exit 0, mkT 49 [(0, .list 6 xs), (2, .fn 60 [] []), (4, .ptr 0 0), (8, iN xs.length), (9, iN p)], ⟨1, [⟨0, 0, 77, aC a⟩]⟩, [decide ((p : Int) < (j : Int)) = false]) := by
  kernel_rfl

set_option maxRecDepth 1000000 in
theorem bsEnd (xs : List (List DV)) (a p : Nat) : zflat (zans Try.prog tab ftab cCo 125 [.list 6 xs, aD a, .fn 60 [] []] [(0, .l [0, 2, 4, 8, 9, 10] (.exit 0) (mkT 49 [(0, .list 6 xs), (2, .fn 60 [] []), (4, .ptr 0 0), (8, iN xs.length), (9, iN p)]) ⟨1, [⟨0, 0, 77, aC a⟩]⟩), (38, .b false)]) = some (.tuple [iN p, .bool false], [Goes Try.prog tab (ksF ftab 125) (.loop (loopAt (bodyOf ftab 125) 0)) (mkT 49 [(0, .list 6 xs), (2, .fn 60 [] []), (4, .ptr 0 0), (8, iN xs.length), (9, iN 0), (10, iN xs.length)]) ⟨1, [⟨0, 0, 77, aC a⟩]⟩ (.exit 0) (mkT 49 [(0, .list 6 xs), (2, .fn 60 [] []), (4, .ptr 0 0), (8, iN xs.length), (9, iN p)]) ⟨1, [⟨0, 0, 77, aC a⟩]⟩, decide ((p : Int) < (xs.length : Int)) = false]) := by
  kernel_rfl

set_option maxRecDepth 1000000 in
theorem bsHit (xs : List (List DV)) (a p m : Nat) : zflat (zans Try.prog tab ftab cCo 125 [.list 6 xs, aD a, .fn 60 [] []] [(0, .l [0, 2, 4, 8, 9, 10] (.exit 0) (mkT 49 [(0, .list 6 xs), (2, .fn 60 [] []), (4, .ptr 0 0), (8, iN xs.length), (9, iN p)]) ⟨1, [⟨0, 0, 77, aC a⟩]⟩), (38, .b true), (43, .n (.fptr (aC m))), (46, .q (.int .i64 0))]) = some (.tuple [iN p, .bool true], [Goes Try.prog tab (ksF ftab 125) (.loop (loopAt (bodyOf ftab 125) 0)) (mkT 49 [(0, .list 6 xs), (2, .fn 60 [] []), (4, .ptr 0 0), (8, iN xs.length), (9, iN 0), (10, iN xs.length)]) ⟨1, [⟨0, 0, 77, aC a⟩]⟩ (.exit 0) (mkT 49 [(0, .list 6 xs), (2, .fn 60 [] []), (4, .ptr 0 0), (8, iN xs.length), (9, iN p)]) ⟨1, [⟨0, 0, 77, aC a⟩]⟩, decide ((p : Int) < (xs.length : Int)) = true, idxOk (p : Int) xs.length = true, nth xs (p : Int).toNat = some (aC m), cCo 60 [aD m, aD a] ⟨1, [⟨0, 0, 77, aC a⟩]⟩ = some (.int .i64 (0), ⟨1, [⟨0, 0, 77, aC a⟩]⟩, none)]) := by
  kernel_rfl

set_option maxRecDepth 1000000 in
theorem bsMiss (xs : List (List DV)) (a p m : Nat) : zflat (zans Try.prog tab ftab cCo 125 [.list 6 xs, aD a, .fn 60 [] []] [(0, .l [0, 2, 4, 8, 9, 10] (.exit 0) (mkT 49 [(0, .list 6 xs), (2, .fn 60 [] []), (4, .ptr 0 0), (8, iN xs.length), (9, iN p)]) ⟨1, [⟨0, 0, 77, aC a⟩]⟩), (38, .b true), (43, .n (.fptr (aC m))), (46, .q (.int .i64 1))]) = some (.tuple [iN p, .bool false], [Goes Try.prog tab (ksF ftab 125) (.loop (loopAt (bodyOf ftab 125) 0)) (mkT 49 [(0, .list 6 xs), (2, .fn 60 [] []), (4, .ptr 0 0), (8, iN xs.length), (9, iN 0), (10, iN xs.length)]) ⟨1, [⟨0, 0, 77, aC a⟩]⟩ (.exit 0) (mkT 49 [(0, .list 6 xs), (2, .fn 60 [] []), (4, .ptr 0 0), (8, iN xs.length), (9, iN p)]) ⟨1, [⟨0, 0, 77, aC a⟩]⟩, decide ((p : Int) < (xs.length : Int)) = true, idxOk (p : Int) xs.length = true, nth xs (p : Int).toNat = some (aC m), cCo 60 [aD m, aD a] ⟨1, [⟨0, 0, 77, aC a⟩]⟩ = some (.int .i64 (1), ⟨1, [⟨0, 0, 77, aC a⟩]⟩, none)]) := by
  kernel_rfl

/-- binary search finds where a belongs -/
theorem bs_loop {ns : List Nat} (hb : ∀ n ∈ ns, n < 2 ^ 48) (hl : ns.length < 2 ^ 30) (ss : Srt ns) {a : Nat} (ha : a < 2 ^ 48) : ∃ p, p ≤ ns.length ∧ (∀ i, i < p → ns.getD i 0 < a) ∧ (∀ i, p ≤ i → i < ns.length → a ≤ ns.getD i 0) ∧ (fun xs => Goes Try.prog tab (ksF ftab 125) (.loop (loopAt (bodyOf ftab 125) 0)) (mkT 49 [(0, .list 6 xs), (2, .fn 60 [] []), (4, .ptr 0 0), (8, iN xs.length), (9, iN 0), (10, iN xs.length)]) ⟨1, [⟨0, 0, 77, aC a⟩]⟩ (.exit 0) (mkT 49 [(0, .list 6 xs), (2, .fn 60 [] []), (4, .ptr 0 0), (8, iN xs.length), (9, iN p)]) ⟨1, [⟨0, 0, 77, aC a⟩]⟩) (rows ns) := by
  have hr := rows_length ns
  have adj : ∀ i j, i ≤ j → j < ns.length → ns.getD i 0 ≤ ns.getD j 0 := fun i j hij hj => by
    rcases Nat.eq_or_lt_of_le hij with rfl | hlt
    · exact Nat.le_refl _
    · have := List.pairwise_iff_getElem.1 ss i j (by omega) hj hlt
      rw [List.getD_eq_getElem?_getD, List.getD_eq_getElem?_getD, List.getElem?_eq_getElem (by omega), List.getElem?_eq_getElem hj]
      exact Nat.le_of_lt this
  have loop := Goes.loopM (P := Try.prog) (T := tab) (ks := (ksF ftab 125)) (x := loopAt (bodyOf ftab 125) 0) (e := .exit 0)
    (fun m sl h => ∃ i j, m = j - i ∧ sl = (fun xs => mkT 49 [(0, .list 6 xs), (2, .fn 60 [] []), (4, .ptr 0 0), (8, iN xs.length), (9, iN i), (10, iN j)]) (rows ns) ∧ h = ⟨1, [⟨0, 0, 77, aC a⟩]⟩ ∧ i ≤ j ∧ j ≤ ns.length ∧ (∀ q, q < i → ns.getD q 0 < a) ∧ (∀ q, j ≤ q → q < ns.length → a ≤ ns.getD q 0))
    (fun sl h => ∃ p, sl = (fun xs => mkT 49 [(0, .list 6 xs), (2, .fn 60 [] []), (4, .ptr 0 0), (8, iN xs.length), (9, iN p)]) (rows ns) ∧ h = ⟨1, [⟨0, 0, 77, aC a⟩]⟩ ∧ p ≤ ns.length ∧ (∀ q, q < p → ns.getD q 0 < a) ∧ (∀ q, p ≤ q → q < ns.length → a ≤ ns.getD q 0)) (by intro h; cases h) ?_ (m := ns.length) (sl := (fun xs => mkT 49 [(0, .list 6 xs), (2, .fn 60 [] []), (4, .ptr 0 0), (8, iN xs.length), (9, iN 0), (10, iN xs.length)]) (rows ns)) (hp := ⟨1, [⟨0, 0, 77, aC a⟩]⟩)
    ⟨0, ns.length, rfl, by simp only [hr], rfl, Nat.zero_le _, Nat.le_refl _, fun q hq => absurd hq (by omega), fun q h1 h2 => absurd h1 (by omega)⟩
  · obtain ⟨_, _, g, p, rfl, rfl, h1, h2, h3⟩ := loop
    exact ⟨p, h1, h2, h3, g⟩
  · rintro m sl h ⟨i, j, rfl, rfl, rfl, hij, hj, lo, hi⟩
    by_cases hc : i < j
    · have hs : (i + j) / 2 < ns.length := by omega
      have gm : ns[(i + j) / 2]? = some (ns.getD ((i + j) / 2) 0) := by rw [List.getD_eq_getElem?_getD, List.getElem?_eq_getElem hs]; rfl
      have bm := hb _ (List.mem_of_getElem? gm)
      have q := cCo_at ⟨1, [⟨0, 0, 77, aC a⟩]⟩ bm ha
      have n0 : decide ((i : Int) < (j : Int)) = true := decide_eq_true (by omega)
      have n1 : DV.int .i64 (IntKind.i64.wrap ((i : Int) + (j : Int))) = iN (i + j) := by
        rw [show (i : Int) + (j : Int) = ((i + j : Nat) : Int) by omega, wrapI (by omega)]
        rfl
      have n2 : DV.int .u64 (IntKind.u64.wrap ((i + j : Nat) : Int)) = .int .u64 ((i + j : Nat) : Int) := by rw [wrapU rfl, Nat.mod_eq_of_lt (by show i + j < 2 ^ 64; omega)]
      have n3 : DV.int .i64 (IntKind.i64.wrap (shrD .u64 ((i + j : Nat) : Int) 1)) = iN ((i + j) / 2) := by
        rw [show (1 : Int) = ((1 : Nat) : Int) from rfl, shrU _ (by decide), wrapI (by omega)]
        rfl
      have n4 := idxOk_lt (k := (i + j) / 2) (n := (rows ns).length) (by omega)
      have n5 := rows_nth gm
      by_cases h1 : ns.getD ((i + j) / 2) 0 < a
      · rw [cmpN, if_pos h1] at q
        refine .inr ⟨_, _, _, by omega, zsee_ok tab_ok mixed fun_ok cCo_ok (bsLt (rows ns) a i j (i + j) ((i + j) / 2) _) (.cons n0 (.cons n1 (.cons n2 (.cons n3 (.cons n4 (.cons n5 (.cons q (.cons (congrArg (DV.int .i64) (wrapI (n := (i + j) / 2 + 1) (by omega))) .nil)))))))), (i + j) / 2 + 1, j, rfl, rfl, rfl, by omega, hj, fun q hq => ?_, hi⟩
        exact Nat.lt_of_le_of_lt (adj q ((i + j) / 2) (by omega) hs) h1
      · rw [cmpN, if_neg h1] at q
        have up : ∀ q, (i + j) / 2 ≤ q → q < ns.length → a ≤ ns.getD q 0 := fun q h3 h4 => Nat.le_trans (Nat.le_of_not_lt h1) (adj _ q h3 h4)
        by_cases h2 : a < ns.getD ((i + j) / 2) 0
        · rw [if_pos h2] at q
          exact .inr ⟨_, _, _, by omega, zsee_ok tab_ok mixed fun_ok cCo_ok (bsGt (rows ns) a i j (i + j) ((i + j) / 2) _) (.cons n0 (.cons n1 (.cons n2 (.cons n3 (.cons n4 (.cons n5 (.cons q .nil))))))), i, (i + j) / 2, rfl, rfl, rfl, by omega, by omega, lo, up⟩
        · rw [if_neg h2] at q
          exact .inr ⟨_, _, _, by omega, zsee_ok tab_ok mixed fun_ok cCo_ok (bsEq (rows ns) a i j (i + j) ((i + j) / 2) _) (.cons n0 (.cons n1 (.cons n2 (.cons n3 (.cons n4 (.cons n5 (.cons q .nil))))))), i, (i + j) / 2, rfl, rfl, rfl, by omega, by omega, lo, up⟩
    · refine .inl ⟨_, _, zsee_ok tab_ok mixed fun_ok cCo_ok (bsOut (rows ns) a i j) (.cons (decide_eq_false (by omega)) .nil), i, rfl, rfl, by omega, lo, fun q h3 h4 => hi q (by omega) h4⟩
theorem ansBs0 {ns : List Nat} (hb : ∀ n ∈ ns, n < 2 ^ 48) (hl : ns.length < 2 ^ 30) (ss : Srt ns) {a : Nat} (ha : a < 2 ^ 48) : ∃ p, Ans Try.prog 125 [adL ns, aD a, .fn 60 [] []] (.tuple [iN p, .bool (decide (a ∈ ns))]) ⟨0, []⟩ := by
  have hr := rows_length ns
  obtain ⟨p, h1, h2, h3, g⟩ := bs_loop hb hl ss ha
  refine ⟨p, ?_⟩
  by_cases hp : p < ns.length
  · have gm : ns[p]? = some (ns.getD p 0) := by rw [List.getD_eq_getElem?_getD, List.getElem?_eq_getElem hp]; rfl
    have q := cCo_at ⟨1, [⟨0, 0, 77, aC a⟩]⟩ (hb _ (List.mem_of_getElem? gm)) ha
    have hge := h3 p (Nat.le_refl _) hp
    rw [cmpN, if_neg (by omega)] at q
    by_cases he : a < ns.getD p 0
    · have hn : a ∉ ns := fun hm => by
        obtain ⟨i, hi⟩ := List.mem_iff_getElem?.1 hm
        have hil := (List.getElem?_eq_some_iff.1 hi).1
        have hv : ns.getD i 0 = a := by rw [List.getD_eq_getElem?_getD, hi]; rfl
        rcases Nat.lt_or_ge i p with hlt | hge
        · have := h2 i hlt
          omega
        · rcases Nat.eq_or_lt_of_le hge with rfl | hgt
          · omega
          · have := List.pairwise_iff_getElem.1 ss p i hp hil hgt
            rw [List.getD_eq_getElem?_getD, List.getElem?_eq_getElem hil] at hv
            rw [List.getD_eq_getElem?_getD, List.getElem?_eq_getElem hp] at he
            simp only [Option.getD_some] at hv he
            omega
      rw [if_pos he] at q
      rw [decide_eq_false hn]
      exact zflat_ok tab_ok mixed fun_ok cCo_ok (bsMiss (rows ns) a p _) (.cons g (.cons (decide_eq_true (by omega)) (.cons (idxOk_lt (by omega)) (.cons (rows_nth gm) (.cons q .nil)))))
    · have hv : ns.getD p 0 = a := by omega
      have hm : a ∈ ns := by
        rw [hv] at gm
        exact List.mem_of_getElem? gm
      rw [if_neg he] at q
      rw [decide_eq_true hm]
      exact zflat_ok tab_ok mixed fun_ok cCo_ok (bsHit (rows ns) a p _) (.cons g (.cons (decide_eq_true (by omega)) (.cons (idxOk_lt (by omega)) (.cons (rows_nth gm) (.cons q .nil)))))
  · have hn : a ∉ ns := fun hm => by
      obtain ⟨i, hi⟩ := List.mem_iff_getElem?.1 hm
      have hil := (List.getElem?_eq_some_iff.1 hi).1
      have hv : ns.getD i 0 = a := by rw [List.getD_eq_getElem?_getD, hi]; rfl
      have := h2 i (by omega)
      omega
    rw [decide_eq_false hn]
    exact zflat_ok tab_ok mixed fun_ok cCo_ok (bsEnd (rows ns) a p) (.cons g (.cons (decide_eq_false (by omega)) .nil))
abbrev Ins : Type := {x : Ads × Adr // chk x.1.1 = 0}
theorem ins_ex (x : Ins) : ∃ p, Ans Try.prog 125 [adL x.1.1.1, aD x.1.2.1, .fn 60 [] []] (.tuple [iN p, .bool (decide (x.1.2.1 ∈ x.1.1.1))]) ⟨0, []⟩ := ansBs0 x.1.1.2.1 x.1.1.2.2 (chk_ok x.2).2 x.1.2.2
def cBq : CallF := conC 125 (fun x : Ins => [adL x.1.1.1, aD x.1.2.1, .fn 60 [] []]) fun x => (.tuple [iN (ins_ex x).choose, .bool (decide (x.1.2.1 ∈ x.1.1.1))], ⟨0, []⟩)
theorem cBq_ok : CallOk Try.prog cBq := conC_ok (fun x => (ins_ex x).choose_spec) fun _ => fine0 rfl
theorem ins_inj {x y : Ins} (h1 : adL x.1.1.1 = adL y.1.1.1) (h2 : aD x.1.2.1 = aD y.1.2.1) : x = y := by
  obtain ⟨⟨x1, x2⟩, _⟩ := x
  obtain ⟨⟨y1, y2⟩, _⟩ := y
  have e1 := adL_inj h1
  have e2 := aD_inj h2
  subst e1 e2
  rfl
theorem cBq_at {hp : Hp} {d : DV} (x : Ins) (h : frz1 hp d (adL x.1.1.1)) : ∃ p, cBq 125 [d, aD x.1.2.1, .fn 60 [] []] hp = some (.tuple [iN p, .bool (decide (x.1.2.1 ∈ x.1.1.1))], hp, none) :=
  ⟨_, conC_at (f0 := 125) (A := fun x : Ins => [adL x.1.1.1, aD x.1.2.1, .fn 60 [] []]) (fun x y hxy => by
    simp only [List.cons.injEq, and_true] at hxy
    rw [ins_inj hxy.1 hxy.2]) x ⟨h, frz_aD _ _, rfl, trivial⟩⟩
/-! ### Has -/
def cH0 : CallF := orK cCk cBq
theorem cH0_ok : CallOk Try.prog cH0 := orK_ok cCk_ok cBq_ok
set_option maxRecDepth 1000000 in
theorem runHas (xs : List (List DV)) (a p : Nat) (v : Bool) : zflat (zans Try.prog tab ftab cH0 70 [.list 6 xs, aD a] [(10, .q (.int .i64 0)), (17, .q (.tuple [iN p, .bool v]))]) = some (.tuple [.bool v, .int .i64 0], [cH0 76 [.list 6 xs] ⟨1, [⟨0, 0, 77, aC a⟩]⟩ = some (.int .i64 0, ⟨1, [⟨0, 0, 77, aC a⟩]⟩, none), cH0 125 [.list 6 xs, aD a, .fn 60 [] []] ⟨1, [⟨0, 0, 77, aC a⟩]⟩ = some (.tuple [iN p, .bool v], ⟨1, [⟨0, 0, 77, aC a⟩]⟩, none)]) := by
  kernel_rfl
theorem ansHas (x : Ins) : Ans Try.prog 70 [adL x.1.1.1, aD x.1.2.1] (.tuple [.bool (decide (x.1.2.1 ∈ x.1.1.1)), .int .i64 0]) ⟨0, []⟩ := by
  obtain ⟨p, q⟩ := cBq_at (hp := (fun a => ⟨1, [⟨0, 0, 77, aC a⟩]⟩) x.1.2.1) (d := adL x.1.1.1) x ⟨rfl, rfl⟩
  have k := cCk_at (hp := (fun a => ⟨1, [⟨0, 0, 77, aC a⟩]⟩) x.1.2.1) (d := adL x.1.1.1) x.1.1 ⟨rfl, rfl⟩
  rw [x.2] at k
  exact zflat_ok tab_ok mixed fun_ok cH0_ok (runHas (rows x.1.1.1) x.1.2.1 p _) (.cons (orK_left k) (.cons (orK_right (conC_other (by kernel_rfl)) q) .nil))
def cHa : CallF := conC 70 (fun x : Ins => [adL x.1.1.1, aD x.1.2.1]) fun x => (.tuple [.bool (decide (x.1.2.1 ∈ x.1.1.1)), .int .i64 0], ⟨0, []⟩)
theorem cHa_ok : CallOk Try.prog cHa := conC_ok ansHas fun _ => fine0 rfl
theorem cHa_at {hp : Hp} {d : DV} (x : Ins) (h : frz1 hp d (adL x.1.1.1)) : cHa 70 [d, aD x.1.2.1] hp = some (.tuple [.bool (decide (x.1.2.1 ∈ x.1.1.1)), .int .i64 0], hp, none) :=
  conC_at (f0 := 70) (A := fun x : Ins => [adL x.1.1.1, aD x.1.2.1]) (B := fun x => (.tuple [.bool (decide (x.1.2.1 ∈ x.1.1.1)), .int .i64 0], ⟨0, []⟩)) (fun x y hxy => by
    simp only [List.cons.injEq, and_true] at hxy
    rw [ins_inj hxy.1 hxy.2]) x ⟨h, frz_aD _ _, trivial⟩
/-! ### Add -/
abbrev H2 (a : Nat) : Hp := ⟨2, [⟨0, 0, 77, aC a⟩, ⟨0, 0, 77, aC a⟩]⟩
abbrev H3o (a : Nat) (cl : List DV) : Hp := ⟨3, [⟨0, 0, 77, cl⟩, ⟨0, 0, 77, aC a⟩, ⟨0, 0, 77, aC a⟩]⟩
set_option maxRecDepth 1000000 in
theorem runAdd (xs : List (List DV)) (a n N : Nat) (cl : List DV) : zkeep [2] (zans Try.prog tab ftab cUn 49 [.list 6 xs, aD a] [(9, .r (.tuple [.sl 2 0 6 n N, .int .i64 0]) (H3o a cl))]) =
    some (.tuple [.sl 0 0 6 n N, .int .i64 0], ⟨1, [⟨0, 0, 77, cl⟩]⟩, [Plain (H3o a cl), cUn 72 [.list 6 xs, .sl 1 0 6 1 1] (H2 a) = some (.tuple [.sl 2 0 6 n N, .int .i64 0], H3o a cl, none)]) := by
  kernel_rfl
abbrev Ina : Type := {x : Ads × Adr // chk x.1.1 = 0 ∧ x.1.1.length + 1 ≤ 256}
theorem one_room (a : Nat) : aC a = room [a] 1 := by simp [room, flat, rows, nlist]
theorem plainO (v w : Nat) (out : List Nat) (N : Nat) : Plain ⟨3, [⟨0, 0, 77, room out N⟩, ⟨0, 0, 77, aC v⟩, ⟨0, 0, 77, aC w⟩]⟩ := plain_of fun o ho => by
  simp only [List.mem_cons, List.not_mem_nil, or_false] at ho
  rcases ho with rfl | rfl | rfl
  · exact room_plain out N
  · exact aC_plain v
  · exact aC_plain w
def bAd (x : Ina) : DV × Hp := (.tuple [.sl 0 0 6 (uni x.1.1.1 [x.1.2.1]).length (x.1.1.1.length + 1), .int .i64 0], ⟨1, [⟨0, 0, 77, room (uni x.1.1.1 [x.1.2.1]) (x.1.1.1.length + 1)⟩]⟩)
theorem one_chk (a : Nat) : chk [a] = 0 := chk_of (by simp) (List.pairwise_singleton _ _)
theorem sh_one (hp : Hp) (a id : Nat) (h : hp.get id = some ⟨0, 0, 77, aC a⟩) : ShA hp (.sl id 0 6 1 1) [a] := .inr ⟨id, _, 1, 1, rfl, h, one_room a⟩
theorem ansAdd (x : Ina) : Ans Try.prog 49 [adL x.1.1.1, aD x.1.2.1] (bAd x).1 (bAd x).2 := by
  obtain ⟨⟨⟨ns, hb, hl⟩, a, ha⟩, hc, h1⟩ := x
  have h1 : ns.length + 1 ≤ 256 := h1
  refine zkeep_ok tab_ok mixed fun_ok cUn_ok (runAdd (rows ns) a (uni ns [a]).length (ns.length + 1) (room (uni ns [a]) (ns.length + 1))) (.cons (plainO a a _ _) (.cons ?_ .nil))
  exact cUn_at (hp := H2 a) (t := [a]) hb (fun n hn => by
    simp at hn
    subst hn
    exact ha) hc (one_chk a) h1 (.inl rfl) (sh_one _ a 1 rfl)
def cAd' : CallF := conC 49 (fun x : Ina => [adL x.1.1.1, aD x.1.2.1]) bAd
theorem cAd'_ok : CallOk Try.prog cAd' := conC_ok ansAdd fun _ => ⟨rfl, plain_of fun o ho => by
  simp only [bAd, List.mem_cons, List.not_mem_nil, or_false] at ho
  subst ho
  exact room_plain _ _, rfl⟩
theorem cAd'_at {hp : Hp} {d : DV} {ns : List Nat} {a : Nat} (hb : ∀ n ∈ ns, n < 2 ^ 48) (ha : a < 2 ^ 48) (hc : chk ns = 0) (hl : ns.length + 1 ≤ 256) (h : ShA hp d ns) : cAd' 49 [d, aD a] hp = some (.tuple [.sl (hp.n + 0) 0 6 (uni ns [a]).length (ns.length + 1), .int .i64 0], layH hp ⟨1, [⟨0, 0, 77, room (uni ns [a]) (ns.length + 1)⟩]⟩, none) :=
  conC_at (f0 := 49) (A := fun x : Ina => [adL x.1.1.1, aD x.1.2.1]) (B := bAd) (fun x y hxy => by
    obtain ⟨⟨x1, x2⟩, _⟩ := x
    obtain ⟨⟨y1, y2⟩, _⟩ := y
    simp only [List.cons.injEq, and_true] at hxy
    have e1 := adL_inj hxy.1
    have e2 := aD_inj hxy.2
    subst e1 e2
    rfl) ⟨(⟨ns, hb, by omega⟩, ⟨a, ha⟩), hc, hl⟩ ⟨h.frz, frz_aD _ _, trivial⟩
/-! ### Remove, of what is there -/
def cR0 : CallF := orK cHa cMgR
theorem cR0_ok : CallOk Try.prog cR0 := orK_ok cHa_ok cMgR_ok
set_option maxRecDepth 1000000 in
theorem runRem (xs : List (List DV)) (a n N : Nat) (cl : List DV) : zkeep [2] (zans Try.prog tab ftab cR0 50 [.list 6 xs, aD a] [(11, .q (.tuple [.bool true, .int .i64 0])), (22, .r (.sl 2 0 6 n N) (H3o a cl))]) =
    some (.tuple [.sl 0 0 6 n N, .int .i64 0], ⟨1, [⟨0, 0, 77, cl⟩]⟩, [Plain (H3o a cl), cR0 70 [.list 6 xs, aD a] ⟨1, [⟨0, 0, 77, aC a⟩]⟩ = some (.tuple [.bool true, .int .i64 0], ⟨1, [⟨0, 0, 77, aC a⟩]⟩, none), cR0 118 [.list 6 xs, .sl 1 0 6 1 1, .fn 119 [] []] (H2 a) = some (.sl 2 0 6 n N, H3o a cl, none)]) := by
  kernel_rfl
abbrev Inr : Type := {x : Ads × Adr // chk x.1.1 = 0 ∧ x.2.1 ∈ x.1.1}
def bRe (x : Inr) : DV × Hp := (.tuple [.sl 0 0 6 (dif x.1.1.1 [x.1.2.1]).length (x.1.1.1.length + 1), .int .i64 0], ⟨1, [⟨0, 0, 77, room (dif x.1.1.1 [x.1.2.1]) (x.1.1.1.length + 1)⟩]⟩)
theorem ansRem (x : Inr) : Ans Try.prog 50 [adL x.1.1.1, aD x.1.2.1] (bRe x).1 (bRe x).2 := by
  obtain ⟨⟨⟨ns, hb, hl⟩, a, ha⟩, hc, hm⟩ := x
  have hm : a ∈ ns := hm
  have q := cHa_at (hp := ⟨1, [⟨0, 0, 77, aC a⟩]⟩) (d := adL ns) ⟨(⟨ns, hb, hl⟩, ⟨a, ha⟩), hc⟩ ⟨rfl, rfl⟩
  rw [decide_eq_true hm] at q
  have hone : ∀ n ∈ [a], n < 2 ^ 48 := fun n hn => by
    simp at hn
    subst hn
    exact ha
  refine zkeep_ok tab_ok mixed fun_ok cR0_ok (runRem (rows ns) a (dif ns [a]).length (ns.length + 1) (room (dif ns [a]) (ns.length + 1))) (.cons (plainO a a _ _) (.cons (orK_left q) (.cons ?_ .nil)))
  exact orK_right (conC_other (by kernel_rfl)) (cMgR_at (hp := H2 a) ⟨ns, hb, hl⟩ ⟨[a], hone, by show (1 : Nat) < 2 ^ 30; decide⟩ ⟨rfl, rfl⟩ (sh_one (H2 a) a 1 rfl).frz)
def cRe : CallF := conC 50 (fun x : Inr => [adL x.1.1.1, aD x.1.2.1]) bRe
theorem cRe_ok : CallOk Try.prog cRe := conC_ok ansRem fun _ => ⟨rfl, plain_of fun o ho => by
  simp only [bRe, List.mem_cons, List.not_mem_nil, or_false] at ho
  subst ho
  exact room_plain _ _, rfl⟩
theorem cRe_at {hp : Hp} {d : DV} {ns : List Nat} {a : Nat} (hb : ∀ n ∈ ns, n < 2 ^ 48) (hl : ns.length < 2 ^ 30) (ha : a < 2 ^ 48) (hc : chk ns = 0) (hm : a ∈ ns) (h : ShA hp d ns) : cRe 50 [d, aD a] hp = some (.tuple [.sl (hp.n + 0) 0 6 (dif ns [a]).length (ns.length + 1), .int .i64 0], layH hp ⟨1, [⟨0, 0, 77, room (dif ns [a]) (ns.length + 1)⟩]⟩, none) :=
  conC_at (f0 := 50) (A := fun x : Inr => [adL x.1.1.1, aD x.1.2.1]) (B := bRe) (fun x y hxy => by
    obtain ⟨⟨x1, x2⟩, _⟩ := x
    obtain ⟨⟨y1, y2⟩, _⟩ := y
    simp only [List.cons.injEq, and_true] at hxy
    have e1 := adL_inj hxy.1
    have e2 := aD_inj hxy.2
    subst e1 e2
    rfl) ⟨(⟨ns, hb, hl⟩, ⟨a, ha⟩), hc, hm⟩ ⟨h.frz, frz_aD _ _, trivial⟩
/-! ### What is not in the second list -/
theorem mem_dif (n : Nat) : ∀ {s t : List Nat}, Srt s → Srt t → (n ∈ dif s t ↔ n ∈ s ∧ n ∉ t)
  | [], ys, _, _ => by rw [dif]; simp
  | x :: xs, [], _, _ => by rw [dif]; simp
  | x :: xs, y :: ys, hs, ht => by
    have hx := List.pairwise_cons.1 hs
    have hy := List.pairwise_cons.1 ht
    rw [dif]
    split
    · rename_i hlt
      rw [List.mem_cons, mem_dif n hx.2 ht]
      constructor
      · rintro (rfl | ⟨h, k⟩)
        · refine ⟨List.mem_cons_self .., fun k => ?_⟩
          rcases List.mem_cons.1 k with rfl | k
          · omega
          · have := hy.1 _ k
            omega
        · exact ⟨List.mem_cons_of_mem _ h, k⟩
      · rintro ⟨h, k⟩
        rcases List.mem_cons.1 h with rfl | h
        · exact .inl rfl
        · exact .inr ⟨h, k⟩
    · split
      · rename_i hgt
        rw [mem_dif n hs hy.2]
        constructor
        · rintro ⟨h, k⟩
          refine ⟨h, fun q => ?_⟩
          rcases List.mem_cons.1 q with rfl | q
          · rcases List.mem_cons.1 h with rfl | h
            · omega
            · have := hx.1 _ h
              omega
          · exact k q
        · rintro ⟨h, k⟩
          exact ⟨h, fun q => k (List.mem_cons_of_mem _ q)⟩
      · have e : x = y := by omega
        subst e
        rw [mem_dif n hx.2 hy.2]
        constructor
        · rintro ⟨h, k⟩
          refine ⟨List.mem_cons_of_mem _ h, fun q => ?_⟩
          rcases List.mem_cons.1 q with rfl | q
          · have := hx.1 _ h
            omega
          · exact k q
        · rintro ⟨h, k⟩
          rcases List.mem_cons.1 h with rfl | h
          · exact absurd (List.mem_cons_self ..) k
          · exact ⟨h, fun q => k (List.mem_cons_of_mem _ q)⟩
termination_by s t => s.length + t.length
theorem srt_dif : ∀ {s t : List Nat}, Srt s → Srt t → Srt (dif s t)
  | [], ys, _, _ => by rw [dif]; exact List.Pairwise.nil
  | x :: xs, [], hs, _ => by rw [dif]; exact hs
  | x :: xs, y :: ys, hs, ht => by
    have hx := List.pairwise_cons.1 hs
    have hy := List.pairwise_cons.1 ht
    rw [dif]
    split
    · exact List.pairwise_cons.2 ⟨fun n hn => hx.1 n ((mem_dif n hx.2 ht).1 hn).1, srt_dif hx.2 ht⟩
    · split
      · exact srt_dif hs hy.2
      · exact srt_dif hx.2 hy.2
termination_by s t => s.length + t.length
theorem len_dif : ∀ (s t : List Nat), (dif s t).length ≤ s.length
  | [], ys => by rw [dif]; exact Nat.le_refl _
  | x :: xs, [] => by rw [dif]; exact Nat.le_refl _
  | x :: xs, y :: ys => by
    rw [dif]
    split
    · have := len_dif xs (y :: ys)
      simp only [List.length_cons] at this ⊢
      omega
    · split
      · exact len_dif (x :: xs) ys
      · have := len_dif xs ys
        simp only [List.length_cons] at this ⊢
        omega
termination_by s t => s.length + t.length
end
end Go.Proofs.Ytnhbhdfeenpedaa
