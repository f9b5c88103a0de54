/- Sets of addresses: Union, Meet; sorted lists; arguments. -/
import Derived.Test.YtnhbhdfeenpedaaAn
import Derived.Test.YtnhbhdfeenpedaaArr
namespace Go.Proofs.Ytnhbhdfeenpedaa
open Go.RowKit

noncomputable section
/-! ### Sorted lists -/
abbrev Srt (ns : List Nat) : Prop := ns.Pairwise (· < ·)
theorem srt_of {ns : List Nat} (h : Adj ns) : Srt ns := by
  have key : ∀ d i, i + d + 1 < ns.length → ns.getD i 0 < ns.getD (i + d + 1) 0 := by
    intro d
    induction d with
    | zero => intro i hi; exact h i hi
    | succ d ih =>
      intro i hi
      exact Nat.lt_trans (ih i (by omega)) (h (i + d + 1) (by omega))
  rw [Srt, List.pairwise_iff_getElem]
  intro i j hi hj hij
  have := key (j - i - 1) i (by omega)
  rw [show i + (j - i - 1) + 1 = j by omega, List.getD_eq_getElem?_getD, List.getD_eq_getElem?_getD, List.getElem?_eq_getElem hi, List.getElem?_eq_getElem hj] at this
  exact this
theorem adj_of {ns : List Nat} (h : Srt ns) : Adj ns := by
  intro i hi
  rw [Srt, List.pairwise_iff_getElem] at h
  have := h i (i + 1) (by omega) hi (by omega)
  rw [List.getD_eq_getElem?_getD, List.getD_eq_getElem?_getD, List.getElem?_eq_getElem (by omega), List.getElem?_eq_getElem hi]
  exact this
theorem mem_uni (n : Nat) : ∀ (s t : List Nat), n ∈ uni s t ↔ n ∈ s ∨ n ∈ t
  | [], ys => by rw [uni]; simp
  | x :: xs, [] => by rw [uni]; simp
  | x :: xs, y :: ys => by
    rw [uni]
    split
    · rw [List.mem_cons, mem_uni n xs (y :: ys), List.mem_cons (b := x), or_assoc]
    · split
      · rw [List.mem_cons, mem_uni n (x :: xs) ys, List.mem_cons (b := y), ← or_assoc, ← or_assoc, or_comm (a := n = y)]
      · have e : x = y := by omega
        subst e
        rw [List.mem_cons, mem_uni n xs ys, List.mem_cons (b := x), List.mem_cons (b := x)]
        constructor
        · rintro (h | h | h)
          · exact .inl (.inl h)
          · exact .inl (.inr h)
          · exact .inr (.inr h)
        · rintro ((h | h) | (h | h))
          · exact .inl h
          · exact .inr (.inl h)
          · exact .inl h
          · exact .inr (.inr h)
termination_by s t => s.length + t.length
theorem srt_uni : ∀ {s t : List Nat}, Srt s → Srt t → Srt (uni s t)
  | [], ys, _, ht => by rw [uni]; exact ht
  | x :: xs, [], hs, _ => by rw [uni]; exact hs
  | x :: xs, y :: ys, hs, ht => by
    have hx := List.pairwise_cons.1 hs
    have hy := List.pairwise_cons.1 ht
    rw [uni]
    split
    · rename_i hlt
      refine List.pairwise_cons.2 ⟨fun n hn => ?_, srt_uni hx.2 ht⟩
      rcases (mem_uni n _ _).1 hn with h | h
      · exact hx.1 n h
      · rcases List.mem_cons.1 h with rfl | h
        · exact hlt
        · exact Nat.lt_trans hlt (hy.1 n h)
    · split
      · rename_i hgt
        refine List.pairwise_cons.2 ⟨fun n hn => ?_, srt_uni hs hy.2⟩
        rcases (mem_uni n _ _).1 hn with h | h
        · rcases List.mem_cons.1 h with rfl | h
          · exact hgt
          · exact Nat.lt_trans hgt (hx.1 n h)
        · exact hy.1 n h
      · refine List.pairwise_cons.2 ⟨fun n hn => ?_, srt_uni hx.2 hy.2⟩
        rcases (mem_uni n _ _).1 hn with h | h
        · have := hx.1 n h
          omega
        · exact hy.1 n h
termination_by s t => s.length + t.length
theorem mem_mee (n : Nat) : ∀ {s t : List Nat}, Srt s → Srt t → (n ∈ mee s t ↔ n ∈ s ∧ n ∈ t)
  | [], ys, _, _ => by rw [mee]; simp
  | x :: xs, [], _, _ => by rw [mee]; simp
  | x :: xs, y :: ys, hs, ht => by
    have hx := List.pairwise_cons.1 hs
    have hy := List.pairwise_cons.1 ht
    rw [mee]
    split
    · rename_i hlt
      rw [mem_mee n hx.2 ht]
      constructor
      · rintro ⟨h, k⟩
        exact ⟨List.mem_cons_of_mem _ h, k⟩
      · rintro ⟨h, k⟩
        rcases List.mem_cons.1 h with rfl | h
        · rcases List.mem_cons.1 k with rfl | k
          · omega
          · have := hy.1 _ k
            omega
        · exact ⟨h, k⟩
    · split
      · rename_i hgt
        rw [mem_mee n hs hy.2]
        constructor
        · rintro ⟨h, k⟩
          exact ⟨h, List.mem_cons_of_mem _ k⟩
        · rintro ⟨h, k⟩
          rcases List.mem_cons.1 k with rfl | k
          · rcases List.mem_cons.1 h with rfl | h
            · omega
            · have := hx.1 _ h
              omega
          · exact ⟨h, k⟩
      · have e : x = y := by omega
        subst e
        rw [List.mem_cons, mem_mee n hx.2 hy.2]
        constructor
        · rintro (rfl | ⟨h, k⟩)
          · exact ⟨List.mem_cons_self .., List.mem_cons_self ..⟩
          · exact ⟨List.mem_cons_of_mem _ h, List.mem_cons_of_mem _ k⟩
        · rintro ⟨h, k⟩
          rcases List.mem_cons.1 h with rfl | h
          · exact .inl rfl
          · rcases List.mem_cons.1 k with rfl | k
            · exact .inl rfl
            · exact .inr ⟨h, k⟩
termination_by s t => s.length + t.length
theorem srt_mee : ∀ {s t : List Nat}, Srt s → Srt t → Srt (mee s t)
  | [], ys, _, _ => by rw [mee]; exact List.Pairwise.nil
  | x :: xs, [], _, _ => by rw [mee]; exact List.Pairwise.nil
  | x :: xs, y :: ys, hs, ht => by
    have hx := List.pairwise_cons.1 hs
    have hy := List.pairwise_cons.1 ht
    rw [mee]
    split
    · exact srt_mee hx.2 ht
    · split
      · exact srt_mee hs hy.2
      · exact List.pairwise_cons.2 ⟨fun n hn => hy.1 n ((mem_mee n hx.2 hy.2).1 hn).2, srt_mee hx.2 hy.2⟩
termination_by s t => s.length + t.length
theorem len_both : ∀ (s t : List Nat), (uni s t).length + (mee s t).length = s.length + t.length
  | [], ys => by rw [uni, mee]; simp
  | x :: xs, [] => by rw [uni, mee]
  | x :: xs, y :: ys => by
    rw [uni, mee]
    split
    · have := len_both xs (y :: ys)
      simp only [List.length_cons] at this ⊢
      omega
    · split
      · have := len_both (x :: xs) ys
        simp only [List.length_cons] at this ⊢
        omega
      · have := len_both xs ys
        simp only [List.length_cons] at this ⊢
        omega
termination_by s t => s.length + t.length
theorem srt_ext : ∀ {a b : List Nat}, Srt a → Srt b → (∀ n, n ∈ a ↔ n ∈ b) → a = b
  | [], [], _, _, _ => rfl
  | [], y :: b, _, _, h => by have := (h y).2 (List.mem_cons_self ..); cases this
  | x :: a, [], _, _, h => by have := (h x).1 (List.mem_cons_self ..); cases this
  | x :: a, y :: b, ha, hb, h => by
    have hx := List.pairwise_cons.1 ha
    have hy := List.pairwise_cons.1 hb
    have e : x = y := by
      rcases List.mem_cons.1 ((h x).1 (List.mem_cons_self ..)) with e | h1
      · exact e
      · rcases List.mem_cons.1 ((h y).2 (List.mem_cons_self ..)) with e | h2
        · exact e.symm
        · have := hy.1 _ h1
          have := hx.1 _ h2
          omega
    subst e
    have e2 : a = b := srt_ext hx.2 hy.2 fun n => ⟨fun hn => by
      rcases List.mem_cons.1 ((h n).1 (List.mem_cons_of_mem _ hn)) with e | h1
      · have := hx.1 n hn
        omega
      · exact h1, fun hn => by
      rcases List.mem_cons.1 ((h n).2 (List.mem_cons_of_mem _ hn)) with e | h1
      · have := hy.1 n hn
        omega
      · exact h1⟩
    rw [e2]
theorem chk_ok {ns : List Nat} (h : chk ns = 0) : ns.length ≤ 256 ∧ Srt ns := by
  by_cases hc : ns.length ≤ 256 ∧ Adj ns
  · exact ⟨hc.1, srt_of hc.2⟩
  · rw [chk, if_neg hc] at h
    cases h
theorem chk_of {ns : List Nat} (hl : ns.length ≤ 256) (h : Srt ns) : chk ns = 0 := if_pos ⟨hl, adj_of h⟩
/-! ### What shows addresses -/
def ShA (hp : Hp) (d : DV) (ns : List Nat) : Prop := d = adL ns ∨ ∃ id o N c, d = .sl id 0 6 ns.length c ∧ hp.get id = some o ∧ o.cs = room ns N
theorem flat_get : ∀ {ns : List Nat} {i n j : Nat} {d : DV}, ns[i]? = some n → (aC n)[j]? = some d → (flat ns)[i * 6 + j]? = some d
  | m :: ns, 0, n, j, d, hi, hj => by
    simp at hi
    subst hi
    have hl : j < 6 := (List.getElem?_eq_some_iff.1 hj).1
    show (aC m ++ flat ns)[0 * 6 + j]? = some d
    rw [List.getElem?_append_left (by show _ < 6; omega), Nat.zero_mul, Nat.zero_add]
    exact hj
  | m :: ns, i + 1, n, j, d, hi, hj => by
    have ih := flat_get (ns := ns) (i := i) (n := n) (j := j) (d := d) (by simpa using hi) hj
    show (aC m ++ flat ns)[(i + 1) * 6 + j]? = some d
    rw [List.getElem?_append_right (by show 6 ≤ _; omega), show (i + 1) * 6 + j - (aC m).length = i * 6 + j by show (i + 1) * 6 + j - 6 = _; omega]
    exact ih
  | [], i, n, j, d, hi, _ => by simp at hi
theorem ShA.frz {hp : Hp} {d : DV} {ns : List Nat} (h : ShA hp d ns) : frz1 hp d (adL ns) := by
  rcases h with rfl | ⟨id, o, N, c, rfl, h1, h2⟩
  · exact ⟨rfl, rfl⟩
  · refine ⟨o, rows ns, h1, rfl, rows_length ns, fun i cs hi => ?_⟩
    simp only [rows, List.getElem?_map, Option.map_eq_some_iff] at hi
    obtain ⟨n, hn, rfl⟩ := hi
    refine ⟨rfl, (plains_iff _).2 (aC_plain n), fun j d hj => ?_⟩
    have := flat_get hn hj
    have hlt := (List.getElem?_eq_some_iff.1 this).1
    rw [h2, room, Nat.zero_add, List.getElem?_append_left hlt]
    exact this
theorem ShA.lay {hp hp' : Hp} (hl : hp'.l.length = hp'.n) {d : DV} {ns : List Nat} (h : ShA hp d ns) : ShA (layH hp hp') d ns := by
  rcases h with rfl | ⟨id, o, N, c, rfl, h1, h2⟩
  · exact .inl rfl
  · exact .inr ⟨id, o, N, c, rfl, by rw [layH_get hl, if_pos (Hp.get_lt h1)]; exact h1, h2⟩
theorem shA_new (hp : Hp) (ns : List Nat) (N : Nat) : ShA (layH hp ⟨1, [⟨0, 0, 77, room ns N⟩]⟩) (.sl (hp.n + 0) 0 6 ns.length N) ns :=
  .inr ⟨_, ⟨0, 0, 77, room ns N⟩, N, N, rfl, by rw [layH_get rfl, if_neg (by omega)]; simp; rfl, rfl⟩
theorem lenA_list (hp : Hp) (xs : List (List DV)) : builtinD tab hp .len [.list 6 xs] [82] = some (.int .i64 (xs.length : Int), hp, none) := by kernel_rfl
theorem lenA_sl (hp : Hp) (id off n c : Nat) : builtinD tab hp .len [.sl id off 6 n c] [82] = some (.int .i64 (n : Int), hp, none) := by kernel_rfl
theorem ShA.len {hp : Hp} {d : DV} {ns : List Nat} (h : ShA hp d ns) : builtinD tab hp .len [d] [82] = some (iN ns.length, hp, none) := by
  rcases h with rfl | ⟨id, o, N, c, rfl, _⟩
  · have := lenA_list hp (rows ns)
    rw [rows_length] at this
    exact this
  · exact lenA_sl hp id 0 ns.length c
/-! ### Union, Meet -/
abbrev Prs : Type := {x : Ads × Ads // chk x.1.1 = 0 ∧ chk x.2.1 = 0 ∧ x.1.1.length + x.2.1.length ≤ 256}

def cSU : CallF := orK cCk cMgU
theorem cSU_ok : CallOk Try.prog cSU := orK_ok cCk_ok cMgU_ok
set_option maxRecDepth 1000000 in
theorem runU (xs ys : List (List DV)) (n N : Nat) (cl : List DV) : zans Try.prog tab ftab cSU 72 [.list 6 xs, .list 6 ys] [(10, .c [(7, .q (.int .i64 0)), (12, .q (.int .i64 0))]), (16, .r (.sl 0 0 6 n N) ⟨1, [⟨0, 0, 77, cl⟩]⟩), (19, .b false)] =
    some (.tuple [.sl 0 0 6 n N, .int .i64 0], ⟨1, [⟨0, 0, 77, cl⟩]⟩, [cSU 76 [.list 6 xs] ⟨0, []⟩ = some (.int .i64 0, ⟨0, []⟩, none), cSU 76 [.list 6 ys] ⟨0, []⟩ = some (.int .i64 0, ⟨0, []⟩, none), cSU 118 [.list 6 xs, .list 6 ys, .fn 127 [] []] ⟨0, []⟩ = some (.sl 0 0 6 n N, ⟨1, [⟨0, 0, 77, cl⟩]⟩, none), decide ((n : Int) > 256) = false]) := by
  kernel_rfl
def bSU (x : Prs) : DV × Hp := (.tuple [(bU x.1).1, .int .i64 0], (bU x.1).2)
theorem ansSU (x : Prs) : Ans Try.prog 72 [adL x.1.1.1, adL x.1.2.1] (bSU x).1 (bSU x).2 := by
  obtain ⟨⟨⟨s, hs, hls⟩, t, ht, hlt⟩, h1, h2, h3⟩ := x
  have h3 : s.length + t.length ≤ 256 := h3
  have q1 := cCk_at (hp := ⟨0, []⟩) (d := adL s) ⟨s, hs, hls⟩ ⟨rfl, rfl⟩
  have q2 := cCk_at (hp := ⟨0, []⟩) (d := adL t) ⟨t, ht, hlt⟩ ⟨rfl, rfl⟩
  rw [h1] at q1
  rw [h2] at q2
  exact zans_ok tab_ok mixed fun_ok cSU_ok (runU (rows s) (rows t) (uni s t).length (s.length + t.length) (room (uni s t) (s.length + t.length)))
    (.cons (orK_left q1) (.cons (orK_left q2) (.cons (orK_right (conC_other (by kernel_rfl)) (cMgU_at (hp := ⟨0, []⟩) ⟨s, hs, hls⟩ ⟨t, ht, hlt⟩ ⟨rfl, rfl⟩ ⟨rfl, rfl⟩)) (.cons (decide_eq_false (by have := len_both s t; omega)) .nil))))
def cUn : CallF := conC 72 (fun x : Prs => [adL x.1.1.1, adL x.1.2.1]) bSU
theorem cUn_ok : CallOk Try.prog cUn := conC_ok ansSU fun x => ⟨rfl, (fineMgU x.1).pl, rfl⟩
theorem cUn_at {hp : Hp} {d e : DV} {s t : List Nat} (hs : ∀ n ∈ s, n < 2 ^ 48) (ht : ∀ n ∈ t, n < 2 ^ 48) (cs : chk s = 0) (ct : chk t = 0) (hl : s.length + t.length ≤ 256) (h : ShA hp d s) (k : ShA hp e t) : cUn 72 [d, e] hp = some (.tuple [.sl (hp.n + 0) 0 6 (uni s t).length (s.length + t.length), .int .i64 0], layH hp ⟨1, [⟨0, 0, 77, room (uni s t) (s.length + t.length)⟩]⟩, none) :=
  conC_at (f0 := 72) (A := fun x : Prs => [adL x.1.1.1, adL x.1.2.1]) (B := bSU) (fun x y hxy => by
    obtain ⟨⟨x1, x2⟩, _⟩ := x
    obtain ⟨⟨y1, y2⟩, _⟩ := y
    simp only [List.cons.injEq, and_true] at hxy
    have e1 := adL_inj hxy.1
    have e2 := adL_inj hxy.2
    subst e1 e2
    rfl) ⟨(⟨s, hs, by omega⟩, ⟨t, ht, by omega⟩), cs, ct, hl⟩ ⟨h.frz, k.frz, trivial⟩

def cSM : CallF := orK cCk cMgM
theorem cSM_ok : CallOk Try.prog cSM := orK_ok cCk_ok cMgM_ok
set_option maxRecDepth 1000000 in
theorem runM (xs ys : List (List DV)) (n N : Nat) (cl : List DV) : zans Try.prog tab ftab cSM 74 [.list 6 xs, .list 6 ys] [(9, .c [(7, .q (.int .i64 0)), (12, .q (.int .i64 0))]), (15, .r (.sl 0 0 6 n N) ⟨1, [⟨0, 0, 77, cl⟩]⟩)] =
    some (.tuple [.sl 0 0 6 n N, .int .i64 0], ⟨1, [⟨0, 0, 77, cl⟩]⟩, [cSM 76 [.list 6 xs] ⟨0, []⟩ = some (.int .i64 0, ⟨0, []⟩, none), cSM 76 [.list 6 ys] ⟨0, []⟩ = some (.int .i64 0, ⟨0, []⟩, none), cSM 118 [.list 6 xs, .list 6 ys, .fn 128 [] []] ⟨0, []⟩ = some (.sl 0 0 6 n N, ⟨1, [⟨0, 0, 77, cl⟩]⟩, none)]) := by
  kernel_rfl
def bSM (x : Prs) : DV × Hp := (.tuple [(bM x.1).1, .int .i64 0], (bM x.1).2)
theorem ansSM (x : Prs) : Ans Try.prog 74 [adL x.1.1.1, adL x.1.2.1] (bSM x).1 (bSM x).2 := by
  obtain ⟨⟨⟨s, hs, hls⟩, t, ht, hlt⟩, h1, h2, h3⟩ := x
  have h3 : s.length + t.length ≤ 256 := h3
  have q1 := cCk_at (hp := ⟨0, []⟩) (d := adL s) ⟨s, hs, hls⟩ ⟨rfl, rfl⟩
  have q2 := cCk_at (hp := ⟨0, []⟩) (d := adL t) ⟨t, ht, hlt⟩ ⟨rfl, rfl⟩
  rw [h1] at q1
  rw [h2] at q2
  exact zans_ok tab_ok mixed fun_ok cSM_ok (runM (rows s) (rows t) (mee s t).length (s.length + t.length) (room (mee s t) (s.length + t.length)))
    (.cons (orK_left q1) (.cons (orK_left q2) (.cons (orK_right (conC_other (by kernel_rfl)) (cMgM_at (hp := ⟨0, []⟩) ⟨s, hs, hls⟩ ⟨t, ht, hlt⟩ ⟨rfl, rfl⟩ ⟨rfl, rfl⟩)) .nil)))
def cMn : CallF := conC 74 (fun x : Prs => [adL x.1.1.1, adL x.1.2.1]) bSM
theorem cMn_ok : CallOk Try.prog cMn := conC_ok ansSM fun x => ⟨rfl, (fineMgM x.1).pl, rfl⟩
theorem cMn_at {hp : Hp} {d e : DV} {s t : List Nat} (hs : ∀ n ∈ s, n < 2 ^ 48) (ht : ∀ n ∈ t, n < 2 ^ 48) (cs : chk s = 0) (ct : chk t = 0) (hl : s.length + t.length ≤ 256) (h : ShA hp d s) (k : ShA hp e t) : cMn 74 [d, e] hp = some (.tuple [.sl (hp.n + 0) 0 6 (mee s t).length (s.length + t.length), .int .i64 0], layH hp ⟨1, [⟨0, 0, 77, room (mee s t) (s.length + t.length)⟩]⟩, none) :=
  conC_at (f0 := 74) (A := fun x : Prs => [adL x.1.1.1, adL x.1.2.1]) (B := bSM) (fun x y hxy => by
    obtain ⟨⟨x1, x2⟩, _⟩ := x
    obtain ⟨⟨y1, y2⟩, _⟩ := y
    simp only [List.cons.injEq, and_true] at hxy
    have e1 := adL_inj hxy.1
    have e2 := adL_inj hxy.2
    subst e1 e2
    rfl) ⟨(⟨s, hs, by omega⟩, ⟨t, ht, by omega⟩), cs, ct, hl⟩ ⟨h.frz, k.frz, trivial⟩

/-! ### Arguments -/
def adrTy : Ty Nat where
  size := 6
  rep _ _ n cs := n < 2 ^ 48 ∧ cs = [.int .u8 ((n / 1099511627776 % 256 : Nat) : Int), .int .u8 ((n / 4294967296 % 256 : Nat) : Int), .int .u8 ((n / 16777216 % 256 : Nat) : Int), .int .u8 ((n / 65536 % 256 : Nat) : Int), .int .u8 ((n / 256 % 256 : Nat) : Int), .int .u8 ((n % 256 : Nat) : Int)]
  len h := by rw [h.2]; rfl
  mono _ _ h := h
theorem opensAdr : Opens Try.prog 77 adrTy := by
  refine ⟨by kernel_rfl, fun {H enc w base spare held fuel cs x} h => ?_⟩
  obtain ⟨xs, hl, he, hw⟩ := open_ints (cs := cs.toArray) Try.underlying77 Try.underlying5 (by kernel_rfl) (by kernel_rfl) (by simpa using h)
  obtain ⟨a, b, c, d, e, g, rfl⟩ := list6 hl
  have pa := isB_of (hw a (by simp))
  have pb := isB_of (hw b (by simp))
  have pc := isB_of (hw c (by simp))
  have pd := isB_of (hw d (by simp))
  have pe := isB_of (hw e (by simp))
  have pg := isB_of (hw g (by simp))
  obtain ⟨a, rfl⟩ := Int.eq_ofNat_of_zero_le pa.1
  obtain ⟨b, rfl⟩ := Int.eq_ofNat_of_zero_le pb.1
  obtain ⟨c, rfl⟩ := Int.eq_ofNat_of_zero_le pc.1
  obtain ⟨d, rfl⟩ := Int.eq_ofNat_of_zero_le pd.1
  obtain ⟨e, rfl⟩ := Int.eq_ofNat_of_zero_le pe.1
  obtain ⟨g, rfl⟩ := Int.eq_ofNat_of_zero_le pg.1
  have pa := pa.2; have pb := pb.2; have pc := pc.2; have pd := pd.2; have pe := pe.2; have pg := pg.2
  have hcs : cs = [.int .u8 a, .int .u8 b, .int .u8 c, .int .u8 d, .int .u8 e, .int .u8 g] := by simpa [intsV] using he
  refine ⟨num6 a b c d e g, num6_lt (by omega) (by omega) (by omega) (by omega) (by omega) (by omega), ?_⟩
  rw [hcs]
  simp only [List.cons.injEq, Value.int.injEq, true_and, and_true, num6, Int.natCast_inj]
  omega
theorem opensAds : Opens Try.prog 82 (Ty.slice adrTy) := Opens.slice Try.underlying82 (by kernel_rfl) opensAdr (by decide)
theorem vr_adrs {w : World} {S : Nat → Prop} {A : Option Addr} {n c : Nat} {ns : List Nat} (r : (Ty.slice adrTy).rep w S ns [.slice A n c]) : VR w (ro S) (adL ns) (.slice A n c) ∧ ∀ m ∈ ns, m < 2 ^ 48 := by
  obtain ⟨A', n', c', h0, h1, h2, h3, h4⟩ := rep_slice r
  cases h0
  have hlen : ns.length = n := h4.1
  have hn : (rows ns).length = n := by rw [rows_length, hlen]
  rcases Nat.eq_zero_or_pos n with h0 | hpos
  · have ha : ns = [] := List.eq_nil_of_length_eq_zero (by omega)
    subst ha
    refine ⟨?_, fun m hm => by cases hm⟩
    rw [← hn]
    exact .list _ 6 _ A c 0 0 (fun _ _ => undef) (Nat.zero_le _) h2 h3 (fun h => absurd h (by simp [rows])) (fun i cs h => by simp [rows] at h) (fun i cs j d h => by simp [rows] at h) (fun i cs j d h => by simp [rows] at h) (fun cs h => by simp [rows] at h)
  · obtain ⟨b, off, rfl, hb, hc⟩ := h4.2 hpos
    have hbd : ∀ m ∈ ns, m < 2 ^ 48 := fun m hm => by
      obtain ⟨i, hi⟩ := List.mem_iff_getElem?.1 hm
      obtain ⟨vs, hr, _⟩ := hc i m hi
      exact hr.1
    refine ⟨?_, hbd⟩
    have row : ∀ (i : Nat) (cs : List DV), (rows ns)[i]? = some cs → ∃ m, ns[i]? = some m ∧ cs = aC m := fun i cs hi => by
      simp only [rows, List.getElem?_map, Option.map_eq_some_iff] at hi
      obtain ⟨x, hx, rfl⟩ := hi
      exact ⟨x, hx, rfl⟩
    have cell : ∀ (i : Nat) (cs : List DV) (j : Nat) (d : DV), (rows ns)[i]? = some cs → cs[j]? = some d → ∃ z : Int, d = .int .u8 z ∧ w.cell? ⟨b, off + (i * 6 + j), none⟩ = some (.int .u8 z) := fun i cs j d hi hj => by
      obtain ⟨m, hm, rfl⟩ := row i cs hi
      obtain ⟨vs, hr, hv⟩ := hc i m hm
      have hvs := hr.2
      match j, hj with
      | 0, hj => cases hj; exact ⟨_, rfl, hv 0 _ (by rw [hvs]; rfl)⟩
      | 1, hj => cases hj; exact ⟨_, rfl, hv 1 _ (by rw [hvs]; rfl)⟩
      | 2, hj => cases hj; exact ⟨_, rfl, hv 2 _ (by rw [hvs]; rfl)⟩
      | 3, hj => cases hj; exact ⟨_, rfl, hv 3 _ (by rw [hvs]; rfl)⟩
      | 4, hj => cases hj; exact ⟨_, rfl, hv 4 _ (by rw [hvs]; rfl)⟩
      | 5, hj => cases hj; exact ⟨_, rfl, hv 5 _ (by rw [hvs]; rfl)⟩
      | j + 6, hj => simp [aC] at hj
    rw [← hn]
    refine .list _ 6 _ (some ⟨b, off, none⟩) c b off (fun i j => (w.cell? ⟨b, off + (i * 6 + j), none⟩).getD undef) (by omega) h2 (fun h => by cases h) (fun _ => ⟨rfl, hb⟩) (fun i cs hi => ?_) (fun i cs j d hi hj => ?_) (fun i cs j d hi hj => ?_) (fun cs hcs => ?_)
    · obtain ⟨x, _, rfl⟩ := row i cs hi
      rfl
    · obtain ⟨z, _, h⟩ := cell i cs j d hi hj
      rw [h]
      rfl
    · obtain ⟨z, rfl, h⟩ := cell i cs j d hi hj
      rw [h]
      exact .int _ _ _
    · obtain ⟨i, hi⟩ := List.mem_iff_getElem?.1 hcs
      obtain ⟨x, _, rfl⟩ := row i cs hi
      rfl
theorem vrA_len {w : World} {E : Env} {ns : List Nat} {v : Value} (h : VR w E (adL ns) v) : ns.length < 2 ^ 63 := by
  obtain ⟨A, c, b, off, g, _, h1, h2, _⟩ := h.of_list
  rw [rows_length] at h1
  have : maxLen < 2 ^ 63 := by decide
  omega
end
end Go.Proofs.Ytnhbhdfeenpedaa
