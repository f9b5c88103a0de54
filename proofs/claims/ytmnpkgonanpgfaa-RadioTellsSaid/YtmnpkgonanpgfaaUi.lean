/- Copies of worlds, worlds changed: contracts. -/
import Derived.Test.YtmnpkgonanpgfaaUh
import Derived.Test.YtmnpkgonanpgfaaMM
namespace Go.Proofs.Ytmnpkgonanpgfaa
open Go.RowKit

noncomputable section
/-! ### Appending -/
theorem appH_grow {hp : Hp} {id n m : Nat} {e : TypeId} {j : TI} {z : DV} {zs : List DV} {o : Ob} {news : List DV} (hz : j.zero = z :: zs) (hj : Nat.beq j.size 0 = false) (hg : hp.get id = some o) (hk : o.k = 1 ∨ o.k = 3) (ht : o.t = e) (hn : o.cs.length = n * j.size) (hf : fitB (n + (m + 1)) j.bytes = true) :
    appH hp e j (.sl id 0 j.size n n) (m + 1) news = some (.sl hp.n 0 j.size (n + (m + 1)) (n + (m + 1)), (hp.put id ⟨2, o.r, o.t, o.cs⟩).push ⟨3, rootOf o.k o.r id, o.t, o.cs ++ news⟩, mmin (some (rootOf o.k o.r id)) (some id)) := by
  have h1 : Nat.ble (n + (m + 1)) n = false := bleF (by omega)
  have h2 : Nat.ble (0 + n * j.size) o.cs.length = true := bleT (by omega)
  have h3 : Nat.beq (0 + n * j.size) o.cs.length = true := beqT (by omega)
  have h4 : Nat.beq o.t e = true := beqT ht
  rcases hk with hk | hk <;> simp only [appH, hz, hj, beqT (rfl : j.size = j.size), hg, h1, h2, h3, h4, hf, hk, List.drop_zero]
theorem appH_new {hp : Hp} {id m r t : Nat} {e : TypeId} {j : TI} {z : DV} {zs : List DV} {news : List DV} (hz : j.zero = z :: zs) (hj : Nat.beq j.size 0 = false) (hg : hp.get id = some ⟨0, r, t, []⟩) (hf : fitB (m + 1) j.bytes = true) :
    appH hp e j (.sl id 0 j.size 0 0) (m + 1) news = some (.sl hp.n 0 j.size (m + 1) (m + 1), pushH hp 1 e news, none) := by
  have h1 : Nat.ble (m + 1) 0 = false := rfl
  have h2 : Nat.ble 0 ([] : List DV).length = true := rfl
  simp only [appH, hz, hj, beqT (rfl : j.size = j.size), hg, Nat.zero_add, Nat.zero_mul, h1, h2, hf, List.drop_nil, List.take_nil, List.nil_append]
theorem fit_at {n b : Nat} (h : n * b ≤ 140737488355328) (h2 : n ≤ 140737488355328) : fitB n b = true := by
  unfold fitB
  rw [bleT (show n ≤ mxL from Nat.le_trans h2 (by decide)), bleT (show n * b ≤ mxB from h)]
  rfl
theorem flat_at {s : Nat} : ∀ {xs : List (List DV)}, (∀ cs ∈ xs, cs.length = s) → ∀ {i : Nat} {cs : List DV}, xs[i]? = some cs → ∀ {j : Nat} {d : DV}, cs[j]? = some d → xs.flatten[i * s + j]? = some d
  | [], _, i, cs, h, _, _, _ => by simp at h
  | x :: xs, hl, 0, cs, h, j, d, hj => by
    simp only [List.getElem?_cons_zero, Option.some.injEq] at h
    subst h
    have := (List.getElem?_eq_some_iff.1 hj).1
    rw [List.flatten_cons, Nat.zero_mul, Nat.zero_add, List.getElem?_append_left this]
    exact hj
  | x :: xs, hl, i + 1, cs, h, j, d, hj => by
    have hx := hl x (List.mem_cons_self ..)
    rw [List.flatten_cons, List.getElem?_append_right (by rw [hx, Nat.succ_mul]; omega), hx, Nat.succ_mul, show i * s + s + j - s = i * s + j by omega]
    exact flat_at (fun cs hc => hl cs (List.mem_cons_of_mem _ hc)) (by simpa using h) hj
/-- a row of one's own that has become a list -/
theorem frz_rows {L : List Nat} {hp : Hp} {id s n c : Nat} {o : Ob} {xs : List (List DV)} (hL : posN id L = none) (hg : hp.get id = some o) (hk : o.k ≠ 2) (he : o.cs = xs.flatten) (hn : xs.length = n) (hs : ∀ cs ∈ xs, cs.length = s) (hf : ∀ cs ∈ xs, ∀ d ∈ cs, flat0 d = true) : FrzD L hp (.sl id 0 s n c) (.list s xs) := by
  refine FrzD.slice hL hg hk hn fun i cs hi => ?_
  have hm := List.mem_of_getElem? hi
  have sc : ∀ {l : List DV}, (∀ d ∈ l, flat0 d = true) → scals l = true := by
    intro l
    induction l with
    | nil => exact fun _ => rfl
    | cons d l ih =>
      intro h
      simp only [scals, Bool.and_eq_true]
      exact ⟨flat0_scal (h d (List.mem_cons_self ..)), ih fun q hq => h q (List.mem_cons_of_mem _ hq)⟩
  refine ⟨hs cs hm, sc (hf cs hm), fun j d hj => ⟨d, ?_, .flat _ (hf cs hm d (List.mem_of_getElem? hj))⟩⟩
  rw [he, Nat.zero_add]
  exact flat_at hs hi hj
abbrev riT : TI := ⟨.struct [(3, 0, 1), (3, 1, 1), (3, 2, 1), (3, 3, 1)], 4, 32, [.int .i64 0, .int .i64 0, .int .i64 0, .int .i64 0], true⟩
abbrev inT : TI := ⟨.int .i64, 1, 8, [.int .i64 0], true⟩
abbrev roT : TI := ⟨.slice 3, 1, 24, [.nil], true⟩
abbrev tyR : List TypeId := [22, 22]
abbrev tyI : List TypeId := [32, 32]
abbrev tyS : List TypeId := [23, 23]
theorem app_tabR (hp : Hp) (d x : DV) : builtinD tab hp .append [d, x] tyR = match contD hp 4 x with
    | some (m, news) => appH hp 31 riT d m news
    | none => none := by kernel_rfl
theorem app_tabI (hp : Hp) (d x : DV) : builtinD tab hp .append [d, x] tyI = match contD hp 1 x with
    | some (m, news) => appH hp 3 inT d m news
    | none => none := by kernel_rfl
theorem app_tabS (hp : Hp) (d x : DV) : builtinD tab hp .append [d, x] tyS = match contD hp 1 x with
    | some (m, news) => appH hp 32 roT d m news
    | none => none := by kernel_rfl
abbrev oA (a b : DV) : Ob := ⟨0, 0, 25, [a, b]⟩
abbrev oRs (k : Nat) (cl : List DV) : Ob := ⟨k, 0, 31, cl⟩
abbrev oRw (k r : Nat) (cl : List DV) : Ob := ⟨k, r, 32, cl⟩
def celR (l : List Rw) : List DV := (rsR l).flatten
def celI (l : List Int) : List DV := (i1 l).flatten
def celS (s : List (List Int)) : List DV := (ssR s).flatten
theorem rsR_len4 (l : List Rw) : ∀ cs ∈ rsR l, cs.length = 4 := fun cs h => by
  obtain ⟨r, _, rfl⟩ := List.mem_map.1 h
  rfl
theorem rsR_flat (l : List Rw) : ∀ cs ∈ rsR l, ∀ d ∈ cs, flat0 d = true := fun cs h d hd => by
  obtain ⟨r, _, rfl⟩ := List.mem_map.1 h
  simp only [rC, List.mem_cons, List.not_mem_nil, or_false] at hd
  rcases hd with rfl | rfl | rfl | rfl <;> rfl
theorem i1_len1 (l : List Int) : ∀ cs ∈ i1 l, cs.length = 1 := fun cs h => by
  obtain ⟨r, _, rfl⟩ := List.mem_map.1 h
  rfl
theorem i1_flat (l : List Int) : ∀ cs ∈ i1 l, ∀ d ∈ cs, flat0 d = true := fun cs h d hd => by
  obtain ⟨r, _, rfl⟩ := List.mem_map.1 h
  obtain rfl := List.mem_singleton.1 hd
  rfl
theorem ssR_len1 (l : List (List Int)) : ∀ cs ∈ ssR l, cs.length = 1 := fun cs h => by
  obtain ⟨r, _, rfl⟩ := List.mem_map.1 h
  rfl
theorem ssR_flat (l : List (List Int)) : ∀ cs ∈ ssR l, ∀ d ∈ cs, flat0 d = true := fun cs h d hd => by
  obtain ⟨r, _, rfl⟩ := List.mem_map.1 h
  obtain rfl := List.mem_singleton.1 hd
  rfl
theorem flatten_flat {xs : List (List DV)} (h : ∀ cs ∈ xs, ∀ d ∈ cs, flat0 d = true) : ∀ d ∈ xs.flatten, flat0 d = true := fun d hd => by
  obtain ⟨cs, h1, h2⟩ := List.mem_flatten.1 hd
  exact h cs h1 d h2
theorem len_flat {s : Nat} : ∀ {xs : List (List DV)}, (∀ cs ∈ xs, cs.length = s) → xs.flatten.length = xs.length * s
  | [], _ => by simp
  | x :: xs, h => by
    rw [List.flatten_cons, List.length_append, h x (List.mem_cons_self ..), len_flat fun cs hc => h cs (List.mem_cons_of_mem _ hc), List.length_cons, Nat.succ_mul]
    omega
theorem celS_length (s : List (List Int)) : (celS s).length = s.length := by
  unfold celS
  rw [len_flat (ssR_len1 s), ssR_length, Nat.mul_one]
theorem celS_snoc (s : List (List Int)) (r : List Int) : celS (s ++ [r]) = celS s ++ [.list 1 (i1 r)] := by
  unfold celS ssR
  rw [List.map_append, List.flatten_append]
  rfl
theorem celR_length (l : List Rw) : (celR l).length = l.length * 4 := by
  unfold celR
  rw [len_flat (rsR_len4 l), rsR_length]
/-! ### slices.Clone -/
abbrev fCr : FuncId := 61
abbrev fCi : FuncId := 62
abbrev h4R (cl : List DV) : Hp := ⟨2, [oRs 1 cl, oRs 0 []], []⟩
abbrev hCl (cl : List DV) : Hp := ⟨1, [oRs 1 cl], []⟩
set_option maxRecDepth 1000000 in
theorem cr1 (x : List DV) (xs : List (List DV)) (n : Nat) (cl : List DV) : zkpH [1] [1] (zansH Try.prog tab ftab noC fCr [.list 4 (x :: xs)] h00 [(7, .h (.sl 1 0 4 n n) (h4R cl) none)]) = some (.sl 0 0 4 n n, hCl cl, FlatIn [1] (h4R cl) :: (builtinD tab ⟨1, [oRs 0 []], []⟩ .append [.sl 0 0 4 0 0, .list 4 (x :: xs)] tyR = some (.sl 1 0 4 n n, h4R cl, none)) :: []) := by kernel_rfl
set_option maxRecDepth 1000000 in
theorem ci1 (x : List DV) (xs : List (List DV)) (n : Nat) (cl : List DV) : zans Try.prog tab ftab noC fCi [.list 1 (x :: xs)] [(7, .h (.sl 1 0 1 n n) ⟨2, [⟨1, 0, 3, cl⟩, ⟨0, 0, 3, []⟩], []⟩ none)] = some (.sl 1 0 1 n n, ⟨2, [⟨1, 0, 3, cl⟩, ⟨0, 0, 3, []⟩], []⟩, (builtinD tab ⟨1, [⟨0, 0, 3, []⟩], []⟩ .append [.sl 0 0 1 0 0, .list 1 (x :: xs)] tyI = some (.sl 1 0 1 n n, ⟨2, [⟨1, 0, 3, cl⟩, ⟨0, 0, 3, []⟩], []⟩, none)) :: []) := by kernel_rfl
theorem cr_ans (l : List Rw) (h0 : 0 < l.length) (h : l.length ≤ 1000) : Ans Try.prog fCr [.list 4 (rsR l)] (.sl 0 0 4 l.length l.length) (hCl (celR l)) := by
  cases l with
  | nil => simp at h0
  | cons r l =>
    refine zkpH_ok tab_ok mixed fun_ok noC_ok (cr1 (rC r) (rsR l) (r :: l).length (celR (r :: l))) (.cons (fun id o hid hg d hd => ?_) (.cons ?_ .nil))
    · obtain rfl := List.mem_singleton.1 hid
      cases hg
      exact flatten_flat (rsR_flat _) d hd
    · rw [app_tabR]
      have := rsR_length l
      simp only [List.length_cons] at h
      have e := appH_new (hp := ⟨1, [oRs 0 []], []⟩) (id := 0) (m := (rsR l).length) (e := 31) (j := riT) (news := celR (r :: l)) rfl rfl rfl (fit_at (by show (_ + 1) * 32 ≤ _; omega) (by omega))
      rw [List.length_cons, ← this]
      exact e
theorem ci_ans (l : List Int) (h0 : 0 < l.length) (h : l.length ≤ 1000) : Ans Try.prog fCi [.list 1 (i1 l)] (.list 1 (i1 l)) ⟨0, [], []⟩ := by
  cases l with
  | nil => simp at h0
  | cons r l =>
    have a := zans_ok tab_ok mixed fun_ok noC_ok (ci1 [iI r] (i1 l) (r :: l).length (celI (r :: l))) (.cons (by
      rw [app_tabI]
      have := i1_length l
      simp only [List.length_cons] at h
      have e := appH_new (hp := ⟨1, [⟨0, 0, 3, []⟩], []⟩) (id := 0) (m := (i1 l).length) (e := 3) (j := inT) (news := celI (r :: l)) rfl rfl rfl (fit_at (by show (_ + 1) * 8 ≤ _; omega) (by omega))
      rw [List.length_cons, ← this]
      exact e) .nil)
    exact a.frz rfl (frz_rows rfl rfl (by show (1 : Nat) ≠ 2; decide) rfl (i1_length _) (i1_len1 _) (i1_flat _))
abbrev Rs1 : Type := {l : List Rw // 0 < l.length ∧ l.length ≤ 1000}
def cCr : ConF := ownC fCr (fun x : Rs1 => [.list 4 (rsR x.1)]) fun x => (.sl 0 0 4 x.1.length x.1.length, hCl (celR x.1))
theorem all_cf {l : List DV} (h : ∀ d ∈ l, flat0 d = true) : l.all cf1 = true := List.all_eq_true.2 fun d hd => by
  have := h d hd
  cases d <;> first | exact this | rfl
theorem cCr_ok : ConOk Try.prog cCr := ownC_ok (fun x => cr_ans x.1 x.2.1 x.2.2) fun x => ⟨rfl, fun id o hg => by
  have hid : id = 0 := by
    have := Hp.get_lt hg
    exact Nat.lt_one_iff.1 this
  subst hid
  cases hg
  exact all_cf (flatten_flat (rsR_flat _)), rfl⟩
theorem sh_flat {n : Nat} : ∀ {l : List DV}, (∀ d ∈ l, flat0 d = true) → l.map (sh1 n) = l
  | [], _ => rfl
  | d :: l, h => by
    have hd := h d (List.mem_cons_self ..)
    rw [List.map_cons, sh_flat fun q hq => h q (List.mem_cons_of_mem _ hq)]
    congr 1
    cases d <;> first | rfl | (cases hd; done)
theorem cCr_at (hp : Hp) (l : List Rw) (h0 : 0 < l.length) (h : l.length ≤ 1000) : cCr fCr [.list 4 (rsR l)] hp = some (.sl hp.n 0 4 l.length l.length, ⟨hp.n + 1, oRs 1 (celR l) :: hp.l, hp.ls⟩, none) := by
  have := ownC_at (f0 := fCr) (A := fun x : Rs1 => [.list 4 (rsR x.1)]) (B := fun x => (.sl 0 0 4 x.1.length x.1.length, hCl (celR x.1))) (fun x y e => by
    simp only [List.cons.injEq, DV.list.injEq, true_and, and_true] at e
    have : x.1 = y.1 := map_inj (fun _ _ => rC_inj) e
    rw [this]) hp ⟨l, h0, h⟩ rfl
  unfold cCr
  rw [this]
  show some (DV.sl (hp.n + 0) 0 4 l.length l.length, (⟨hp.n + 1, [shO hp.n (oRs 1 (celR l))] ++ hp.l, hp.ls⟩ : Hp), none) = _
  have e : shO hp.n (oRs 1 (celR l)) = oRs 1 (celR l) := by
    unfold shO
    simp only [celR, sh_flat (flatten_flat (rsR_flat l))]
  rw [e]
  rfl
abbrev In1 : Type := {l : List Int // 0 < l.length ∧ l.length ≤ 1000}
def cCi : ConF := liftC (eqC fCi (fun x : In1 => [.list 1 (i1 x.1)]) fun x => (.list 1 (i1 x.1), ⟨0, [], []⟩))
theorem cCi_ok : ConOk Try.prog cCi := liftC_ok (eqC_ok (fun x => ci_ans x.1 x.2.1 x.2.2) fun _ => rfl)
theorem cCi_at (hp : Hp) (l : List Int) (h0 : 0 < l.length) (h : l.length ≤ 1000) : cCi fCi [.list 1 (i1 l)] hp = some (.list 1 (i1 l), hp, none) :=
  lift_at (A := fun x : In1 => [.list 1 (i1 x.1)]) (D := fun x => .list 1 (i1 x.1)) (fun x y e => by
    simp only [List.cons.injEq, and_true] at e
    exact e) hp ⟨l, h0, h⟩ rfl rfl
/-! ### copied -/
abbrev fCp : FuncId := 60
abbrev kCp : List (Nat × Nat) := ksF ftab fCp
abbrev cpL : Code := loopAt (bodyOf ftab fCp) 0
abbrev cpS (w : Wd) (k : Nat) : Slots := mkT 26 [(2, .ptr 1 0), (3, .ptr 3 0), (11, .list 1 (ssR w.s)), (12, .int .i64 ((ssR w.s).length : Int)), (13, iN k)]
abbrev cpE : Slots := mkT 26 [(2, .ptr 1 0), (3, .ptr 3 0)]
abbrev cpA (n : Nat) : DV := .sl 2 0 4 n n
abbrev hc0 (w : Wd) (n : Nat) (cl : List DV) : Hp := ⟨4, [oA (cpA n) .nil, oRs 1 cl, oA .nil .nil, oW w], []⟩
abbrev hc1 (w : Wd) (n : Nat) (cl rw_ : List DV) (m : Nat) : Hp := ⟨5, [oRw 1 0 rw_, oA (cpA n) (.sl 4 0 1 m m), oRs 1 cl, oA .nil .nil, oW w], []⟩
abbrev hc0a (w : Wd) (n : Nat) (cl : List DV) (y : DV) : Hp := ⟨6, [oRw 1 0 [y], oRw 0 0 [y], oA (cpA n) (.sl 5 0 1 1 1), oRs 1 cl, oA .nil .nil, oW w], []⟩
abbrev hc1p (w : Wd) (n : Nat) (cl rw_ : List DV) (m : Nat) (y : DV) : Hp := ⟨6, [oRw 0 0 [y], oRw 1 0 rw_, oA (cpA n) (.sl 4 0 1 m m), oRs 1 cl, oA .nil .nil, oW w], []⟩
abbrev hc1a (w : Wd) (n : Nat) (cl rw_ : List DV) (_m : Nat) (y d : DV) : Hp := ⟨7, [oRw 3 4 (rw_ ++ [y]), oRw 0 0 [y], oRw 2 0 rw_, oA (cpA n) d, oRs 1 cl, oA .nil .nil, oW w], []⟩
set_option maxRecDepth 1000000 in
theorem cp0 (w : Wd) (n : Nat) (cl : List DV) (ys : List (List DV)) (k : Nat) : zgm [0, 1, 2, 3, 5] [2, 5] (zsee Try.prog tab ftab (calC fCi [.list 1 ys] (.list 1 ys)) kCp [2, 3, 11, 12, 13] cpL (cpS w k) (hc0 w n cl) [(14, .b true), (15, .n (.fptr [.list 1 ys])), (20, .q (.list 1 ys)), (24, .w (iN (k + 1)))]) = some (.normal, cpS w (k + 1), hc1 w n cl [.list 1 ys] 1, FlatIn [2, 5] (hc0a w n cl (.list 1 ys)) :: ((decide ((k : Int) < ((ssR w.s).length : Int))) = true) :: ((idxOk (k : Int) (ssR w.s).length) = true) :: (nth (ssR w.s) ((k : Int).toNat) = some [.list 1 ys]) :: ((calC fCi [.list 1 ys] (.list 1 ys)) fCi [.list 1 ys] (hc0 w n cl) = some (.list 1 ys, hc0 w n cl, none)) :: wrK k :: []) := by kernel_rfl
set_option maxRecDepth 1000000 in
theorem cp1 (w : Wd) (n : Nat) (cl rw_ : List DV) (m : Nat) (ys : List (List DV)) (k : Nat) : zgm [0, 1, 2, 3, 6] [2, 6] (zsee Try.prog tab ftab (calC fCi [.list 1 ys] (.list 1 ys)) kCp [2, 3, 11, 12, 13] cpL (cpS w k) (hc1 w n cl rw_ m) [(14, .b true), (15, .n (.fptr [.list 1 ys])), (20, .q (.list 1 ys)), (22, .h (.sl 6 0 1 (m + 1) (m + 1)) (hc1a w n cl rw_ m (.list 1 ys) (.sl 4 0 1 m m)) (some 4)), (24, .w (iN (k + 1)))]) = some (.normal, cpS w (k + 1), hc1 w n cl (rw_ ++ [.list 1 ys]) (m + 1), FlatIn [2, 6] (hc1a w n cl rw_ m (.list 1 ys) (.sl 6 0 1 (m + 1) (m + 1))) :: ((decide ((k : Int) < ((ssR w.s).length : Int))) = true) :: ((idxOk (k : Int) (ssR w.s).length) = true) :: (nth (ssR w.s) ((k : Int).toNat) = some [.list 1 ys]) :: ((calC fCi [.list 1 ys] (.list 1 ys)) fCi [.list 1 ys] (hc1 w n cl rw_ m) = some (.list 1 ys, hc1 w n cl rw_ m, none)) :: (builtinD tab (hc1p w n cl rw_ m (.list 1 ys)) .append [.sl 4 0 1 m m, .sl 5 0 1 1 1] tyS = some (.sl 6 0 1 (m + 1) (m + 1), hc1a w n cl rw_ m (.list 1 ys) (.sl 4 0 1 m m), some 4)) :: wrK k :: []) := by kernel_rfl
set_option maxRecDepth 1000000 in
theorem cpO0 (w : Wd) (n : Nat) (cl : List DV) (k : Nat) : zsee Try.prog tab ftab noC kCp [2, 3] cpL (cpS w k) (hc0 w n cl) [(14, .b false)] = some (.exit 0, cpE, hc0 w n cl, ((decide ((k : Int) < ((ssR w.s).length : Int))) = false) :: []) := by kernel_rfl
set_option maxRecDepth 1000000 in
theorem cpO1 (w : Wd) (n : Nat) (cl rw_ : List DV) (m k : Nat) : zsee Try.prog tab ftab noC kCp [2, 3] cpL (cpS w k) (hc1 w n cl rw_ m) [(14, .b false)] = some (.exit 0, cpE, hc1 w n cl rw_ m, ((decide ((k : Int) < ((ssR w.s).length : Int))) = false) :: []) := by kernel_rfl
set_option maxRecDepth 1000000 in
theorem cpF0 (C : ConF) (w : Wd) (n : Nat) (cl : List DV) : zans Try.prog tab ftab C fCp [wdD w] [(8, .r (.sl 2 0 4 n n) ⟨3, [oRs 1 cl, oA .nil .nil, oW w], []⟩), (0, .l [2, 3, 11, 12, 13] (.exit 0) cpE (hc0 w n cl))] = some (.agg [cpA n, .nil], ⟨4, [oA (cpA n) .nil, oRs 1 cl, oA (cpA n) .nil, oW w], []⟩, (C fCr [.list 4 (rsR w.r)] ⟨2, [oA .nil .nil, oW w], []⟩ = some (.sl 2 0 4 n n, ⟨3, [oRs 1 cl, oA .nil .nil, oW w], []⟩, none)) :: (Goes Try.prog tab kCp (.loop cpL) (cpS w 0) (hc0 w n cl) (.exit 0) cpE (hc0 w n cl)) :: []) := by kernel_rfl
set_option maxRecDepth 1000000 in
theorem cpF1 (C : ConF) (w : Wd) (n : Nat) (cl rw_ : List DV) (m : Nat) : zans Try.prog tab ftab C fCp [wdD w] [(8, .r (.sl 2 0 4 n n) ⟨3, [oRs 1 cl, oA .nil .nil, oW w], []⟩), (0, .l [2, 3, 11, 12, 13] (.exit 0) cpE (hc1 w n cl rw_ m))] = some (.agg [cpA n, .sl 4 0 1 m m], ⟨5, [oRw 1 0 rw_, oA (cpA n) (.sl 4 0 1 m m), oRs 1 cl, oA (cpA n) (.sl 4 0 1 m m), oW w], []⟩, (C fCr [.list 4 (rsR w.r)] ⟨2, [oA .nil .nil, oW w], []⟩ = some (.sl 2 0 4 n n, ⟨3, [oRs 1 cl, oA .nil .nil, oW w], []⟩, none)) :: (Goes Try.prog tab kCp (.loop cpL) (cpS w 0) (hc0 w n cl) (.exit 0) cpE (hc1 w n cl rw_ m)) :: []) := by kernel_rfl
def hcS (w : Wd) (n : Nat) (cl : List DV) : List (List Int) → Hp
  | [] => hc0 w n cl
  | r :: s => hc1 w n cl (celS (r :: s)) (r :: s).length
theorem flatTwo {a b : Nat} {hp : Hp} {oa ob : Ob} (h1 : hp.get a = some oa) (h2 : hp.get b = some ob) (f1 : ∀ d ∈ oa.cs, flat0 d = true) (f2 : ∀ d ∈ ob.cs, flat0 d = true) : FlatIn [a, b] hp := fun id o hid hg d hd => by
  rcases List.mem_cons.1 hid with rfl | hid
  · rw [h1] at hg; cases hg; exact f1 d hd
  · obtain rfl := List.mem_singleton.1 hid
    rw [h2] at hg; cases hg; exact f2 d hd
theorem cp_loop (w : Wd) (n : Nat) (cl : List DV) (hcl : ∀ d ∈ cl, flat0 d = true) (hw : w.s.length ≤ 1000) (hr : ∀ r ∈ w.s, 0 < r.length ∧ r.length ≤ 1000) : ∀ (r pre : List (List Int)), w.s = pre ++ r → ∃ q, GoesR Try.prog tab kCp cpL (q + 1) (cpS w pre.length) (hcS w n cl pre) (.exit 0) cpE (hcS w n cl w.s)
  | [], pre, e => by
    have hn := ssR_length w.s
    rw [List.append_nil] at e
    subst e
    have hd : decide ((w.s.length : Int) < ((ssR w.s).length : Int)) = false := decide_eq_false (by omega)
    cases hs : w.s with
    | nil =>
      rw [hs] at hd
      have := zsee_ok tab_ok mixed fun_ok noC_ok (cpO0 w n cl 0) (.cons (by rw [hs]; rfl) .nil)
      exact ⟨0, GoesR.last this (by intro h; cases h)⟩
    | cons a s =>
      have := zsee_ok tab_ok mixed fun_ok noC_ok (cpO1 w n cl (celS (a :: s)) (a :: s).length (a :: s).length) (.cons (by rw [← hs]; exact hd) .nil)
      exact ⟨0, GoesR.last this (by intro h; cases h)⟩
  | row :: r, pre, e => by
    have hn := ssR_length w.s
    have hlen : w.s.length = pre.length + (1 + r.length) := by rw [e]; simp; omega
    have hj : w.s[pre.length]? = some row := by rw [e]; simp
    have hro := hr row (List.mem_of_getElem? hj)
    have hlt : decide ((pre.length : Int) < ((ssR w.s).length : Int)) = true := decide_eq_true (by omega)
    have hi : idxOk (pre.length : Int) (ssR w.s).length = true := idxOk_lt (by omega)
    have hC := calC_ok (ci_ans row hro.1 hro.2)
    obtain ⟨q, g⟩ := cp_loop w n cl hcl hw hr r (pre ++ [row]) (by rw [e]; simp)
    rw [List.length_append, List.length_singleton] at g
    cases pre with
    | nil =>
      exact ⟨q + 1, GoesR.step (zgm_ok tab_ok mixed fun_ok hC (cp0 w n cl (i1 row) 0) (.cons (flatTwo rfl rfl hcl fun d hd => by
        obtain rfl := List.mem_singleton.1 hd
        rfl) (.cons hlt (.cons hi (.cons (ssR_at hj) (.cons (calC_at _ rfl rfl) (.cons (wrK_at (by omega)) .nil))))))) g⟩
    | cons a p =>
      have e1 : hcS w n cl (a :: p ++ [row]) = hc1 w n cl (celS (a :: p) ++ [.list 1 (i1 row)]) ((a :: p).length + 1) := by
        show hc1 w n cl (celS (a :: (p ++ [row]))) (a :: (p ++ [row])).length = _
        have := celS_snoc (a :: p) row
        rw [List.cons_append] at this
        rw [this]
        simp
      rw [e1] at g
      have hf := flatten_flat (ssR_flat (a :: p))
      refine ⟨q + 1, GoesR.step (zgm_ok tab_ok mixed fun_ok hC (cp1 w n cl (celS (a :: p)) (a :: p).length (i1 row) (a :: p).length) (.cons (flatTwo rfl rfl hcl fun d hd => ?_) (.cons hlt (.cons hi (.cons (ssR_at hj) (.cons (calC_at _ rfl rfl) (.cons ?_ (.cons (wrK_at (by omega)) .nil)))))))) g⟩
      · rcases List.mem_append.1 hd with hd | hd
        · exact hf d hd
        · obtain rfl := List.mem_singleton.1 hd
          rfl
      · rw [app_tabS]
        exact appH_grow (hp := hc1p w n cl (celS (a :: p)) (a :: p).length (.list 1 (i1 row))) (id := 4) (n := (a :: p).length) (m := 0) (e := 32) (j := roT) (o := oRw 1 0 (celS (a :: p))) (news := [.list 1 (i1 row)]) rfl rfl rfl (.inl rfl) rfl (by rw [celS_length, Nat.mul_one]) (fit_at (by show (_ + (0 + 1)) * 24 ≤ _; omega) (by omega))
/-- what a copy is: the radios are its own -/
def cpD (w : Wd) : DV := .agg [.sl 0 0 4 w.r.length w.r.length, .list 1 (ssR w.s)]
structure Small (w : Wd) : Prop where
  r0 : 0 < w.r.length
  r : w.r.length ≤ 1000
  s : w.s.length ≤ 1000
  row : ∀ r ∈ w.s, 0 < r.length ∧ r.length ≤ 1000
theorem cp_ans (w : Wd) (sm : Small w) : Ans Try.prog fCp [wdD w] (cpD w) (hCl (celR w.r)) := by
  have hc := cCr_at ⟨2, [oA .nil .nil, oW w], []⟩ w.r sm.r0 sm.r
  have hcl := flatten_flat (rsR_flat w.r)
  obtain ⟨q, g⟩ := cp_loop w w.r.length (celR w.r) hcl sm.s sm.row w.s [] rfl
  have g := g.goes
  cases hs : w.s with
  | nil =>
    rw [hs] at g
    have a := zans_ok tab_ok mixed fun_ok cCr_ok (cpF0 cCr w w.r.length (celR w.r)) (.cons hc (.cons g .nil))
    have e : cpD w = .agg [.sl 0 0 4 w.r.length w.r.length, .list 1 []] := by unfold cpD; rw [hs]; rfl
    rw [e]
    refine a.melt (L := [2]) (fl := [2]) (hp' := hCl (celR w.r)) ?_ ?_ ?_
    · rfl
    · intro id o hid hg d hd
      obtain rfl := List.mem_singleton.1 hid
      cases hg
      exact hcl d hd
    · refine .agg _ _ rfl fun j d e hd he => ?_
      match j with
      | 0 => cases hd; cases he; exact .sl _ _ _ _ _ _ rfl
      | 1 => cases hd; cases he; exact .frz _ _ (.nl _)
      | j + 2 => simp at hd
  | cons x s =>
    rw [hs] at g
    have a := zans_ok tab_ok mixed fun_ok cCr_ok (cpF1 cCr w w.r.length (celR w.r) (celS (x :: s)) (x :: s).length) (.cons hc (.cons g .nil))
    have e : cpD w = .agg [.sl 0 0 4 w.r.length w.r.length, .list 1 (ssR (x :: s))] := by unfold cpD; rw [hs]
    rw [e]
    refine a.melt (L := [2]) (fl := [2]) (hp' := hCl (celR w.r)) ?_ ?_ ?_
    · rfl
    · intro id o hid hg d hd
      obtain rfl := List.mem_singleton.1 hid
      cases hg
      exact hcl d hd
    · refine .agg _ _ rfl fun j d e hd he => ?_
      match j with
      | 0 => cases hd; cases he; exact .sl _ _ _ _ _ _ rfl
      | 1 => cases hd; cases he; exact .frz _ _ (frz_rows rfl rfl (by show (1 : Nat) ≠ 2; decide) rfl (ssR_length _) (ssR_len1 _) (ssR_flat _))
      | j + 2 => simp at hd
abbrev SW : Type := {w : Wd // Small w}
def cCp : ConF := ownC fCp (fun x : SW => [wdD x.1]) fun x => (cpD x.1, hCl (celR x.1.r))
theorem cCp_ok : ConOk Try.prog cCp := ownC_ok (fun x => cp_ans x.1 x.2) fun x => ⟨rfl, fun id o hg => by
  have hid : id = 0 := by
    have := Hp.get_lt hg
    exact Nat.lt_one_iff.1 this
  subst hid
  cases hg
  exact all_cf (flatten_flat (rsR_flat _)), rfl⟩
theorem cCp_at (hp : Hp) (w : Wd) (sm : Small w) : cCp fCp [wdD w] hp = some (.agg [.sl hp.n 0 4 w.r.length w.r.length, .list 1 (ssR w.s)], ⟨hp.n + 1, oRs 1 (celR w.r) :: hp.l, hp.ls⟩, none) := by
  have := ownC_at (f0 := fCp) (A := fun x : SW => [wdD x.1]) (B := fun x => (cpD x.1, hCl (celR x.1.r))) (fun x y e => by
    simp only [List.cons.injEq, and_true] at e
    rw [wdD_inj e]) hp ⟨w, sm⟩ rfl
  unfold cCp
  rw [this]
  show some (DV.agg [.sl (hp.n + 0) 0 4 w.r.length w.r.length, .list 1 (ssR w.s)], (⟨hp.n + 1, [shO hp.n (oRs 1 (celR w.r))] ++ hp.l, hp.ls⟩ : Hp), none) = _
  have e : shO hp.n (oRs 1 (celR w.r)) = oRs 1 (celR w.r) := by
    unfold shO
    simp only [celR, sh_flat (flatten_flat (rsR_flat w.r))]
  rw [e]
  rfl
end
end Go.Proofs.Ytmnpkgonanpgfaa
