/- Two sets gone through in order, as contracts. -/
import Derived.Test.YtnhbhdfeenpedaaAm
namespace Go.Proofs.Ytnhbhdfeenpedaa
open Go.RowKit

noncomputable section
abbrev adTI : TI := ⟨.array 6 5, 6, 6, [.int .u8 0, .int .u8 0, .int .u8 0, .int .u8 0, .int .u8 0, .int .u8 0], true⟩
abbrev z6 : List DV := [.int .u8 0, .int .u8 0, .int .u8 0, .int .u8 0, .int .u8 0, .int .u8 0]
/-- the cells of addresses -/
def flat (ns : List Nat) : List DV := (rows ns).flatten
theorem flat_length (ns : List Nat) : (flat ns).length = ns.length * 6 := by
  induction ns with
  | nil => rfl
  | cons n ns ih =>
    show (aC n ++ flat ns).length = _
    rw [List.length_append, ih, show (aC n).length = 6 from rfl, List.length_cons]
    omega
theorem flat_append (a b : List Nat) : flat (a ++ b) = flat a ++ flat b := by simp [flat, rows]
theorem nlist6_length (n : Nat) : (nlist n z6).length = n * 6 := by
  induction n with
  | zero => rfl
  | succ n ih =>
    show (z6 ++ nlist n z6).length = _
    rw [List.length_append, ih, show z6.length = 6 from rfl]
    omega
/-- addresses at an object's beginning, room behind them -/
def room (out : List Nat) (N : Nat) : List DV := flat out ++ nlist (N - out.length) z6
theorem room_length {out : List Nat} {N : Nat} (h : out.length ≤ N) : (room out N).length = N * 6 := by
  rw [room, List.length_append, flat_length, nlist6_length]
  omega
theorem lay_room {out : List Nat} {N v : Nat} (h : out.length < N) : layD (room out N) (0 + out.length * 6) (aC v) = room (out ++ [v]) N := by
  have h1 : N - out.length = (N - (out.length + 1)) + 1 := by omega
  have h2 : nlist (N - out.length) z6 = z6 ++ nlist (N - (out.length + 1)) z6 := by rw [h1]; rfl
  have h3 : (flat out ++ (z6 ++ nlist (N - (out.length + 1)) z6)).drop (out.length * 6 + (aC v).length) = nlist (N - (out.length + 1)) z6 := by
    rw [← List.append_assoc]
    exact List.drop_left' (by rw [List.length_append, flat_length]; rfl)
  rw [layD, room, room, Nat.zero_add, List.take_left' (flat_length out), h2, h3, flat_append, List.length_append, List.length_singleton]
  simp [flat, rows]
theorem app_tabA (hp : Hp) (d x : DV) : builtinD tab hp .append [d, x] [82, 82] = match contD hp 6 x with
    | some (m, news) => appH hp 77 adTI d m news
    | none => none := by kernel_rfl
theorem app_adr {out : List Nat} {N v : Nat} (h : out.length < N) (hN : N ≤ 2 ^ 31) : builtinD tab ⟨3, [⟨0, 0, 77, aC v⟩, ⟨0, 0, 77, aC v⟩, ⟨0, 0, 77, room out N⟩]⟩ .append [.sl 0 0 6 out.length N, .sl 2 0 6 1 1] [82, 82] =
    some (.sl 0 0 6 (out.length + 1) N, ⟨3, [⟨0, 0, 77, aC v⟩, ⟨0, 0, 77, aC v⟩, ⟨0, 0, 77, room (out ++ [v]) N⟩]⟩, some 0) := by
  have hc : contD ⟨3, [⟨0, 0, 77, aC v⟩, ⟨0, 0, 77, aC v⟩, ⟨0, 0, 77, room out N⟩]⟩ 6 (.sl 2 0 6 1 1) = some (1, aC v) := rfl
  have hg : (⟨3, [⟨0, 0, 77, aC v⟩, ⟨0, 0, 77, aC v⟩, ⟨0, 0, 77, room out N⟩]⟩ : Hp).get 0 = some ⟨0, 0, 77, room out N⟩ := rfl
  have hb : Nat.ble (out.length + 1) N = true := bleT h
  have hl : Nat.ble (0 + out.length * 6 + (aC v).length) (room out N).length = true := bleT (by rw [room_length (Nat.le_of_lt h), show (aC v).length = 6 from rfl]; omega)
  have _ := hN
  rw [app_tabA, hc]
  simp only [appH, hg, hb, storeH, hl, show Nat.beq 6 6 = true from rfl]
  rw [lay_room h]
  rfl
theorem aC_plain (n : Nat) : ∀ d ∈ aC n, plain d = true := fun d hd => by
  simp only [aC, List.mem_cons, List.not_mem_nil, or_false] at hd
  rcases hd with rfl | rfl | rfl | rfl | rfl | rfl <;> rfl
theorem room_plain (out : List Nat) (N : Nat) : ∀ d ∈ room out N, plain d = true := fun d hd => by
  rcases List.mem_append.1 hd with h | h
  · obtain ⟨r, hr, hd⟩ := List.mem_flatten.1 h
    obtain ⟨n, _, rfl⟩ := List.mem_map.1 hr
    exact aC_plain n d hd
  · revert h
    generalize N - out.length = n
    induction n with
    | zero => intro h; cases h
    | succ n ih =>
      intro h
      rcases List.mem_append.1 (show d ∈ z6 ++ nlist n z6 from h) with h | h
      · simp only [List.mem_cons, List.not_mem_nil, or_false] at h
        rcases h with rfl | rfl | rfl | rfl | rfl | rfl <;> rfl
      · exact ih h
theorem plain_of {hp : Hp} (h : ∀ o ∈ hp.l, ∀ d ∈ o.cs, plain d = true) : Plain hp := fun id o hg d hd => by
  rw [Hp.get_eq] at hg
  split at hg
  · exact h o (List.mem_of_getElem? hg) d hd
  · cases hg
theorem plain3 (v w : Nat) (out : List Nat) (N : Nat) : Plain ⟨3, [⟨0, 0, 77, aC v⟩, ⟨0, 0, 77, aC w⟩, ⟨0, 0, 77, room out N⟩]⟩ := plain_of fun o ho => by
  simp only [List.mem_cons, List.not_mem_nil, or_false] at ho
  rcases ho with rfl | rfl | rfl
  · exact aC_plain v
  · exact aC_plain w
  · exact room_plain out N
theorem plain2 (v : Nat) (out : List Nat) (N : Nat) : Plain ⟨2, [⟨0, 0, 77, aC v⟩, ⟨0, 0, 77, room out N⟩]⟩ := plain_of fun o ho => by
  simp only [List.mem_cons, List.not_mem_nil, or_false] at ho
  rcases ho with rfl | rfl
  · exact aC_plain v
  · exact room_plain out N
theorem tail_slice (hp : Hp) (x : Nat) (xs : List Nat) : sliceD tab hp adT (.list 6 (rows (x :: xs))) (some (.int .i64 1)) none none = some (.list 6 (rows xs)) := by
  have t1 : tab 77 = some adTI := by kernel_rfl
  have hl : (rows (x :: xs)).length = xs.length + 1 := by rw [rows_length]; rfl
  have h1 : Nat.ble 1 (xs.length + 1) = true := bleT (by omega)
  have h2 : Nat.ble (xs.length + 1) (xs.length + 1) = true := bleT (Nat.le_refl _)
  simp only [sliceD, t1, optI, hl, show decide ((0 : Int) ≤ 1) = true from rfl, show (1 : Int).toNat = 1 from rfl, h1, h2, show Nat.beq 6 6 = true from rfl, Bool.and_self]
  congr 2
  show ((rows (x :: xs)).drop 1).take (xs.length + 1 - 1) = _
  rw [show (rows (x :: xs)).drop 1 = rows xs from rfl, Nat.add_sub_cancel, ← rows_length xs, List.take_length]
theorem gt_nil : decide (((rows []).length : Int) > 0) = false := rfl
theorem gt_cons (x : Nat) (xs : List Nat) : decide (((rows (x :: xs)).length : Int) > 0) = true := decide_eq_true (by rw [rows_length, List.length_cons]; omega)
theorem eq_nil : (((rows []).length : Int) == 0) = true := rfl
theorem eq_cons (x : Nat) (xs : List Nat) : (((rows (x :: xs)).length : Int) == 0) = false := by
  rw [rows_length, List.length_cons, beq_eq_false_iff_ne]
  omega
theorem ix_cons (x : Nat) (xs : List Nat) : idxOk (0 : Int) (rows (x :: xs)).length = true := idxOk_lt (k := 0) (by rw [rows_length, List.length_cons]; omega)
theorem nth_cons (x : Nat) (xs : List Nat) : nth (rows (x :: xs)) (0 : Int).toNat = some (aC x) := rfl
/-- the union of sorted lists -/
def uni : List Nat → List Nat → List Nat
  | [], ys => ys
  | x :: xs, [] => x :: xs
  | x :: xs, y :: ys => if x < y then x :: uni xs (y :: ys) else if y < x then y :: uni (x :: xs) ys else y :: uni xs ys
termination_by a b => a.length + b.length
/-- what sorted lists have in common -/
def mee : List Nat → List Nat → List Nat
  | [], _ => []
  | _ :: _, [] => []
  | x :: xs, y :: ys => if x < y then mee xs (y :: ys) else if y < x then mee (x :: xs) ys else y :: mee xs ys
termination_by a b => a.length + b.length
theorem uni_nil_l (ys : List Nat) : uni [] ys = ys := by rw [uni]
theorem uni_nil_r (xs : List Nat) : uni xs [] = xs := by cases xs <;> rw [uni]
theorem mee_nil_l (ys : List Nat) : mee [] ys = [] := by rw [mee]
theorem mee_nil_r (xs : List Nat) : mee xs [] = [] := by cases xs <;> rw [mee]

theorem loopU {s t : List Nat} (hs : ∀ n ∈ s, n < 2 ^ 48) (ht : ∀ n ∈ t, n < 2 ^ 48) {N : Nat} (hst : s.length + t.length ≤ N) (hN : N ≤ 2 ^ 31) : Goes Try.prog tab (ksF ftab 118) (.loop (loopAt (bodyOf ftab 118) 0)) ((fun f => mkT 82 [(0, .list 6 (rows s)), (1, .list 6 (rows t)), (2, .fn f [] []), (7, .sl 0 0 6 0 N)]) 127) ⟨1, [⟨0, 0, 77, (room [] N)⟩]⟩ (.exit 0) (mkT 82 [(7, .sl 0 0 6 (uni s t).length N)]) ⟨1, [⟨0, 0, 77, (room (uni s t) N)⟩]⟩ := by
  have loop := Goes.loopM (P := Try.prog) (T := tab) (ks := (ksF ftab 118)) (x := loopAt (bodyOf ftab 118) 0) (e := .exit 0) (fun m sl h => ∃ xs ys out : List Nat, m = xs.length + ys.length ∧ sl = (fun f => mkT 82 [(0, .list 6 (rows xs)), (1, .list 6 (rows ys)), (2, .fn f [] []), (7, .sl 0 0 6 out.length N)]) 127 ∧ h = ⟨1, [⟨0, 0, 77, (room out N)⟩]⟩ ∧ out ++ uni xs ys = uni s t ∧ out.length + (xs.length + ys.length) ≤ N ∧ (∀ n ∈ xs, n < 2 ^ 48) ∧ (∀ n ∈ ys, n < 2 ^ 48))
    (fun sl h => sl = mkT 82 [(7, .sl 0 0 6 (uni s t).length N)] ∧ h = ⟨1, [⟨0, 0, 77, (room (uni s t) N)⟩]⟩) (by intro h; cases h) ?_ (m := s.length + t.length) (sl := (fun f => mkT 82 [(0, .list 6 (rows s)), (1, .list 6 (rows t)), (2, .fn f [] []), (7, .sl 0 0 6 0 N)]) 127) (hp := ⟨1, [⟨0, 0, 77, (room [] N)⟩]⟩) ⟨s, t, [], rfl, rfl, rfl, rfl, by simpa using hst, hs, ht⟩
  · obtain ⟨_, _, g, rfl, rfl⟩ := loop
    exact g
  · rintro m sl h ⟨xs, ys, out, rfl, rfl, rfl, he, hle, hx, hy⟩
    cases xs with
    | nil =>
      cases ys with
      | nil =>
        have e : out = uni s t := by rw [← he, uni_nil_l, List.append_nil]
        refine .inl ⟨_, _, zsee_ok tab_ok mixed fun_ok cCo_ok (mgUOut (rows []) (rows []) out.length N (room out N)) (.cons gt_nil (.cons gt_nil .nil)), ?_, ?_⟩ <;> rw [e]
      | cons y ys =>
        have hy' : ∀ n ∈ ys, n < 2 ^ 48 := fun n hn => hy n (by simp [hn])
        have hk : out.length < N := by
          have h1 := hle
          simp at h1
          omega
        exact .inr ⟨_, _, _, by first | (simp; done) | (simp; omega), zgc_ok tab_ok mixed fun_ok cCo_ok (mgUT (rows []) (rows (y :: ys)) (rows ys) y out.length N (room out N) (room (out ++ [y]) N) (some 0)) (.cons (plain3 y y (out ++ [y]) N) (.cons gt_nil (.cons (gt_cons y ys) (.cons (eq_cons y ys) (.cons gt_nil (.cons eq_nil (.cons (ix_cons y ys) (.cons (nth_cons y ys) (.cons (tail_slice _ y ys) (.cons (app_adr hk hN) .nil)))))))))), [], ys, out ++ [y], rfl, by simp only [List.length_append, List.length_singleton], rfl, by rw [← he, uni_nil_l, uni_nil_l, List.append_assoc]; rfl, by simp at hle ⊢; omega, hx, hy'⟩
    | cons x xs =>
      have hx' : ∀ n ∈ xs, n < 2 ^ 48 := fun n hn => hx n (by simp [hn])
      cases ys with
      | nil =>
        have hk : out.length < N := by
          have h1 := hle
          simp at h1
          omega
        exact .inr ⟨_, _, _, by first | (simp; done) | (simp; omega), zgc_ok tab_ok mixed fun_ok cCo_ok (mgUS (rows (x :: xs)) (rows xs) (rows []) x out.length N (room out N) (room (out ++ [x]) N) (some 0)) (.cons (plain3 x x (out ++ [x]) N) (.cons (gt_cons x xs) (.cons eq_nil (.cons (eq_cons x xs) (.cons gt_nil (.cons (ix_cons x xs) (.cons (nth_cons x xs) (.cons (tail_slice _ x xs) (.cons (app_adr hk hN) .nil))))))))), xs, [], out ++ [x], rfl, by simp only [List.length_append, List.length_singleton], rfl, by rw [← he, uni_nil_r, uni_nil_r, List.append_assoc]; rfl, by simp at hle ⊢; omega, hx', hy⟩
      | cons y ys =>
        have hy' : ∀ n ∈ ys, n < 2 ^ 48 := fun n hn => hy n (by simp [hn])
        have bx := hx x (by simp)
        have bb := hy y (by simp)
        have c1 := cCo_at ⟨1, [⟨0, 0, 77, (room out N)⟩]⟩ bx bb
        have c2 := cCo_at ⟨1, [⟨0, 0, 77, (room out N)⟩]⟩ bb bx
        by_cases hlt : x < y
        · rw [cmpN, if_pos hlt] at c1
          rw [cmpN, if_neg (by omega), if_pos hlt] at c2
          have hk : out.length < N := by
            have h1 := hle
            simp at h1
            omega
          exact .inr ⟨_, _, _, by first | (simp; done) | (simp; omega), zgc_ok tab_ok mixed fun_ok cCo_ok (mgUL (rows (x :: xs)) (rows xs) (rows (y :: ys)) x y out.length N (room out N) (room (out ++ [x]) N) (some 0)) (.cons (plain3 x x (out ++ [x]) N) (.cons (gt_cons x xs) (.cons (eq_cons y ys) (.cons (gt_cons x xs) (.cons (ix_cons x xs) (.cons (nth_cons x xs) (.cons (ix_cons y ys) (.cons (nth_cons y ys) (.cons c1 (.cons (eq_cons x xs) (.cons (gt_cons y ys) (.cons (ix_cons y ys) (.cons (nth_cons y ys) (.cons (ix_cons x xs) (.cons (nth_cons x xs) (.cons c2 (.cons (ix_cons x xs) (.cons (nth_cons x xs) (.cons (tail_slice _ x xs) (.cons (app_adr hk hN) .nil)))))))))))))))))))), xs, y :: ys, out ++ [x], rfl, by simp only [List.length_append, List.length_singleton], rfl, by rw [← he, uni, if_pos hlt, List.append_assoc]; rfl, by simp at hle ⊢; omega, hx', hy⟩
        · by_cases hgt : y < x
          · rw [cmpN, if_neg hlt, if_pos hgt] at c1
            rw [cmpN, if_pos hgt] at c2
            have hk : out.length < N := by
              have h1 := hle
              simp at h1
              omega
            exact .inr ⟨_, _, _, by first | (simp; done) | (simp; omega), zgc_ok tab_ok mixed fun_ok cCo_ok (mgUG (rows (x :: xs)) (rows (y :: ys)) (rows ys) x y out.length N (room out N) (room (out ++ [y]) N) (some 0)) (.cons (plain3 y y (out ++ [y]) N) (.cons (gt_cons x xs) (.cons (eq_cons y ys) (.cons (gt_cons x xs) (.cons (ix_cons x xs) (.cons (nth_cons x xs) (.cons (ix_cons y ys) (.cons (nth_cons y ys) (.cons c1 (.cons (eq_cons x xs) (.cons (gt_cons y ys) (.cons (ix_cons y ys) (.cons (nth_cons y ys) (.cons (ix_cons x xs) (.cons (nth_cons x xs) (.cons c2 (.cons (ix_cons y ys) (.cons (nth_cons y ys) (.cons (tail_slice _ y ys) (.cons (app_adr hk hN) .nil)))))))))))))))))))), x :: xs, ys, out ++ [y], rfl, by simp only [List.length_append, List.length_singleton], rfl, by rw [← he, uni, if_neg hlt, if_pos hgt, List.append_assoc]; rfl, by simp at hle ⊢; omega, hx, hy'⟩
          · rw [cmpN, if_neg hlt, if_neg hgt] at c1
            rw [cmpN, if_neg hgt, if_neg hlt] at c2
            have hk : out.length < N := by
              have h1 := hle
              simp at h1
              omega
            exact .inr ⟨_, _, _, by first | (simp; done) | (simp; omega), zgc_ok tab_ok mixed fun_ok cCo_ok (mgUE (rows (x :: xs)) (rows xs) (rows (y :: ys)) (rows ys) x y out.length N (room out N) (room (out ++ [y]) N) (some 0)) (.cons (plain3 y y (out ++ [y]) N) (.cons (gt_cons x xs) (.cons (eq_cons y ys) (.cons (gt_cons x xs) (.cons (ix_cons x xs) (.cons (nth_cons x xs) (.cons (ix_cons y ys) (.cons (nth_cons y ys) (.cons c1 (.cons (eq_cons x xs) (.cons (gt_cons y ys) (.cons (ix_cons y ys) (.cons (nth_cons y ys) (.cons (ix_cons x xs) (.cons (nth_cons x xs) (.cons c2 (.cons (ix_cons x xs) (.cons (nth_cons x xs) (.cons (tail_slice _ x xs) (.cons (ix_cons y ys) (.cons (nth_cons y ys) (.cons (tail_slice _ y ys) (.cons (app_adr hk hN) .nil))))))))))))))))))))))), xs, ys, out ++ [y], rfl, by simp only [List.length_append, List.length_singleton], rfl, by rw [← he, uni, if_neg hlt, if_neg hgt, List.append_assoc]; rfl, by simp at hle ⊢; omega, hx', hy'⟩

/-- what merge answers -/
def bU (x : Ads × Ads) : DV × Hp := (.sl 0 0 6 (uni x.1.1 x.2.1).length (x.1.1.length + x.2.1.length), ⟨1, [⟨0, 0, 77, room (uni x.1.1 x.2.1) (x.1.1.length + x.2.1.length)⟩]⟩)
theorem ansMgU (x : Ads × Ads) : Ans Try.prog 118 [adL x.1.1, adL x.2.1, .fn 127 [] []] (bU x).1 (bU x).2 := by
  obtain ⟨⟨s, hs, hls⟩, t, ht, hlt⟩ := x
  have r1 := rows_length s
  have r2 := rows_length t
  refine zans_ok tab_ok mixed fun_ok cCo_ok (mgURun (rows s) (rows t) (uni s t).length (s.length + t.length) (room (uni s t) (s.length + t.length)) (room [] (s.length + t.length))) (.cons ?_ (.cons ?_ (.cons ?_ (.cons (loopU hs ht (Nat.le_refl _) (by omega)) .nil))))
  · rw [r1, r2, show ((s.length : Int) + (t.length : Int)) = ((s.length + t.length : Nat) : Int) by omega, wrapI (by omega)]
    rfl
  · rw [Int.toNat_natCast, fitB_le2 (by omega) (by decide)]
    simp
    omega
  · rw [Int.toNat_natCast]
    rfl
theorem fineMgU (x : Ads × Ads) : Fine (bU x).1 (bU x).2 := ⟨rfl, plain_of fun o ho => by
  simp only [bU, List.mem_cons, List.not_mem_nil, or_false] at ho
  subst ho
  exact room_plain _ _, rfl⟩
def cMgU : CallF := conC 118 (fun x : Ads × Ads => [adL x.1.1, adL x.2.1, .fn 127 [] []]) bU
theorem cMgU_ok : CallOk Try.prog cMgU := conC_ok ansMgU fineMgU
theorem cMgU_at {hp : Hp} {d e : DV} (x y : Ads) (h : frz1 hp d (adL x.1)) (k : frz1 hp e (adL y.1)) : cMgU 118 [d, e, .fn 127 [] []] hp = some (sh3 hp.n (bU (x, y)).1, layH hp (bU (x, y)).2, none) :=
  conC_at (f0 := 118) (A := fun x : Ads × Ads => [adL x.1.1, adL x.2.1, .fn 127 [] []]) (fun x y hxy => by
    obtain ⟨x1, x2⟩ := x
    obtain ⟨y1, y2⟩ := y
    simp only [List.cons.injEq, and_true] at hxy
    rw [adL_inj hxy.1, adL_inj hxy.2]) (x, y) ⟨h, k, rfl, trivial⟩

theorem loopM {s t : List Nat} (hs : ∀ n ∈ s, n < 2 ^ 48) (ht : ∀ n ∈ t, n < 2 ^ 48) {N : Nat} (hst : s.length + t.length ≤ N) (hN : N ≤ 2 ^ 31) : Goes Try.prog tab (ksF ftab 118) (.loop (loopAt (bodyOf ftab 118) 0)) ((fun f => mkT 82 [(0, .list 6 (rows s)), (1, .list 6 (rows t)), (2, .fn f [] []), (7, .sl 0 0 6 0 N)]) 128) ⟨1, [⟨0, 0, 77, (room [] N)⟩]⟩ (.exit 0) (mkT 82 [(7, .sl 0 0 6 (mee s t).length N)]) ⟨1, [⟨0, 0, 77, (room (mee s t) N)⟩]⟩ := by
  have loop := Goes.loopM (P := Try.prog) (T := tab) (ks := (ksF ftab 118)) (x := loopAt (bodyOf ftab 118) 0) (e := .exit 0) (fun m sl h => ∃ xs ys out : List Nat, m = xs.length + ys.length ∧ sl = (fun f => mkT 82 [(0, .list 6 (rows xs)), (1, .list 6 (rows ys)), (2, .fn f [] []), (7, .sl 0 0 6 out.length N)]) 128 ∧ h = ⟨1, [⟨0, 0, 77, (room out N)⟩]⟩ ∧ out ++ mee xs ys = mee s t ∧ out.length + (xs.length + ys.length) ≤ N ∧ (∀ n ∈ xs, n < 2 ^ 48) ∧ (∀ n ∈ ys, n < 2 ^ 48))
    (fun sl h => sl = mkT 82 [(7, .sl 0 0 6 (mee s t).length N)] ∧ h = ⟨1, [⟨0, 0, 77, (room (mee s t) N)⟩]⟩) (by intro h; cases h) ?_ (m := s.length + t.length) (sl := (fun f => mkT 82 [(0, .list 6 (rows s)), (1, .list 6 (rows t)), (2, .fn f [] []), (7, .sl 0 0 6 0 N)]) 128) (hp := ⟨1, [⟨0, 0, 77, (room [] N)⟩]⟩) ⟨s, t, [], rfl, rfl, rfl, rfl, by simpa using hst, hs, ht⟩
  · obtain ⟨_, _, g, rfl, rfl⟩ := loop
    exact g
  · rintro m sl h ⟨xs, ys, out, rfl, rfl, rfl, he, hle, hx, hy⟩
    cases xs with
    | nil =>
      cases ys with
      | nil =>
        have e : out = mee s t := by rw [← he, mee_nil_l, List.append_nil]
        refine .inl ⟨_, _, zsee_ok tab_ok mixed fun_ok cCo_ok (mgMOut (rows []) (rows []) out.length N (room out N)) (.cons gt_nil (.cons gt_nil .nil)), ?_, ?_⟩ <;> rw [e]
      | cons y ys =>
        have hy' : ∀ n ∈ ys, n < 2 ^ 48 := fun n hn => hy n (by simp [hn])
        exact .inr ⟨_, _, _, by first | (simp; done) | (simp; omega), zgc_ok tab_ok mixed fun_ok cCo_ok (mgMT (rows []) (rows (y :: ys)) (rows ys) y out.length N (room out N)) (.cons (plain2 y out N) (.cons gt_nil (.cons (gt_cons y ys) (.cons (eq_cons y ys) (.cons gt_nil (.cons eq_nil (.cons (ix_cons y ys) (.cons (nth_cons y ys) (.cons (tail_slice _ y ys) .nil))))))))), [], ys, out, rfl, rfl, rfl, by rw [← he, mee_nil_l, mee_nil_l], by simp at hle ⊢; omega, hx, hy'⟩
    | cons x xs =>
      have hx' : ∀ n ∈ xs, n < 2 ^ 48 := fun n hn => hx n (by simp [hn])
      cases ys with
      | nil =>
        exact .inr ⟨_, _, _, by first | (simp; done) | (simp; omega), zgc_ok tab_ok mixed fun_ok cCo_ok (mgMS (rows (x :: xs)) (rows xs) (rows []) x out.length N (room out N)) (.cons (plain2 x out N) (.cons (gt_cons x xs) (.cons eq_nil (.cons (eq_cons x xs) (.cons gt_nil (.cons (ix_cons x xs) (.cons (nth_cons x xs) (.cons (tail_slice _ x xs) .nil)))))))), xs, [], out, rfl, rfl, rfl, by rw [← he, mee_nil_r, mee_nil_r], by simp at hle ⊢; omega, hx', hy⟩
      | cons y ys =>
        have hy' : ∀ n ∈ ys, n < 2 ^ 48 := fun n hn => hy n (by simp [hn])
        have bx := hx x (by simp)
        have bb := hy y (by simp)
        have c1 := cCo_at ⟨1, [⟨0, 0, 77, (room out N)⟩]⟩ bx bb
        have c2 := cCo_at ⟨1, [⟨0, 0, 77, (room out N)⟩]⟩ bb bx
        by_cases hlt : x < y
        · rw [cmpN, if_pos hlt] at c1
          rw [cmpN, if_neg (by omega), if_pos hlt] at c2
          exact .inr ⟨_, _, _, by first | (simp; done) | (simp; omega), zgc_ok tab_ok mixed fun_ok cCo_ok (mgML (rows (x :: xs)) (rows xs) (rows (y :: ys)) x y out.length N (room out N)) (.cons (plain2 x out N) (.cons (gt_cons x xs) (.cons (eq_cons y ys) (.cons (gt_cons x xs) (.cons (ix_cons x xs) (.cons (nth_cons x xs) (.cons (ix_cons y ys) (.cons (nth_cons y ys) (.cons c1 (.cons (eq_cons x xs) (.cons (gt_cons y ys) (.cons (ix_cons y ys) (.cons (nth_cons y ys) (.cons (ix_cons x xs) (.cons (nth_cons x xs) (.cons c2 (.cons (ix_cons x xs) (.cons (nth_cons x xs) (.cons (tail_slice _ x xs) .nil))))))))))))))))))), xs, y :: ys, out, rfl, rfl, rfl, by rw [← he, mee, if_pos hlt], by simp at hle ⊢; omega, hx', hy⟩
        · by_cases hgt : y < x
          · rw [cmpN, if_neg hlt, if_pos hgt] at c1
            rw [cmpN, if_pos hgt] at c2
            exact .inr ⟨_, _, _, by first | (simp; done) | (simp; omega), zgc_ok tab_ok mixed fun_ok cCo_ok (mgMG (rows (x :: xs)) (rows (y :: ys)) (rows ys) x y out.length N (room out N)) (.cons (plain2 y out N) (.cons (gt_cons x xs) (.cons (eq_cons y ys) (.cons (gt_cons x xs) (.cons (ix_cons x xs) (.cons (nth_cons x xs) (.cons (ix_cons y ys) (.cons (nth_cons y ys) (.cons c1 (.cons (eq_cons x xs) (.cons (gt_cons y ys) (.cons (ix_cons y ys) (.cons (nth_cons y ys) (.cons (ix_cons x xs) (.cons (nth_cons x xs) (.cons c2 (.cons (ix_cons y ys) (.cons (nth_cons y ys) (.cons (tail_slice _ y ys) .nil))))))))))))))))))), x :: xs, ys, out, rfl, rfl, rfl, by rw [← he, mee, if_neg hlt, if_pos hgt], by simp at hle ⊢; omega, hx, hy'⟩
          · rw [cmpN, if_neg hlt, if_neg hgt] at c1
            rw [cmpN, if_neg hgt, if_neg hlt] at c2
            have hk : out.length < N := by
              have h1 := hle
              simp at h1
              omega
            exact .inr ⟨_, _, _, by first | (simp; done) | (simp; omega), zgc_ok tab_ok mixed fun_ok cCo_ok (mgME (rows (x :: xs)) (rows xs) (rows (y :: ys)) (rows ys) x y out.length N (room out N) (room (out ++ [y]) N) (some 0)) (.cons (plain3 y y (out ++ [y]) N) (.cons (gt_cons x xs) (.cons (eq_cons y ys) (.cons (gt_cons x xs) (.cons (ix_cons x xs) (.cons (nth_cons x xs) (.cons (ix_cons y ys) (.cons (nth_cons y ys) (.cons c1 (.cons (eq_cons x xs) (.cons (gt_cons y ys) (.cons (ix_cons y ys) (.cons (nth_cons y ys) (.cons (ix_cons x xs) (.cons (nth_cons x xs) (.cons c2 (.cons (ix_cons x xs) (.cons (nth_cons x xs) (.cons (tail_slice _ x xs) (.cons (ix_cons y ys) (.cons (nth_cons y ys) (.cons (tail_slice _ y ys) (.cons (app_adr hk hN) .nil))))))))))))))))))))))), xs, ys, out ++ [y], rfl, by simp only [List.length_append, List.length_singleton], rfl, by rw [← he, mee, if_neg hlt, if_neg hgt, List.append_assoc]; rfl, by simp at hle ⊢; omega, hx', hy'⟩

/-- what merge answers -/
def bM (x : Ads × Ads) : DV × Hp := (.sl 0 0 6 (mee x.1.1 x.2.1).length (x.1.1.length + x.2.1.length), ⟨1, [⟨0, 0, 77, room (mee x.1.1 x.2.1) (x.1.1.length + x.2.1.length)⟩]⟩)
theorem ansMgM (x : Ads × Ads) : Ans Try.prog 118 [adL x.1.1, adL x.2.1, .fn 128 [] []] (bM x).1 (bM x).2 := by
  obtain ⟨⟨s, hs, hls⟩, t, ht, hlt⟩ := x
  have r1 := rows_length s
  have r2 := rows_length t
  refine zans_ok tab_ok mixed fun_ok cCo_ok (mgMRun (rows s) (rows t) (mee s t).length (s.length + t.length) (room (mee s t) (s.length + t.length)) (room [] (s.length + t.length))) (.cons ?_ (.cons ?_ (.cons ?_ (.cons (loopM hs ht (Nat.le_refl _) (by omega)) .nil))))
  · rw [r1, r2, show ((s.length : Int) + (t.length : Int)) = ((s.length + t.length : Nat) : Int) by omega, wrapI (by omega)]
    rfl
  · rw [Int.toNat_natCast, fitB_le2 (by omega) (by decide)]
    simp
    omega
  · rw [Int.toNat_natCast]
    rfl
theorem fineMgM (x : Ads × Ads) : Fine (bM x).1 (bM x).2 := ⟨rfl, plain_of fun o ho => by
  simp only [bM, List.mem_cons, List.not_mem_nil, or_false] at ho
  subst ho
  exact room_plain _ _, rfl⟩
def cMgM : CallF := conC 118 (fun x : Ads × Ads => [adL x.1.1, adL x.2.1, .fn 128 [] []]) bM
theorem cMgM_ok : CallOk Try.prog cMgM := conC_ok ansMgM fineMgM
theorem cMgM_at {hp : Hp} {d e : DV} (x y : Ads) (h : frz1 hp d (adL x.1)) (k : frz1 hp e (adL y.1)) : cMgM 118 [d, e, .fn 128 [] []] hp = some (sh3 hp.n (bM (x, y)).1, layH hp (bM (x, y)).2, none) :=
  conC_at (f0 := 118) (A := fun x : Ads × Ads => [adL x.1.1, adL x.2.1, .fn 128 [] []]) (fun x y hxy => by
    obtain ⟨x1, x2⟩ := x
    obtain ⟨y1, y2⟩ := y
    simp only [List.cons.injEq, and_true] at hxy
    rw [adL_inj hxy.1, adL_inj hxy.2]) (x, y) ⟨h, k, rfl, trivial⟩

end
end Go.Proofs.Ytnhbhdfeenpedaa
