/- Addresses as numbers; sets of them: the first contracts. -/
import Derived.Test.YtnhbhdfeenpedaaMa
import Derived.Test.YtnhbhdfeenpedaaBz
namespace Go.Proofs.Ytnhbhdfeenpedaa
open Go.RowKit

noncomputable section
/-- the cells of an address -/
def aC (n : Nat) : List DV := [.int .u8 ((n / 1099511627776 % 256 : Nat) : Int), .int .u8 ((n / 4294967296 % 256 : Nat) : Int), .int .u8 ((n / 16777216 % 256 : Nat) : Int), .int .u8 ((n / 65536 % 256 : Nat) : Int), .int .u8 ((n / 256 % 256 : Nat) : Int), .int .u8 ((n % 256 : Nat) : Int)]
def aD (n : Nat) : DV := .agg (aC n)
def rows (ns : List Nat) : List (List DV) := ns.map aC
def adL (ns : List Nat) : DV := .list 6 (rows ns)
theorem rows_length (ns : List Nat) : (rows ns).length = ns.length := by simp [rows]
theorem rows_nth {ns : List Nat} {k n : Nat} (h : ns[k]? = some n) : nth (rows ns) ((k : Int).toNat) = some (aC n) := by
  rw [nth_eq, Int.toNat_natCast, rows, List.getElem?_map, h]
  rfl
theorem numL_of {n : Nat} (h : n < 2 ^ 48) : numL [((n / 1099511627776 % 256 : Nat) : Int), ((n / 4294967296 % 256 : Nat) : Int), ((n / 16777216 % 256 : Nat) : Int), ((n / 65536 % 256 : Nat) : Int), ((n / 256 % 256 : Nat) : Int), ((n % 256 : Nat) : Int)] = (n : Int) := by
  rw [numL_eq (by omega) (by omega) (by omega) (by omega) (by omega) (by omega), num6]
  omega
theorem aC_inj {m n : Nat} (hm : m < 2 ^ 48) (hn : n < 2 ^ 48) (h : aC m = aC n) : m = n := by
  simp only [aC, List.cons.injEq, DV.int.injEq, true_and, and_true] at h
  omega
abbrev Adr : Type := {n : Nat // n < 2 ^ 48}
set_option maxRecDepth 1000000 in
theorem runNumber (n N : Nat) : zflat (zans Try.prog tab ftab noC 62 [aD n] [(16, .w (.int .u64 (N : Int)))]) = some (.int .u64 (N : Int), [DV.int .u64 (numL [((n / 1099511627776 % 256 : Nat) : Int), ((n / 4294967296 % 256 : Nat) : Int), ((n / 16777216 % 256 : Nat) : Int), ((n / 65536 % 256 : Nat) : Int), ((n / 256 % 256 : Nat) : Int), ((n % 256 : Nat) : Int)]) = .int .u64 (N : Int)]) := by
  kernel_rfl
theorem ansNumber (x : Adr) : Ans Try.prog 62 [aD x.1] (.int .u64 (x.1 : Int)) ⟨0, []⟩ :=
  zflat_ok tab_ok mixed fun_ok noC_ok (runNumber x.1 x.1) (.cons (by rw [numL_of x.2]) .nil)
def cNb : CallF := conC 62 (fun x : Adr => [aD x.1]) fun x => (.int .u64 (x.1 : Int), ⟨0, []⟩)
theorem fine0 {d : DV} (h : cl3 d = true) : Fine d ⟨0, []⟩ := ⟨h, fun id o h => by simp [Hp.get_eq] at h, rfl⟩
theorem cNb_ok : CallOk Try.prog cNb := conC_ok ansNumber fun _ => fine0 rfl
theorem aD_inj {x y : Adr} (h : aD x.1 = aD y.1) : x = y := Subtype.ext (aC_inj x.2 y.2 (by simpa [aD] using h))
theorem frz_aD (hp : Hp) (n : Nat) : frz1 hp (aD n) (aD n) := ⟨rfl, rfl⟩
theorem cNb_at (hp : Hp) (x : Adr) : cNb 62 [aD x.1] hp = some (.int .u64 (x.1 : Int), hp, none) :=
  conC_at (f0 := 62) (A := fun x : Adr => [aD x.1]) (B := fun x => (.int .u64 (x.1 : Int), ⟨0, []⟩)) (fun x y hxy => by
    simp only [List.cons.injEq, and_true] at hxy
    rw [aD_inj hxy]) x ⟨frz_aD _ _, trivial⟩
/-- how two numbers compare -/
def cmpN (m n : Nat) : Int := if m < n then -1 else if n < m then 1 else 0

set_option maxRecDepth 1000000 in
theorem cmpLt (m n : Nat) : zflat (zans Try.prog tab ftab cNb 60 [aD m, aD n] [(6, .q (.int .u64 (m : Int))), (8, .q (.int .u64 (n : Int))), (9, .c [(8, .b false), (10, .b false), (16, .b true)])]) =
    some (.int .i64 (-1), [cNb 62 [aD m] ⟨2, [⟨0, 0, 77, aC n⟩, ⟨0, 0, 77, aC m⟩]⟩ = some (.int .u64 (m : Int), ⟨2, [⟨0, 0, 77, aC n⟩, ⟨0, 0, 77, aC m⟩]⟩, none), cNb 62 [aD n] ⟨2, [⟨0, 0, 77, aC n⟩, ⟨0, 0, 77, aC m⟩]⟩ = some (.int .u64 (n : Int), ⟨2, [⟨0, 0, 77, aC n⟩, ⟨0, 0, 77, aC m⟩]⟩, none), ((m : Int) != (m : Int)) = false, ((n : Int) != (n : Int)) = false, decide ((m : Int) < (n : Int)) = true]) := by
  kernel_rfl

set_option maxRecDepth 1000000 in
theorem cmpGt (m n : Nat) : zflat (zans Try.prog tab ftab cNb 60 [aD m, aD n] [(6, .q (.int .u64 (m : Int))), (8, .q (.int .u64 (n : Int))), (9, .c [(8, .b false), (10, .b false), (16, .b false), (19, .b true)])]) =
    some (.int .i64 (1), [cNb 62 [aD m] ⟨2, [⟨0, 0, 77, aC n⟩, ⟨0, 0, 77, aC m⟩]⟩ = some (.int .u64 (m : Int), ⟨2, [⟨0, 0, 77, aC n⟩, ⟨0, 0, 77, aC m⟩]⟩, none), cNb 62 [aD n] ⟨2, [⟨0, 0, 77, aC n⟩, ⟨0, 0, 77, aC m⟩]⟩ = some (.int .u64 (n : Int), ⟨2, [⟨0, 0, 77, aC n⟩, ⟨0, 0, 77, aC m⟩]⟩, none), ((m : Int) != (m : Int)) = false, ((n : Int) != (n : Int)) = false, decide ((m : Int) < (n : Int)) = false, decide ((m : Int) > (n : Int)) = true]) := by
  kernel_rfl

set_option maxRecDepth 1000000 in
theorem cmpEq (m n : Nat) : zflat (zans Try.prog tab ftab cNb 60 [aD m, aD n] [(6, .q (.int .u64 (m : Int))), (8, .q (.int .u64 (n : Int))), (9, .c [(8, .b false), (10, .b false), (16, .b false), (19, .b false)])]) =
    some (.int .i64 (0), [cNb 62 [aD m] ⟨2, [⟨0, 0, 77, aC n⟩, ⟨0, 0, 77, aC m⟩]⟩ = some (.int .u64 (m : Int), ⟨2, [⟨0, 0, 77, aC n⟩, ⟨0, 0, 77, aC m⟩]⟩, none), cNb 62 [aD n] ⟨2, [⟨0, 0, 77, aC n⟩, ⟨0, 0, 77, aC m⟩]⟩ = some (.int .u64 (n : Int), ⟨2, [⟨0, 0, 77, aC n⟩, ⟨0, 0, 77, aC m⟩]⟩, none), ((m : Int) != (m : Int)) = false, ((n : Int) != (n : Int)) = false, decide ((m : Int) < (n : Int)) = false, decide ((m : Int) > (n : Int)) = false]) := by
  kernel_rfl

theorem ansCompare (x : Adr × Adr) : Ans Try.prog 60 [aD x.1.1, aD x.2.1] (.int .i64 (cmpN x.1.1 x.2.1)) ⟨0, []⟩ := by
  obtain ⟨m, n⟩ := x
  have q1 := fun hp => cNb_at hp m
  have q2 := fun hp => cNb_at hp n
  have e1 : ((m.1 : Int) != (m.1 : Int)) = false := by simp
  have e2 : ((n.1 : Int) != (n.1 : Int)) = false := by simp
  simp only [cmpN]
  by_cases h : m.1 < n.1
  · rw [if_pos h]
    exact zflat_ok tab_ok mixed fun_ok cNb_ok (cmpLt m.1 n.1) (.cons (q1 _) (.cons (q2 _) (.cons e1 (.cons e2 (.cons (decide_eq_true (by omega)) .nil)))))
  · rw [if_neg h]
    by_cases h' : n.1 < m.1
    · rw [if_pos h']
      exact zflat_ok tab_ok mixed fun_ok cNb_ok (cmpGt m.1 n.1) (.cons (q1 _) (.cons (q2 _) (.cons e1 (.cons e2 (.cons (decide_eq_false (by omega)) (.cons (decide_eq_true (by omega)) .nil))))))
    · rw [if_neg h']
      exact zflat_ok tab_ok mixed fun_ok cNb_ok (cmpEq m.1 n.1) (.cons (q1 _) (.cons (q2 _) (.cons e1 (.cons e2 (.cons (decide_eq_false (by omega)) (.cons (decide_eq_false (by omega)) .nil))))))
def cCo : CallF := conC 60 (fun x : Adr × Adr => [aD x.1.1, aD x.2.1]) fun x => (.int .i64 (cmpN x.1.1 x.2.1), ⟨0, []⟩)
theorem cCo_ok : CallOk Try.prog cCo := conC_ok ansCompare fun _ => fine0 rfl
theorem cCo_at (hp : Hp) {m n : Nat} (hm : m < 2 ^ 48) (hn : n < 2 ^ 48) : cCo 60 [aD m, aD n] hp = some (.int .i64 (cmpN m n), hp, none) :=
  conC_at (f0 := 60) (A := fun x : Adr × Adr => [aD x.1.1, aD x.2.1]) (B := fun x => (.int .i64 (cmpN x.1.1 x.2.1), ⟨0, []⟩)) (fun x y hxy => by
    obtain ⟨x1, x2⟩ := x
    obtain ⟨y1, y2⟩ := y
    simp only [List.cons.injEq, and_true] at hxy
    rw [aD_inj hxy.1, aD_inj hxy.2]) (⟨m, hm⟩, ⟨n, hn⟩) ⟨frz_aD _ _, frz_aD _ _, trivial⟩
/-! ### CheckSet -/
def Adj (ns : List Nat) : Prop := ∀ i, i + 1 < ns.length → ns.getD i 0 < ns.getD (i + 1) 0

set_option maxRecDepth 1000000 in
theorem csLt (xs : List (List DV)) (k m n : Nat) : zsee Try.prog tab ftab cCo (ksF ftab 76) [0, 3] (loopAt (bodyOf ftab 76) 0) (mkT 24 [(0, .list 6 xs), (3, iN (k + 1))]) ⟨0, []⟩ [(10, .b true), (15, .w (iN k)), (16, .n (.fptr (aC m))), (20, .n (.fptr (aC n))), (22, .q (.int .i64 (-1))), (3, .w (iN (k + 2)))] =
    some (.normal, mkT 24 [(0, .list 6 xs), (3, iN (k + 2))], ⟨0, []⟩, [decide (((k + 1 : Nat) : Int) < (xs.length : Int)) = true, DV.int .i64 (IntKind.i64.wrap (((k + 1 : Nat) : Int) - 1)) = iN k, idxOk (k : Int) xs.length = true, nth xs (k : Int).toNat = some (aC m), idxOk ((k + 1 : Nat) : Int) xs.length = true, nth xs ((k + 1 : Nat) : Int).toNat = some (aC n), cCo 60 [aD m, aD n] ⟨0, []⟩ = some (.int .i64 (-1), ⟨0, []⟩, none), DV.int .i64 (IntKind.i64.wrap (((k + 1 : Nat) : Int) + 1)) = iN (k + 2)]) := by
  kernel_rfl

set_option maxRecDepth 1000000 in
theorem csEq (xs : List (List DV)) (k m n : Nat) : zsee Try.prog tab ftab cCo (ksF ftab 76) [2] (loopAt (bodyOf ftab 76) 0) (mkT 24 [(0, .list 6 xs), (3, iN (k + 1))]) ⟨0, []⟩ [(10, .b true), (15, .w (iN k)), (16, .n (.fptr (aC m))), (20, .n (.fptr (aC n))), (22, .q (.int .i64 (0)))] =
    some (.ret, mkT 24 [(2, .int .i64 8)], ⟨0, []⟩, [decide (((k + 1 : Nat) : Int) < (xs.length : Int)) = true, DV.int .i64 (IntKind.i64.wrap (((k + 1 : Nat) : Int) - 1)) = iN k, idxOk (k : Int) xs.length = true, nth xs (k : Int).toNat = some (aC m), idxOk ((k + 1 : Nat) : Int) xs.length = true, nth xs ((k + 1 : Nat) : Int).toNat = some (aC n), cCo 60 [aD m, aD n] ⟨0, []⟩ = some (.int .i64 (0), ⟨0, []⟩, none)]) := by
  kernel_rfl

set_option maxRecDepth 1000000 in
theorem csGt (xs : List (List DV)) (k m n : Nat) : zsee Try.prog tab ftab cCo (ksF ftab 76) [2] (loopAt (bodyOf ftab 76) 0) (mkT 24 [(0, .list 6 xs), (3, iN (k + 1))]) ⟨0, []⟩ [(10, .b true), (15, .w (iN k)), (16, .n (.fptr (aC m))), (20, .n (.fptr (aC n))), (22, .q (.int .i64 (1)))] =
    some (.ret, mkT 24 [(2, .int .i64 8)], ⟨0, []⟩, [decide (((k + 1 : Nat) : Int) < (xs.length : Int)) = true, DV.int .i64 (IntKind.i64.wrap (((k + 1 : Nat) : Int) - 1)) = iN k, idxOk (k : Int) xs.length = true, nth xs (k : Int).toNat = some (aC m), idxOk ((k + 1 : Nat) : Int) xs.length = true, nth xs ((k + 1 : Nat) : Int).toNat = some (aC n), cCo 60 [aD m, aD n] ⟨0, []⟩ = some (.int .i64 (1), ⟨0, []⟩, none)]) := by
  kernel_rfl

set_option maxRecDepth 1000000 in
theorem csOut (xs : List (List DV)) (k : Nat) : zsee Try.prog tab ftab cCo (ksF ftab 76) [0] (loopAt (bodyOf ftab 76) 0) (mkT 24 [(0, .list 6 xs), (3, iN (k + 1))]) ⟨0, []⟩ [(10, .b false)] = some (.exit 0, mkT 24 [(0, .list 6 xs)], ⟨0, []⟩, [decide (((k + 1 : Nat) : Int) < (xs.length : Int)) = false]) := by
  kernel_rfl
set_option maxRecDepth 1000000 in
theorem csBig (xs : List (List DV)) : zflat (zans Try.prog tab ftab cCo 76 [.list 6 xs] [(6, .b true)]) = some (.int .i64 8, [decide ((xs.length : Int) > 256) = true]) := by
  kernel_rfl
set_option maxRecDepth 1000000 in
theorem csGood (xs : List (List DV)) : zflat (zans Try.prog tab ftab cCo 76 [.list 6 xs] [(6, .b false), (0, .l [0, 3] (.exit 0) (mkT 24 [(0, .list 6 xs)]) ⟨0, []⟩)]) = some (.int .i64 0, [decide ((xs.length : Int) > 256) = false, Goes Try.prog tab (ksF ftab 76) (.loop (loopAt (bodyOf ftab 76) 0)) (mkT 24 [(0, .list 6 xs), (3, iN 1)]) ⟨0, []⟩ (.exit 0) (mkT 24 [(0, .list 6 xs)]) ⟨0, []⟩]) := by
  kernel_rfl
set_option maxRecDepth 1000000 in
theorem csBad (xs : List (List DV)) : zflat (zans Try.prog tab ftab cCo 76 [.list 6 xs] [(6, .b false), (0, .l [0, 3] .ret (mkT 24 [(2, .int .i64 8)]) ⟨0, []⟩)]) = some (.int .i64 8, [decide ((xs.length : Int) > 256) = false, Goes Try.prog tab (ksF ftab 76) (.loop (loopAt (bodyOf ftab 76) 0)) (mkT 24 [(0, .list 6 xs), (3, iN 1)]) ⟨0, []⟩ .ret (mkT 24 [(2, .int .i64 8)]) ⟨0, []⟩]) := by
  kernel_rfl
abbrev Ads : Type := {ns : List Nat // (∀ n ∈ ns, n < 2 ^ 48) ∧ ns.length < 2 ^ 30}
theorem cs_round {ns : List Nat} (hb : ∀ n ∈ ns, n < 2 ^ 48) (hl : ns.length < 2 ^ 30) {k : Nat} (hk : k + 1 < ns.length) (h : ns.getD k 0 < ns.getD (k + 1) 0) : Goes Try.prog tab (ksF ftab 76) (loopAt (bodyOf ftab 76) 0) ((fun xs => mkT 24 [(0, .list 6 xs), (3, iN (k + 1))]) (rows ns)) ⟨0, []⟩ .normal ((fun xs => mkT 24 [(0, .list 6 xs), (3, iN (k + 2))]) (rows ns)) ⟨0, []⟩ := by
  have g1 : ns[k]? = some (ns.getD k 0) := by rw [List.getD_eq_getElem?_getD, List.getElem?_eq_getElem (by omega)]; rfl
  have g2 : ns[k + 1]? = some (ns.getD (k + 1) 0) := by rw [List.getD_eq_getElem?_getD, List.getElem?_eq_getElem hk]; rfl
  have b1 := hb _ (List.mem_of_getElem? g1)
  have b2 := hb _ (List.mem_of_getElem? g2)
  have hr := rows_length ns
  have q := cCo_at ⟨0, []⟩ b1 b2
  rw [cmpN, if_pos h] at q
  refine zsee_ok tab_ok mixed fun_ok cCo_ok (csLt (rows ns) k _ _) (.cons (decide_eq_true (by omega)) (.cons ?_ (.cons (idxOk_lt (by omega)) (.cons (rows_nth g1) (.cons (idxOk_lt (by omega)) (.cons (rows_nth g2) (.cons q (.cons ?_ .nil))))))))
  · rw [show (((k + 1 : Nat) : Int) - 1) = (k : Int) by omega, wrapI (by omega)]
    rfl
  · rw [show (((k + 1 : Nat) : Int) + 1) = ((k + 2 : Nat) : Int) by omega, wrapI (by omega)]
    rfl
theorem cs_stop {ns : List Nat} (hb : ∀ n ∈ ns, n < 2 ^ 48) (hl : ns.length < 2 ^ 30) {k : Nat} (hk : k + 1 < ns.length) (h : ¬ ns.getD k 0 < ns.getD (k + 1) 0) : Goes Try.prog tab (ksF ftab 76) (loopAt (bodyOf ftab 76) 0) ((fun xs => mkT 24 [(0, .list 6 xs), (3, iN (k + 1))]) (rows ns)) ⟨0, []⟩ .ret (mkT 24 [(2, .int .i64 8)]) ⟨0, []⟩ := by
  have g1 : ns[k]? = some (ns.getD k 0) := by rw [List.getD_eq_getElem?_getD, List.getElem?_eq_getElem (by omega)]; rfl
  have g2 : ns[k + 1]? = some (ns.getD (k + 1) 0) := by rw [List.getD_eq_getElem?_getD, List.getElem?_eq_getElem hk]; rfl
  have b1 := hb _ (List.mem_of_getElem? g1)
  have b2 := hb _ (List.mem_of_getElem? g2)
  have hr := rows_length ns
  have q := cCo_at ⟨0, []⟩ b1 b2
  rw [cmpN, if_neg h] at q
  have e : DV.int .i64 (IntKind.i64.wrap (((k + 1 : Nat) : Int) - 1)) = iN k := by
    rw [show (((k + 1 : Nat) : Int) - 1) = (k : Int) by omega, wrapI (by omega)]
    rfl
  by_cases h' : ns.getD (k + 1) 0 < ns.getD k 0
  · rw [if_pos h'] at q
    exact zsee_ok tab_ok mixed fun_ok cCo_ok (csGt (rows ns) k _ _) (.cons (decide_eq_true (by omega)) (.cons e (.cons (idxOk_lt (by omega)) (.cons (rows_nth g1) (.cons (idxOk_lt (by omega)) (.cons (rows_nth g2) (.cons q .nil)))))))
  · rw [if_neg h'] at q
    exact zsee_ok tab_ok mixed fun_ok cCo_ok (csEq (rows ns) k _ _) (.cons (decide_eq_true (by omega)) (.cons e (.cons (idxOk_lt (by omega)) (.cons (rows_nth g1) (.cons (idxOk_lt (by omega)) (.cons (rows_nth g2) (.cons q .nil)))))))
def chk (ns : List Nat) : Int := @ite _ (ns.length ≤ 256 ∧ Adj ns) (Classical.propDecidable _) 0 8
theorem ansChk (x : Ads) : Ans Try.prog 76 [adL x.1] (.int .i64 (chk x.1)) ⟨0, []⟩ := by
  obtain ⟨ns, hb, hl⟩ := x
  have hr := rows_length ns
  by_cases h1 : ns.length ≤ 256
  · have n0 : decide (((rows ns).length : Int) > 256) = false := decide_eq_false (by omega)
    by_cases h2 : Adj ns
    · have e : chk ns = 0 := if_pos ⟨h1, h2⟩
      rw [e]
      refine zflat_ok tab_ok mixed fun_ok cCo_ok (csGood (rows ns)) (.cons n0 (.cons ?_ .nil))
      exact Goes.loop (ns.length - 1) (fun k => (fun xs => mkT 24 [(0, .list 6 xs), (3, iN (k + 1))]) (rows ns)) (fun _ => ⟨0, []⟩) (fun k hk => cs_round hb hl (by omega) (h2 k (by omega))) (zsee_ok tab_ok mixed fun_ok cCo_ok (csOut (rows ns) (ns.length - 1)) (.cons (decide_eq_false (by omega)) .nil)) (by intro h; cases h)
    · have e : chk ns = 8 := if_neg fun h => h2 h.2
      rw [e]
      have hex : ∃ i, i + 1 < ns.length ∧ ¬ ns.getD i 0 < ns.getD (i + 1) 0 := by
        refine Classical.byContradiction fun hn => h2 fun i hi => Classical.byContradiction fun hc => hn ⟨i, hi, hc⟩
      obtain ⟨j, hj, hmin⟩ : ∃ j, (j + 1 < ns.length ∧ ¬ ns.getD j 0 < ns.getD (j + 1) 0) ∧ ∀ i, i < j → ns.getD i 0 < ns.getD (i + 1) 0 := by
        obtain ⟨i, hi⟩ := hex
        induction i using Nat.strongRecOn with
        | ind i ih =>
          by_cases hc : ∃ q, q < i ∧ ¬ ns.getD q 0 < ns.getD (q + 1) 0
          · obtain ⟨q, hq, hn⟩ := hc
            exact ih q hq ⟨by omega, hn⟩
          · exact ⟨i, hi, fun q hq => Classical.byContradiction fun hn => hc ⟨q, hq, hn⟩⟩
      refine zflat_ok tab_ok mixed fun_ok cCo_ok (csBad (rows ns)) (.cons n0 (.cons ?_ .nil))
      exact Goes.loop j (fun k => (fun xs => mkT 24 [(0, .list 6 xs), (3, iN (k + 1))]) (rows ns)) (fun _ => ⟨0, []⟩) (fun k hk => cs_round hb hl (by omega) (hmin k hk)) (cs_stop hb hl hj.1 hj.2) (by intro h; cases h)
  · have e : chk ns = 8 := if_neg fun h => h1 h.1
    rw [e]
    exact zflat_ok tab_ok mixed fun_ok cCo_ok (csBig (rows ns)) (.cons (decide_eq_true (by omega)) .nil)
theorem rows_inj : ∀ {a b : List Nat}, (∀ n ∈ a, n < 2 ^ 48) → (∀ n ∈ b, n < 2 ^ 48) → rows a = rows b → a = b
  | [], [], _, _, _ => rfl
  | x :: a, y :: b, ha, hb, h => by
    simp only [rows, List.map_cons, List.cons.injEq] at h
    rw [aC_inj (ha x (by simp)) (hb y (by simp)) h.1, rows_inj (fun n hn => ha n (by simp [hn])) (fun n hn => hb n (by simp [hn])) h.2]
  | [], _ :: _, _, _, h => by cases h
  | _ :: _, [], _, _, h => by cases h
theorem adL_inj {x y : Ads} (h : adL x.1 = adL y.1) : x = y := by
  simp only [adL, DV.list.injEq, true_and] at h
  exact Subtype.ext (rows_inj x.2.1 y.2.1 h)
def cCk : CallF := conC 76 (fun x : Ads => [adL x.1]) fun x => (.int .i64 (chk x.1), ⟨0, []⟩)
theorem cCk_ok : CallOk Try.prog cCk := conC_ok ansChk fun _ => fine0 rfl
theorem cCk_at {hp : Hp} {d : DV} (x : Ads) (h : frz1 hp d (adL x.1)) : cCk 76 [d] hp = some (.int .i64 (chk x.1), hp, none) :=
  conC_at (f0 := 76) (A := fun x : Ads => [adL x.1]) (B := fun x => (.int .i64 (chk x.1), ⟨0, []⟩)) (fun x y hxy => by
    simp only [List.cons.injEq, and_true] at hxy
    rw [adL_inj hxy]) x ⟨h, trivial⟩

end
end Go.Proofs.Ytnhbhdfeenpedaa
