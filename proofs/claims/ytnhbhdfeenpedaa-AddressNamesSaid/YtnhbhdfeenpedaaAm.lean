/- Lists of addresses compared; two sets gone through in order. -/
import Derived.Test.YtnhbhdfeenpedaaAd
namespace Go.Proofs.Ytnhbhdfeenpedaa
open Go.RowKit

noncomputable section
theorem ne_run (m n : Nat) : binD tab .neq 77 (aD m) (aD n) = some (.bool (!((((m / 1099511627776 % 256 : Nat) : Int) == ((n / 1099511627776 % 256 : Nat) : Int)) && ((((m / 4294967296 % 256 : Nat) : Int) == ((n / 4294967296 % 256 : Nat) : Int)) && ((((m / 16777216 % 256 : Nat) : Int) == ((n / 16777216 % 256 : Nat) : Int)) && ((((m / 65536 % 256 : Nat) : Int) == ((n / 65536 % 256 : Nat) : Int)) && ((((m / 256 % 256 : Nat) : Int) == ((n / 256 % 256 : Nat) : Int)) && ((((m % 256 : Nat) : Int) == ((n % 256 : Nat) : Int)) && true)))))))) := by kernel_rfl
theorem ne_adr {m n : Nat} (hm : m < 2 ^ 48) (hn : n < 2 ^ 48) : binD tab .neq 77 (aD m) (aD n) = some (.bool (decide (m ≠ n))) := by
  rw [ne_run]
  congr 2
  by_cases h : m = n
  · subst h
    simp
  · rw [decide_eq_true h, Bool.not_eq_true', Bool.eq_false_iff]
    intro hc
    simp only [Bool.and_eq_true, beq_iff_eq, and_true] at hc
    omega
/-! ### Same -/
set_option maxRecDepth 1000000 in
theorem saLen (xs ys : List (List DV)) : zflat (zans Try.prog tab ftab noC 53 [.list 6 xs, .list 6 ys] [(10, .b true)]) = some (.bool false, [((xs.length : Int) != (ys.length : Int)) = true]) := by
  kernel_rfl
set_option maxRecDepth 1000000 in
theorem saRound (xs ys : List (List DV)) (k m n : Nat) : zsee Try.prog tab ftab noC (ksF ftab 53) [0, 1, 5] (loopAt (bodyOf ftab 53) 0) (mkT 26 [(0, .list 6 xs), (1, .list 6 ys), (5, iN k)]) ⟨0, []⟩ [(14, .b true), (19, .n (.fptr (aC m))), (23, .n (.fptr (aC n))), (25, .n (.bool false)), (5, .w (iN (k + 1)))] =
    some (.normal, mkT 26 [(0, .list 6 xs), (1, .list 6 ys), (5, iN (k + 1))], ⟨0, []⟩, [decide ((k : Int) < (xs.length : Int)) = true, idxOk (k : Int) xs.length = true, nth xs (k : Int).toNat = some (aC m), idxOk (k : Int) ys.length = true, nth ys (k : Int).toNat = some (aC n), binD tab .neq 77 (aD m) (aD n) = some (.bool false), DV.int .i64 (IntKind.i64.wrap ((k : Int) + 1)) = iN (k + 1)]) := by
  kernel_rfl
set_option maxRecDepth 1000000 in
theorem saStop (xs ys : List (List DV)) (k m n : Nat) : zsee Try.prog tab ftab noC (ksF ftab 53) [4] (loopAt (bodyOf ftab 53) 0) (mkT 26 [(0, .list 6 xs), (1, .list 6 ys), (5, iN k)]) ⟨0, []⟩ [(14, .b true), (19, .n (.fptr (aC m))), (23, .n (.fptr (aC n))), (25, .n (.bool true))] =
    some (.ret, mkT 26 [(4, .bool false)], ⟨0, []⟩, [decide ((k : Int) < (xs.length : Int)) = true, idxOk (k : Int) xs.length = true, nth xs (k : Int).toNat = some (aC m), idxOk (k : Int) ys.length = true, nth ys (k : Int).toNat = some (aC n), binD tab .neq 77 (aD m) (aD n) = some (.bool true)]) := by
  kernel_rfl
set_option maxRecDepth 1000000 in
theorem saOut (xs ys : List (List DV)) (k : Nat) : zsee Try.prog tab ftab noC (ksF ftab 53) [0] (loopAt (bodyOf ftab 53) 0) (mkT 26 [(0, .list 6 xs), (1, .list 6 ys), (5, iN k)]) ⟨0, []⟩ [(14, .b false)] = some (.exit 0, mkT 26 [(0, .list 6 xs)], ⟨0, []⟩, [decide ((k : Int) < (xs.length : Int)) = false]) := by
  kernel_rfl
set_option maxRecDepth 1000000 in
theorem saGood (xs ys : List (List DV)) : zflat (zans Try.prog tab ftab noC 53 [.list 6 xs, .list 6 ys] [(10, .b false), (0, .l [0, 1, 5] (.exit 0) (mkT 26 [(0, .list 6 xs)]) ⟨0, []⟩)]) = some (.bool true, [((xs.length : Int) != (ys.length : Int)) = false, Goes Try.prog tab (ksF ftab 53) (.loop (loopAt (bodyOf ftab 53) 0)) (mkT 26 [(0, .list 6 xs), (1, .list 6 ys), (5, iN 0)]) ⟨0, []⟩ (.exit 0) (mkT 26 [(0, .list 6 xs)]) ⟨0, []⟩]) := by
  kernel_rfl
set_option maxRecDepth 1000000 in
theorem saBad (xs ys : List (List DV)) : zflat (zans Try.prog tab ftab noC 53 [.list 6 xs, .list 6 ys] [(10, .b false), (0, .l [0, 1, 5] .ret (mkT 26 [(4, .bool false)]) ⟨0, []⟩)]) = some (.bool false, [((xs.length : Int) != (ys.length : Int)) = false, Goes Try.prog tab (ksF ftab 53) (.loop (loopAt (bodyOf ftab 53) 0)) (mkT 26 [(0, .list 6 xs), (1, .list 6 ys), (5, iN 0)]) ⟨0, []⟩ .ret (mkT 26 [(4, .bool false)]) ⟨0, []⟩]) := by
  kernel_rfl
theorem sa_step {a b : List Nat} (ha : ∀ n ∈ a, n < 2 ^ 48) (hb : ∀ n ∈ b, n < 2 ^ 48) (hl : a.length < 2 ^ 30) (he : a.length = b.length) {k : Nat} (hk : k < a.length) (h : a.getD k 0 = b.getD k 0) : Goes Try.prog tab (ksF ftab 53) (loopAt (bodyOf ftab 53) 0) ((fun xs ys => mkT 26 [(0, .list 6 xs), (1, .list 6 ys), (5, iN k)]) (rows a) (rows b)) ⟨0, []⟩ .normal ((fun xs ys => mkT 26 [(0, .list 6 xs), (1, .list 6 ys), (5, iN (k + 1))]) (rows a) (rows b)) ⟨0, []⟩ := by
  have g1 : a[k]? = some (a.getD k 0) := by rw [List.getD_eq_getElem?_getD, List.getElem?_eq_getElem hk]; rfl
  have g2 : b[k]? = some (b.getD k 0) := by rw [List.getD_eq_getElem?_getD, List.getElem?_eq_getElem (by omega)]; rfl
  have b1 := ha _ (List.mem_of_getElem? g1)
  have b2 := hb _ (List.mem_of_getElem? g2)
  have r1 := rows_length a
  have r2 := rows_length b
  have q := ne_adr b1 b2
  rw [decide_eq_false (by omega)] at q
  exact zsee_ok tab_ok mixed fun_ok noC_ok (saRound (rows a) (rows b) k _ _) (.cons (decide_eq_true (by omega)) (.cons (idxOk_lt (by omega)) (.cons (rows_nth g1) (.cons (idxOk_lt (by omega)) (.cons (rows_nth g2) (.cons q (.cons (congrArg (DV.int .i64) (wrapI (n := k + 1) (by omega))) .nil)))))))
theorem sa_stop {a b : List Nat} (ha : ∀ n ∈ a, n < 2 ^ 48) (hb : ∀ n ∈ b, n < 2 ^ 48) (he : a.length = b.length) {k : Nat} (hk : k < a.length) (h : a.getD k 0 ≠ b.getD k 0) : Goes Try.prog tab (ksF ftab 53) (loopAt (bodyOf ftab 53) 0) ((fun xs ys => mkT 26 [(0, .list 6 xs), (1, .list 6 ys), (5, iN k)]) (rows a) (rows b)) ⟨0, []⟩ .ret (mkT 26 [(4, .bool false)]) ⟨0, []⟩ := by
  have g1 : a[k]? = some (a.getD k 0) := by rw [List.getD_eq_getElem?_getD, List.getElem?_eq_getElem hk]; rfl
  have g2 : b[k]? = some (b.getD k 0) := by rw [List.getD_eq_getElem?_getD, List.getElem?_eq_getElem (by omega)]; rfl
  have b1 := ha _ (List.mem_of_getElem? g1)
  have b2 := hb _ (List.mem_of_getElem? g2)
  have r1 := rows_length a
  have r2 := rows_length b
  have q := ne_adr b1 b2
  rw [decide_eq_true h] at q
  exact zsee_ok tab_ok mixed fun_ok noC_ok (saStop (rows a) (rows b) k _ _) (.cons (decide_eq_true (by omega)) (.cons (idxOk_lt (by omega)) (.cons (rows_nth g1) (.cons (idxOk_lt (by omega)) (.cons (rows_nth g2) (.cons q .nil))))))
theorem ansSame (x : Ads × Ads) : Ans Try.prog 53 [adL x.1.1, adL x.2.1] (.bool (decide (x.1.1 = x.2.1))) ⟨0, []⟩ := by
  obtain ⟨⟨a, ha, hla⟩, b, hb, hlb⟩ := x
  have r1 := rows_length a
  have r2 := rows_length b
  by_cases hl : a.length = b.length
  · have n0 : (((rows a).length : Int) != ((rows b).length : Int)) = false := by
      rw [r1, r2, hl]
      simp
    by_cases hab : a = b
    · simp only [decide_eq_true hab]
      refine zflat_ok tab_ok mixed fun_ok noC_ok (saGood (rows a) (rows b)) (.cons n0 (.cons ?_ .nil))
      exact Goes.loop a.length (fun k => (fun xs ys => mkT 26 [(0, .list 6 xs), (1, .list 6 ys), (5, iN k)]) (rows a) (rows b)) (fun _ => ⟨0, []⟩) (fun k hk => sa_step ha hb hla hl hk (by rw [hab])) (zsee_ok tab_ok mixed fun_ok noC_ok (saOut (rows a) (rows b) a.length) (.cons (decide_eq_false (by omega)) .nil)) (by intro h; cases h)
    · simp only [decide_eq_false hab]
      have hex : ∃ i, i < a.length ∧ a.getD i 0 ≠ b.getD i 0 := by
        refine Classical.byContradiction fun hn => hab (List.ext_getElem hl fun i h1 h2 => Classical.byContradiction fun hc => hn ⟨i, h1, ?_⟩)
        rw [List.getD_eq_getElem?_getD, List.getD_eq_getElem?_getD, List.getElem?_eq_getElem h1, List.getElem?_eq_getElem h2]
        exact hc
      obtain ⟨j, hj, hmin⟩ : ∃ j, (j < a.length ∧ a.getD j 0 ≠ b.getD j 0) ∧ ∀ i, i < j → a.getD i 0 = b.getD i 0 := by
        obtain ⟨i, hi⟩ := hex
        induction i using Nat.strongRecOn with
        | ind i ih =>
          by_cases hc : ∃ q, q < i ∧ a.getD q 0 ≠ b.getD q 0
          · obtain ⟨q, hq, hn⟩ := hc
            exact ih q hq ⟨by omega, hn⟩
          · exact ⟨i, hi, fun q hq => Classical.byContradiction fun hn => hc ⟨q, hq, hn⟩⟩
      refine zflat_ok tab_ok mixed fun_ok noC_ok (saBad (rows a) (rows b)) (.cons n0 (.cons ?_ .nil))
      exact Goes.loop j (fun k => (fun xs ys => mkT 26 [(0, .list 6 xs), (1, .list 6 ys), (5, iN k)]) (rows a) (rows b)) (fun _ => ⟨0, []⟩) (fun k hk => sa_step ha hb hla hl (by omega) (hmin k hk)) (sa_stop ha hb hl hj.1 hj.2) (by intro h; cases h)
  · have hab : a ≠ b := fun e => hl (by rw [e])
    simp only [decide_eq_false hab]
    refine zflat_ok tab_ok mixed fun_ok noC_ok (saLen (rows a) (rows b)) (.cons ?_ .nil)
    rw [r1, r2, bne_iff_ne]
    omega
def cSa : CallF := conC 53 (fun x : Ads × Ads => [adL x.1.1, adL x.2.1]) fun x => (.bool (decide (x.1.1 = x.2.1)), ⟨0, []⟩)
theorem cSa_ok : CallOk Try.prog cSa := conC_ok ansSame fun _ => fine0 rfl
theorem cSa_at {hp : Hp} {d e : DV} (x y : Ads) (h : frz1 hp d (adL x.1)) (k : frz1 hp e (adL y.1)) : cSa 53 [d, e] hp = some (.bool (decide (x.1 = y.1)), hp, none) :=
  conC_at (f0 := 53) (A := fun x : Ads × Ads => [adL x.1.1, adL x.2.1]) (B := fun x => (.bool (decide (x.1.1 = x.2.1)), ⟨0, []⟩)) (fun x y hxy => by
    obtain ⟨x1, x2⟩ := x
    obtain ⟨y1, y2⟩ := y
    simp only [List.cons.injEq, and_true] at hxy
    rw [adL_inj hxy.1, adL_inj hxy.2]) (x, y) ⟨h, k, trivial⟩

/-! ### merge -/
abbrev adT : TI := ⟨.slice 77, 1, 24, [.nil], true⟩

set_option maxRecDepth 1000000 in
theorem mgUS (xs xt ys : List (List DV)) (x : Nat) (k N : Nat) (cl cl' : List DV) (m : Mut) : zgc [0] (zsee Try.prog tab ftab cCo (ksF ftab 118) [0, 1, 2, 7] (loopAt (bodyOf ftab 118) 0) ((fun f => mkT 82 [(0, .list 6 xs), (1, .list 6 ys), (2, .fn f [] []), (7, .sl 0 0 6 k N)]) 127) ⟨1, [⟨0, 0, 77, cl⟩]⟩ [(19, .b true), (27, .b true), (45, .b false), (49, .b false), (63, .n (.fptr (aC x))), (66, .n (.list 6 xt)), (80, .h (.sl 0 0 6 (k + 1) N) ⟨3, [⟨0, 0, 77, aC x⟩, ⟨0, 0, 77, aC x⟩, ⟨0, 0, 77, cl'⟩]⟩ m)]) =
    some (.normal, (fun f => mkT 82 [(0, .list 6 xt), (1, .list 6 ys), (2, .fn f [] []), (7, .sl 0 0 6 (k + 1) N)]) 127, ⟨1, [⟨0, 0, 77, cl'⟩]⟩, [Plain ⟨3, [⟨0, 0, 77, aC x⟩, ⟨0, 0, 77, aC x⟩, ⟨0, 0, 77, cl'⟩]⟩, decide ((xs.length : Int) > 0) = true,
      ((ys.length : Int) == 0) = true,
      ((xs.length : Int) == 0) = false,
      decide ((ys.length : Int) > 0) = false,
      idxOk (0 : Int) xs.length = true,
      nth xs (0 : Int).toNat = some (aC x),
      sliceD tab ⟨2, [⟨0, 0, 77, [.int .u8 0, .int .u8 0, .int .u8 0, .int .u8 0, .int .u8 0, .int .u8 0]⟩, ⟨0, 0, 77, cl⟩]⟩ adT (.list 6 xs) (some (.int .i64 1)) none none = some (.list 6 xt),
      builtinD tab ⟨3, [⟨0, 0, 77, aC x⟩, ⟨0, 0, 77, aC x⟩, ⟨0, 0, 77, cl⟩]⟩ .append [.sl 0 0 6 k N, .sl 2 0 6 1 1] [82, 82] = some (.sl 0 0 6 (k + 1) N, ⟨3, [⟨0, 0, 77, aC x⟩, ⟨0, 0, 77, aC x⟩, ⟨0, 0, 77, cl'⟩]⟩, m)]) := by
  kernel_rfl

set_option maxRecDepth 1000000 in
theorem mgMS (xs xt ys : List (List DV)) (x : Nat) (k N : Nat) (cl : List DV) : zgc [0] (zsee Try.prog tab ftab cCo (ksF ftab 118) [0, 1, 2, 7] (loopAt (bodyOf ftab 118) 0) ((fun f => mkT 82 [(0, .list 6 xs), (1, .list 6 ys), (2, .fn f [] []), (7, .sl 0 0 6 k N)]) 128) ⟨1, [⟨0, 0, 77, cl⟩]⟩ [(19, .b true), (27, .b true), (45, .b false), (49, .b false), (63, .n (.fptr (aC x))), (66, .n (.list 6 xt))]) =
    some (.normal, (fun f => mkT 82 [(0, .list 6 xt), (1, .list 6 ys), (2, .fn f [] []), (7, .sl 0 0 6 k N)]) 128, ⟨1, [⟨0, 0, 77, cl⟩]⟩, [Plain ⟨2, [⟨0, 0, 77, aC x⟩, ⟨0, 0, 77, cl⟩]⟩, decide ((xs.length : Int) > 0) = true,
      ((ys.length : Int) == 0) = true,
      ((xs.length : Int) == 0) = false,
      decide ((ys.length : Int) > 0) = false,
      idxOk (0 : Int) xs.length = true,
      nth xs (0 : Int).toNat = some (aC x),
      sliceD tab ⟨2, [⟨0, 0, 77, [.int .u8 0, .int .u8 0, .int .u8 0, .int .u8 0, .int .u8 0, .int .u8 0]⟩, ⟨0, 0, 77, cl⟩]⟩ adT (.list 6 xs) (some (.int .i64 1)) none none = some (.list 6 xt)]) := by
  kernel_rfl

set_option maxRecDepth 1000000 in
theorem mgUT (xs ys yt : List (List DV)) (y : Nat) (k N : Nat) (cl cl' : List DV) (m : Mut) : zgc [0] (zsee Try.prog tab ftab cCo (ksF ftab 118) [0, 1, 2, 7] (loopAt (bodyOf ftab 118) 0) ((fun f => mkT 82 [(0, .list 6 xs), (1, .list 6 ys), (2, .fn f [] []), (7, .sl 0 0 6 k N)]) 127) ⟨1, [⟨0, 0, 77, cl⟩]⟩ [(19, .b false), (23, .b true), (27, .b false), (31, .b false), (45, .b true), (69, .n (.fptr (aC y))), (72, .n (.list 6 yt)), (80, .h (.sl 0 0 6 (k + 1) N) ⟨3, [⟨0, 0, 77, aC y⟩, ⟨0, 0, 77, aC y⟩, ⟨0, 0, 77, cl'⟩]⟩ m)]) =
    some (.normal, (fun f => mkT 82 [(0, .list 6 xs), (1, .list 6 yt), (2, .fn f [] []), (7, .sl 0 0 6 (k + 1) N)]) 127, ⟨1, [⟨0, 0, 77, cl'⟩]⟩, [Plain ⟨3, [⟨0, 0, 77, aC y⟩, ⟨0, 0, 77, aC y⟩, ⟨0, 0, 77, cl'⟩]⟩, decide ((xs.length : Int) > 0) = false,
      decide ((ys.length : Int) > 0) = true,
      ((ys.length : Int) == 0) = false,
      decide ((xs.length : Int) > 0) = false,
      ((xs.length : Int) == 0) = true,
      idxOk (0 : Int) ys.length = true,
      nth ys (0 : Int).toNat = some (aC y),
      sliceD tab ⟨2, [⟨0, 0, 77, [.int .u8 0, .int .u8 0, .int .u8 0, .int .u8 0, .int .u8 0, .int .u8 0]⟩, ⟨0, 0, 77, cl⟩]⟩ adT (.list 6 ys) (some (.int .i64 1)) none none = some (.list 6 yt),
      builtinD tab ⟨3, [⟨0, 0, 77, aC y⟩, ⟨0, 0, 77, aC y⟩, ⟨0, 0, 77, cl⟩]⟩ .append [.sl 0 0 6 k N, .sl 2 0 6 1 1] [82, 82] = some (.sl 0 0 6 (k + 1) N, ⟨3, [⟨0, 0, 77, aC y⟩, ⟨0, 0, 77, aC y⟩, ⟨0, 0, 77, cl'⟩]⟩, m)]) := by
  kernel_rfl

set_option maxRecDepth 1000000 in
theorem mgMT (xs ys yt : List (List DV)) (y : Nat) (k N : Nat) (cl : List DV) : zgc [0] (zsee Try.prog tab ftab cCo (ksF ftab 118) [0, 1, 2, 7] (loopAt (bodyOf ftab 118) 0) ((fun f => mkT 82 [(0, .list 6 xs), (1, .list 6 ys), (2, .fn f [] []), (7, .sl 0 0 6 k N)]) 128) ⟨1, [⟨0, 0, 77, cl⟩]⟩ [(19, .b false), (23, .b true), (27, .b false), (31, .b false), (45, .b true), (69, .n (.fptr (aC y))), (72, .n (.list 6 yt))]) =
    some (.normal, (fun f => mkT 82 [(0, .list 6 xs), (1, .list 6 yt), (2, .fn f [] []), (7, .sl 0 0 6 k N)]) 128, ⟨1, [⟨0, 0, 77, cl⟩]⟩, [Plain ⟨2, [⟨0, 0, 77, aC y⟩, ⟨0, 0, 77, cl⟩]⟩, decide ((xs.length : Int) > 0) = false,
      decide ((ys.length : Int) > 0) = true,
      ((ys.length : Int) == 0) = false,
      decide ((xs.length : Int) > 0) = false,
      ((xs.length : Int) == 0) = true,
      idxOk (0 : Int) ys.length = true,
      nth ys (0 : Int).toNat = some (aC y),
      sliceD tab ⟨2, [⟨0, 0, 77, [.int .u8 0, .int .u8 0, .int .u8 0, .int .u8 0, .int .u8 0, .int .u8 0]⟩, ⟨0, 0, 77, cl⟩]⟩ adT (.list 6 ys) (some (.int .i64 1)) none none = some (.list 6 yt)]) := by
  kernel_rfl

set_option maxRecDepth 1000000 in
theorem mgUL (xs xt ys : List (List DV)) (x y : Nat) (k N : Nat) (cl cl' : List DV) (m : Mut) : zgc [0] (zsee Try.prog tab ftab cCo (ksF ftab 118) [0, 1, 2, 7] (loopAt (bodyOf ftab 118) 0) ((fun f => mkT 82 [(0, .list 6 xs), (1, .list 6 ys), (2, .fn f [] []), (7, .sl 0 0 6 k N)]) 127) ⟨1, [⟨0, 0, 77, cl⟩]⟩ [(19, .b true), (27, .b false), (31, .b true), (34, .n (.fptr (aC x))), (37, .n (.fptr (aC y))), (39, .q (.int .i64 (-1))), (45, .b false), (49, .b true), (52, .n (.fptr (aC y))), (55, .n (.fptr (aC x))), (57, .q (.int .i64 (1))), (63, .n (.fptr (aC x))), (66, .n (.list 6 xt)), (80, .h (.sl 0 0 6 (k + 1) N) ⟨3, [⟨0, 0, 77, aC x⟩, ⟨0, 0, 77, aC x⟩, ⟨0, 0, 77, cl'⟩]⟩ m)]) =
    some (.normal, (fun f => mkT 82 [(0, .list 6 xt), (1, .list 6 ys), (2, .fn f [] []), (7, .sl 0 0 6 (k + 1) N)]) 127, ⟨1, [⟨0, 0, 77, cl'⟩]⟩, [Plain ⟨3, [⟨0, 0, 77, aC x⟩, ⟨0, 0, 77, aC x⟩, ⟨0, 0, 77, cl'⟩]⟩, decide ((xs.length : Int) > 0) = true,
      ((ys.length : Int) == 0) = false,
      decide ((xs.length : Int) > 0) = true,
      idxOk (0 : Int) xs.length = true,
      nth xs (0 : Int).toNat = some (aC x),
      idxOk (0 : Int) ys.length = true,
      nth ys (0 : Int).toNat = some (aC y),
      cCo 60 [aD x, aD y] ⟨1, [⟨0, 0, 77, cl⟩]⟩ = some (.int .i64 (-1), ⟨1, [⟨0, 0, 77, cl⟩]⟩, none),
      ((xs.length : Int) == 0) = false,
      decide ((ys.length : Int) > 0) = true,
      idxOk (0 : Int) ys.length = true,
      nth ys (0 : Int).toNat = some (aC y),
      idxOk (0 : Int) xs.length = true,
      nth xs (0 : Int).toNat = some (aC x),
      cCo 60 [aD y, aD x] ⟨1, [⟨0, 0, 77, cl⟩]⟩ = some (.int .i64 (1), ⟨1, [⟨0, 0, 77, cl⟩]⟩, none),
      idxOk (0 : Int) xs.length = true,
      nth xs (0 : Int).toNat = some (aC x),
      sliceD tab ⟨2, [⟨0, 0, 77, [.int .u8 0, .int .u8 0, .int .u8 0, .int .u8 0, .int .u8 0, .int .u8 0]⟩, ⟨0, 0, 77, cl⟩]⟩ adT (.list 6 xs) (some (.int .i64 1)) none none = some (.list 6 xt),
      builtinD tab ⟨3, [⟨0, 0, 77, aC x⟩, ⟨0, 0, 77, aC x⟩, ⟨0, 0, 77, cl⟩]⟩ .append [.sl 0 0 6 k N, .sl 2 0 6 1 1] [82, 82] = some (.sl 0 0 6 (k + 1) N, ⟨3, [⟨0, 0, 77, aC x⟩, ⟨0, 0, 77, aC x⟩, ⟨0, 0, 77, cl'⟩]⟩, m)]) := by
  kernel_rfl

set_option maxRecDepth 1000000 in
theorem mgML (xs xt ys : List (List DV)) (x y : Nat) (k N : Nat) (cl : List DV) : zgc [0] (zsee Try.prog tab ftab cCo (ksF ftab 118) [0, 1, 2, 7] (loopAt (bodyOf ftab 118) 0) ((fun f => mkT 82 [(0, .list 6 xs), (1, .list 6 ys), (2, .fn f [] []), (7, .sl 0 0 6 k N)]) 128) ⟨1, [⟨0, 0, 77, cl⟩]⟩ [(19, .b true), (27, .b false), (31, .b true), (34, .n (.fptr (aC x))), (37, .n (.fptr (aC y))), (39, .q (.int .i64 (-1))), (45, .b false), (49, .b true), (52, .n (.fptr (aC y))), (55, .n (.fptr (aC x))), (57, .q (.int .i64 (1))), (63, .n (.fptr (aC x))), (66, .n (.list 6 xt))]) =
    some (.normal, (fun f => mkT 82 [(0, .list 6 xt), (1, .list 6 ys), (2, .fn f [] []), (7, .sl 0 0 6 k N)]) 128, ⟨1, [⟨0, 0, 77, cl⟩]⟩, [Plain ⟨2, [⟨0, 0, 77, aC x⟩, ⟨0, 0, 77, cl⟩]⟩, decide ((xs.length : Int) > 0) = true,
      ((ys.length : Int) == 0) = false,
      decide ((xs.length : Int) > 0) = true,
      idxOk (0 : Int) xs.length = true,
      nth xs (0 : Int).toNat = some (aC x),
      idxOk (0 : Int) ys.length = true,
      nth ys (0 : Int).toNat = some (aC y),
      cCo 60 [aD x, aD y] ⟨1, [⟨0, 0, 77, cl⟩]⟩ = some (.int .i64 (-1), ⟨1, [⟨0, 0, 77, cl⟩]⟩, none),
      ((xs.length : Int) == 0) = false,
      decide ((ys.length : Int) > 0) = true,
      idxOk (0 : Int) ys.length = true,
      nth ys (0 : Int).toNat = some (aC y),
      idxOk (0 : Int) xs.length = true,
      nth xs (0 : Int).toNat = some (aC x),
      cCo 60 [aD y, aD x] ⟨1, [⟨0, 0, 77, cl⟩]⟩ = some (.int .i64 (1), ⟨1, [⟨0, 0, 77, cl⟩]⟩, none),
      idxOk (0 : Int) xs.length = true,
      nth xs (0 : Int).toNat = some (aC x),
      sliceD tab ⟨2, [⟨0, 0, 77, [.int .u8 0, .int .u8 0, .int .u8 0, .int .u8 0, .int .u8 0, .int .u8 0]⟩, ⟨0, 0, 77, cl⟩]⟩ adT (.list 6 xs) (some (.int .i64 1)) none none = some (.list 6 xt)]) := by
  kernel_rfl

set_option maxRecDepth 1000000 in
theorem mgUE (xs xt ys yt : List (List DV)) (x y : Nat) (k N : Nat) (cl cl' : List DV) (m : Mut) : zgc [0] (zsee Try.prog tab ftab cCo (ksF ftab 118) [0, 1, 2, 7] (loopAt (bodyOf ftab 118) 0) ((fun f => mkT 82 [(0, .list 6 xs), (1, .list 6 ys), (2, .fn f [] []), (7, .sl 0 0 6 k N)]) 127) ⟨1, [⟨0, 0, 77, cl⟩]⟩ [(19, .b true), (27, .b false), (31, .b true), (34, .n (.fptr (aC x))), (37, .n (.fptr (aC y))), (39, .q (.int .i64 (0))), (45, .b false), (49, .b true), (52, .n (.fptr (aC y))), (55, .n (.fptr (aC x))), (57, .q (.int .i64 (0))), (63, .n (.fptr (aC x))), (66, .n (.list 6 xt)), (69, .n (.fptr (aC y))), (72, .n (.list 6 yt)), (80, .h (.sl 0 0 6 (k + 1) N) ⟨3, [⟨0, 0, 77, aC y⟩, ⟨0, 0, 77, aC y⟩, ⟨0, 0, 77, cl'⟩]⟩ m)]) =
    some (.normal, (fun f => mkT 82 [(0, .list 6 xt), (1, .list 6 yt), (2, .fn f [] []), (7, .sl 0 0 6 (k + 1) N)]) 127, ⟨1, [⟨0, 0, 77, cl'⟩]⟩, [Plain ⟨3, [⟨0, 0, 77, aC y⟩, ⟨0, 0, 77, aC y⟩, ⟨0, 0, 77, cl'⟩]⟩, decide ((xs.length : Int) > 0) = true,
      ((ys.length : Int) == 0) = false,
      decide ((xs.length : Int) > 0) = true,
      idxOk (0 : Int) xs.length = true,
      nth xs (0 : Int).toNat = some (aC x),
      idxOk (0 : Int) ys.length = true,
      nth ys (0 : Int).toNat = some (aC y),
      cCo 60 [aD x, aD y] ⟨1, [⟨0, 0, 77, cl⟩]⟩ = some (.int .i64 (0), ⟨1, [⟨0, 0, 77, cl⟩]⟩, none),
      ((xs.length : Int) == 0) = false,
      decide ((ys.length : Int) > 0) = true,
      idxOk (0 : Int) ys.length = true,
      nth ys (0 : Int).toNat = some (aC y),
      idxOk (0 : Int) xs.length = true,
      nth xs (0 : Int).toNat = some (aC x),
      cCo 60 [aD y, aD x] ⟨1, [⟨0, 0, 77, cl⟩]⟩ = some (.int .i64 (0), ⟨1, [⟨0, 0, 77, cl⟩]⟩, none),
      idxOk (0 : Int) xs.length = true,
      nth xs (0 : Int).toNat = some (aC x),
      sliceD tab ⟨2, [⟨0, 0, 77, [.int .u8 0, .int .u8 0, .int .u8 0, .int .u8 0, .int .u8 0, .int .u8 0]⟩, ⟨0, 0, 77, cl⟩]⟩ adT (.list 6 xs) (some (.int .i64 1)) none none = some (.list 6 xt),
      idxOk (0 : Int) ys.length = true,
      nth ys (0 : Int).toNat = some (aC y),
      sliceD tab ⟨2, [⟨0, 0, 77, aC x⟩, ⟨0, 0, 77, cl⟩]⟩ adT (.list 6 ys) (some (.int .i64 1)) none none = some (.list 6 yt),
      builtinD tab ⟨3, [⟨0, 0, 77, aC y⟩, ⟨0, 0, 77, aC y⟩, ⟨0, 0, 77, cl⟩]⟩ .append [.sl 0 0 6 k N, .sl 2 0 6 1 1] [82, 82] = some (.sl 0 0 6 (k + 1) N, ⟨3, [⟨0, 0, 77, aC y⟩, ⟨0, 0, 77, aC y⟩, ⟨0, 0, 77, cl'⟩]⟩, m)]) := by
  kernel_rfl

set_option maxRecDepth 1000000 in
theorem mgME (xs xt ys yt : List (List DV)) (x y : Nat) (k N : Nat) (cl cl' : List DV) (m : Mut) : zgc [0] (zsee Try.prog tab ftab cCo (ksF ftab 118) [0, 1, 2, 7] (loopAt (bodyOf ftab 118) 0) ((fun f => mkT 82 [(0, .list 6 xs), (1, .list 6 ys), (2, .fn f [] []), (7, .sl 0 0 6 k N)]) 128) ⟨1, [⟨0, 0, 77, cl⟩]⟩ [(19, .b true), (27, .b false), (31, .b true), (34, .n (.fptr (aC x))), (37, .n (.fptr (aC y))), (39, .q (.int .i64 (0))), (45, .b false), (49, .b true), (52, .n (.fptr (aC y))), (55, .n (.fptr (aC x))), (57, .q (.int .i64 (0))), (63, .n (.fptr (aC x))), (66, .n (.list 6 xt)), (69, .n (.fptr (aC y))), (72, .n (.list 6 yt)), (80, .h (.sl 0 0 6 (k + 1) N) ⟨3, [⟨0, 0, 77, aC y⟩, ⟨0, 0, 77, aC y⟩, ⟨0, 0, 77, cl'⟩]⟩ m)]) =
    some (.normal, (fun f => mkT 82 [(0, .list 6 xt), (1, .list 6 yt), (2, .fn f [] []), (7, .sl 0 0 6 (k + 1) N)]) 128, ⟨1, [⟨0, 0, 77, cl'⟩]⟩, [Plain ⟨3, [⟨0, 0, 77, aC y⟩, ⟨0, 0, 77, aC y⟩, ⟨0, 0, 77, cl'⟩]⟩, decide ((xs.length : Int) > 0) = true,
      ((ys.length : Int) == 0) = false,
      decide ((xs.length : Int) > 0) = true,
      idxOk (0 : Int) xs.length = true,
      nth xs (0 : Int).toNat = some (aC x),
      idxOk (0 : Int) ys.length = true,
      nth ys (0 : Int).toNat = some (aC y),
      cCo 60 [aD x, aD y] ⟨1, [⟨0, 0, 77, cl⟩]⟩ = some (.int .i64 (0), ⟨1, [⟨0, 0, 77, cl⟩]⟩, none),
      ((xs.length : Int) == 0) = false,
      decide ((ys.length : Int) > 0) = true,
      idxOk (0 : Int) ys.length = true,
      nth ys (0 : Int).toNat = some (aC y),
      idxOk (0 : Int) xs.length = true,
      nth xs (0 : Int).toNat = some (aC x),
      cCo 60 [aD y, aD x] ⟨1, [⟨0, 0, 77, cl⟩]⟩ = some (.int .i64 (0), ⟨1, [⟨0, 0, 77, cl⟩]⟩, none),
      idxOk (0 : Int) xs.length = true,
      nth xs (0 : Int).toNat = some (aC x),
      sliceD tab ⟨2, [⟨0, 0, 77, [.int .u8 0, .int .u8 0, .int .u8 0, .int .u8 0, .int .u8 0, .int .u8 0]⟩, ⟨0, 0, 77, cl⟩]⟩ adT (.list 6 xs) (some (.int .i64 1)) none none = some (.list 6 xt),
      idxOk (0 : Int) ys.length = true,
      nth ys (0 : Int).toNat = some (aC y),
      sliceD tab ⟨2, [⟨0, 0, 77, aC x⟩, ⟨0, 0, 77, cl⟩]⟩ adT (.list 6 ys) (some (.int .i64 1)) none none = some (.list 6 yt),
      builtinD tab ⟨3, [⟨0, 0, 77, aC y⟩, ⟨0, 0, 77, aC y⟩, ⟨0, 0, 77, cl⟩]⟩ .append [.sl 0 0 6 k N, .sl 2 0 6 1 1] [82, 82] = some (.sl 0 0 6 (k + 1) N, ⟨3, [⟨0, 0, 77, aC y⟩, ⟨0, 0, 77, aC y⟩, ⟨0, 0, 77, cl'⟩]⟩, m)]) := by
  kernel_rfl

set_option maxRecDepth 1000000 in
theorem mgUG (xs ys yt : List (List DV)) (x y : Nat) (k N : Nat) (cl cl' : List DV) (m : Mut) : zgc [0] (zsee Try.prog tab ftab cCo (ksF ftab 118) [0, 1, 2, 7] (loopAt (bodyOf ftab 118) 0) ((fun f => mkT 82 [(0, .list 6 xs), (1, .list 6 ys), (2, .fn f [] []), (7, .sl 0 0 6 k N)]) 127) ⟨1, [⟨0, 0, 77, cl⟩]⟩ [(19, .b true), (27, .b false), (31, .b true), (34, .n (.fptr (aC x))), (37, .n (.fptr (aC y))), (39, .q (.int .i64 (1))), (45, .b false), (49, .b true), (52, .n (.fptr (aC y))), (55, .n (.fptr (aC x))), (57, .q (.int .i64 (-1))), (69, .n (.fptr (aC y))), (72, .n (.list 6 yt)), (80, .h (.sl 0 0 6 (k + 1) N) ⟨3, [⟨0, 0, 77, aC y⟩, ⟨0, 0, 77, aC y⟩, ⟨0, 0, 77, cl'⟩]⟩ m)]) =
    some (.normal, (fun f => mkT 82 [(0, .list 6 xs), (1, .list 6 yt), (2, .fn f [] []), (7, .sl 0 0 6 (k + 1) N)]) 127, ⟨1, [⟨0, 0, 77, cl'⟩]⟩, [Plain ⟨3, [⟨0, 0, 77, aC y⟩, ⟨0, 0, 77, aC y⟩, ⟨0, 0, 77, cl'⟩]⟩, decide ((xs.length : Int) > 0) = true,
      ((ys.length : Int) == 0) = false,
      decide ((xs.length : Int) > 0) = true,
      idxOk (0 : Int) xs.length = true,
      nth xs (0 : Int).toNat = some (aC x),
      idxOk (0 : Int) ys.length = true,
      nth ys (0 : Int).toNat = some (aC y),
      cCo 60 [aD x, aD y] ⟨1, [⟨0, 0, 77, cl⟩]⟩ = some (.int .i64 (1), ⟨1, [⟨0, 0, 77, cl⟩]⟩, none),
      ((xs.length : Int) == 0) = false,
      decide ((ys.length : Int) > 0) = true,
      idxOk (0 : Int) ys.length = true,
      nth ys (0 : Int).toNat = some (aC y),
      idxOk (0 : Int) xs.length = true,
      nth xs (0 : Int).toNat = some (aC x),
      cCo 60 [aD y, aD x] ⟨1, [⟨0, 0, 77, cl⟩]⟩ = some (.int .i64 (-1), ⟨1, [⟨0, 0, 77, cl⟩]⟩, none),
      idxOk (0 : Int) ys.length = true,
      nth ys (0 : Int).toNat = some (aC y),
      sliceD tab ⟨2, [⟨0, 0, 77, [.int .u8 0, .int .u8 0, .int .u8 0, .int .u8 0, .int .u8 0, .int .u8 0]⟩, ⟨0, 0, 77, cl⟩]⟩ adT (.list 6 ys) (some (.int .i64 1)) none none = some (.list 6 yt),
      builtinD tab ⟨3, [⟨0, 0, 77, aC y⟩, ⟨0, 0, 77, aC y⟩, ⟨0, 0, 77, cl⟩]⟩ .append [.sl 0 0 6 k N, .sl 2 0 6 1 1] [82, 82] = some (.sl 0 0 6 (k + 1) N, ⟨3, [⟨0, 0, 77, aC y⟩, ⟨0, 0, 77, aC y⟩, ⟨0, 0, 77, cl'⟩]⟩, m)]) := by
  kernel_rfl

set_option maxRecDepth 1000000 in
theorem mgMG (xs ys yt : List (List DV)) (x y : Nat) (k N : Nat) (cl : List DV) : zgc [0] (zsee Try.prog tab ftab cCo (ksF ftab 118) [0, 1, 2, 7] (loopAt (bodyOf ftab 118) 0) ((fun f => mkT 82 [(0, .list 6 xs), (1, .list 6 ys), (2, .fn f [] []), (7, .sl 0 0 6 k N)]) 128) ⟨1, [⟨0, 0, 77, cl⟩]⟩ [(19, .b true), (27, .b false), (31, .b true), (34, .n (.fptr (aC x))), (37, .n (.fptr (aC y))), (39, .q (.int .i64 (1))), (45, .b false), (49, .b true), (52, .n (.fptr (aC y))), (55, .n (.fptr (aC x))), (57, .q (.int .i64 (-1))), (69, .n (.fptr (aC y))), (72, .n (.list 6 yt))]) =
    some (.normal, (fun f => mkT 82 [(0, .list 6 xs), (1, .list 6 yt), (2, .fn f [] []), (7, .sl 0 0 6 k N)]) 128, ⟨1, [⟨0, 0, 77, cl⟩]⟩, [Plain ⟨2, [⟨0, 0, 77, aC y⟩, ⟨0, 0, 77, cl⟩]⟩, decide ((xs.length : Int) > 0) = true,
      ((ys.length : Int) == 0) = false,
      decide ((xs.length : Int) > 0) = true,
      idxOk (0 : Int) xs.length = true,
      nth xs (0 : Int).toNat = some (aC x),
      idxOk (0 : Int) ys.length = true,
      nth ys (0 : Int).toNat = some (aC y),
      cCo 60 [aD x, aD y] ⟨1, [⟨0, 0, 77, cl⟩]⟩ = some (.int .i64 (1), ⟨1, [⟨0, 0, 77, cl⟩]⟩, none),
      ((xs.length : Int) == 0) = false,
      decide ((ys.length : Int) > 0) = true,
      idxOk (0 : Int) ys.length = true,
      nth ys (0 : Int).toNat = some (aC y),
      idxOk (0 : Int) xs.length = true,
      nth xs (0 : Int).toNat = some (aC x),
      cCo 60 [aD y, aD x] ⟨1, [⟨0, 0, 77, cl⟩]⟩ = some (.int .i64 (-1), ⟨1, [⟨0, 0, 77, cl⟩]⟩, none),
      idxOk (0 : Int) ys.length = true,
      nth ys (0 : Int).toNat = some (aC y),
      sliceD tab ⟨2, [⟨0, 0, 77, [.int .u8 0, .int .u8 0, .int .u8 0, .int .u8 0, .int .u8 0, .int .u8 0]⟩, ⟨0, 0, 77, cl⟩]⟩ adT (.list 6 ys) (some (.int .i64 1)) none none = some (.list 6 yt)]) := by
  kernel_rfl

set_option maxRecDepth 1000000 in
theorem mgUOut (xs ys : List (List DV)) (k N : Nat) (cl : List DV) : zsee Try.prog tab ftab cCo (ksF ftab 118) [7] (loopAt (bodyOf ftab 118) 0) ((fun f => mkT 82 [(0, .list 6 xs), (1, .list 6 ys), (2, .fn f [] []), (7, .sl 0 0 6 k N)]) 127) ⟨1, [⟨0, 0, 77, cl⟩]⟩ [(19, .b false), (23, .b false)] = some (.exit 0, mkT 82 [(7, .sl 0 0 6 k N)], ⟨1, [⟨0, 0, 77, cl⟩]⟩, [decide ((xs.length : Int) > 0) = false, decide ((ys.length : Int) > 0) = false]) := by
  kernel_rfl
set_option maxRecDepth 1000000 in
theorem mgURun (xs ys : List (List DV)) (k N : Nat) (cl c0 : List DV) : zans Try.prog tab ftab cCo 118 [.list 6 xs, .list 6 ys, .fn 127 [] []] [(15, .w (iN N)), (16, .h (.sl 0 0 6 0 N) ⟨1, [⟨0, 0, 77, c0⟩]⟩ none), (0, .l [0, 1, 2, 7] (.exit 0) (mkT 82 [(7, .sl 0 0 6 k N)]) ⟨1, [⟨0, 0, 77, cl⟩]⟩)] =
    some (.sl 0 0 6 k N, ⟨1, [⟨0, 0, 77, cl⟩]⟩, [DV.int .i64 (IntKind.i64.wrap ((xs.length : Int) + (ys.length : Int))) = iN N, (decide ((0 : Int) ≤ 0) && decide ((0 : Int) ≤ (N : Int)) && fitB ((N : Int).toNat) 6) = true,
      (DV.sl 0 0 6 ((0 : Int).toNat) ((N : Int).toNat), pushH ⟨0, []⟩ 0 77 (nlist ((N : Int).toNat) [.int .u8 0, .int .u8 0, .int .u8 0, .int .u8 0, .int .u8 0, .int .u8 0]), (none : Mut)) = (.sl 0 0 6 0 N, ⟨1, [⟨0, 0, 77, c0⟩]⟩, none),
      Goes Try.prog tab (ksF ftab 118) (.loop (loopAt (bodyOf ftab 118) 0)) ((fun f => mkT 82 [(0, .list 6 xs), (1, .list 6 ys), (2, .fn f [] []), (7, .sl 0 0 6 0 N)]) 127) ⟨1, [⟨0, 0, 77, c0⟩]⟩ (.exit 0) (mkT 82 [(7, .sl 0 0 6 k N)]) ⟨1, [⟨0, 0, 77, cl⟩]⟩]) := by
  kernel_rfl

set_option maxRecDepth 1000000 in
theorem mgMOut (xs ys : List (List DV)) (k N : Nat) (cl : List DV) : zsee Try.prog tab ftab cCo (ksF ftab 118) [7] (loopAt (bodyOf ftab 118) 0) ((fun f => mkT 82 [(0, .list 6 xs), (1, .list 6 ys), (2, .fn f [] []), (7, .sl 0 0 6 k N)]) 128) ⟨1, [⟨0, 0, 77, cl⟩]⟩ [(19, .b false), (23, .b false)] = some (.exit 0, mkT 82 [(7, .sl 0 0 6 k N)], ⟨1, [⟨0, 0, 77, cl⟩]⟩, [decide ((xs.length : Int) > 0) = false, decide ((ys.length : Int) > 0) = false]) := by
  kernel_rfl
set_option maxRecDepth 1000000 in
theorem mgMRun (xs ys : List (List DV)) (k N : Nat) (cl c0 : List DV) : zans Try.prog tab ftab cCo 118 [.list 6 xs, .list 6 ys, .fn 128 [] []] [(15, .w (iN N)), (16, .h (.sl 0 0 6 0 N) ⟨1, [⟨0, 0, 77, c0⟩]⟩ none), (0, .l [0, 1, 2, 7] (.exit 0) (mkT 82 [(7, .sl 0 0 6 k N)]) ⟨1, [⟨0, 0, 77, cl⟩]⟩)] =
    some (.sl 0 0 6 k N, ⟨1, [⟨0, 0, 77, cl⟩]⟩, [DV.int .i64 (IntKind.i64.wrap ((xs.length : Int) + (ys.length : Int))) = iN N, (decide ((0 : Int) ≤ 0) && decide ((0 : Int) ≤ (N : Int)) && fitB ((N : Int).toNat) 6) = true,
      (DV.sl 0 0 6 ((0 : Int).toNat) ((N : Int).toNat), pushH ⟨0, []⟩ 0 77 (nlist ((N : Int).toNat) [.int .u8 0, .int .u8 0, .int .u8 0, .int .u8 0, .int .u8 0, .int .u8 0]), (none : Mut)) = (.sl 0 0 6 0 N, ⟨1, [⟨0, 0, 77, c0⟩]⟩, none),
      Goes Try.prog tab (ksF ftab 118) (.loop (loopAt (bodyOf ftab 118) 0)) ((fun f => mkT 82 [(0, .list 6 xs), (1, .list 6 ys), (2, .fn f [] []), (7, .sl 0 0 6 0 N)]) 128) ⟨1, [⟨0, 0, 77, c0⟩]⟩ (.exit 0) (mkT 82 [(7, .sl 0 0 6 k N)]) ⟨1, [⟨0, 0, 77, cl⟩]⟩]) := by
  kernel_rfl

end
end Go.Proofs.Ytnhbhdfeenpedaa
