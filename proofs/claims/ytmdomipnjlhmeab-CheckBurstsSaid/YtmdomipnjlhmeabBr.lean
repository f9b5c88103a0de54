/- A burst, as a contract. -/
import Derived.Test.YtmdomipnjlhmeabBu
namespace Go.Proofs.Ytmdomipnjlhmeab
open Go.RowKit

noncomputable section

set_option maxRecDepth 1000000 in
theorem burstA (a n k q : Nat) (p : BitVec 32) (fl : Bool) (d : DV) (h : Hp) : zsee Try.prog tab ftab cFl (ksF ftab 45) [0, 1, 2, 3, 10, 11] (loopAt (bodyOf ftab 45) 0) (mkT 39 [(0, d), (1, iN a), (2, iN n), (3, w32 p), (10, .bool fl), (11, iN k)]) h [(14, .b true), (19, .w (.int .u64 (k : Int))), (20, .n (.int .u32 (q : Int))), (22, .b false), (11, .w (iN (k + 1)))] =
    some (.normal, mkT 39 [(0, d), (1, iN a), (2, iN n), (3, w32 p), (10, .bool fl), (11, iN (k + 1))], h, [decide ((k : Int) < (n : Int)) = true,
      DV.int .u64 (IntKind.u64.wrap (k : Int)) = .int .u64 (k : Int),
      binD tab .shr 48 (w32 p) (.int .u64 (k : Int)) = some (.int .u32 (q : Int)),
      (Int.tmod (q : Int) 2 == 1) = false,
      DV.int .i64 (IntKind.i64.wrap ((k : Int) + 1)) = iN (k + 1)]) := by
  kernel_rfl

set_option maxRecDepth 1000000 in
theorem burstB (a n k q s m m8 : Nat) (p : BitVec 32) (fl : Bool) (d : DV) (h : Hp) : zsee Try.prog tab ftab cFl (ksF ftab 45) [0, 1, 2, 3, 10, 11] (loopAt (bodyOf ftab 45) 0) (mkT 39 [(0, d), (1, iN a), (2, iN n), (3, w32 p), (10, .bool fl), (11, iN k)]) h [(14, .b true), (19, .w (.int .u64 (k : Int))), (20, .n (.int .u32 (q : Int))), (22, .b true), (26, .w (iN s)), (28, .h (iN m) h none), (29, .w (iN m8)), (30, .b false), (11, .w (iN (k + 1)))] =
    some (.normal, mkT 39 [(0, d), (1, iN a), (2, iN n), (3, w32 p), (10, .bool fl), (11, iN (k + 1))], h, [decide ((k : Int) < (n : Int)) = true,
      DV.int .u64 (IntKind.u64.wrap (k : Int)) = .int .u64 (k : Int),
      binD tab .shr 48 (w32 p) (.int .u64 (k : Int)) = some (.int .u32 (q : Int)),
      (Int.tmod (q : Int) 2 == 1) = true,
      DV.int .i64 (IntKind.i64.wrap ((a : Int) + (k : Int))) = iN s,
      builtinD tab h .len [d] [45] = some (iN m, h, none),
      DV.int .i64 (IntKind.i64.wrap (8 * (m : Int))) = iN m8,
      decide ((s : Int) < (m8 : Int)) = false,
      DV.int .i64 (IntKind.i64.wrap ((k : Int) + 1)) = iN (k + 1)]) := by
  kernel_rfl

set_option maxRecDepth 1000000 in
theorem burstC (a n k q s m m8 : Nat) (p : BitVec 32) (fl : Bool) (d d' : DV) (h h' : Hp) : zsee Try.prog tab ftab cFl (ksF ftab 45) [0, 1, 2, 3, 10, 11] (loopAt (bodyOf ftab 45) 0) (mkT 39 [(0, d), (1, iN a), (2, iN n), (3, w32 p), (10, .bool fl), (11, iN k)]) h [(14, .b true), (19, .w (.int .u64 (k : Int))), (20, .n (.int .u32 (q : Int))), (22, .b true), (26, .w (iN s)), (28, .h (iN m) h none), (29, .w (iN m8)), (30, .b true), (35, .w (iN s)), (36, .r d' h'), (11, .w (iN (k + 1)))] =
    some (.normal, mkT 39 [(0, d'), (1, iN a), (2, iN n), (3, w32 p), (10, .bool true), (11, iN (k + 1))], h', [decide ((k : Int) < (n : Int)) = true,
      DV.int .u64 (IntKind.u64.wrap (k : Int)) = .int .u64 (k : Int),
      binD tab .shr 48 (w32 p) (.int .u64 (k : Int)) = some (.int .u32 (q : Int)),
      (Int.tmod (q : Int) 2 == 1) = true,
      DV.int .i64 (IntKind.i64.wrap ((a : Int) + (k : Int))) = iN s,
      builtinD tab h .len [d] [45] = some (iN m, h, none),
      DV.int .i64 (IntKind.i64.wrap (8 * (m : Int))) = iN m8,
      decide ((s : Int) < (m8 : Int)) = true,
      DV.int .i64 (IntKind.i64.wrap ((a : Int) + (k : Int))) = iN s,
      cFl 46 [d, iN s] h = some (d', h', none),
      DV.int .i64 (IntKind.i64.wrap ((k : Int) + 1)) = iN (k + 1)]) := by
  kernel_rfl

set_option maxRecDepth 1000000 in
theorem burstOut (a n k : Nat) (p : BitVec 32) (fl : Bool) (d : DV) (h : Hp) : zsee Try.prog tab ftab cFl (ksF ftab 45) [0, 10] (loopAt (bodyOf ftab 45) 0) (mkT 39 [(0, d), (1, iN a), (2, iN n), (3, w32 p), (10, .bool fl), (11, iN k)]) h [(14, .b false)] = some (.exit 0, mkT 39 [(0, d), (10, .bool fl)], h, [decide ((k : Int) < (n : Int)) = false]) := by
  kernel_rfl
set_option maxRecDepth 1000000 in
theorem burstRun (xs : List (List DV)) (a n : Nat) (p : BitVec 32) (fl : Bool) (d : DV) (h : Hp) : zans Try.prog tab ftab cFl 45 [.list 1 xs, iN a, iN n, w32 p] [(0, .l [0, 1, 2, 3, 10, 11] (.exit 0) (mkT 39 [(0, d), (10, .bool fl)]) h)] =
    some (.tuple [d, .bool fl], h, [Goes Try.prog tab (ksF ftab 45) (.loop (loopAt (bodyOf ftab 45) 0)) (mkT 39 [(0, (.list 1 xs)), (1, iN a), (2, iN n), (3, w32 p), (10, .bool false), (11, iN 0)]) ⟨0, []⟩ (.exit 0) (mkT 39 [(0, d), (10, .bool fl)]) h]) := by
  kernel_rfl

/-- the changed bits of L, k of the pattern's having been looked at -/
def eK (a : Nat) (p : BitVec 32) (L k : Nat) : List Bool := (List.range L).map fun j => decide (a ≤ j) && (decide (j < a + k) && p.getLsbD (j - a))
theorem eK_length (a : Nat) (p : BitVec 32) (L k : Nat) : (eK a p L k).length = L := by simp [eK]
theorem eK_zero (a : Nat) (p : BitVec 32) (L : Nat) : eK a p L 0 = List.replicate L false := by
  refine List.ext_getElem (by simp [eK]) fun j h1 h2 => ?_
  simp [eK]
  omega
theorem eK_no {a : Nat} {p : BitVec 32} {L k : Nat} (h : p.getLsbD k = true → ¬ a + k < L) : eK a p L (k + 1) = eK a p L k := by
  refine List.ext_getElem (by simp [eK]) fun j h1 h2 => ?_
  simp only [eK, List.getElem_map, List.getElem_range]
  have hj : j < L := by simpa [eK] using h1
  by_cases e : j = a + k
  · subst e
    have hp : p.getLsbD (a + k - a) = false := by
      rw [Nat.add_sub_cancel_left]
      cases hb : p.getLsbD k with
      | false => rfl
      | true => exact absurd hj (h hb)
    simp only [hp, Bool.and_false]
  · have : decide (j < a + (k + 1)) = decide (j < a + k) := by
      rw [decide_eq_decide]
      omega
    rw [this]
theorem eK_yes {a : Nat} {p : BitVec 32} {L k : Nat} (hp : p.getLsbD k = true) (hl : a + k < L) : eK a p L (k + 1) = tog (eK a p L k) (a + k) := by
  refine List.ext_getElem (by simp [eK, tog]) fun j h1 h2 => ?_
  have hj : j < L := by simpa [eK] using h1
  have hd : (eK a p L k).getD (a + k) false = false := by
    rw [List.getD_eq_getElem?_getD, List.getElem?_eq_getElem (by rw [eK_length]; exact hl)]
    simp [eK]
  rw [tog] at h2
  simp only [tog, List.getElem_set, hd]
  by_cases e : j = a + k
  · subst e
    simp [eK, hp]
  · rw [if_neg fun h => e h.symm]
    simp only [eK, List.getElem_map, List.getElem_range]
    have : decide (j < a + (k + 1)) = decide (j < a + k) := by
      rw [decide_eq_decide]
      omega
    rw [this]
theorem eK_split {a : Nat} {p : BitVec 32} {L n : Nat} (ha : a ≤ L) : eK a p L n = List.replicate a false ++ ((List.range (min n (L - a))).map (fun i => p.getLsbD i) ++ List.replicate (L - a - min n (L - a)) false) := by
  refine List.ext_getElem (by simp [eK]; omega) fun j h1 h2 => ?_
  have hj : j < L := by simpa [eK] using h1
  simp only [eK, List.getElem_map, List.getElem_range, List.getElem_append, List.length_replicate, List.length_map, List.length_range, List.getElem_replicate]
  by_cases c1 : j < a
  · rw [dif_pos c1]
    have : decide (a ≤ j) = false := decide_eq_false (by omega)
    rw [this, Bool.false_and]
  · rw [dif_neg c1]
    have d1 : decide (a ≤ j) = true := decide_eq_true (by omega)
    by_cases c2 : j - a < min n (L - a)
    · rw [dif_pos c2]
      have d2 : decide (j < a + n) = true := decide_eq_true (by omega)
      rw [d1, d2, Bool.true_and, Bool.true_and]
    · rw [dif_neg c2]
      have d2 : decide (j < a + n) = false := decide_eq_false (by omega)
      rw [d1, d2, Bool.true_and, Bool.false_and]
theorem tog_any {l : List Bool} {i : Nat} (h : i < l.length) (hd : l.getD i false = false) : (tog l i).any id = true := by
  rw [List.any_eq_true]
  refine ⟨true, ?_, rfl⟩
  rw [tog, hd]
  exact List.mem_iff_getElem.2 ⟨i, by simpa using h, by simp⟩
/-- what is known of a burst's answer -/
structure BurstOk (y : List UInt8) (a n : Nat) (p : BitVec 32) (d : DV) (h : Hp) (x : List UInt8) (fl : Bool) : Prop where
  ans : Ans Try.prog 45 [byL y, iN a, iN n, w32 p] (.tuple [d, .bool fl]) h
  sh : Sh h d x
  len : x.length = y.length
  bits : bitsB x = xr (bitsB y) (eK a p (8 * y.length) n)
  any : fl = (eK a p (8 * y.length) n).any id
  none : fl = false → x = y
theorem burst_ok {y : List UInt8} (hy : y.length < 2 ^ 30) {a n : Nat} (ha : a < 8 * y.length) (hn : n ≤ 32) (p : BitVec 32) : ∃ d h x fl, BurstOk y a n p d h x fl := by
  have hL : (bitsB y).length = 8 * y.length := bitsB_length y
  have loop := Goes.loopI (P := Try.prog) (T := tab) (ks := (ksF ftab 45)) (x := loopAt (bodyOf ftab 45) 0) (e := .exit 0) n
    (fun k sl h => ∃ d x fl, sl = mkT 39 [(0, d), (1, iN a), (2, iN n), (3, w32 p), (10, .bool fl), (11, iN k)] ∧ Sh h d x ∧ x.length = y.length ∧ bitsB x = xr (bitsB y) (eK a p (8 * y.length) k) ∧ fl = (eK a p (8 * y.length) k).any id ∧ (fl = false → x = y))
    (fun sl h => ∃ d x fl, sl = mkT 39 [(0, d), (10, .bool fl)] ∧ Sh h d x ∧ x.length = y.length ∧ bitsB x = xr (bitsB y) (eK a p (8 * y.length) n) ∧ fl = (eK a p (8 * y.length) n).any id ∧ (fl = false → x = y)) (by intro h; cases h) ?_ ?_
    (sl := mkT 39 [(0, (byL y)), (1, iN a), (2, iN n), (3, w32 p), (10, .bool false), (11, iN 0)]) (hp := ⟨0, []⟩) ⟨byL y, y, false, rfl, .inl rfl, rfl, by rw [eK_zero, ← hL, xr_rep], by rw [eK_zero]; simp, fun _ => rfl⟩
  · obtain ⟨s1, h, g, d, x, fl, rfl, s, l, bt, an, nn⟩ := loop
    exact ⟨d, h, x, fl, zans_ok tab_ok mixed fun_ok cFl_ok (burstRun (by1 y) a n p fl d h) (.cons g .nil), s, l, bt, an, nn⟩
  · rintro k sl h hk ⟨d, x, fl, rfl, s, l, bt, an, nn⟩
    have n0 : decide ((k : Int) < (n : Int)) = true := decide_eq_true (by omega)
    have n1 : DV.int .u64 (IntKind.u64.wrap (k : Int)) = .int .u64 (k : Int) := by rw [wrapU rfl, Nat.mod_eq_of_lt (by show k < 2 ^ 64; omega)]
    have n2 : binD tab .shr 48 (w32 p) (.int .u64 (k : Int)) = some (.int .u32 ((p.toNat / 2 ^ k : Nat) : Int)) := by
      have : decide ((0 : Int) ≤ (k : Int)) = true := decide_eq_true (by omega)
      simp only [binD, w32, isShift, this, guardO]
      rw [shrU _ (by show k ≤ 32; omega)]
    have hb : p.getLsbD k = decide (p.toNat / 2 ^ k % 2 = 1) := Nat.testBit_eq_decide_div_mod_eq
    have n3 : (Int.tmod ((p.toNat / 2 ^ k : Nat) : Int) 2 == 1) = p.getLsbD k := by
      rw [hb, show Int.tmod ((p.toNat / 2 ^ k : Nat) : Int) 2 = ((p.toNat / 2 ^ k % 2 : Nat) : Int) from rfl]
      rcases Nat.mod_two_eq_zero_or_one (p.toNat / 2 ^ k) with e | e <;> rw [e] <;> rfl
    have n4 : DV.int .i64 (IntKind.i64.wrap ((k : Int) + 1)) = iN (k + 1) := congrArg (DV.int .i64) (wrapI (n := k + 1) (by omega))
    have n5 : DV.int .i64 (IntKind.i64.wrap ((a : Int) + (k : Int))) = iN (a + k) := by
      rw [show (a : Int) + (k : Int) = ((a + k : Nat) : Int) by omega, wrapI (by omega)]
      rfl
    cases hv : p.getLsbD k with
    | false =>
      rw [hv] at n3
      have e : eK a p (8 * y.length) (k + 1) = eK a p (8 * y.length) k := eK_no fun h => by rw [hv] at h; cases h
      exact ⟨_, h, zsee_ok tab_ok mixed fun_ok cFl_ok (burstA a n k _ p fl d h) (.cons n0 (.cons n1 (.cons n2 (.cons n3 (.cons n4 .nil))))), d, x, fl, rfl, s, l, by rw [e]; exact bt, by rw [e]; exact an, nn⟩
    | true =>
      rw [hv] at n3
      by_cases hlt : a + k < 8 * y.length
      · have e : eK a p (8 * y.length) (k + 1) = tog (eK a p (8 * y.length) k) (a + k) := eK_yes hv hlt
        have hx : a + k < 8 * x.length := by omega
        have f1 := cFl_at (hp := h) ⟨x, by omega⟩ (a + k) hx s.frz
        have t1 := sh_fl h (flip x (a + k)) (flip x (a + k)).length
        have hd : (eK a p (8 * y.length) k).getD (a + k) false = false := by
          rw [List.getD_eq_getElem?_getD, List.getElem?_eq_getElem (by rw [eK_length]; exact hlt)]
          simp [eK]
        refine ⟨_, _, zsee_ok tab_ok mixed fun_ok cFl_ok (burstC a n k _ (a + k) x.length (8 * x.length) p fl d _ h _) (.cons n0 (.cons n1 (.cons n2 (.cons n3 (.cons n5 (.cons (sh_len s) (.cons (mul8 (by omega)) (.cons (decide_eq_true (by omega)) (.cons n5 (.cons f1 (.cons n4 .nil))))))))))), _, _, true, rfl, t1, by rw [flip_length]; exact l, ?_, ?_, fun h => by cases h⟩
        · rw [flip_bits x _ hx, bt, e, xr_tog (by rw [hL, eK_length]) (by omega)]
        · rw [e, tog_any (by rw [eK_length]; exact hlt) hd]
      · have e : eK a p (8 * y.length) (k + 1) = eK a p (8 * y.length) k := eK_no fun _ => hlt
        exact ⟨_, h, zsee_ok tab_ok mixed fun_ok cFl_ok (burstB a n k _ (a + k) x.length (8 * x.length) p fl d h) (.cons n0 (.cons n1 (.cons n2 (.cons n3 (.cons n5 (.cons (sh_len s) (.cons (mul8 (by omega)) (.cons (decide_eq_false (by omega)) (.cons n4 .nil))))))))), d, x, fl, rfl, s, l, by rw [e]; exact bt, by rw [e]; exact an, nn⟩
  · rintro sl h ⟨d, x, fl, rfl, s, l, bt, an, nn⟩
    exact ⟨_, h, zsee_ok tab_ok mixed fun_ok cFl_ok (burstOut a n n p fl d h) (.cons (decide_eq_false (by omega)) .nil), d, x, fl, rfl, s, l, bt, an, nn⟩
/-! ### The contract -/
abbrev Bg : Type := {x : Bs × Nat × Nat × BitVec 32 // x.2.1 < 8 * x.1.1.length ∧ x.2.2.1 ≤ 32}
theorem bg_ex (x : Bg) : ∃ r : DV × Hp × List UInt8 × Bool, BurstOk x.1.1.1 x.1.2.1 x.1.2.2.1 x.1.2.2.2 r.1 r.2.1 r.2.2.1 r.2.2.2 := by
  obtain ⟨⟨⟨y, hy⟩, a, n, p⟩, ha, hn⟩ := x
  obtain ⟨d, h, x, fl, ok⟩ := burst_ok hy ha hn p
  exact ⟨(d, h, x, fl), ok⟩
def AG (x : Bg) : List DV := [byL x.1.1.1, iN x.1.2.1, iN x.1.2.2.1, w32 x.1.2.2.2]
def bB (x : Bg) : DV × Hp := (.tuple [(bg_ex x).choose.1, .bool (bg_ex x).choose.2.2.2], (bg_ex x).choose.2.1)
def cBu : CallF := eqC 45 AG bB
theorem cBu_ok : CallOk Try.prog cBu := eqC_ok fun x => (bg_ex x).choose_spec.ans
theorem cBu_at (y : Bs) {a n : Nat} (p : BitVec 32) (ha : a < 8 * y.1.length) (hn : n ≤ 32) : ∃ d h x fl, cBu 45 [byL y.1, iN a, iN n, w32 p] ⟨0, []⟩ = some (.tuple [d, .bool fl], h, none) ∧ BurstOk y.1 a n p d h x fl :=
  ⟨_, _, _, _, eqC_at (f0 := 45) (A := AG) (B := bB) (fun x z hxz => by
    obtain ⟨⟨y1, a1, n1, p1⟩, q1⟩ := x
    obtain ⟨⟨y2, a2, n2, p2⟩, q2⟩ := z
    simp only [AG, List.cons.injEq, and_true] at hxz
    have e1 := byL_inj hxz.1
    have e2 := iN_inj hxz.2.1
    have e3 := iN_inj hxz.2.2.1
    have e4 := w32_inj hxz.2.2.2
    subst e1 e2 e3 e4
    rfl) ⟨(y, a, n, p), ha, hn⟩, (bg_ex ⟨(y, a, n, p), ha, hn⟩).choose_spec⟩
end
end Go.Proofs.Ytmdomipnjlhmeab
