/- The registers, as the reference computes them. -/
import Derived.Test.YtmdomipnjlhmeabRb
import Derived.Test.YtmdomipnjlhmeabLin
namespace Go.Proofs.Ytmdomipnjlhmeab
open Go.RowKit

noncomputable section
/-- a register after one bit more -/
def bst32 (r : BitVec 32) (b : Nat) : BitVec 32 := if r.toNat / 2147483648 + b = 1 then (r <<< 1) ^^^ 136331795#32 else r <<< 1
def x32 (r : BitVec 32) : DV := .int .u64 (r.toNat : Int)
set_option maxRecDepth 1000000 in
theorem stepT32 (r s q : Int) (b : Nat) : zflat (zans Try.prog tab ftab noC 61 [.int .u64 r, .int .u64 2147483648, .int .u64 136331795, iN b] [(0, .w (.int .u64 s)), (22, .b true), (0, .w (.int .u64 q))]) =
    some (.int .u64 q, [DV.int .u64 (IntKind.u64.wrap (Int.tmod r 2147483648 * 2)) = .int .u64 s, (Int.tmod (IntKind.u64.wrap (IntKind.u64.wrap (b : Int) + quoD .u64 r 2147483648)) 2 == 1) = true, DV.int .u64 (bitD .xor .u64 s 136331795) = .int .u64 q]) := by
  kernel_rfl
set_option maxRecDepth 1000000 in
theorem stepF32 (r s : Int) (b : Nat) : zflat (zans Try.prog tab ftab noC 61 [.int .u64 r, .int .u64 2147483648, .int .u64 136331795, iN b] [(0, .w (.int .u64 s)), (22, .b false)]) =
    some (.int .u64 s, [DV.int .u64 (IntKind.u64.wrap (Int.tmod r 2147483648 * 2)) = .int .u64 s, (Int.tmod (IntKind.u64.wrap (IntKind.u64.wrap (b : Int) + quoD .u64 r 2147483648)) 2 == 1) = false]) := by
  kernel_rfl
theorem top_quo32 (r : BitVec 32) : quoD .u64 (r.toNat : Int) 2147483648 = ((r.toNat / 2147483648 : Nat) : Int) := by
  have h := r.isLt
  unfold quoD
  rw [Int.tdiv_eq_ediv_of_nonneg (by omega), show ((r.toNat : Int) / 2147483648) = ((r.toNat / 2147483648 : Nat) : Int) from rfl, wrapU rfl, Nat.mod_eq_of_lt]
  show _ < 2 ^ 64
  omega
theorem low_two32 (r : BitVec 32) : DV.int .u64 (IntKind.u64.wrap (Int.tmod (r.toNat : Int) 2147483648 * 2)) = x32 (r <<< 1) := by
  have h := r.isLt
  rw [show Int.tmod (r.toNat : Int) 2147483648 = ((r.toNat % 2147483648 : Nat) : Int) from rfl, show (((r.toNat % 2147483648 : Nat) : Int) * 2) = ((r.toNat % 2147483648 * 2 : Nat) : Int) by omega, wrapU rfl, x32, BitVec.toNat_shiftLeft, Nat.shiftLeft_eq]
  congr 2
  show (r.toNat % 2147483648 * 2) % 2 ^ 64 = r.toNat * 2 ^ 1 % 2 ^ 32
  omega
theorem turn32 (r : BitVec 32) {b : Nat} (hb : b < 2) : (Int.tmod (IntKind.u64.wrap (IntKind.u64.wrap (b : Int) + quoD .u64 (r.toNat : Int) 2147483648)) 2 == 1) = decide (r.toNat / 2147483648 + b = 1) := by
  have h := r.isLt
  have hq : r.toNat / 2147483648 < 2 := by omega
  rw [top_quo32, wrapU rfl, Nat.mod_eq_of_lt (by show b < 2 ^ 64; omega), show ((b : Int) + ((r.toNat / 2147483648 : Nat) : Int)) = ((b + r.toNat / 2147483648 : Nat) : Int) by omega, wrapU rfl, Nat.mod_eq_of_lt (by show _ < 2 ^ 64; omega), show Int.tmod ((b + r.toNat / 2147483648 : Nat) : Int) 2 = (((b + r.toNat / 2147483648) % 2 : Nat) : Int) from rfl]
  by_cases e : r.toNat / 2147483648 + b = 1
  · rw [decide_eq_true e, show (b + r.toNat / 2147483648) % 2 = 1 by omega]
    rfl
  · rw [decide_eq_false e, show (b + r.toNat / 2147483648) % 2 = 0 by omega]
    rfl
theorem ansStep32 (x : BitVec 32 × {b : Nat // b < 2}) : Ans Try.prog 61 [x32 x.1, .int .u64 2147483648, .int .u64 136331795, iN x.2.1] (x32 (bst32 x.1 x.2.1)) ⟨0, []⟩ := by
  obtain ⟨r, b, hb⟩ := x
  by_cases e : r.toNat / 2147483648 + b = 1
  · simp only [bst32, if_pos e]
    refine zflat_ok tab_ok mixed fun_ok noC_ok (stepT32 r.toNat (r <<< 1).toNat ((r <<< 1) ^^^ 136331795#32).toNat b) (.cons (low_two32 r) (.cons ?_ (.cons ?_ .nil)))
    · rw [turn32 r hb, decide_eq_true e]
    · have h1 : (r <<< 1).toNat < 2 ^ IntKind.u64.bits := Nat.lt_of_lt_of_le (r <<< 1).isLt (by decide)
      rw [show (136331795 : Int) = ((136331795#32).toNat : Int) from rfl, xorU rfl h1 (by decide), BitVec.toNat_xor]
  · simp only [bst32, if_neg e]
    refine zflat_ok tab_ok mixed fun_ok noC_ok (stepF32 r.toNat (r <<< 1).toNat b) (.cons (low_two32 r) (.cons ?_ .nil))
    rw [turn32 r hb, decide_eq_false e]
def cStep32 : CallF := conC 61 (fun x : BitVec 32 × {b : Nat // b < 2} => [x32 x.1, .int .u64 2147483648, .int .u64 136331795, iN x.2.1]) fun x => (x32 (bst32 x.1 x.2.1), ⟨0, []⟩)
theorem cStep32_ok : CallOk Try.prog cStep32 := conC_ok ansStep32 fun _ => ⟨rfl, fun id o h => by simp [Hp.get_eq] at h, rfl⟩
theorem cStep32_at {hp : Hp} (r : BitVec 32) {b : Nat} (hb : b < 2) : cStep32 61 [x32 r, .int .u64 2147483648, .int .u64 136331795, iN b] hp = some (x32 (bst32 r b), hp, none) :=
  conC_at (f0 := 61) (A := fun x : BitVec 32 × {b : Nat // b < 2} => [x32 x.1, .int .u64 2147483648, .int .u64 136331795, iN x.2.1]) (fun x y hxy => by
    obtain ⟨r, b, _⟩ := x
    obtain ⟨s, c, _⟩ := y
    simp only [x32, iN, List.cons.injEq, DV.int.injEq, true_and, and_true] at hxy
    have h1 : r = s := BitVec.eq_of_toNat_eq (by omega)
    have h2 : b = c := by omega
    subst h1 h2
    rfl) (r, ⟨b, hb⟩) ⟨⟨rfl, rfl⟩, ⟨rfl, rfl⟩, ⟨rfl, rfl⟩, ⟨rfl, rfl⟩, trivial⟩
/-- a register after one bit more -/
def bst8 (r : BitVec 8) (b : Nat) : BitVec 8 := if r.toNat / 128 + b = 1 then (r <<< 1) ^^^ 97#8 else r <<< 1
def x8 (r : BitVec 8) : DV := .int .u64 (r.toNat : Int)
set_option maxRecDepth 1000000 in
theorem stepT8 (r s q : Int) (b : Nat) : zflat (zans Try.prog tab ftab noC 61 [.int .u64 r, .int .u64 128, .int .u64 97, iN b] [(0, .w (.int .u64 s)), (22, .b true), (0, .w (.int .u64 q))]) =
    some (.int .u64 q, [DV.int .u64 (IntKind.u64.wrap (Int.tmod r 128 * 2)) = .int .u64 s, (Int.tmod (IntKind.u64.wrap (IntKind.u64.wrap (b : Int) + quoD .u64 r 128)) 2 == 1) = true, DV.int .u64 (bitD .xor .u64 s 97) = .int .u64 q]) := by
  kernel_rfl
set_option maxRecDepth 1000000 in
theorem stepF8 (r s : Int) (b : Nat) : zflat (zans Try.prog tab ftab noC 61 [.int .u64 r, .int .u64 128, .int .u64 97, iN b] [(0, .w (.int .u64 s)), (22, .b false)]) =
    some (.int .u64 s, [DV.int .u64 (IntKind.u64.wrap (Int.tmod r 128 * 2)) = .int .u64 s, (Int.tmod (IntKind.u64.wrap (IntKind.u64.wrap (b : Int) + quoD .u64 r 128)) 2 == 1) = false]) := by
  kernel_rfl
theorem top_quo8 (r : BitVec 8) : quoD .u64 (r.toNat : Int) 128 = ((r.toNat / 128 : Nat) : Int) := by
  have h := r.isLt
  unfold quoD
  rw [Int.tdiv_eq_ediv_of_nonneg (by omega), show ((r.toNat : Int) / 128) = ((r.toNat / 128 : Nat) : Int) from rfl, wrapU rfl, Nat.mod_eq_of_lt]
  show _ < 2 ^ 64
  omega
theorem low_two8 (r : BitVec 8) : DV.int .u64 (IntKind.u64.wrap (Int.tmod (r.toNat : Int) 128 * 2)) = x8 (r <<< 1) := by
  have h := r.isLt
  rw [show Int.tmod (r.toNat : Int) 128 = ((r.toNat % 128 : Nat) : Int) from rfl, show (((r.toNat % 128 : Nat) : Int) * 2) = ((r.toNat % 128 * 2 : Nat) : Int) by omega, wrapU rfl, x8, BitVec.toNat_shiftLeft, Nat.shiftLeft_eq]
  congr 2
  show (r.toNat % 128 * 2) % 2 ^ 64 = r.toNat * 2 ^ 1 % 2 ^ 8
  omega
theorem turn8 (r : BitVec 8) {b : Nat} (hb : b < 2) : (Int.tmod (IntKind.u64.wrap (IntKind.u64.wrap (b : Int) + quoD .u64 (r.toNat : Int) 128)) 2 == 1) = decide (r.toNat / 128 + b = 1) := by
  have h := r.isLt
  have hq : r.toNat / 128 < 2 := by omega
  rw [top_quo8, wrapU rfl, Nat.mod_eq_of_lt (by show b < 2 ^ 64; omega), show ((b : Int) + ((r.toNat / 128 : Nat) : Int)) = ((b + r.toNat / 128 : Nat) : Int) by omega, wrapU rfl, Nat.mod_eq_of_lt (by show _ < 2 ^ 64; omega), show Int.tmod ((b + r.toNat / 128 : Nat) : Int) 2 = (((b + r.toNat / 128) % 2 : Nat) : Int) from rfl]
  by_cases e : r.toNat / 128 + b = 1
  · rw [decide_eq_true e, show (b + r.toNat / 128) % 2 = 1 by omega]
    rfl
  · rw [decide_eq_false e, show (b + r.toNat / 128) % 2 = 0 by omega]
    rfl
theorem ansStep8 (x : BitVec 8 × {b : Nat // b < 2}) : Ans Try.prog 61 [x8 x.1, .int .u64 128, .int .u64 97, iN x.2.1] (x8 (bst8 x.1 x.2.1)) ⟨0, []⟩ := by
  obtain ⟨r, b, hb⟩ := x
  by_cases e : r.toNat / 128 + b = 1
  · simp only [bst8, if_pos e]
    refine zflat_ok tab_ok mixed fun_ok noC_ok (stepT8 r.toNat (r <<< 1).toNat ((r <<< 1) ^^^ 97#8).toNat b) (.cons (low_two8 r) (.cons ?_ (.cons ?_ .nil)))
    · rw [turn8 r hb, decide_eq_true e]
    · have h1 : (r <<< 1).toNat < 2 ^ IntKind.u64.bits := Nat.lt_of_lt_of_le (r <<< 1).isLt (by decide)
      rw [show (97 : Int) = ((97#8).toNat : Int) from rfl, xorU rfl h1 (by decide), BitVec.toNat_xor]
  · simp only [bst8, if_neg e]
    refine zflat_ok tab_ok mixed fun_ok noC_ok (stepF8 r.toNat (r <<< 1).toNat b) (.cons (low_two8 r) (.cons ?_ .nil))
    rw [turn8 r hb, decide_eq_false e]
def cStep8 : CallF := conC 61 (fun x : BitVec 8 × {b : Nat // b < 2} => [x8 x.1, .int .u64 128, .int .u64 97, iN x.2.1]) fun x => (x8 (bst8 x.1 x.2.1), ⟨0, []⟩)
theorem cStep8_ok : CallOk Try.prog cStep8 := conC_ok ansStep8 fun _ => ⟨rfl, fun id o h => by simp [Hp.get_eq] at h, rfl⟩
theorem cStep8_at {hp : Hp} (r : BitVec 8) {b : Nat} (hb : b < 2) : cStep8 61 [x8 r, .int .u64 128, .int .u64 97, iN b] hp = some (x8 (bst8 r b), hp, none) :=
  conC_at (f0 := 61) (A := fun x : BitVec 8 × {b : Nat // b < 2} => [x8 x.1, .int .u64 128, .int .u64 97, iN x.2.1]) (fun x y hxy => by
    obtain ⟨r, b, _⟩ := x
    obtain ⟨s, c, _⟩ := y
    simp only [x8, iN, List.cons.injEq, DV.int.injEq, true_and, and_true] at hxy
    have h1 : r = s := BitVec.eq_of_toNat_eq (by omega)
    have h2 : b = c := by omega
    subst h1 h2
    rfl) (r, ⟨b, hb⟩) ⟨⟨rfl, rfl⟩, ⟨rfl, rfl⟩, ⟨rfl, rfl⟩, ⟨rfl, rfl⟩, trivial⟩
def cRef : CallF := orK cBits (orK cStep32 cStep8)
theorem cRef_ok : CallOk Try.prog cRef := orK_ok cBits_ok (orK_ok cStep32_ok cStep8_ok)
theorem conC_miss {α : Type} {f0 : FuncId} {A : α → List DV} {B : α → DV × Hp} {f : FuncId} {args : List DV} {hp : Hp} (h : ∀ x, ¬ Frz hp args (A x)) : conC f0 A B f args hp = none := by
  unfold conC
  split
  · rw [dif_neg fun ⟨x, hx⟩ => h x hx]
  · rfl
theorem cRef_step32 {hp : Hp} (r : BitVec 32) {b : Nat} (hb : b < 2) : cRef 61 [x32 r, .int .u64 2147483648, .int .u64 136331795, iN b] hp = some (x32 (bst32 r b), hp, none) :=
  orK_right (conC_other (by kernel_rfl)) (orK_left (cStep32_at r hb))
theorem cRef_step8 {hp : Hp} (r : BitVec 8) {b : Nat} (hb : b < 2) : cRef 61 [x8 r, .int .u64 128, .int .u64 97, iN b] hp = some (x8 (bst8 r b), hp, none) :=
  orK_right (conC_other (by kernel_rfl)) (orK_right (conC_miss fun x hx => by
    have := hx.2.1.2
    simp at this) (cStep8_at r hb))
set_option maxRecDepth 1000000 in
theorem rnd32 (n k v kk : Nat) (r r' : BitVec 32) (cl : List DV) : zsee Try.prog tab ftab cRef (ksF ftab 37) [5, 6, 7] (loopAt (bodyOf ftab 37) 0) (mkT 26 [(5, x32 r), (6, .sl 0 0 1 n n), (7, iN k)]) (ownH 3 kk cl)
      [(15, .b true), (21, .n (.ptr 0 k)), (22, .n (iN v)), (23, .q (x32 r')), (7, .w (iN (k + 1)))] =
    some (.normal, mkT 26 [(5, x32 r'), (6, .sl 0 0 1 n n), (7, iN (k + 1))], ownH 3 kk cl, [decide ((k : Int) < (n : Int)) = true, idxOk (k : Int) n = true, DV.ptr 0 (0 + (k : Int).toNat * 1) = .ptr 0 k, nth cl k = some (iN v),
      cRef 61 [x32 r, .int .u64 2147483648, .int .u64 136331795, iN v] (ownH 3 kk cl) = some (x32 r', ownH 3 kk cl, none), DV.int .i64 (IntKind.i64.wrap ((k : Int) + 1)) = iN (k + 1)]) := by
  kernel_rfl
set_option maxRecDepth 1000000 in
theorem ext32Out (n k kk : Nat) (r : BitVec 32) (cl : List DV) : zsee Try.prog tab ftab cRef (ksF ftab 37) [5] (loopAt (bodyOf ftab 37) 0) (mkT 26 [(5, x32 r), (6, .sl 0 0 1 n n), (7, iN k)]) (ownH 3 kk cl) [(15, .b false)] = some (.exit 0, mkT 26 [(5, x32 r)], ownH 3 kk cl, [decide ((k : Int) < (n : Int)) = false]) := by
  kernel_rfl
theorem loopR32 (vs : List Nat) (kk : Nat) (hv : ∀ v ∈ vs, v < 2) (hl : vs.length < 2 ^ 40) (r0 : BitVec 32) : Goes Try.prog tab (ksF ftab 37) (.loop (loopAt (bodyOf ftab 37) 0)) ((fun n => mkT 26 [(5, x32 r0), (6, .sl 0 0 1 n n), (7, iN 0)]) vs.length) (ownH 3 kk (celI vs)) (.exit 0) (mkT 26 [(5, x32 (vs.foldl bst32 r0))]) (ownH 3 kk (celI vs)) := by
  have key := Goes.loop (P := Try.prog) (T := tab) (ks := (ksF ftab 37)) (x := loopAt (bodyOf ftab 37) 0) vs.length (fun k => (fun n => (fun r => mkT 26 [(5, x32 r), (6, .sl 0 0 1 n n), (7, iN k)]) ((vs.take k).foldl bst32 r0)) vs.length) (fun _ => ownH 3 kk (celI vs)) (e := .exit 0) (s1 := mkT 26 [(5, x32 (vs.foldl bst32 r0))]) (h1 := ownH 3 kk (celI vs)) ?_ ?_ (by intro h; cases h)
  · exact key
  · intro k hk
    obtain ⟨v, hc⟩ : ∃ v, vs[k]? = some v := ⟨_, List.getElem?_eq_getElem hk⟩
    have hf : (vs.take (k + 1)).foldl bst32 r0 = bst32 ((vs.take k).foldl bst32 r0) v := by
      rw [List.take_add_one, hc, List.foldl_append]
      rfl
    simp only [hf]
    refine zsee_ok tab_ok mixed fun_ok cRef_ok (rnd32 vs.length k v kk _ _ _) (.cons (decide_eq_true (by omega)) (.cons (idxOk_lt hk) (.cons (by rw [Int.toNat_natCast]; simp) (.cons ?_ (.cons (cRef_step32 _ (hv v (List.mem_of_getElem? hc))) (.cons (congrArg (DV.int .i64) (wrapI (n := k + 1) (by omega))) .nil))))))
    rw [nth_eq, celI, List.getElem?_map, hc]
    rfl
  · have hf : (vs.take vs.length) = vs := List.take_length
    simp only [hf]
    exact zsee_ok tab_ok mixed fun_ok cRef_ok (ext32Out vs.length vs.length kk _ _) (.cons (decide_eq_false (by omega)) .nil)
set_option maxRecDepth 1000000 in
theorem runR32 (xs : List (List DV)) (n kk : Nat) (r0 : BitVec 32) (s q : BitVec 32) (cl : List DV) : zflat (zans Try.prog tab ftab cRef 37 [w32 r0, .list 1 xs] [(5, .w (x32 r0)), (11, .r (.sl 0 0 1 n n) (ownH 3 kk cl)), (0, .l [5, 6, 7] (.exit 0) (mkT 26 [(5, x32 s)]) (ownH 3 kk cl)), (25, .w (w32 q))]) =
    some (w32 q, [DV.int .u64 (IntKind.u64.wrap (r0.toNat : Int)) = x32 r0, cRef 60 [.list 1 xs] ⟨0, []⟩ = some (.sl 0 0 1 n n, ownH 3 kk cl, none), Goes Try.prog tab (ksF ftab 37) (.loop (loopAt (bodyOf ftab 37) 0)) (mkT 26 [(5, (x32 r0)), (6, .sl 0 0 1 n n), (7, iN 0)]) (ownH 3 kk cl) (.exit 0) (mkT 26 [(5, x32 s)]) (ownH 3 kk cl), DV.int .u32 (IntKind.u32.wrap (s.toNat : Int)) = w32 q]) := by
  kernel_rfl
set_option maxRecDepth 1000000 in
theorem runN320 (xs : List (List DV)) (r0 : BitVec 32) (q : BitVec 32) : zflat (zans Try.prog tab ftab cRef 37 [w32 r0, .list 1 xs] [(5, .w (x32 r0)), (11, .q .nil), (25, .w (w32 q))]) =
    some (w32 q, [DV.int .u64 (IntKind.u64.wrap (r0.toNat : Int)) = x32 r0, cRef 60 [.list 1 xs] ⟨0, []⟩ = some (.nil, ⟨0, []⟩, none), DV.int .u32 (IntKind.u32.wrap (r0.toNat : Int)) = w32 q]) := by
  kernel_rfl
set_option maxRecDepth 1000000 in
theorem rnd8 (n k v kk : Nat) (r r' : BitVec 8) (cl : List DV) : zsee Try.prog tab ftab cRef (ksF ftab 34) [3, 4, 5] (loopAt (bodyOf ftab 34) 0) (mkT 23 [(3, x8 r), (4, .sl 0 0 1 n n), (5, iN k)]) (ownH 3 kk cl)
      [(11, .b true), (17, .n (.ptr 0 k)), (18, .n (iN v)), (19, .q (x8 r')), (5, .w (iN (k + 1)))] =
    some (.normal, mkT 23 [(3, x8 r'), (4, .sl 0 0 1 n n), (5, iN (k + 1))], ownH 3 kk cl, [decide ((k : Int) < (n : Int)) = true, idxOk (k : Int) n = true, DV.ptr 0 (0 + (k : Int).toNat * 1) = .ptr 0 k, nth cl k = some (iN v),
      cRef 61 [x8 r, .int .u64 128, .int .u64 97, iN v] (ownH 3 kk cl) = some (x8 r', ownH 3 kk cl, none), DV.int .i64 (IntKind.i64.wrap ((k : Int) + 1)) = iN (k + 1)]) := by
  kernel_rfl
set_option maxRecDepth 1000000 in
theorem ext8Out (n k kk : Nat) (r : BitVec 8) (cl : List DV) : zsee Try.prog tab ftab cRef (ksF ftab 34) [3] (loopAt (bodyOf ftab 34) 0) (mkT 23 [(3, x8 r), (4, .sl 0 0 1 n n), (5, iN k)]) (ownH 3 kk cl) [(11, .b false)] = some (.exit 0, mkT 23 [(3, x8 r)], ownH 3 kk cl, [decide ((k : Int) < (n : Int)) = false]) := by
  kernel_rfl
theorem loopR8 (vs : List Nat) (kk : Nat) (hv : ∀ v ∈ vs, v < 2) (hl : vs.length < 2 ^ 40) (r0 : BitVec 8) : Goes Try.prog tab (ksF ftab 34) (.loop (loopAt (bodyOf ftab 34) 0)) ((fun n => mkT 23 [(3, x8 r0), (4, .sl 0 0 1 n n), (5, iN 0)]) vs.length) (ownH 3 kk (celI vs)) (.exit 0) (mkT 23 [(3, x8 (vs.foldl bst8 r0))]) (ownH 3 kk (celI vs)) := by
  have key := Goes.loop (P := Try.prog) (T := tab) (ks := (ksF ftab 34)) (x := loopAt (bodyOf ftab 34) 0) vs.length (fun k => (fun n => (fun r => mkT 23 [(3, x8 r), (4, .sl 0 0 1 n n), (5, iN k)]) ((vs.take k).foldl bst8 r0)) vs.length) (fun _ => ownH 3 kk (celI vs)) (e := .exit 0) (s1 := mkT 23 [(3, x8 (vs.foldl bst8 r0))]) (h1 := ownH 3 kk (celI vs)) ?_ ?_ (by intro h; cases h)
  · exact key
  · intro k hk
    obtain ⟨v, hc⟩ : ∃ v, vs[k]? = some v := ⟨_, List.getElem?_eq_getElem hk⟩
    have hf : (vs.take (k + 1)).foldl bst8 r0 = bst8 ((vs.take k).foldl bst8 r0) v := by
      rw [List.take_add_one, hc, List.foldl_append]
      rfl
    simp only [hf]
    refine zsee_ok tab_ok mixed fun_ok cRef_ok (rnd8 vs.length k v kk _ _ _) (.cons (decide_eq_true (by omega)) (.cons (idxOk_lt hk) (.cons (by rw [Int.toNat_natCast]; simp) (.cons ?_ (.cons (cRef_step8 _ (hv v (List.mem_of_getElem? hc))) (.cons (congrArg (DV.int .i64) (wrapI (n := k + 1) (by omega))) .nil))))))
    rw [nth_eq, celI, List.getElem?_map, hc]
    rfl
  · have hf : (vs.take vs.length) = vs := List.take_length
    simp only [hf]
    exact zsee_ok tab_ok mixed fun_ok cRef_ok (ext8Out vs.length vs.length kk _ _) (.cons (decide_eq_false (by omega)) .nil)
set_option maxRecDepth 1000000 in
theorem runR8 (xs : List (List DV)) (n kk : Nat) (s q : BitVec 8) (cl : List DV) : zflat (zans Try.prog tab ftab cRef 34 [.list 1 xs] [(7, .r (.sl 0 0 1 n n) (ownH 3 kk cl)), (0, .l [3, 4, 5] (.exit 0) (mkT 23 [(3, x8 s)]) (ownH 3 kk cl)), (22, .w (w8 q))]) =
    some (w8 q, [cRef 60 [.list 1 xs] ⟨0, []⟩ = some (.sl 0 0 1 n n, ownH 3 kk cl, none), Goes Try.prog tab (ksF ftab 34) (.loop (loopAt (bodyOf ftab 34) 0)) (mkT 23 [(3, (.int .u64 255)), (4, .sl 0 0 1 n n), (5, iN 0)]) (ownH 3 kk cl) (.exit 0) (mkT 23 [(3, x8 s)]) (ownH 3 kk cl), DV.int .u8 (IntKind.u8.wrap (IntKind.u64.wrap (255 - (s.toNat : Int)))) = w8 q]) := by
  kernel_rfl
set_option maxRecDepth 1000000 in
theorem runN80 (xs : List (List DV)) (q : BitVec 8) : zflat (zans Try.prog tab ftab cRef 34 [.list 1 xs] [(7, .q .nil), (22, .w (w8 q))]) =
    some (w8 q, [cRef 60 [.list 1 xs] ⟨0, []⟩ = some (.nil, ⟨0, []⟩, none), DV.int .u8 (IntKind.u8.wrap (IntKind.u64.wrap (255 - 255))) = w8 q]) := by
  kernel_rfl
end
end Go.Proofs.Ytmdomipnjlhmeab
/- Bit by bit and four bits at once are alike. -/
namespace Go.Proofs.Ytmdomipnjlhmeab

noncomputable section
/-- a register after one bit more, by its highest bit -/
def lst32 (r : BitVec 32) (b : Bool) : BitVec 32 := (r <<< 1) ^^^ (if (r.msb ^^ b) = true then 136331795#32 else 0#32)
theorem bst_lst32 (r : BitVec 32) {b : Nat} (hb : b < 2) : bst32 r b = lst32 r (decide (b = 1)) := by
  have hm : r.msb = decide (r.toNat / 2147483648 = 1) := by
    rw [BitVec.msb_eq_decide]
    have h := r.isLt
    by_cases e : r.toNat / 2147483648 = 1
    · rw [decide_eq_true e, decide_eq_true_eq]; omega
    · rw [decide_eq_false e, decide_eq_false_iff_not]; omega
  have hq : r.toNat / 2147483648 < 2 := by have h := r.isLt; omega
  unfold bst32 lst32
  rw [hm]
  generalize r.toNat / 2147483648 = t at hq
  have h0 : r <<< 1 ^^^ 0#32 = r <<< 1 := BitVec.xor_zero
  match t, b, hq, hb with
  | 0, 0, _, _ => simp
  | 0, 1, _, _ => simp
  | 1, 0, _, _ => simp
  | 1, 1, _, _ => simp
theorem lst_xor32 (r s : BitVec 32) (a b : Bool) : lst32 (r ^^^ s) (a ^^ b) = lst32 r a ^^^ lst32 s b := by
  unfold lst32
  rw [BitVec.shiftLeft_xor_distrib, BitVec.msb_xor]
  have h : (if ((r.msb ^^ s.msb) ^^ (a ^^ b)) = true then 136331795#32 else 0#32) = (if (r.msb ^^ a) = true then 136331795#32 else 0#32) ^^^ (if (s.msb ^^ b) = true then 136331795#32 else 0#32) := by
    cases r.msb <;> cases s.msb <;> cases a <;> cases b <;> rfl
  rw [h]
  exact xor4b _ _ _ _
def f4_32 (r : BitVec 32) (x : Nat) : BitVec 32 := lst32 (lst32 (lst32 (lst32 r (x.testBit 3)) (x.testBit 2)) (x.testBit 1)) (x.testBit 0)
theorem f4_xor32 (r s : BitVec 32) (x y : Nat) : f4_32 (r ^^^ s) (x ^^^ y) = f4_32 r x ^^^ f4_32 s y := by
  unfold f4_32
  simp only [Nat.testBit_xor, lst_xor32]
theorem f4_top32 : ((List.range 16).all fun t => (List.range 16).all fun x => f4_32 (BitVec.ofNat 32 t <<< 28) x == te32 (t ^^^ x)) = true := by kernel_rfl
theorem f4_low32 (r : BitVec 32) (h : r.toNat < 2 ^ 28) : f4_32 r 0 = r <<< 4 := by
  have one : ∀ (q : BitVec 32), q.toNat < 2 ^ 31 → lst32 q false = q <<< 1 := fun q hq => by
    have : q.msb = false := by rw [BitVec.msb_eq_decide, decide_eq_false_iff_not]; omega
    unfold lst32
    rw [this]
    simp
  have sh : ∀ (q : BitVec 32) (k : Nat), q.toNat < 2 ^ k → k < 32 → (q <<< 1).toNat < 2 ^ (k + 1) := fun q k hq hk => by
    rw [BitVec.toNat_shiftLeft, Nat.shiftLeft_eq]
    exact Nat.lt_of_le_of_lt (Nat.mod_le _ _) (by rw [Nat.pow_succ]; omega)
  have s1 := sh r 28 h (by decide)
  have s2 := sh _ _ s1 (by decide)
  have s3 := sh _ _ s2 (by decide)
  unfold f4_32
  rw [Nat.zero_testBit, Nat.zero_testBit, Nat.zero_testBit, Nat.zero_testBit, one r (Nat.lt_of_lt_of_le h (by decide)), one _ (Nat.lt_of_lt_of_le s1 (by decide)), one _ (Nat.lt_of_lt_of_le s2 (by decide)), one _ (Nat.lt_of_lt_of_le s3 (by decide)), ← BitVec.shiftLeft_add, ← BitVec.shiftLeft_add, ← BitVec.shiftLeft_add]
theorem f4_eq32 (r : BitVec 32) {x : Nat} (hx : x < 16) : f4_32 r x = r <<< 4 ^^^ te32 ((r >>> 28).toNat ^^^ x) := by
  have ht := top32_lt r
  have hl : (BitVec.ofNat 32 (r.toNat % 2 ^ 28)).toNat < 2 ^ 28 := by
    rw [BitVec.toNat_ofNat]
    exact Nat.lt_of_le_of_lt (Nat.mod_le _ _) (Nat.mod_lt _ (by decide))
  have hr : r = BitVec.ofNat 32 (r.toNat % 2 ^ 28) ^^^ BitVec.ofNat 32 (r >>> 28).toNat <<< 28 := by
    apply BitVec.eq_of_getLsbD_eq
    intro i hi
    simp only [BitVec.getLsbD_xor, BitVec.getLsbD_shiftLeft, BitVec.getLsbD_ofNat, hi, decide_true, Bool.true_and, Nat.testBit_mod_two_pow, BitVec.testBit_toNat, BitVec.getLsbD_ushiftRight]
    by_cases h : i < 28
    · simp [h]
    · have e : 28 + (i - 28) = i := by omega
      simp [h, e]
      omega
  have hs : (BitVec.ofNat 32 (r.toNat % 2 ^ 28)) <<< 4 = r <<< 4 := by
    apply BitVec.eq_of_toNat_eq
    rw [BitVec.toNat_shiftLeft, BitVec.toNat_shiftLeft, BitVec.toNat_ofNat, Nat.shiftLeft_eq, Nat.shiftLeft_eq]
    have h := r.isLt
    omega
  have := List.all_eq_true.1 (List.all_eq_true.1 f4_top32 _ (List.mem_range.2 ht)) x (List.mem_range.2 hx)
  have tb := eq_of_beq this
  have key : f4_32 (BitVec.ofNat 32 (r.toNat % 2 ^ 28) ^^^ BitVec.ofNat 32 (r >>> 28).toNat <<< 28) (0 ^^^ x) = r <<< 4 ^^^ te32 ((r >>> 28).toNat ^^^ x) := by
    rw [f4_xor32, f4_low32 _ hl, tb, hs]
  rw [← hr, Nat.zero_xor] at key
  exact key
theorem byte_ok32 (r : BitVec 32) (c : UInt8) : (bit8 c).foldl bst32 r = st32 r c := by
  have hc := UInt8.toNat_lt c
  have hst : st32 r c = f4_32 (f4_32 r (c.toNat / 16)) (c.toNat % 16) := by
    rw [f4_eq32 r (by omega), f4_eq32 _ (Nat.mod_lt _ (by decide))]
    rfl
  have tb : ∀ x i, x.testBit i = decide (x / 2 ^ i % 2 = 1) := fun x i => Nat.testBit_eq_decide_div_mod_eq
  rw [hst]
  simp only [bit8, List.foldl_cons, List.foldl_nil, f4_32, tb]
  rw [bst_lst32 _ (Nat.mod_lt _ (by decide)), bst_lst32 _ (Nat.mod_lt _ (by decide)), bst_lst32 _ (Nat.mod_lt _ (by decide)), bst_lst32 _ (Nat.mod_lt _ (by decide)), bst_lst32 _ (Nat.mod_lt _ (by decide)), bst_lst32 _ (Nat.mod_lt _ (by decide)), bst_lst32 _ (Nat.mod_lt _ (by decide)), bst_lst32 _ (Nat.mod_lt _ (by decide))]
  have e1 : c.toNat / 16 / 2 ^ 3 = c.toNat / 128 := by omega
  have e2 : c.toNat / 16 / 2 ^ 2 = c.toNat / 64 := by omega
  have e3 : c.toNat / 16 / 2 ^ 1 = c.toNat / 32 := by omega
  have e4 : c.toNat / 16 / 2 ^ 0 = c.toNat / 16 := by omega
  have e5 : c.toNat % 16 / 2 ^ 3 % 2 = c.toNat / 8 % 2 := by omega
  have e6 : c.toNat % 16 / 2 ^ 2 % 2 = c.toNat / 4 % 2 := by omega
  have e7 : c.toNat % 16 / 2 ^ 1 % 2 = c.toNat / 2 % 2 := by omega
  have e8 : c.toNat % 16 / 2 ^ 0 % 2 = c.toNat / 1 % 2 := by omega
  rw [e1, e2, e3, e4, e5, e6, e7, e8]
theorem bytes_ok32 (bs : List UInt8) (r : BitVec 32) : (bitsL bs).foldl bst32 r = bs.foldl st32 r := by
  induction bs generalizing r with
  | nil => rfl
  | cons c bs ih =>
    show (bit8 c ++ bitsL bs).foldl bst32 r = _
    rw [List.foldl_append, byte_ok32, ih]
    rfl
/-- a register after one bit more, by its highest bit -/
def lst8 (r : BitVec 8) (b : Bool) : BitVec 8 := (r <<< 1) ^^^ (if (r.msb ^^ b) = true then 97#8 else 0#8)
theorem bst_lst8 (r : BitVec 8) {b : Nat} (hb : b < 2) : bst8 r b = lst8 r (decide (b = 1)) := by
  have hm : r.msb = decide (r.toNat / 128 = 1) := by
    rw [BitVec.msb_eq_decide]
    have h := r.isLt
    by_cases e : r.toNat / 128 = 1
    · rw [decide_eq_true e, decide_eq_true_eq]; omega
    · rw [decide_eq_false e, decide_eq_false_iff_not]; omega
  have hq : r.toNat / 128 < 2 := by have h := r.isLt; omega
  unfold bst8 lst8
  rw [hm]
  generalize r.toNat / 128 = t at hq
  have h0 : r <<< 1 ^^^ 0#8 = r <<< 1 := BitVec.xor_zero
  match t, b, hq, hb with
  | 0, 0, _, _ => simp
  | 0, 1, _, _ => simp
  | 1, 0, _, _ => simp
  | 1, 1, _, _ => simp
theorem lst_xor8 (r s : BitVec 8) (a b : Bool) : lst8 (r ^^^ s) (a ^^ b) = lst8 r a ^^^ lst8 s b := by
  unfold lst8
  rw [BitVec.shiftLeft_xor_distrib, BitVec.msb_xor]
  have h : (if ((r.msb ^^ s.msb) ^^ (a ^^ b)) = true then 97#8 else 0#8) = (if (r.msb ^^ a) = true then 97#8 else 0#8) ^^^ (if (s.msb ^^ b) = true then 97#8 else 0#8) := by
    cases r.msb <;> cases s.msb <;> cases a <;> cases b <;> rfl
  rw [h]
  exact xor4b _ _ _ _
def f4_8 (r : BitVec 8) (x : Nat) : BitVec 8 := lst8 (lst8 (lst8 (lst8 r (x.testBit 3)) (x.testBit 2)) (x.testBit 1)) (x.testBit 0)
theorem f4_xor8 (r s : BitVec 8) (x y : Nat) : f4_8 (r ^^^ s) (x ^^^ y) = f4_8 r x ^^^ f4_8 s y := by
  unfold f4_8
  simp only [Nat.testBit_xor, lst_xor8]
theorem f4_top8 : ((List.range 16).all fun t => (List.range 16).all fun x => f4_8 (BitVec.ofNat 8 t <<< 4) x == te8 (t ^^^ x)) = true := by kernel_rfl
theorem f4_low8 (r : BitVec 8) (h : r.toNat < 2 ^ 4) : f4_8 r 0 = r <<< 4 := by
  have one : ∀ (q : BitVec 8), q.toNat < 2 ^ 7 → lst8 q false = q <<< 1 := fun q hq => by
    have : q.msb = false := by rw [BitVec.msb_eq_decide, decide_eq_false_iff_not]; omega
    unfold lst8
    rw [this]
    simp
  have sh : ∀ (q : BitVec 8) (k : Nat), q.toNat < 2 ^ k → k < 8 → (q <<< 1).toNat < 2 ^ (k + 1) := fun q k hq hk => by
    rw [BitVec.toNat_shiftLeft, Nat.shiftLeft_eq]
    exact Nat.lt_of_le_of_lt (Nat.mod_le _ _) (by rw [Nat.pow_succ]; omega)
  have s1 := sh r 4 h (by decide)
  have s2 := sh _ _ s1 (by decide)
  have s3 := sh _ _ s2 (by decide)
  unfold f4_8
  rw [Nat.zero_testBit, Nat.zero_testBit, Nat.zero_testBit, Nat.zero_testBit, one r (Nat.lt_of_lt_of_le h (by decide)), one _ (Nat.lt_of_lt_of_le s1 (by decide)), one _ (Nat.lt_of_lt_of_le s2 (by decide)), one _ (Nat.lt_of_lt_of_le s3 (by decide)), ← BitVec.shiftLeft_add, ← BitVec.shiftLeft_add, ← BitVec.shiftLeft_add]
theorem f4_eq8 (r : BitVec 8) {x : Nat} (hx : x < 16) : f4_8 r x = r <<< 4 ^^^ te8 ((r >>> 4).toNat ^^^ x) := by
  have ht := top8_lt r
  have hl : (BitVec.ofNat 8 (r.toNat % 2 ^ 4)).toNat < 2 ^ 4 := by
    rw [BitVec.toNat_ofNat]
    exact Nat.lt_of_le_of_lt (Nat.mod_le _ _) (Nat.mod_lt _ (by decide))
  have hr : r = BitVec.ofNat 8 (r.toNat % 2 ^ 4) ^^^ BitVec.ofNat 8 (r >>> 4).toNat <<< 4 := by
    apply BitVec.eq_of_getLsbD_eq
    intro i hi
    simp only [BitVec.getLsbD_xor, BitVec.getLsbD_shiftLeft, BitVec.getLsbD_ofNat, hi, decide_true, Bool.true_and, Nat.testBit_mod_two_pow, BitVec.testBit_toNat, BitVec.getLsbD_ushiftRight]
    by_cases h : i < 4
    · simp [h]
    · have e : 4 + (i - 4) = i := by omega
      simp [h, e]
      omega
  have hs : (BitVec.ofNat 8 (r.toNat % 2 ^ 4)) <<< 4 = r <<< 4 := by
    apply BitVec.eq_of_toNat_eq
    rw [BitVec.toNat_shiftLeft, BitVec.toNat_shiftLeft, BitVec.toNat_ofNat, Nat.shiftLeft_eq, Nat.shiftLeft_eq]
    have h := r.isLt
    omega
  have := List.all_eq_true.1 (List.all_eq_true.1 f4_top8 _ (List.mem_range.2 ht)) x (List.mem_range.2 hx)
  have tb := eq_of_beq this
  have key : f4_8 (BitVec.ofNat 8 (r.toNat % 2 ^ 4) ^^^ BitVec.ofNat 8 (r >>> 4).toNat <<< 4) (0 ^^^ x) = r <<< 4 ^^^ te8 ((r >>> 4).toNat ^^^ x) := by
    rw [f4_xor8, f4_low8 _ hl, tb, hs]
  rw [← hr, Nat.zero_xor] at key
  exact key
theorem byte_ok8 (r : BitVec 8) (c : UInt8) : (bit8 c).foldl bst8 r = st8 r c := by
  have hc := UInt8.toNat_lt c
  have hst : st8 r c = f4_8 (f4_8 r (c.toNat / 16)) (c.toNat % 16) := by
    rw [f4_eq8 r (by omega), f4_eq8 _ (Nat.mod_lt _ (by decide))]
    rfl
  have tb : ∀ x i, x.testBit i = decide (x / 2 ^ i % 2 = 1) := fun x i => Nat.testBit_eq_decide_div_mod_eq
  rw [hst]
  simp only [bit8, List.foldl_cons, List.foldl_nil, f4_8, tb]
  rw [bst_lst8 _ (Nat.mod_lt _ (by decide)), bst_lst8 _ (Nat.mod_lt _ (by decide)), bst_lst8 _ (Nat.mod_lt _ (by decide)), bst_lst8 _ (Nat.mod_lt _ (by decide)), bst_lst8 _ (Nat.mod_lt _ (by decide)), bst_lst8 _ (Nat.mod_lt _ (by decide)), bst_lst8 _ (Nat.mod_lt _ (by decide)), bst_lst8 _ (Nat.mod_lt _ (by decide))]
  have e1 : c.toNat / 16 / 2 ^ 3 = c.toNat / 128 := by omega
  have e2 : c.toNat / 16 / 2 ^ 2 = c.toNat / 64 := by omega
  have e3 : c.toNat / 16 / 2 ^ 1 = c.toNat / 32 := by omega
  have e4 : c.toNat / 16 / 2 ^ 0 = c.toNat / 16 := by omega
  have e5 : c.toNat % 16 / 2 ^ 3 % 2 = c.toNat / 8 % 2 := by omega
  have e6 : c.toNat % 16 / 2 ^ 2 % 2 = c.toNat / 4 % 2 := by omega
  have e7 : c.toNat % 16 / 2 ^ 1 % 2 = c.toNat / 2 % 2 := by omega
  have e8 : c.toNat % 16 / 2 ^ 0 % 2 = c.toNat / 1 % 2 := by omega
  rw [e1, e2, e3, e4, e5, e6, e7, e8]
theorem bytes_ok8 (bs : List UInt8) (r : BitVec 8) : (bitsL bs).foldl bst8 r = bs.foldl st8 r := by
  induction bs generalizing r with
  | nil => rfl
  | cons c bs ih =>
    show (bit8 c ++ bitsL bs).foldl bst8 r = _
    rw [List.foldl_append, byte_ok8, ih]
    rfl
end
end Go.Proofs.Ytmdomipnjlhmeab
/- The reference's check values, as contracts. -/
namespace Go.Proofs.Ytmdomipnjlhmeab
open Go.RowKit

noncomputable section
theorem bitsL_lt (bs : List UInt8) : ∀ v ∈ bitsL bs, v < 2 := fun v hv => by
  simp only [bitsL, List.mem_flatMap] at hv
  obtain ⟨c, _, h⟩ := hv
  simp only [bit8, List.mem_cons, List.not_mem_nil, or_false] at h
  omega
theorem bits_ref (b : Bs) (hne : b.1 ≠ []) : cRef 60 [byL b.1] ⟨0, []⟩ = some (.sl 0 0 1 (bitsL b.1).length (bitsL b.1).length, ownH 3 (kBits b.1) (celI (bitsL b.1)), none) := by
  have := cBits_at (hp := ⟨0, []⟩) (d := byL b.1) b ⟨rfl, rfl⟩
  rw [bBits, if_neg hne] at this
  rw [bitsL_length]
  exact orK_left this
theorem bits_ref0 : cRef 60 [byL []] ⟨0, []⟩ = some (.nil, ⟨0, []⟩, none) := by
  have := cBits_at (hp := ⟨0, []⟩) (d := byL []) ⟨[], by decide⟩ ⟨rfl, rfl⟩
  rw [bBits, if_pos rfl] at this
  exact orK_left this
theorem in32 (r : BitVec 32) : DV.int .u64 (IntKind.u64.wrap (r.toNat : Int)) = x32 r := by
  have h := r.isLt
  rw [wrapU rfl, Nat.mod_eq_of_lt (by show _ < 2 ^ 64; omega)]
  rfl
theorem fin32 (r : BitVec 32) : DV.int .u32 (IntKind.u32.wrap (r.toNat : Int)) = w32 r := by
  rw [wrapU rfl, Nat.mod_eq_of_lt (show r.toNat < 2 ^ IntKind.u32.bits from r.isLt)]
  rfl
theorem fin8 (r : BitVec 8) : DV.int .u8 (IntKind.u8.wrap (IntKind.u64.wrap (255 - (r.toNat : Int)))) = w8 (~~~ r) := by
  have h := r.isLt
  rw [show (255 - (r.toNat : Int)) = ((255 - r.toNat : Nat) : Int) by omega, wrapU rfl, Nat.mod_eq_of_lt (by show _ < 2 ^ 64; omega), wrapU rfl, Nat.mod_eq_of_lt (by show _ < 2 ^ 8; omega), w8, BitVec.toNat_not]
theorem ansR32 (x : BitVec 32 × Bs) : Ans Try.prog 37 [w32 x.1, byL x.2.1] (w32 (ext32 x.1 x.2.1)) ⟨0, []⟩ := by
  obtain ⟨r, bs, hb⟩ := x
  by_cases hne : bs = []
  · subst hne
    exact zflat_ok tab_ok mixed fun_ok cRef_ok (runN320 (by1 []) r r) (.cons (in32 r) (.cons bits_ref0 (.cons (fin32 r) .nil)))
  · have e : ext32 r bs = (bitsL bs).foldl bst32 r := (bytes_ok32 bs r).symm
    rw [e]
    exact zflat_ok tab_ok mixed fun_ok cRef_ok (runR32 (by1 bs) (bitsL bs).length (kBits bs) r ((bitsL bs).foldl bst32 r) _ (celI (bitsL bs))) (.cons (in32 r) (.cons (bits_ref ⟨bs, hb⟩ hne) (.cons (loopR32 (bitsL bs) (kBits bs) (bitsL_lt bs) (by rw [bitsL_length]; omega) r) (.cons (fin32 _) .nil))))
theorem ansR8 (b : Bs) : Ans Try.prog 34 [byL b.1] (w8 (crc8 b.1)) ⟨0, []⟩ := by
  obtain ⟨bs, hb⟩ := b
  by_cases hne : bs = []
  · subst hne
    exact zflat_ok tab_ok mixed fun_ok cRef_ok (runN80 (by1 []) _) (.cons bits_ref0 (.cons (fin8 255#8) .nil))
  · have e : crc8 bs = ~~~ ((bitsL bs).foldl bst8 255#8) := by rw [bytes_ok8]; rfl
    rw [e]
    exact zflat_ok tab_ok mixed fun_ok cRef_ok (runR8 (by1 bs) (bitsL bs).length (kBits bs) ((bitsL bs).foldl bst8 255#8) _ (celI (bitsL bs))) (.cons (bits_ref ⟨bs, hb⟩ hne) (.cons (loopR8 (bitsL bs) (kBits bs) (bitsL_lt bs) (by rw [bitsL_length]; omega) 255#8) (.cons (fin8 _) .nil)))
def cR32 : CallF := conC 37 (fun x : BitVec 32 × Bs => [w32 x.1, byL x.2.1]) fun x => (w32 (ext32 x.1 x.2.1), ⟨0, []⟩)
theorem cR32_ok : CallOk Try.prog cR32 := conC_ok ansR32 fun _ => fine_w32 _
theorem cR32_at {hp : Hp} {d : DV} (r : BitVec 32) (b : Bs) (h : frz1 hp d (byL b.1)) : cR32 37 [w32 r, d] hp = some (w32 (ext32 r b.1), hp, none) :=
  conC_at (f0 := 37) (A := fun x : BitVec 32 × Bs => [w32 x.1, byL x.2.1]) (B := fun x => (w32 (ext32 x.1 x.2.1), ⟨0, []⟩)) (fun x y hxy => by
    simp only [List.cons.injEq, and_true] at hxy
    simp only [w32_inj hxy.1, byL_inj' hxy.2]) (r, b) ⟨⟨rfl, rfl⟩, h, trivial⟩
def cR8 : CallF := conC 34 (fun b : Bs => [byL b.1]) fun b => (w8 (crc8 b.1), ⟨0, []⟩)
theorem cR8_ok : CallOk Try.prog cR8 := conC_ok ansR8 fun _ => fine_w8 _
theorem cR8_at {hp : Hp} {d : DV} (b : Bs) (h : frz1 hp d (byL b.1)) : cR8 34 [d] hp = some (w8 (crc8 b.1), hp, none) :=
  conC_at (f0 := 34) (A := fun b : Bs => [byL b.1]) (B := fun b => (w8 (crc8 b.1), ⟨0, []⟩)) (fun x y hxy => by
    simp only [List.cons.injEq, and_true] at hxy
    simp only [byL_inj' hxy]) b ⟨h, trivial⟩
theorem sub32 (r : BitVec 32) : DV.int .u32 (IntKind.u32.wrap (4294967295 - (r.toNat : Int))) = w32 (~~~ r) := by
  have h := r.isLt
  rw [show (4294967295 - (r.toNat : Int)) = ((4294967295 - r.toNat : Nat) : Int) by omega, wrapU rfl, Nat.mod_eq_of_lt (by show _ < 2 ^ 32; omega), w32, BitVec.toNat_not]
set_option maxRecDepth 1000000 in
theorem runRC (d : DV) (R Q : BitVec 32) : zflat (zans Try.prog tab ftab cR32 35 [d] [(4, .q (w32 R)), (5, .w (w32 Q))]) =
    some (w32 Q, [cR32 37 [.int .u32 4294967295, d] ⟨0, []⟩ = some (w32 R, ⟨0, []⟩, none), DV.int .u32 (IntKind.u32.wrap (4294967295 - (R.toNat : Int))) = w32 Q]) := by
  kernel_rfl
theorem ansRC (b : Bs) : Ans Try.prog 35 [byL b.1] (w32 (crc32 b.1)) ⟨0, []⟩ :=
  zflat_ok tab_ok mixed fun_ok cR32_ok (runRC (byL b.1) (ext32 4294967295#32 b.1) (crc32 b.1)) (.cons (cR32_at (d := byL b.1) 4294967295#32 b ⟨rfl, rfl⟩) (.cons (sub32 _) .nil))
def cRC : CallF := conC 35 (fun b : Bs => [byL b.1]) fun b => (w32 (crc32 b.1), ⟨0, []⟩)
theorem cRC_ok : CallOk Try.prog cRC := conC_ok ansRC fun _ => fine_w32 _
theorem cRC_at {hp : Hp} {d : DV} (b : Bs) (h : frz1 hp d (byL b.1)) : cRC 35 [d] hp = some (w32 (crc32 b.1), hp, none) :=
  conC_at (f0 := 35) (A := fun b : Bs => [byL b.1]) (B := fun b => (w32 (crc32 b.1), ⟨0, []⟩)) (fun x y hxy => by
    simp only [List.cons.injEq, and_true] at hxy
    simp only [byL_inj' hxy]) b ⟨h, trivial⟩
end
end Go.Proofs.Ytmdomipnjlhmeab
