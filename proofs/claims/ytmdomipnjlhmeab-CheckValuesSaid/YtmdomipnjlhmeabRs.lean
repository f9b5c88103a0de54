/- The registers, as the reference computes them. -/
import Derived.Test.YtmdomipnjlhmeabRb
import Derived.Test.YtmdomipnjlhmeabLin
namespace Go.Proofs.Ytmdomipnjlhmeab
open Go.RowKit

noncomputable section
/-- a register after one bit more -/
def bst32 (r : BitVec 32) (b : Nat) : BitVec 32 := if r.toNat / 2147483648 + b = 1 then (r <<< 1) ^^^ 136331795#32 else r <<< 1
def x32 (r : BitVec 32) : DV := .int .u64 (r.toNat : Int)
set_option maxRecDepth 1000000 in
theorem stepT32 (r s q : Int) (b : Nat) : zflat (zans Try.prog tab ftab noC 61 [.int .u64 r, .int .u64 2147483648, .int .u64 136331795, iN b] [(0, .w (.int .u64 s)), (22, .b true), (0, .w (.int .u64 q))]) =
    some (.int .u64 q, [DV.int .u64 (IntKind.u64.wrap (Int.tmod r 2147483648 * 2)) = .int .u64 s, (Int.tmod (IntKind.u64.wrap (IntKind.u64.wrap (b : Int) + quoD .u64 r 2147483648)) 2 == 1) = true, DV.int .u64 (bitD .xor .u64 s 136331795) = .int .u64 q]) := by
  kernel_rfl
set_option maxRecDepth 1000000 in
theorem stepF32 (r s : Int) (b : Nat) : zflat (zans Try.prog tab ftab noC 61 [.int .u64 r, .int .u64 2147483648, .int .u64 136331795, iN b] [(0, .w (.int .u64 s)), (22, .b false)]) =
    some (.int .u64 s, [DV.int .u64 (IntKind.u64.wrap (Int.tmod r 2147483648 * 2)) = .int .u64 s, (Int.tmod (IntKind.u64.wrap (IntKind.u64.wrap (b : Int) + quoD .u64 r 2147483648)) 2 == 1) = false]) := by
  kernel_rfl
theorem top_quo32 (r : BitVec 32) : quoD .u64 (r.toNat : Int) 2147483648 = ((r.toNat / 2147483648 : Nat) : Int) := by
  have h := r.isLt
  unfold quoD
  rw [Int.tdiv_eq_ediv_of_nonneg (by omega), show ((r.toNat : Int) / 2147483648) = ((r.toNat / 2147483648 : Nat) : Int) from rfl, wrapU rfl, Nat.mod_eq_of_lt]
  show _ < 2 ^ 64
  omega
theorem low_two32 (r : BitVec 32) : DV.int .u64 (IntKind.u64.wrap (Int.tmod (r.toNat : Int) 2147483648 * 2)) = x32 (r <<< 1) := by
  have h := r.isLt
  rw [show Int.tmod (r.toNat : Int) 2147483648 = ((r.toNat % 2147483648 : Nat) : Int) from rfl, show (((r.toNat % 2147483648 : Nat) : Int) * 2) = ((r.toNat % 2147483648 * 2 : Nat) : Int) by omega, wrapU rfl, x32, BitVec.toNat_shiftLeft, Nat.shiftLeft_eq]
  congr 2
  show (r.toNat % 2147483648 * 2) % 2 ^ 64 = r.toNat * 2 ^ 1 % 2 ^ 32
  omega
theorem turn32 (r : BitVec 32) {b : Nat} (hb : b < 2) : (Int.tmod (IntKind.u64.wrap (IntKind.u64.wrap (b : Int) + quoD .u64 (r.toNat : Int) 2147483648)) 2 == 1) = decide (r.toNat / 2147483648 + b = 1) := by
  have h := r.isLt
  have hq : r.toNat / 2147483648 < 2 := by omega
  rw [top_quo32, wrapU rfl, Nat.mod_eq_of_lt (by show b < 2 ^ 64; omega), show ((b : Int) + ((r.toNat / 2147483648 : Nat) : Int)) = ((b + r.toNat / 2147483648 : Nat) : Int) by omega, wrapU rfl, Nat.mod_eq_of_lt (by show _ < 2 ^ 64; omega), show Int.tmod ((b + r.toNat / 2147483648 : Nat) : Int) 2 = (((b + r.toNat / 2147483648) % 2 : Nat) : Int) from rfl]
  by_cases e : r.toNat / 2147483648 + b = 1
  · rw [decide_eq_true e, show (b + r.toNat / 2147483648) % 2 = 1 by omega]
    rfl
  · rw [decide_eq_false e, show (b + r.toNat / 2147483648) % 2 = 0 by omega]
    rfl
theorem ansStep32 (x : BitVec 32 × {b : Nat // b < 2}) : Ans Try.prog 61 [x32 x.1, .int .u64 2147483648, .int .u64 136331795, iN x.2.1] (x32 (bst32 x.1 x.2.1)) ⟨0, []⟩ := by
  obtain ⟨r, b, hb⟩ := x
  by_cases e : r.toNat / 2147483648 + b = 1
  · simp only [bst32, if_pos e]
    refine zflat_ok tab_ok mixed fun_ok noC_ok (stepT32 r.toNat (r <<< 1).toNat ((r <<< 1) ^^^ 136331795#32).toNat b) (.cons (low_two32 r) (.cons ?_ (.cons ?_ .nil)))
    · rw [turn32 r hb, decide_eq_true e]
    · have h1 : (r <<< 1).toNat < 2 ^ IntKind.u64.bits := Nat.lt_of_lt_of_le (r <<< 1).isLt (by decide)
      rw [show (136331795 : Int) = ((136331795#32).toNat : Int) from rfl, xorU rfl h1 (by decide), BitVec.toNat_xor]
  · simp only [bst32, if_neg e]
    refine zflat_ok tab_ok mixed fun_ok noC_ok (stepF32 r.toNat (r <<< 1).toNat b) (.cons (low_two32 r) (.cons ?_ .nil))
    rw [turn32 r hb, decide_eq_false e]
def cStep32 : CallF := conC 61 (fun x : BitVec 32 × {b : Nat // b < 2} => [x32 x.1, .int .u64 2147483648, .int .u64 136331795, iN x.2.1]) fun x => (x32 (bst32 x.1 x.2.1), ⟨0, []⟩)
theorem cStep32_ok : CallOk Try.prog cStep32 := conC_ok ansStep32 fun _ => ⟨rfl, fun id o h => by simp [Hp.get_eq] at h, rfl⟩
theorem cStep32_at {hp : Hp} (r : BitVec 32) {b : Nat} (hb : b < 2) : cStep32 61 [x32 r, .int .u64 2147483648, .int .u64 136331795, iN b] hp = some (x32 (bst32 r b), hp, none) :=
  conC_at (f0 := 61) (A := fun x : BitVec 32 × {b : Nat // b < 2} => [x32 x.1, .int .u64 2147483648, .int .u64 136331795, iN x.2.1]) (fun x y hxy => by
    obtain ⟨r, b, _⟩ := x
    obtain ⟨s, c, _⟩ := y
    simp only [x32, iN, List.cons.injEq, DV.int.injEq, true_and, and_true] at hxy
    have h1 : r = s := BitVec.eq_of_toNat_eq (by omega)
    have h2 : b = c := by omega
    subst h1 h2
    rfl) (r, ⟨b, hb⟩) ⟨⟨rfl, rfl⟩, ⟨rfl, rfl⟩, ⟨rfl, rfl⟩, ⟨rfl, rfl⟩, trivial⟩
/-- a register after one bit more -/
def bst8 (r : BitVec 8) (b : Nat) : BitVec 8 := if r.toNat / 128 + b = 1 then (r <<< 1) ^^^ 97#8 else r <<< 1
def x8 (r : BitVec 8) : DV := .int .u64 (r.toNat : Int)
set_option maxRecDepth 1000000 in
theorem stepT8 (r s q : Int) (b : Nat) : zflat (zans Try.prog tab ftab noC 61 [.int .u64 r, .int .u64 128, .int .u64 97, iN b] [(0, .w (.int .u64 s)), (22, .b true), (0, .w (.int .u64 q))]) =
    some (.int .u64 q, [DV.int .u64 (IntKind.u64.wrap (Int.tmod r 128 * 2)) = .int .u64 s, (Int.tmod (IntKind.u64.wrap (IntKind.u64.wrap (b : Int) + quoD .u64 r 128)) 2 == 1) = true, DV.int .u64 (bitD .xor .u64 s 97) = .int .u64 q]) := by
  kernel_rfl
set_option maxRecDepth 1000000 in
theorem stepF8 (r s : Int) (b : Nat) : zflat (zans Try.prog tab ftab noC 61 [.int .u64 r, .int .u64 128, .int .u64 97, iN b] [(0, .w (.int .u64 s)), (22, .b false)]) =
    some (.int .u64 s, [DV.int .u64 (IntKind.u64.wrap (Int.tmod r 128 * 2)) = .int .u64 s, (Int.tmod (IntKind.u64.wrap (IntKind.u64.wrap (b : Int) + quoD .u64 r 128)) 2 == 1) = false]) := by
  kernel_rfl
theorem top_quo8 (r : BitVec 8) : quoD .u64 (r.toNat : Int) 128 = ((r.toNat / 128 : Nat) : Int) := by
  have h := r.isLt
  unfold quoD
  rw [Int.tdiv_eq_ediv_of_nonneg (by omega), show ((r.toNat : Int) / 128) = ((r.toNat / 128 : Nat) : Int) from rfl, wrapU rfl, Nat.mod_eq_of_lt]
  show _ < 2 ^ 64
  omega
theorem low_two8 (r : BitVec 8) : DV.int .u64 (IntKind.u64.wrap (Int.tmod (r.toNat : Int) 128 * 2)) = x8 (r <<< 1) := by
  have h := r.isLt
  rw [show Int.tmod (r.toNat : Int) 128 = ((r.toNat % 128 : Nat) : Int) from rfl, show (((r.toNat % 128 : Nat) : Int) * 2) = ((r.toNat % 128 * 2 : Nat) : Int) by omega, wrapU rfl, x8, BitVec.toNat_shiftLeft, Nat.shiftLeft_eq]
  congr 2
  show (r.toNat % 128 * 2) % 2 ^ 64 = r.toNat * 2 ^ 1 % 2 ^ 8
  omega
theorem turn8 (r : BitVec 8) {b : Nat} (hb : b < 2) : (Int.tmod (IntKind.u64.wrap (IntKind.u64.wrap (b : Int) + quoD .u64 (r.toNat : Int) 128)) 2 == 1) = decide (r.toNat / 128 + b = 1) := by
  have h := r.isLt
  have hq : r.toNat / 128 < 2 := by omega
  rw [top_quo8, wrapU rfl, Nat.mod_eq_of_lt (by show b < 2 ^ 64; omega), show ((b : Int) + ((r.toNat / 128 : Nat) : Int)) = ((b + r.toNat / 128 : Nat) : Int) by omega, wrapU rfl, Nat.mod_eq_of_lt (by show _ < 2 ^ 64; omega), show Int.tmod ((b + r.toNat / 128 : Nat) : Int) 2 = (((b + r.toNat / 128) % 2 : Nat) : Int) from rfl]
  by_cases e : r.toNat / 128 + b = 1
  · rw [decide_eq_true e, show (b + r.toNat / 128) % 2 = 1 by omega]
    rfl
  · rw [decide_eq_false e, show (b + r.toNat / 128) % 2 = 0 by omega]
    rfl
theorem ansStep8 (x : BitVec 8 × {b : Nat // b < 2}) : Ans Try.prog 61 [x8 x.1, .int .u64 128, .int .u64 97, iN x.2.1] (x8 (bst8 x.1 x.2.1)) ⟨0, []⟩ := by
  obtain ⟨r, b, hb⟩ := x
  by_cases e : r.toNat / 128 + b = 1
  · simp only [bst8, if_pos e]
    refine zflat_ok tab_ok mixed fun_ok noC_ok (stepT8 r.toNat (r <<< 1).toNat ((r <<< 1) ^^^ 97#8).toNat b) (.cons (low_two8 r) (.cons ?_ (.cons ?_ .nil)))
    · rw [turn8 r hb, decide_eq_true e]
    · have h1 : (r <<< 1).toNat < 2 ^ IntKind.u64.bits := Nat.lt_of_lt_of_le (r <<< 1).isLt (by decide)
      rw [show (97 : Int) = ((97#8).toNat : Int) from rfl, xorU rfl h1 (by decide), BitVec.toNat_xor]
  · simp only [bst8, if_neg e]
    refine zflat_ok tab_ok mixed fun_ok noC_ok (stepF8 r.toNat (r <<< 1).toNat b) (.cons (low_two8 r) (.cons ?_ .nil))
    rw [turn8 r hb, decide_eq_false e]
def cStep8 : CallF := conC 61 (fun x : BitVec 8 × {b : Nat // b < 2} => [x8 x.1, .int .u64 128, .int .u64 97, iN x.2.1]) fun x => (x8 (bst8 x.1 x.2.1), ⟨0, []⟩)
theorem cStep8_ok : CallOk Try.prog cStep8 := conC_ok ansStep8 fun _ => ⟨rfl, fun id o h => by simp [Hp.get_eq] at h, rfl⟩
theorem cStep8_at {hp : Hp} (r : BitVec 8) {b : Nat} (hb : b < 2) : cStep8 61 [x8 r, .int .u64 128, .int .u64 97, iN b] hp = some (x8 (bst8 r b), hp, none) :=
  conC_at (f0 := 61) (A := fun x : BitVec 8 × {b : Nat // b < 2} => [x8 x.1, .int .u64 128, .int .u64 97, iN x.2.1]) (fun x y hxy => by
    obtain ⟨r, b, _⟩ := x
    obtain ⟨s, c, _⟩ := y
    simp only [x8, iN, List.cons.injEq, DV.int.injEq, true_and, and_true] at hxy
    have h1 : r = s := BitVec.eq_of_toNat_eq (by omega)
    have h2 : b = c := by omega
    subst h1 h2
    rfl) (r, ⟨b, hb⟩) ⟨⟨rfl, rfl⟩, ⟨rfl, rfl⟩, ⟨rfl, rfl⟩, ⟨rfl, rfl⟩, trivial⟩
def cRef : CallF := orK cBits (orK cStep32 cStep8)
theorem cRef_ok : CallOk Try.prog cRef := orK_ok cBits_ok (orK_ok cStep32_ok cStep8_ok)
theorem conC_miss {α : Type} {f0 : FuncId} {A : α → List DV} {B : α → DV × Hp} {f : FuncId} {args : List DV} {hp : Hp} (h : ∀ x, ¬ Frz hp args (A x)) : conC f0 A B f args hp = none := by
  unfold conC
  split
  · rw [dif_neg fun ⟨x, hx⟩ => h x hx]
  · rfl
theorem cRef_step32 {hp : Hp} (r : BitVec 32) {b : Nat} (hb : b < 2) : cRef 61 [x32 r, .int .u64 2147483648, .int .u64 136331795, iN b] hp = some (x32 (bst32 r b), hp, none) :=
  orK_right (conC_other (by kernel_rfl)) (orK_left (cStep32_at r hb))
theorem cRef_step8 {hp : Hp} (r : BitVec 8) {b : Nat} (hb : b < 2) : cRef 61 [x8 r, .int .u64 128, .int .u64 97, iN b] hp = some (x8 (bst8 r b), hp, none) :=
  orK_right (conC_other (by kernel_rfl)) (orK_right (conC_miss fun x hx => by
    have := hx.2.1.2
    simp at this) (cStep8_at r hb))
set_option maxRecDepth 1000000 in
theorem rnd32 (n k v kk : Nat) (r r' : BitVec 32) (cl : List DV) : zsee Try.prog tab ftab cRef (ksF ftab 37) [5, 6, 7] (loopAt (bodyOf ftab 37) 0) (mkT 26 [(5, x32 r), (6, .sl 0 0 1 n n), (7, iN k)]) (ownH 3 kk cl)
      [(15, .b true), (21, .n (.ptr 0 k)), (22, .n (iN v)), (23, .q (x32 r')), (7, .w (iN (k + 1)))] =
    some (.normal, mkT 26 [(5, x32 r'), (6, .sl 0 0 1 n n), (7, iN (k + 1))], ownH 3 kk cl, [decide ((k : Int) < (n : Int)) = true, idxOk (k : Int) n = true, DV.ptr 0 (0 + (k : Int).toNat * 1) = .ptr 0 k, nth cl k = some (iN v),
      cRef 61 [x32 r, .int .u64 2147483648, .int .u64 136331795, iN v] (ownH 3 kk cl) = some (x32 r', ownH 3 kk cl, none), DV.int .i64 (IntKind.i64.wrap ((k : Int) + 1)) = iN (k + 1)]) := by
  kernel_rfl
set_option maxRecDepth 1000000 in
theorem ext32Out (n k kk : Nat) (r : BitVec 32) (cl : List DV) : zsee Try.prog tab ftab cRef (ksF ftab 37) [5] (loopAt (bodyOf ftab 37) 0) (mkT 26 [(5, x32 r), (6, .sl 0 0 1 n n), (7, iN k)]) (ownH 3 kk cl) [(15, .b false)] = some (.exit 0, mkT 26 [(5, x32 r)], ownH 3 kk cl, [decide ((k : Int) < (n : Int)) = false]) := by
  kernel_rfl
theorem loopR32 (vs : List Nat) (kk : Nat) (hv : ∀ v ∈ vs, v < 2) (hl : vs.length < 2 ^ 40) (r0 : BitVec 32) : Goes Try.prog tab (ksF ftab 37) (.loop (loopAt (bodyOf ftab 37) 0)) ((fun n => mkT 26 [(5, x32 r0), (6, .sl 0 0 1 n n), (7, iN 0)]) vs.length) (ownH 3 kk (celI vs)) (.exit 0) (mkT 26 [(5, x32 (vs.foldl bst32 r0))]) (ownH 3 kk (celI vs)) := by
  have key := Goes.loop (P := Try.prog) (T := tab) (ks := (ksF ftab 37)) (x := loopAt (bodyOf ftab 37) 0) vs.length (fun k => (fun n => (fun r => mkT 26 [(5, x32 r), (6, .sl 0 0 1 n n), (7, iN k)]) ((vs.take k).foldl bst32 r0)) vs.length) (fun _ => ownH 3 kk (celI vs)) (e := .exit 0) (s1 := mkT 26 [(5, x32 (vs.foldl bst32 r0))]) (h1 := ownH 3 kk (celI vs)) ?_ ?_ (by intro h; cases h)
  · exact key
  · intro k hk
    obtain ⟨v, hc⟩ : ∃ v, vs[k]? = some v := ⟨_, List.getElem?_eq_getElem hk⟩
    have hf : (vs.take (k + 1)).foldl bst32 r0 = bst32 ((vs.take k).foldl bst32 r0) v := by
      rw [List.take_add_one, hc, List.foldl_append]
      rfl
    simp only [hf]
    refine zsee_ok tab_ok mixed fun_ok cRef_ok (rnd32 vs.length k v kk _ _ _) (.cons (decide_eq_true (by omega)) (.cons (idxOk_lt hk) (.cons (by rw [Int.toNat_natCast]; simp) (.cons ?_ (.cons (cRef_step32 _ (hv v (List.mem_of_getElem? hc))) (.cons (congrArg (DV.int .i64) (wrapI (n := k + 1) (by omega))) .nil))))))
    rw [nth_eq, celI, List.getElem?_map, hc]
    rfl
  · have hf : (vs.take vs.length) = vs := List.take_length
    simp only [hf]
    exact zsee_ok tab_ok mixed fun_ok cRef_ok (ext32Out vs.length vs.length kk _ _) (.cons (decide_eq_false (by omega)) .nil)
set_option maxRecDepth 1000000 in
theorem runR32 (xs : List (List DV)) (n kk : Nat) (r0 : BitVec 32) (s q : BitVec 32) (cl : List DV) : zflat (zans Try.prog tab ftab cRef 37 [w32 r0, .list 1 xs] [(5, .w (x32 r0)), (11, .r (.sl 0 0 1 n n) (ownH 3 kk cl)), (0, .l [5, 6, 7] (.exit 0) (mkT 26 [(5, x32 s)]) (ownH 3 kk cl)), (25, .w (w32 q))]) =
    some (w32 q, [DV.int .u64 (IntKind.u64.wrap (r0.toNat : Int)) = x32 r0, cRef 60 [.list 1 xs] ⟨0, []⟩ = some (.sl 0 0 1 n n, ownH 3 kk cl, none), Goes Try.prog tab (ksF ftab 37) (.loop (loopAt (bodyOf ftab 37) 0)) (mkT 26 [(5, (x32 r0)), (6, .sl 0 0 1 n n), (7, iN 0)]) (ownH 3 kk cl) (.exit 0) (mkT 26 [(5, x32 s)]) (ownH 3 kk cl), DV.int .u32 (IntKind.u32.wrap (s.toNat : Int)) = w32 q]) := by
  kernel_rfl
set_option maxRecDepth 1000000 in
theorem runN320 (xs : List (List DV)) (r0 : BitVec 32) (q : BitVec 32) : zflat (zans Try.prog tab ftab cRef 37 [w32 r0, .list 1 xs] [(5, .w (x32 r0)), (11, .q .nil), (25, .w (w32 q))]) =
    some (w32 q, [DV.int .u64 (IntKind.u64.wrap (r0.toNat : Int)) = x32 r0, cRef 60 [.list 1 xs] ⟨0, []⟩ = some (.nil, ⟨0, []⟩, none), DV.int .u32 (IntKind.u32.wrap (r0.toNat : Int)) = w32 q]) := by
  kernel_rfl
set_option maxRecDepth 1000000 in
theorem rnd8 (n k v kk : Nat) (r r' : BitVec 8) (cl : List DV) : zsee Try.prog tab ftab cRef (ksF ftab 34) [3, 4, 5] (loopAt (bodyOf ftab 34) 0) (mkT 23 [(3, x8 r), (4, .sl 0 0 1 n n), (5, iN k)]) (ownH 3 kk cl)
      [(11, .b true), (17, .n (.ptr 0 k)), (18, .n (iN v)), (19, .q (x8 r')), (5, .w (iN (k + 1)))] =
    some (.normal, mkT 23 [(3, x8 r'), (4, .sl 0 0 1 n n), (5, iN (k + 1))], ownH 3 kk cl, [decide ((k : Int) < (n : Int)) = true, idxOk (k : Int) n = true, DV.ptr 0 (0 + (k : Int).toNat * 1) = .ptr 0 k, nth cl k = some (iN v),
      cRef 61 [x8 r, .int .u64 128, .int .u64 97, iN v] (ownH 3 kk cl) = some (x8 r', ownH 3 kk cl, none), DV.int .i64 (IntKind.i64.wrap ((k : Int) + 1)) = iN (k + 1)]) := by
  kernel_rfl
set_option maxRecDepth 1000000 in
theorem ext8Out (n k kk : Nat) (r : BitVec 8) (cl : List DV) : zsee Try.prog tab ftab cRef (ksF ftab 34) [3] (loopAt (bodyOf ftab 34) 0) (mkT 23 [(3, x8 r), (4, .sl 0 0 1 n n), (5, iN k)]) (ownH 3 kk cl) [(11, .b false)] = some (.exit 0, mkT 23 [(3, x8 r)], ownH 3 kk cl, [decide ((k : Int) < (n : Int)) = false]) := by
  kernel_rfl
theorem loopR8 (vs : List Nat) (kk : Nat) (hv : ∀ v ∈ vs, v < 2) (hl : vs.length < 2 ^ 40) (r0 : BitVec 8) : Goes Try.prog tab (ksF ftab 34) (.loop (loopAt (bodyOf ftab 34) 0)) ((fun n => mkT 23 [(3, x8 r0), (4, .sl 0 0 1 n n), (5, iN 0)]) vs.length) (ownH 3 kk (celI vs)) (.exit 0) (mkT 23 [(3, x8 (vs.foldl bst8 r0))]) (ownH 3 kk (celI vs)) := by
  have key := Goes.loop (P := Try.prog) (T := tab) (ks := (ksF ftab 34)) (x := loopAt (bodyOf ftab 34) 0) vs.length (fun k => (fun n => (fun r => mkT 23 [(3, x8 r), (4, .sl 0 0 1 n n), (5, iN k)]) ((vs.take k).foldl bst8 r0)) vs.length) (fun _ => ownH 3 kk (celI vs)) (e := .exit 0) (s1 := mkT 23 [(3, x8 (vs.foldl bst8 r0))]) (h1 := ownH 3 kk (celI vs)) ?_ ?_ (by intro h; cases h)
  · exact key
  · intro k hk
    obtain ⟨v, hc⟩ : ∃ v, vs[k]? = some v := ⟨_, List.getElem?_eq_getElem hk⟩
    have hf : (vs.take (k + 1)).foldl bst8 r0 = bst8 ((vs.take k).foldl bst8 r0) v := by
      rw [List.take_add_one, hc, List.foldl_append]
      rfl
    simp only [hf]
    refine zsee_ok tab_ok mixed fun_ok cRef_ok (rnd8 vs.length k v kk _ _ _) (.cons (decide_eq_true (by omega)) (.cons (idxOk_lt hk) (.cons (by rw [Int.toNat_natCast]; simp) (.cons ?_ (.cons (cRef_step8 _ (hv v (List.mem_of_getElem? hc))) (.cons (congrArg (DV.int .i64) (wrapI (n := k + 1) (by omega))) .nil))))))
    rw [nth_eq, celI, List.getElem?_map, hc]
    rfl
  · have hf : (vs.take vs.length) = vs := List.take_length
    simp only [hf]
    exact zsee_ok tab_ok mixed fun_ok cRef_ok (ext8Out vs.length vs.length kk _ _) (.cons (decide_eq_false (by omega)) .nil)
set_option maxRecDepth 1000000 in
theorem runR8 (xs : List (List DV)) (n kk : Nat) (s q : BitVec 8) (cl : List DV) : zflat (zans Try.prog tab ftab cRef 34 [.list 1 xs] [(7, .r (.sl 0 0 1 n n) (ownH 3 kk cl)), (0, .l [3, 4, 5] (.exit 0) (mkT 23 [(3, x8 s)]) (ownH 3 kk cl)), (22, .w (w8 q))]) =
    some (w8 q, [cRef 60 [.list 1 xs] ⟨0, []⟩ = some (.sl 0 0 1 n n, ownH 3 kk cl, none), Goes Try.prog tab (ksF ftab 34) (.loop (loopAt (bodyOf ftab 34) 0)) (mkT 23 [(3, (.int .u64 255)), (4, .sl 0 0 1 n n), (5, iN 0)]) (ownH 3 kk cl) (.exit 0) (mkT 23 [(3, x8 s)]) (ownH 3 kk cl), DV.int .u8 (IntKind.u8.wrap (IntKind.u64.wrap (255 - (s.toNat : Int)))) = w8 q]) := by
  kernel_rfl
set_option maxRecDepth 1000000 in
theorem runN80 (xs : List (List DV)) (q : BitVec 8) : zflat (zans Try.prog tab ftab cRef 34 [.list 1 xs] [(7, .q .nil), (22, .w (w8 q))]) =
    some (w8 q, [cRef 60 [.list 1 xs] ⟨0, []⟩ = some (.nil, ⟨0, []⟩, none), DV.int .u8 (IntKind.u8.wrap (IntKind.u64.wrap (255 - 255))) = w8 q]) := by
  kernel_rfl
end
end Go.Proofs.Ytmdomipnjlhmeab
