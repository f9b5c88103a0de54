/- octet's readers of numbers: contracts. -/
import Derived.Test.YtejlbkhddehaiaaBx
import Derived.Test.YtejlbkhddehaiaaFh
namespace Go.Proofs.Ytejlbkhddehaiaa
open Go.RowKit

noncomputable section
theorem Ans.nil3 {P : Program} {f : FuncId} {args : List DV} {x e : Int} (h : Ans P f args (.tuple [.nil, .agg [.nil, .int .i64 x], .int .i64 e]) ⟨0, [], []⟩) : Ans P f args (.tuple [.list 1 [], .agg [.list 1 [], .int .i64 x], .int .i64 e]) ⟨0, [], []⟩ :=
  h.seeH rfl fun _ _ E w _ hs hv => ⟨E, fun _ h => h, yb_none hs.ys rfl, rfl, hs, see_tuple (w := w) (E := E) (E' := E) (ds := [.nil, .agg [.nil, .int .i64 x], .int .i64 e]) (bs := [.list 1 [], .agg [.list 1 [], .int .i64 x], .int .i64 e]) ⟨fun _ h => vr_nl h, fun _ h => see_agg (w := w) (E := E) (E' := E) (ds := [.nil, .int .i64 x]) (bs := [.list 1 [], .int .i64 x]) ⟨fun _ h => vr_nl h, fun _ h => h, trivial⟩ h, fun _ h => h, trivial⟩ hv⟩
theorem Ans.nil2 {P : Program} {f : FuncId} {args : List DV} {k : IntKind} {n x e : Int} (h : Ans P f args (.tuple [.int k n, .agg [.nil, .int .i64 x], .int .i64 e]) ⟨0, [], []⟩) : Ans P f args (.tuple [.int k n, .agg [.list 1 [], .int .i64 x], .int .i64 e]) ⟨0, [], []⟩ :=
  h.seeH rfl fun _ _ E w _ hs hv => ⟨E, fun _ h => h, yb_none hs.ys rfl, rfl, hs, see_tuple (w := w) (E := E) (E' := E) (ds := [.int k n, .agg [.nil, .int .i64 x], .int .i64 e]) (bs := [.int k n, .agg [.list 1 [], .int .i64 x], .int .i64 e]) ⟨fun _ h => h, fun _ h => see_agg (w := w) (E := E) (E' := E) (ds := [.nil, .int .i64 x]) (bs := [.list 1 [], .int .i64 x]) ⟨fun _ h => vr_nl h, fun _ h => h, trivial⟩ h, fun _ h => h, trivial⟩ hv⟩
def rd (b : List UInt8) (x : Int) : DV := .agg [byL b, .int .i64 x]
def cutE (len : Nat) (x n : Int) : Int := if x < 0 ∨ (len : Int) < x then 8 else if n < 0 then 2 else if (len : Int) - x < n then 10 else 0
theorem cutE_zero {len : Nat} {x n : Int} (h : cutE len x n = 0) : 0 ≤ x ∧ x ≤ (len : Int) ∧ 0 ≤ n ∧ x + n ≤ (len : Int) := by
  unfold cutE at h
  split at h
  · omega
  · split at h
    · omega
    · split at h
      · omega
      · omega
def pcB (b : List UInt8) (x n : Int) : List UInt8 := if cutE b.length x n = 0 then (b.drop x.toNat).take n.toNat else []
def afB (b : List UInt8) (x n : Int) : List UInt8 := if cutE b.length x n = 0 then b else []
def afX (b : List UInt8) (x n : Int) : Int := if cutE b.length x n = 0 then x + n else 0
def d3 (b : List UInt8) (x n : Int) : DV := .tuple [byL (pcB b x n), rd (afB b x n) (afX b x n), .int .i64 (cutE b.length x n)]
def leN : List UInt8 → Nat
  | [] => 0
  | c :: r => c.toNat + 256 * leN r
def vA (b : List UInt8) (x n : Int) : Nat := leN (pcB b x n)
def dn (k : IntKind) (b : List UInt8) (x n : Int) : DV := .tuple [.int k (vA b x n : Int), rd (afB b x n) (afX b x n), .int .i64 (cutE b.length x n)]
abbrev BI : Type := Bs × Int
abbrev BII : Type := Bs × Int × Int
theorem rd_inj {a b : Bs} {x y : Int} (h : rd a.1 x = rd b.1 y) : a = b ∧ x = y := by
  simp only [rd, DV.agg.injEq, List.cons.injEq, DV.int.injEq, true_and, and_true] at h
  exact ⟨byL_inj h.1, h.2⟩
theorem wrapZ {z : Int} (h0 : -9223372036854775808 ≤ z) (h1 : z ≤ 9223372036854775807) : IntKind.i64.wrap z = z := by
  simp only [IntKind.wrap, IntKind.bits, IntKind.signed, Bool.true_and]
  split <;> simp_all <;> omega
set_option maxRecDepth 1000000 in
theorem ck1 (xs : List (List DV)) (x : Int) : zflat (zans Try.prog tab ftab noC 120 [.agg [.list 1 xs, .int .i64 x]] [(5, .b true)]) =
    some (.int .i64 8, [decide (x < 0) = true]) := by
  kernel_rfl
set_option maxRecDepth 1000000 in
theorem ck2 (xs : List (List DV)) (x : Int) : zflat (zans Try.prog tab ftab noC 120 [.agg [.list 1 xs, .int .i64 x]] [(5, .b false), (12, .b true)]) =
    some (.int .i64 8, [decide (x < 0) = false, decide (x > (xs.length : Int)) = true]) := by
  kernel_rfl
set_option maxRecDepth 1000000 in
theorem ck3 (xs : List (List DV)) (x : Int) : zflat (zans Try.prog tab ftab noC 120 [.agg [.list 1 xs, .int .i64 x]] [(5, .b false), (12, .b false)]) =
    some (.int .i64 0, [decide (x < 0) = false, decide (x > (xs.length : Int)) = false]) := by
  kernel_rfl
def chkE (b : List UInt8) (x : Int) : Int := if 0 ≤ x ∧ x ≤ (b.length : Int) then 0 else 8
theorem ans_cKk (x : BI) : Ans Try.prog 120 [rd x.1.1 x.2] (.int .i64 (chkE x.1.1 x.2)) ⟨0, [], []⟩ := by
  obtain ⟨⟨b, hb⟩, x⟩ := x
  have hl := by1_length b
  simp only [chkE]
  by_cases h1 : x < 0
  · rw [if_neg (by omega)]
    exact zflat_ok tab_ok mixed fun_ok noC_ok (ck1 (by1 b) x) (.cons (decide_eq_true h1) .nil)
  · by_cases h2 : x > (b.length : Int)
    · rw [if_neg (by omega)]
      exact zflat_ok tab_ok mixed fun_ok noC_ok (ck2 (by1 b) x) (.cons (decide_eq_false h1) (.cons (decide_eq_true (by omega)) .nil))
    · rw [if_pos (by omega)]
      exact zflat_ok tab_ok mixed fun_ok noC_ok (ck3 (by1 b) x) (.cons (decide_eq_false h1) (.cons (decide_eq_false (by omega)) .nil))
def cKk : ConF := liftC (eqC 120 (fun x : BI => [rd x.1.1 x.2]) fun x => (.int .i64 (chkE x.1.1 x.2), ⟨0, [], []⟩))
theorem cKk_ok : ConOk Try.prog cKk := liftC_ok (eqC_ok ans_cKk (fun _ => rfl))
theorem cKk_at (hp : Hp) (x : BI) : cKk 120 [rd x.1.1 x.2] hp = some (.int .i64 (chkE x.1.1 x.2), hp, none) :=
  lift_at (A := fun x : BI => [rd x.1.1 x.2]) (D := fun x => .int .i64 (chkE x.1.1 x.2)) (fun x y hxy => by
    obtain ⟨x1, x2⟩ := x
    obtain ⟨y1, y2⟩ := y
    simp only [List.cons.injEq, and_true] at hxy
    obtain ⟨rfl, rfl⟩ := rd_inj hxy
    rfl) hp x rfl rfl
def slL (h : Hp) (xs : List (List DV)) (lo hi : Int) : Option DV := match tab 37 with
  | some i => sliceD tab h i (.list 1 xs) (some (.int .i64 lo)) (some (.int .i64 hi)) none
  | none => none
theorem slL_eq (h : Hp) (xs : List (List DV)) (lo hi : Int) : slL h xs lo hi = match optI (some (.int .i64 hi)) xs.length, optI (some (.int .i64 lo)) 0 with
    | some h, some l => match Nat.ble l h && Nat.ble h xs.length with
      | true => some (.list 1 ((xs.drop l).take (h - l)))
      | false => none
    | _, _ => none := by kernel_rfl
theorem sl_ok (h : Hp) (b : List UInt8) {x n : Int} (he : cutE b.length x n = 0) : slL h (by1 b) x (x + n) = some (byL (pcB b x n)) := by
  obtain ⟨h1, h2, h3, h4⟩ := cutE_zero he
  rw [slL_eq]
  simp only [optI, decide_eq_true h1, decide_eq_true (show 0 ≤ x + n by omega)]
  rw [show Nat.ble x.toNat (x + n).toNat = true from bleT (by omega), show Nat.ble (x + n).toNat (by1 b).length = true from bleT (by rw [by1_length]; omega)]
  simp only [Bool.and_self]
  rw [show (x + n).toNat - x.toNat = n.toNat by omega]
  unfold pcB
  rw [if_pos he]
  simp [byL, by1, List.map_drop, List.map_take]
set_option maxRecDepth 1000000 in
theorem cu8 (xs : List (List DV)) (x n : Int) : zflat (zans Try.prog tab ftab cKk 117 [.agg [.list 1 xs, .int .i64 x], .int .i64 n] [(10, .q (.int .i64 8))]) =
    some (.tuple [.nil, .agg [.nil, .int .i64 0], .int .i64 8], [cKk 120 [.agg [.list 1 xs, .int .i64 x]] ⟨2, [⟨0, 0, 126, [.nil, .int .i64 0]⟩, ⟨0, 0, 126, [.list 1 xs, .int .i64 x]⟩], []⟩ = some (.int .i64 8, ⟨2, [⟨0, 0, 126, [.nil, .int .i64 0]⟩, ⟨0, 0, 126, [.list 1 xs, .int .i64 x]⟩], []⟩, none)]) := by
  kernel_rfl
set_option maxRecDepth 1000000 in
theorem cu2 (xs : List (List DV)) (x n : Int) : zflat (zans Try.prog tab ftab cKk 117 [.agg [.list 1 xs, .int .i64 x], .int .i64 n] [(10, .q (.int .i64 0)), (16, .b true)]) =
    some (.tuple [.nil, .agg [.nil, .int .i64 0], .int .i64 2], [cKk 120 [.agg [.list 1 xs, .int .i64 x]] ⟨2, [⟨0, 0, 126, [.nil, .int .i64 0]⟩, ⟨0, 0, 126, [.list 1 xs, .int .i64 x]⟩], []⟩ = some (.int .i64 0, ⟨2, [⟨0, 0, 126, [.nil, .int .i64 0]⟩, ⟨0, 0, 126, [.list 1 xs, .int .i64 x]⟩], []⟩, none), decide (n < 0) = true]) := by
  kernel_rfl
set_option maxRecDepth 1000000 in
theorem cu10 (xs : List (List DV)) (x n : Int) : zflat (zans Try.prog tab ftab cKk 117 [.agg [.list 1 xs, .int .i64 x], .int .i64 n] [(10, .q (.int .i64 0)), (16, .b false), (25, .b true)]) =
    some (.tuple [.nil, .agg [.nil, .int .i64 0], .int .i64 10], [cKk 120 [.agg [.list 1 xs, .int .i64 x]] ⟨2, [⟨0, 0, 126, [.nil, .int .i64 0]⟩, ⟨0, 0, 126, [.list 1 xs, .int .i64 x]⟩], []⟩ = some (.int .i64 0, ⟨2, [⟨0, 0, 126, [.nil, .int .i64 0]⟩, ⟨0, 0, 126, [.list 1 xs, .int .i64 x]⟩], []⟩, none), decide (n < 0) = false, decide (n > IntKind.i64.wrap ((xs.length : Int) - x)) = true]) := by
  kernel_rfl
set_option maxRecDepth 1000000 in
theorem cu0 (xs ps : List (List DV)) (x n y : Int) : zflat (zans Try.prog tab ftab cKk 117 [.agg [.list 1 xs, .int .i64 x], .int .i64 n] [(10, .q (.int .i64 0)), (16, .b false), (25, .b false), (30, .w (.int .i64 y)), (36, .n (.list 1 ps))]) =
    some (.tuple [.list 1 ps, .agg [.list 1 xs, .int .i64 y], .int .i64 0], [cKk 120 [.agg [.list 1 xs, .int .i64 x]] ⟨2, [⟨0, 0, 126, [.nil, .int .i64 0]⟩, ⟨0, 0, 126, [.list 1 xs, .int .i64 x]⟩], []⟩ = some (.int .i64 0, ⟨2, [⟨0, 0, 126, [.nil, .int .i64 0]⟩, ⟨0, 0, 126, [.list 1 xs, .int .i64 x]⟩], []⟩, none), decide (n < 0) = false, decide (n > IntKind.i64.wrap ((xs.length : Int) - x)) = false, DV.int .i64 (IntKind.i64.wrap (x + n)) = .int .i64 y, slL ⟨2, [⟨0, 0, 126, [.nil, .int .i64 0]⟩, ⟨0, 0, 126, [.list 1 xs, .int .i64 x]⟩], []⟩ xs x y = some (.list 1 ps)]) := by
  kernel_rfl
theorem ans_cCt (x : BII) : Ans Try.prog 117 [rd x.1.1 x.2.1, .int .i64 x.2.2] (d3 x.1.1 x.2.1 x.2.2) ⟨0, [], []⟩ := by
  obtain ⟨b, x, n⟩ := x
  have hl := by1_length b.1
  have hb := b.2
  have q := fun hp => cKk_at hp (b, x)
  simp only [chkE] at q
  unfold d3
  by_cases h1 : 0 ≤ x ∧ x ≤ (b.1.length : Int)
  · rw [if_pos h1] at q
    have hw : IntKind.i64.wrap (((by1 b.1).length : Int) - x) = (b.1.length : Int) - x := by rw [hl, wrapZ (by omega) (by omega)]
    by_cases h2 : n < 0
    · have he : cutE b.1.length x n = 2 := by unfold cutE; rw [if_neg (by omega), if_pos h2]
      unfold pcB afB afX
      rw [he]
      exact (zflat_ok tab_ok mixed fun_ok cKk_ok (cu2 (by1 b.1) x n) (.cons (q _) (.cons (decide_eq_true h2) .nil))).nil3
    · by_cases h3 : n > (b.1.length : Int) - x
      · have he : cutE b.1.length x n = 10 := by unfold cutE; rw [if_neg (by omega), if_neg h2, if_pos (by omega)]
        unfold pcB afB afX
        rw [he]
        exact (zflat_ok tab_ok mixed fun_ok cKk_ok (cu10 (by1 b.1) x n) (.cons (q _) (.cons (decide_eq_false h2) (.cons (by rw [hw]; exact decide_eq_true h3) .nil)))).nil3
      · have he : cutE b.1.length x n = 0 := by unfold cutE; rw [if_neg (by omega), if_neg h2, if_neg (by omega)]
        have hy : DV.int .i64 (IntKind.i64.wrap (x + n)) = .int .i64 (x + n) := by rw [wrapZ (by omega) (by omega)]
        have hs := fun h => sl_ok h b.1 he
        have ha : afB b.1 x n = b.1 := if_pos he
        have hx : afX b.1 x n = x + n := if_pos he
        rw [ha, hx, he]
        exact zflat_ok tab_ok mixed fun_ok cKk_ok (cu0 (by1 b.1) (by1 (pcB b.1 x n)) x n (x + n)) (.cons (q _) (.cons (decide_eq_false h2) (.cons (by rw [hw]; exact decide_eq_false h3) (.cons hy (.cons (hs _) .nil)))))
  · have he : cutE b.1.length x n = 8 := by unfold cutE; rw [if_pos (by omega)]
    rw [if_neg h1] at q
    unfold pcB afB afX
    rw [he]
    exact (zflat_ok tab_ok mixed fun_ok cKk_ok (cu8 (by1 b.1) x n) (.cons (q _) .nil)).nil3
def cKu : ConF := liftC (eqC 117 (fun x : BII => [rd x.1.1 x.2.1, .int .i64 x.2.2]) fun x => (d3 x.1.1 x.2.1 x.2.2, ⟨0, [], []⟩))
theorem cKu_ok : ConOk Try.prog cKu := liftC_ok (eqC_ok ans_cCt (fun _ => rfl))
theorem cKu_at (hp : Hp) (x : BII) : cKu 117 [rd x.1.1 x.2.1, .int .i64 x.2.2] hp = some (d3 x.1.1 x.2.1 x.2.2, hp, none) :=
  lift_at (A := fun x : BII => [rd x.1.1 x.2.1, .int .i64 x.2.2]) (D := fun x => d3 x.1.1 x.2.1 x.2.2) (fun x y hxy => by
    obtain ⟨x1, x2, x3⟩ := x
    obtain ⟨y1, y2, y3⟩ := y
    simp only [List.cons.injEq, and_true, DV.int.injEq, true_and] at hxy
    obtain ⟨rfl, rfl⟩ := rd_inj hxy.1
    obtain rfl := hxy.2
    rfl) hp x rfl rfl
theorem wrap64 {n : Nat} (h : n < 2 ^ 64) : IntKind.u64.wrap (n : Int) = n := by
  simp only [IntKind.wrap, IntKind.bits, IntKind.signed, Bool.false_and, Bool.false_eq_true, if_false]
  omega
theorem toNat64 {n : Nat} (h : n < 2 ^ 64) : (BitVec.ofInt IntKind.u64.bits (n : Int)).toNat = n := by
  show (BitVec.ofInt 64 (n : Int)).toNat = n
  rw [BitVec.ofInt_natCast, BitVec.toNat_ofNat]
  exact Nat.mod_eq_of_lt h
theorem or64 {x y : Nat} (hx : x < 2 ^ 64) (hy : y < 2 ^ 64) : bitD .or .u64 (x : Int) (y : Int) = ((x ||| y : Nat) : Int) := by
  simp only [bitD, BitVec.toNat_or, toNat64 hx, toNat64 hy]
  exact wrap64 (Nat.or_lt_two_pow hx hy)
def orL : Nat → Int → List Int → Int
  | _, acc, [] => acc
  | i, acc, c :: r => orL (i + 1) (bitD .or .u64 acc (shlD .u64 (IntKind.u64.wrap c) ((8 * i : Nat) : Int))) r
theorem leN_lt : ∀ l : List UInt8, leN l < 256 ^ l.length
  | [] => by simp [leN]
  | c :: r => by
    have h1 := leN_lt r
    have h2 := UInt8.toNat_lt c
    rw [leN, List.length_cons, Nat.pow_succ]
    omega
theorem orL_eq : ∀ (l : List UInt8) (i acc : Nat), i + l.length ≤ 8 → acc < 256 ^ i → orL i (acc : Int) (l.map fun c => (c.toNat : Int)) = ((acc + 256 ^ i * leN l : Nat) : Int)
  | [], i, acc, _, _ => by simp [orL, leN]
  | c :: r, i, acc, h1, h2 => by
    have hc := UInt8.toNat_lt c
    rw [List.length_cons] at h1
    have hp : (256 : Nat) ^ i = 2 ^ (8 * i) := by rw [show (256 : Nat) = 2 ^ 8 from rfl, ← Nat.pow_mul]
    have hp1 : (256 : Nat) ^ (i + 1) = 2 ^ (8 * (i + 1)) := by rw [show (256 : Nat) = 2 ^ 8 from rfl, ← Nat.pow_mul]
    have hle : (2 : Nat) ^ (8 * (i + 1)) ≤ 2 ^ 64 := Nat.pow_le_pow_right (by decide) (by omega)
    have hs : (2 : Nat) ^ (8 * (i + 1)) = 256 * 2 ^ (8 * i) := by rw [show 8 * (i + 1) = 8 + 8 * i by omega, Nat.pow_add]
    have hlt : c.toNat * 2 ^ (8 * i) + 2 ^ (8 * i) ≤ 2 ^ (8 * (i + 1)) := by
      rw [hs, show c.toNat * 2 ^ (8 * i) + 2 ^ (8 * i) = (c.toNat + 1) * 2 ^ (8 * i) by rw [Nat.add_mul, Nat.one_mul]]
      exact Nat.mul_le_mul_right _ (by omega)
    rw [hp] at h2
    rw [List.map_cons, orL, wrap64 (by omega), shlU (k := .u64) rfl _ (by show 8 * i ≤ 64; omega), show (2 : Nat) ^ IntKind.u64.bits = 2 ^ 64 from rfl, Nat.mod_eq_of_lt (by omega), or64 (by omega) (by omega)]
    have ho : acc ||| c.toNat * 2 ^ (8 * i) = acc + c.toNat * 2 ^ (8 * i) := by
      have := Nat.shiftLeft_add_eq_or_of_lt (b := acc) (i := 8 * i) h2 c.toNat
      rw [Nat.shiftLeft_eq] at this
      rw [Nat.or_comm, ← this, Nat.add_comm]
    rw [ho, orL_eq r (i + 1) _ (by omega) (by rw [hp1]; omega)]
    congr 1
    rw [leN, hp, hp1, hs, Nat.mul_add, Nat.add_assoc, Nat.mul_comm c.toNat, show 256 * 2 ^ (8 * i) * leN r = 2 ^ (8 * i) * (256 * leN r) by rw [Nat.mul_comm 256, Nat.mul_assoc]]
set_option maxRecDepth 1000000 in
theorem gt2 (xs ys : List (List DV)) (x y e : Int) (v : Nat) (c0 c1 : UInt8) : zflat (zans Try.prog tab ftab cKu 110 [.agg [.list 1 xs, .int .i64 x]] [(14, .q (.tuple [.list 1 [[i8 c0], [i8 c1]], .agg [.list 1 ys, .int .i64 y], .int .i64 e])), (34, .w (.int .u16 (v : Int)))]) =
    some (.tuple [.int .u16 (v : Int), .agg [.list 1 ys, .int .i64 y], .int .i64 e], [cKu 117 [.agg [.list 1 xs, .int .i64 x], .int .i64 2] ⟨2, [⟨0, 0, 126, [.nil, .int .i64 0]⟩, ⟨0, 0, 126, [.list 1 xs, .int .i64 x]⟩], []⟩ = some (.tuple [.list 1 [[i8 c0], [i8 c1]], .agg [.list 1 ys, .int .i64 y], .int .i64 e], ⟨2, [⟨0, 0, 126, [.nil, .int .i64 0]⟩, ⟨0, 0, 126, [.list 1 xs, .int .i64 x]⟩], []⟩, none), DV.int .u16 (IntKind.u16.wrap (orL 0 0 [(c0.toNat : Int), (c1.toNat : Int)])) = .int .u16 (v : Int)]) := by
  kernel_rfl
set_option maxRecDepth 1000000 in
theorem gz2 (xs ys : List (List DV)) (x y e : Int) : zflat (zans Try.prog tab ftab cKu 110 [.agg [.list 1 xs, .int .i64 x]] [(14, .q (.tuple [.list 1 [], .agg [.list 1 ys, .int .i64 y], .int .i64 e]))]) =
    some (.tuple [.int .u16 0, .agg [.list 1 ys, .int .i64 y], .int .i64 e], [cKu 117 [.agg [.list 1 xs, .int .i64 x], .int .i64 2] ⟨2, [⟨0, 0, 126, [.nil, .int .i64 0]⟩, ⟨0, 0, 126, [.list 1 xs, .int .i64 x]⟩], []⟩ = some (.tuple [.list 1 [], .agg [.list 1 ys, .int .i64 y], .int .i64 e], ⟨2, [⟨0, 0, 126, [.nil, .int .i64 0]⟩, ⟨0, 0, 126, [.list 1 xs, .int .i64 x]⟩], []⟩, none)]) := by
  kernel_rfl
theorem ans_cG2 (x : BI) : Ans Try.prog 110 [rd x.1.1 x.2] (dn .u16 x.1.1 x.2 2) ⟨0, [], []⟩ := by
  obtain ⟨b, x⟩ := x
  have q := fun hp => cKu_at hp (b, x, (2 : Int))
  simp only [d3] at q
  unfold dn vA
  by_cases he : cutE b.1.length x 2 = 0
  · have hlen : (pcB b.1 x 2).length = 2 := by
      obtain ⟨h1, h2, h3, h4⟩ := cutE_zero he
      unfold pcB
      rw [if_pos he, List.length_take, List.length_drop]
      omega
    revert q hlen
    generalize pcB b.1 x 2 = l
    intro q hlen
    match l, hlen with
    | [c0, c1], _ =>
      have hv := orL_eq [c0, c1] 0 0 (by simp) (by decide)
      rw [Nat.pow_zero, Nat.one_mul, Nat.zero_add] at hv
      have hlt := leN_lt [c0, c1]
      generalize hL : leN [c0, c1] = L at *
      exact zflat_ok tab_ok mixed fun_ok cKu_ok (gt2 (by1 b.1) (by1 (afB b.1 x 2)) x _ _ L c0 c1) (.cons (q _) (.cons (congrArg (DV.int .u16) (by rw [show orL 0 0 [(c0.toNat : Int), (c1.toNat : Int)] = (L : Int) from hv, wrapU rfl, Nat.mod_eq_of_lt (by show L < 2 ^ 16; have h := hlt; simp only [List.length_cons, List.length_nil, Nat.zero_add, Nat.reduceAdd, Nat.reducePow] at h; omega)])) .nil))
  · have hz : pcB b.1 x 2 = [] := if_neg he
    rw [hz] at q ⊢
    exact zflat_ok tab_ok mixed fun_ok cKu_ok (gz2 (by1 b.1) (by1 (afB b.1 x 2)) x _ _) (.cons (q _) .nil)
def cG2 : ConF := liftC (eqC 110 (fun x : BI => [rd x.1.1 x.2]) fun x => (dn .u16 x.1.1 x.2 2, ⟨0, [], []⟩))
theorem cG2_ok : ConOk Try.prog cG2 := liftC_ok (eqC_ok ans_cG2 (fun _ => rfl))
theorem cG2_at (hp : Hp) (x : BI) : cG2 110 [rd x.1.1 x.2] hp = some (dn .u16 x.1.1 x.2 2, hp, none) :=
  lift_at (A := fun x : BI => [rd x.1.1 x.2]) (D := fun x => dn .u16 x.1.1 x.2 2) (fun x y hxy => by
    obtain ⟨x1, x2⟩ := x
    obtain ⟨y1, y2⟩ := y
    simp only [List.cons.injEq, and_true] at hxy
    obtain ⟨rfl, rfl⟩ := rd_inj hxy
    rfl) hp x rfl rfl
end
end Go.Proofs.Ytejlbkhddehaiaa
