/- The reference's bits and its check of 8 bits: contracts. -/
import Derived.Test.YtmpmhkjfpeagkaaKn
namespace Go.Proofs.Ytmpmhkjfpeagkaa
open Go.RowKit

noncomputable section
set_option maxRecDepth 1000000 in
theorem roundBits (xs : List (List DV)) (k z : Nat) (c : UInt8) (v0 v1 v2 v3 v4 v5 v6 v7 : Nat) (d0 d1 d2 d3 d4 d5 d6 d7 d8 : DV) (h0 h1 h2 h3 h4 h5 h6 h7 h8 : Hp) (m1 m2 m3 m4 m5 m6 m7 m8 : Mut) : zsee Try.prog tab ftab noC (ksF ftab 57) [0, 3, 4] (loopAt (bodyOf ftab 57) 0) (mkT 30 [(0, .list 1 xs), (3, d0), (4, iN k)]) h0
      [(10, .b true),
      (15, .n (.fptr [i8 c])),
      (17, .w (iN z)),
      (26, .w (iN v0)),
      (28, .h d1 h1 m1),
      (26, .w (iN v1)),
      (28, .h d2 h2 m2),
      (26, .w (iN v2)),
      (28, .h d3 h3 m3),
      (26, .w (iN v3)),
      (28, .h d4 h4 m4),
      (26, .w (iN v4)),
      (28, .h d5 h5 m5),
      (26, .w (iN v5)),
      (28, .h d6 h6 m6),
      (26, .w (iN v6)),
      (28, .h d7 h7 m7),
      (26, .w (iN v7)),
      (28, .h d8 h8 m8),
      (4, .w (iN (k + 1)))] = some (.normal, mkT 30 [(0, .list 1 xs), (3, d8), (4, iN (k + 1))], h8, [decide ((k : Int) < (xs.length : Int)) = true,
      idxOk (k : Int) xs.length = true,
      nth xs (k : Int).toNat = some [i8 c],
      DV.int .i64 (IntKind.i64.wrap (c.toNat : Int)) = iN z,
      DV.int .i64 (Int.tmod (quoD .i64 (z : Int) 128) 2) = iN v0,
      builtinD tab (pushH h0 0 3 [iN v0]) .append [d0, .sl h0.n 0 1 1 1] tyI = some (d1, h1, m1),
      DV.int .i64 (Int.tmod (quoD .i64 (z : Int) 64) 2) = iN v1,
      builtinD tab (pushH h1 0 3 [iN v1]) .append [d1, .sl h1.n 0 1 1 1] tyI = some (d2, h2, m2),
      DV.int .i64 (Int.tmod (quoD .i64 (z : Int) 32) 2) = iN v2,
      builtinD tab (pushH h2 0 3 [iN v2]) .append [d2, .sl h2.n 0 1 1 1] tyI = some (d3, h3, m3),
      DV.int .i64 (Int.tmod (quoD .i64 (z : Int) 16) 2) = iN v3,
      builtinD tab (pushH h3 0 3 [iN v3]) .append [d3, .sl h3.n 0 1 1 1] tyI = some (d4, h4, m4),
      DV.int .i64 (Int.tmod (quoD .i64 (z : Int) 8) 2) = iN v4,
      builtinD tab (pushH h4 0 3 [iN v4]) .append [d4, .sl h4.n 0 1 1 1] tyI = some (d5, h5, m5),
      DV.int .i64 (Int.tmod (quoD .i64 (z : Int) 4) 2) = iN v5,
      builtinD tab (pushH h5 0 3 [iN v5]) .append [d5, .sl h5.n 0 1 1 1] tyI = some (d6, h6, m6),
      DV.int .i64 (Int.tmod (quoD .i64 (z : Int) 2) 2) = iN v6,
      builtinD tab (pushH h6 0 3 [iN v6]) .append [d6, .sl h6.n 0 1 1 1] tyI = some (d7, h7, m7),
      DV.int .i64 (Int.tmod (quoD .i64 (z : Int) 1) 2) = iN v7,
      builtinD tab (pushH h7 0 3 [iN v7]) .append [d7, .sl h7.n 0 1 1 1] tyI = some (d8, h8, m8),
      DV.int .i64 (IntKind.i64.wrap ((k : Int) + 1)) = iN (k + 1)]) := by
  kernel_rfl
set_option maxRecDepth 1000000 in
theorem outBits (xs : List (List DV)) (k : Nat) (d : DV) (h : Hp) : zsee Try.prog tab ftab noC (ksF ftab 57) [0, 3] (loopAt (bodyOf ftab 57) 0) (mkT 30 [(0, .list 1 xs), (3, d), (4, iN k)]) h [(10, .b false)] = some (.exit 0, mkT 30 [(0, .list 1 xs), (3, d)], h, [decide ((k : Int) < (xs.length : Int)) = false]) := by
  kernel_rfl
set_option maxRecDepth 1000000 in
theorem runBits (xs : List (List DV)) (d : DV) (h : Hp) : zans Try.prog tab ftab noC 57 [.list 1 xs] [(0, .l [0, 3, 4] (.exit 0) (mkT 30 [(0, .list 1 xs), (3, d)]) h)] =
    some (d, h, [Goes Try.prog tab (ksF ftab 57) (.loop (loopAt (bodyOf ftab 57) 0)) (mkT 30 [(0, .list 1 xs), (3, .nil), (4, iN 0)]) ⟨0, [], []⟩ (.exit 0) (mkT 30 [(0, .list 1 xs), (3, d)]) h]) := by
  kernel_rfl
/-- the bits of a byte, of bytes, the highest one first -/
def bit8 (c : UInt8) : List Nat := [c.toNat / 128 % 2, c.toNat / 64 % 2, c.toNat / 32 % 2, c.toNat / 16 % 2, c.toNat / 8 % 2, c.toNat / 4 % 2, c.toNat / 2 % 2, c.toNat / 1 % 2]
def bitsL (bs : List UInt8) : List Nat := bs.flatMap bit8
theorem bitsL_length (bs : List UInt8) : (bitsL bs).length = 8 * bs.length := by
  induction bs with
  | nil => rfl
  | cons c bs ih =>
    show (bit8 c ++ bitsL bs).length = _
    rw [List.length_append, ih]
    simp [bit8]
    omega
theorem bit_ok (c : UInt8) (n : Nat) : DV.int .i64 (Int.tmod (quoD .i64 (c.toNat : Int) (n : Int)) 2) = iN (c.toNat / n % 2) := by
  have h := UInt8.toNat_lt c
  have hle : c.toNat / n ≤ c.toNat := Nat.div_le_self _ _
  have : quoD .i64 (c.toNat : Int) (n : Int) = ((c.toNat / n : Nat) : Int) := by
    unfold quoD
    rw [Int.tdiv_eq_ediv_of_nonneg (by omega), show ((c.toNat : Int) / (n : Int)) = ((c.toNat / n : Nat) : Int) from rfl, wrapI (by omega)]
  rw [this, show (2 : Int) = ((2 : Nat) : Int) from rfl]
  rfl
theorem ansBits0 (bs : List UInt8) (hb : bs.length < 2 ^ 30) : ∃ d h, Ans Try.prog 57 [byL bs] d h ∧ SbZ 3 h d (celI (bitsL bs)) ∧ h.ls = [] := by
  have hl := by1_length bs
  have loop := Goes.loopI (P := Try.prog) (T := tab) (ks := (ksF ftab 57)) (x := loopAt (bodyOf ftab 57) 0) (e := .exit 0) bs.length
    (fun k sl h => ∃ d, sl = (fun xs => mkT 30 [(0, .list 1 xs), (3, d), (4, iN k)]) (by1 bs) ∧ SbZ 3 h d (celI (bitsL (bs.take k))) ∧ h.ls = [])
    (fun sl h => ∃ d, sl = (fun xs => mkT 30 [(0, .list 1 xs), (3, d)]) (by1 bs) ∧ SbZ 3 h d (celI (bitsL bs)) ∧ h.ls = []) (by intro h; cases h) ?_ ?_
    (sl := (fun xs => mkT 30 [(0, .list 1 xs), (3, .nil), (4, iN 0)]) (by1 bs)) (hp := ⟨0, [], []⟩) ⟨.nil, rfl, .inl ⟨rfl, rfl⟩, rfl⟩
  · obtain ⟨s1, h, g, d, rfl, sb, z⟩ := loop
    exact ⟨d, h, zans_ok tab_ok mixed fun_ok noC_ok (runBits (by1 bs) d h) (.cons g .nil), sb, z⟩
  · rintro k sl h0 hk ⟨d0, rfl, s0, l0⟩
    have hc : bs[k]? = some bs[k] := List.getElem?_eq_getElem hk
    have hu := UInt8.toNat_lt bs[k]
    have hlk : (bitsL (bs.take k)).length = 8 * k := by rw [bitsL_length, List.length_take]; omega
    obtain ⟨d1, h1, m1, e1, s1, l1⟩ := step_ok (bs[k].toNat / 128 % 2) s0 (by simp only [celI_length, hlk]; omega)
    obtain ⟨d2, h2, m2, e2, s2, l2⟩ := step_ok (bs[k].toNat / 64 % 2) s1 (by simp only [List.length_append, List.length_singleton, celI_length, hlk]; omega)
    obtain ⟨d3, h3, m3, e3, s3, l3⟩ := step_ok (bs[k].toNat / 32 % 2) s2 (by simp only [List.length_append, List.length_singleton, celI_length, hlk]; omega)
    obtain ⟨d4, h4, m4, e4, s4, l4⟩ := step_ok (bs[k].toNat / 16 % 2) s3 (by simp only [List.length_append, List.length_singleton, celI_length, hlk]; omega)
    obtain ⟨d5, h5, m5, e5, s5, l5⟩ := step_ok (bs[k].toNat / 8 % 2) s4 (by simp only [List.length_append, List.length_singleton, celI_length, hlk]; omega)
    obtain ⟨d6, h6, m6, e6, s6, l6⟩ := step_ok (bs[k].toNat / 4 % 2) s5 (by simp only [List.length_append, List.length_singleton, celI_length, hlk]; omega)
    obtain ⟨d7, h7, m7, e7, s7, l7⟩ := step_ok (bs[k].toNat / 2 % 2) s6 (by simp only [List.length_append, List.length_singleton, celI_length, hlk]; omega)
    obtain ⟨d8, h8, m8, e8, s8, l8⟩ := step_ok (bs[k].toNat / 1 % 2) s7 (by simp only [List.length_append, List.length_singleton, celI_length, hlk]; omega)
    refine ⟨_, h8, zsee_ok tab_ok mixed fun_ok noC_ok (roundBits (by1 bs) k bs[k].toNat bs[k] _ _ _ _ _ _ _ _ d0 d1 d2 d3 d4 d5 d6 d7 d8 h0 h1 h2 h3 h4 h5 h6 h7 h8 m1 m2 m3 m4 m5 m6 m7 m8) (.cons (decide_eq_true (by omega)) (.cons (idxOk_lt (by omega)) (.cons (by1_nth hc) (.cons (congrArg (DV.int .i64) (wrapI (n := bs[k].toNat) (by omega))) (.cons (bit_ok _ 128) (.cons e1 (.cons (bit_ok _ 64) (.cons e2 (.cons (bit_ok _ 32) (.cons e3 (.cons (bit_ok _ 16) (.cons e4 (.cons (bit_ok _ 8) (.cons e5 (.cons (bit_ok _ 4) (.cons e6 (.cons (bit_ok _ 2) (.cons e7 (.cons (bit_ok _ 1) (.cons e8 (.cons (congrArg (DV.int .i64) (wrapI (n := k + 1) (by omega))) .nil))))))))))))))))))))), d8, rfl, ?_, by rw [l8, l7, l6, l5, l4, l3, l2, l1, l0]⟩
    have hx : bitsL (bs.take (k + 1)) = bitsL (bs.take k) ++ bit8 bs[k] := by
      rw [List.take_add_one, hc, bitsL, List.flatMap_append]
      simp [bitsL]
    rw [hx, celI_append]
    simp only [List.append_assoc] at s8
    exact s8
  · rintro sl h ⟨d, rfl, s0, z0⟩
    refine ⟨_, h, zsee_ok tab_ok mixed fun_ok noC_ok (outBits (by1 bs) bs.length d h) (.cons (decide_eq_false (by omega)) .nil), d, rfl, ?_, z0⟩
    rw [List.take_length] at s0
    exact s0
theorem ansBits (b : Bs) : Ans Try.prog 57 [byL b.1] (.list 1 (bI (bitsL b.1))) ⟨0, [], []⟩ := by
  obtain ⟨d, h, a, s, l⟩ := ansBits0 b.1 b.2
  rcases s with ⟨rfl, s⟩ | ⟨id, o, rfl, h1, h2, h3, h4⟩
  · have hb : bitsL b.1 = [] := by
      have := congrArg List.length s
      rw [celI_length] at this
      exact List.eq_nil_of_length_eq_zero this
    rw [hb]
    exact Ans.nil0 (AnsH.frz a l FrzD.nil')
  · refine AnsH.frz a l (FrzD.slice (o := o) rfl h1 (by rcases h2 with h | h | h <;> omega) (by rw [bI_length, celI_length]) ?_)
    rw [h4]
    exact bI_frz (bitsL b.1)
def cBits : ConF := liftC (eqC 57 (fun b : Bs => [byL b.1]) fun b => (.list 1 (bI (bitsL b.1)), ⟨0, [], []⟩))
theorem cBits_ok : ConOk Try.prog cBits := liftC_ok (eqC_ok ansBits fun _ => rfl)
theorem cBits_at (hp : Hp) (b : Bs) : cBits 57 [byL b.1] hp = some (.list 1 (bI (bitsL b.1)), hp, none) :=
  lift_at (A := fun b : Bs => [byL b.1]) (D := fun b => .list 1 (bI (bitsL b.1))) (fun x y hxy => by
    simp only [List.cons.injEq, and_true] at hxy
    rw [byL_inj hxy]) hp b rfl rfl
/-- a register after one bit more -/
def bst8 (r : BitVec 8) (b : Nat) : BitVec 8 := if r.toNat / 128 + b = 1 then (r <<< 1) ^^^ 97#8 else r <<< 1
def x8 (r : BitVec 8) : DV := .int .u64 (r.toNat : Int)
set_option maxRecDepth 1000000 in
theorem stepT8 (r s q : Int) (b : Nat) : zflat (zans Try.prog tab ftab noC 58 [.int .u64 r, .int .u64 128, .int .u64 97, iN b] [(0, .w (.int .u64 s)), (22, .b true), (0, .w (.int .u64 q))]) =
    some (.int .u64 q, [DV.int .u64 (IntKind.u64.wrap (Int.tmod r 128 * 2)) = .int .u64 s, (Int.tmod (IntKind.u64.wrap (IntKind.u64.wrap (b : Int) + quoD .u64 r 128)) 2 == 1) = true, DV.int .u64 (bitD .xor .u64 s 97) = .int .u64 q]) := by
  kernel_rfl
set_option maxRecDepth 1000000 in
theorem stepF8 (r s : Int) (b : Nat) : zflat (zans Try.prog tab ftab noC 58 [.int .u64 r, .int .u64 128, .int .u64 97, iN b] [(0, .w (.int .u64 s)), (22, .b false)]) =
    some (.int .u64 s, [DV.int .u64 (IntKind.u64.wrap (Int.tmod r 128 * 2)) = .int .u64 s, (Int.tmod (IntKind.u64.wrap (IntKind.u64.wrap (b : Int) + quoD .u64 r 128)) 2 == 1) = false]) := by
  kernel_rfl
theorem top_quo8 (r : BitVec 8) : quoD .u64 (r.toNat : Int) 128 = ((r.toNat / 128 : Nat) : Int) := by
  have h := r.isLt
  unfold quoD
  rw [Int.tdiv_eq_ediv_of_nonneg (by omega), show ((r.toNat : Int) / 128) = ((r.toNat / 128 : Nat) : Int) from rfl, wrapU rfl, Nat.mod_eq_of_lt]
  show _ < 2 ^ 64
  omega
theorem low_two8 (r : BitVec 8) : DV.int .u64 (IntKind.u64.wrap (Int.tmod (r.toNat : Int) 128 * 2)) = x8 (r <<< 1) := by
  have h := r.isLt
  rw [show Int.tmod (r.toNat : Int) 128 = ((r.toNat % 128 : Nat) : Int) from rfl, show (((r.toNat % 128 : Nat) : Int) * 2) = ((r.toNat % 128 * 2 : Nat) : Int) by omega, wrapU rfl, x8, BitVec.toNat_shiftLeft, Nat.shiftLeft_eq]
  congr 2
  show (r.toNat % 128 * 2) % 2 ^ 64 = r.toNat * 2 ^ 1 % 2 ^ 8
  omega
theorem turn8 (r : BitVec 8) {b : Nat} (hb : b < 2) : (Int.tmod (IntKind.u64.wrap (IntKind.u64.wrap (b : Int) + quoD .u64 (r.toNat : Int) 128)) 2 == 1) = decide (r.toNat / 128 + b = 1) := by
  have h := r.isLt
  have hq : r.toNat / 128 < 2 := by omega
  rw [top_quo8, wrapU rfl, Nat.mod_eq_of_lt (by show b < 2 ^ 64; omega), show ((b : Int) + ((r.toNat / 128 : Nat) : Int)) = ((b + r.toNat / 128 : Nat) : Int) by omega, wrapU rfl, Nat.mod_eq_of_lt (by show _ < 2 ^ 64; omega), show Int.tmod ((b + r.toNat / 128 : Nat) : Int) 2 = (((b + r.toNat / 128) % 2 : Nat) : Int) from rfl]
  by_cases e : r.toNat / 128 + b = 1
  · rw [decide_eq_true e, show (b + r.toNat / 128) % 2 = 1 by omega]
    rfl
  · rw [decide_eq_false e, show (b + r.toNat / 128) % 2 = 0 by omega]
    rfl
theorem ansStep8 (x : BitVec 8 × {b : Nat // b < 2}) : Ans Try.prog 58 [x8 x.1, .int .u64 128, .int .u64 97, iN x.2.1] (x8 (bst8 x.1 x.2.1)) ⟨0, [], []⟩ := by
  obtain ⟨r, b, hb⟩ := x
  by_cases e : r.toNat / 128 + b = 1
  · simp only [bst8, if_pos e]
    refine zflat_ok tab_ok mixed fun_ok noC_ok (stepT8 r.toNat (r <<< 1).toNat ((r <<< 1) ^^^ 97#8).toNat b) (.cons (low_two8 r) (.cons ?_ (.cons ?_ .nil)))
    · rw [turn8 r hb, decide_eq_true e]
    · have h1 : (r <<< 1).toNat < 2 ^ IntKind.u64.bits := Nat.lt_of_lt_of_le (r <<< 1).isLt (by decide)
      rw [show (97 : Int) = ((97#8).toNat : Int) from rfl, xorU rfl h1 (by decide), BitVec.toNat_xor]
  · simp only [bst8, if_neg e]
    refine zflat_ok tab_ok mixed fun_ok noC_ok (stepF8 r.toNat (r <<< 1).toNat b) (.cons (low_two8 r) (.cons ?_ .nil))
    rw [turn8 r hb, decide_eq_false e]
def cStep8 : ConF := liftC (eqC 58 (fun x : BitVec 8 × {b : Nat // b < 2} => [x8 x.1, .int .u64 128, .int .u64 97, iN x.2.1]) fun x => (x8 (bst8 x.1 x.2.1), ⟨0, [], []⟩))
theorem cStep8_ok : ConOk Try.prog cStep8 := liftC_ok (eqC_ok ansStep8 fun _ => rfl)
theorem cStep8_at (hp : Hp) (r : BitVec 8) {b : Nat} (hb : b < 2) : cStep8 58 [x8 r, .int .u64 128, .int .u64 97, iN b] hp = some (x8 (bst8 r b), hp, none) :=
  lift_at (A := fun x : BitVec 8 × {b : Nat // b < 2} => [x8 x.1, .int .u64 128, .int .u64 97, iN x.2.1]) (D := fun x => x8 (bst8 x.1 x.2.1)) (fun x y hxy => by
    obtain ⟨r, b, _⟩ := x
    obtain ⟨s, c, _⟩ := y
    simp only [x8, iN, List.cons.injEq, DV.int.injEq, true_and, and_true] at hxy
    have h1 : r = s := BitVec.eq_of_toNat_eq (by omega)
    have h2 : b = c := by omega
    subst h1 h2
    rfl) hp (r, ⟨b, hb⟩) rfl rfl
def cRef : ConF := orK cBits cStep8
theorem cRef_ok : ConOk Try.prog cRef := orK_ok cBits_ok cStep8_ok
theorem cRef_step (hp : Hp) (r : BitVec 8) {b : Nat} (hb : b < 2) : cRef 58 [x8 r, .int .u64 128, .int .u64 97, iN b] hp = some (x8 (bst8 r b), hp, none) := orK_right (lift_oth (eqC_other (by kernel_rfl))) (cStep8_at hp r hb)
theorem cRef_bits (hp : Hp) (b : Bs) : cRef 57 [byL b.1] hp = some (.list 1 (bI (bitsL b.1)), hp, none) := orK_left (cBits_at hp b)
theorem xor4b' {w : Nat} (a b c d : BitVec w) : a ^^^ b ^^^ (c ^^^ d) = (a ^^^ c) ^^^ (b ^^^ d) := by
  rw [BitVec.xor_assoc, BitVec.xor_assoc, ← BitVec.xor_assoc b c d, ← BitVec.xor_assoc c b d, BitVec.xor_comm b c]
/-- a register after one bit more, by its highest bit -/
def lst8 (r : BitVec 8) (b : Bool) : BitVec 8 := (r <<< 1) ^^^ (if (r.msb ^^ b) = true then 97#8 else 0#8)
theorem bst_lst8 (r : BitVec 8) {b : Nat} (hb : b < 2) : bst8 r b = lst8 r (decide (b = 1)) := by
  have hm : r.msb = decide (r.toNat / 128 = 1) := by
    rw [BitVec.msb_eq_decide]
    have h := r.isLt
    by_cases e : r.toNat / 128 = 1
    · rw [decide_eq_true e, decide_eq_true_eq]; omega
    · rw [decide_eq_false e, decide_eq_false_iff_not]; omega
  have hq : r.toNat / 128 < 2 := by have h := r.isLt; omega
  unfold bst8 lst8
  rw [hm]
  generalize r.toNat / 128 = t at hq
  have h0 : r <<< 1 ^^^ 0#8 = r <<< 1 := BitVec.xor_zero
  match t, b, hq, hb with
  | 0, 0, _, _ => simp
  | 0, 1, _, _ => simp
  | 1, 0, _, _ => simp
  | 1, 1, _, _ => simp
theorem lst_xor8 (r s : BitVec 8) (a b : Bool) : lst8 (r ^^^ s) (a ^^ b) = lst8 r a ^^^ lst8 s b := by
  unfold lst8
  rw [BitVec.shiftLeft_xor_distrib, BitVec.msb_xor]
  have h : (if ((r.msb ^^ s.msb) ^^ (a ^^ b)) = true then 97#8 else 0#8) = (if (r.msb ^^ a) = true then 97#8 else 0#8) ^^^ (if (s.msb ^^ b) = true then 97#8 else 0#8) := by
    cases r.msb <;> cases s.msb <;> cases a <;> cases b <;> rfl
  rw [h]
  exact xor4b' _ _ _ _
def f4_8 (r : BitVec 8) (x : Nat) : BitVec 8 := lst8 (lst8 (lst8 (lst8 r (x.testBit 3)) (x.testBit 2)) (x.testBit 1)) (x.testBit 0)
theorem f4_xor8 (r s : BitVec 8) (x y : Nat) : f4_8 (r ^^^ s) (x ^^^ y) = f4_8 r x ^^^ f4_8 s y := by
  unfold f4_8
  simp only [Nat.testBit_xor, lst_xor8]
theorem f4_top8 : ((List.range 16).all fun t => (List.range 16).all fun x => f4_8 (BitVec.ofNat 8 t <<< 4) x == te8 (t ^^^ x)) = true := by kernel_rfl
theorem f4_low8 (r : BitVec 8) (h : r.toNat < 2 ^ 4) : f4_8 r 0 = r <<< 4 := by
  have one : ∀ (q : BitVec 8), q.toNat < 2 ^ 7 → lst8 q false = q <<< 1 := fun q hq => by
    have : q.msb = false := by rw [BitVec.msb_eq_decide, decide_eq_false_iff_not]; omega
    unfold lst8
    rw [this]
    simp
  have sh : ∀ (q : BitVec 8) (k : Nat), q.toNat < 2 ^ k → k < 8 → (q <<< 1).toNat < 2 ^ (k + 1) := fun q k hq hk => by
    rw [BitVec.toNat_shiftLeft, Nat.shiftLeft_eq]
    exact Nat.lt_of_le_of_lt (Nat.mod_le _ _) (by rw [Nat.pow_succ]; omega)
  have s1 := sh r 4 h (by decide)
  have s2 := sh _ _ s1 (by decide)
  have s3 := sh _ _ s2 (by decide)
  unfold f4_8
  rw [Nat.zero_testBit, Nat.zero_testBit, Nat.zero_testBit, Nat.zero_testBit, one r (Nat.lt_of_lt_of_le h (by decide)), one _ (Nat.lt_of_lt_of_le s1 (by decide)), one _ (Nat.lt_of_lt_of_le s2 (by decide)), one _ (Nat.lt_of_lt_of_le s3 (by decide)), ← BitVec.shiftLeft_add, ← BitVec.shiftLeft_add, ← BitVec.shiftLeft_add]
theorem f4_eq8 (r : BitVec 8) {x : Nat} (hx : x < 16) : f4_8 r x = r <<< 4 ^^^ te8 ((r >>> 4).toNat ^^^ x) := by
  have ht := top8_lt r
  have hl : (BitVec.ofNat 8 (r.toNat % 2 ^ 4)).toNat < 2 ^ 4 := by
    rw [BitVec.toNat_ofNat]
    exact Nat.lt_of_le_of_lt (Nat.mod_le _ _) (Nat.mod_lt _ (by decide))
  have hr : r = BitVec.ofNat 8 (r.toNat % 2 ^ 4) ^^^ BitVec.ofNat 8 (r >>> 4).toNat <<< 4 := by
    apply BitVec.eq_of_getLsbD_eq
    intro i hi
    simp only [BitVec.getLsbD_xor, BitVec.getLsbD_shiftLeft, BitVec.getLsbD_ofNat, hi, decide_true, Bool.true_and, Nat.testBit_mod_two_pow, BitVec.testBit_toNat, BitVec.getLsbD_ushiftRight]
    by_cases h : i < 4
    · simp [h]
    · have e : 4 + (i - 4) = i := by omega
      simp [h, e]
      omega
  have hs : (BitVec.ofNat 8 (r.toNat % 2 ^ 4)) <<< 4 = r <<< 4 := by
    apply BitVec.eq_of_toNat_eq
    rw [BitVec.toNat_shiftLeft, BitVec.toNat_shiftLeft, BitVec.toNat_ofNat, Nat.shiftLeft_eq, Nat.shiftLeft_eq]
    have h := r.isLt
    omega
  have := List.all_eq_true.1 (List.all_eq_true.1 f4_top8 _ (List.mem_range.2 ht)) x (List.mem_range.2 hx)
  have tb := eq_of_beq this
  have key : f4_8 (BitVec.ofNat 8 (r.toNat % 2 ^ 4) ^^^ BitVec.ofNat 8 (r >>> 4).toNat <<< 4) (0 ^^^ x) = r <<< 4 ^^^ te8 ((r >>> 4).toNat ^^^ x) := by
    rw [f4_xor8, f4_low8 _ hl, tb, hs]
  rw [← hr, Nat.zero_xor] at key
  exact key
theorem byte_ok8 (r : BitVec 8) (c : UInt8) : (bit8 c).foldl bst8 r = st8 r c := by
  have hc := UInt8.toNat_lt c
  have hst : st8 r c = f4_8 (f4_8 r (c.toNat / 16)) (c.toNat % 16) := by
    rw [f4_eq8 r (by omega), f4_eq8 _ (Nat.mod_lt _ (by decide))]
    rfl
  have tb : ∀ x i, x.testBit i = decide (x / 2 ^ i % 2 = 1) := fun x i => Nat.testBit_eq_decide_div_mod_eq
  rw [hst]
  simp only [bit8, List.foldl_cons, List.foldl_nil, f4_8, tb]
  rw [bst_lst8 _ (Nat.mod_lt _ (by decide)), bst_lst8 _ (Nat.mod_lt _ (by decide)), bst_lst8 _ (Nat.mod_lt _ (by decide)), bst_lst8 _ (Nat.mod_lt _ (by decide)), bst_lst8 _ (Nat.mod_lt _ (by decide)), bst_lst8 _ (Nat.mod_lt _ (by decide)), bst_lst8 _ (Nat.mod_lt _ (by decide)), bst_lst8 _ (Nat.mod_lt _ (by decide))]
  have e1 : c.toNat / 16 / 2 ^ 3 = c.toNat / 128 := by omega
  have e2 : c.toNat / 16 / 2 ^ 2 = c.toNat / 64 := by omega
  have e3 : c.toNat / 16 / 2 ^ 1 = c.toNat / 32 := by omega
  have e4 : c.toNat / 16 / 2 ^ 0 = c.toNat / 16 := by omega
  have e5 : c.toNat % 16 / 2 ^ 3 % 2 = c.toNat / 8 % 2 := by omega
  have e6 : c.toNat % 16 / 2 ^ 2 % 2 = c.toNat / 4 % 2 := by omega
  have e7 : c.toNat % 16 / 2 ^ 1 % 2 = c.toNat / 2 % 2 := by omega
  have e8 : c.toNat % 16 / 2 ^ 0 % 2 = c.toNat / 1 % 2 := by omega
  rw [e1, e2, e3, e4, e5, e6, e7, e8]
theorem bytes_ok8 (bs : List UInt8) (r : BitVec 8) : (bitsL bs).foldl bst8 r = bs.foldl st8 r := by
  induction bs generalizing r with
  | nil => rfl
  | cons c bs ih =>
    show (bit8 c ++ bitsL bs).foldl bst8 r = _
    rw [List.foldl_append, byte_ok8, ih]
    rfl
theorem bitsL_lt (bs : List UInt8) : ∀ v ∈ bitsL bs, v < 2 := fun v hv => by
  simp only [bitsL, List.mem_flatMap] at hv
  obtain ⟨c, _, h⟩ := hv
  simp only [bit8, List.mem_cons, List.not_mem_nil, or_false] at h
  omega
abbrev fRc : FuncId := 52
abbrev kRc : List (Nat × Nat) := ksF ftab fRc
abbrev rcL : Code := loopAt (bodyOf ftab fRc) 0
abbrev rcS (xs : List (List DV)) (r : BitVec 8) (k : Nat) : Slots := mkT 23 [(3, x8 r), (4, .list 1 xs), (5, iN k)]
set_option maxRecDepth 1000000 in
theorem rnd8 (xs : List (List DV)) (k v : Nat) (r r' : BitVec 8) : zsee Try.prog tab ftab cRef kRc [3, 4, 5] rcL (rcS xs r k) h00 [(11, .b true), (17, .n (.fptr [iN v])), (19, .q (x8 r')), (13, .w (iN (k + 1)))] =
    some (.normal, rcS xs r' (k + 1), h00, (decide ((k : Int) < (xs.length : Int)) = true) :: (idxOk (k : Int) xs.length = true) :: (nth xs ((k : Int).toNat) = some [iN v]) :: (cRef 58 [x8 r, .int .u64 128, .int .u64 97, iN v] h00 = some (x8 r', h00, none)) :: (DV.int .i64 (IntKind.i64.wrap ((k : Int) + 1)) = iN (k + 1)) :: []) := by kernel_rfl
set_option maxRecDepth 1000000 in
theorem ext8Out (xs : List (List DV)) (k : Nat) (r : BitVec 8) : zsee Try.prog tab ftab cRef kRc [3] rcL (rcS xs r k) h00 [(11, .b false)] = some (.exit 0, mkT 23 [(3, x8 r)], h00, (decide ((k : Int) < (xs.length : Int)) = false) :: []) := by kernel_rfl
theorem loopR8 (vs : List Nat) (hv : ∀ v ∈ vs, v < 2) (hl : vs.length < 2 ^ 40) (r0 : BitVec 8) : Goes Try.prog tab kRc (.loop rcL) (rcS (bI vs) r0 0) h00 (.exit 0) (mkT 23 [(3, x8 (vs.foldl bst8 r0))]) h00 := by
  have hb := bI_length vs
  have key := Goes.loop (P := Try.prog) (T := tab) (ks := kRc) (x := rcL) vs.length (fun k => rcS (bI vs) ((vs.take k).foldl bst8 r0) k) (fun _ => h00) (e := .exit 0) (s1 := mkT 23 [(3, x8 ((vs.take vs.length).foldl bst8 r0))]) (h1 := h00) (fun k hk => ?_) ?_ (by intro h; cases h)
  · rw [List.take_length] at key
    exact key
  · obtain ⟨v, hc⟩ : ∃ v, vs[k]? = some v := ⟨_, List.getElem?_eq_getElem hk⟩
    have hf : (vs.take (k + 1)).foldl bst8 r0 = bst8 ((vs.take k).foldl bst8 r0) v := by
      rw [List.take_add_one, hc, List.foldl_append]
      rfl
    simp only [hf]
    exact zsee_ok tab_ok mixed fun_ok cRef_ok (rnd8 (bI vs) k v _ _) (.cons (decide_eq_true (by omega)) (.cons (idxOk_lt (by omega)) (.cons (bI_nth hc) (.cons (cRef_step _ _ (hv v (List.mem_of_getElem? hc))) (.cons (congrArg (DV.int .i64) (wrapI (n := k + 1) (by omega))) .nil)))))
  · exact zsee_ok tab_ok mixed fun_ok cRef_ok (ext8Out (bI vs) vs.length _) (.cons (decide_eq_false (by omega)) .nil)
set_option maxRecDepth 1000000 in
theorem runR8 (xs ys : List (List DV)) (s q : BitVec 8) : zflat (zans Try.prog tab ftab cRef fRc [.list 1 xs] [(7, .q (.list 1 ys)), (0, .l [3, 4, 5] (.exit 0) (mkT 23 [(3, x8 s)]) h00), (22, .w (w8 q))]) =
    some (w8 q, (cRef 57 [.list 1 xs] h00 = some (.list 1 ys, h00, none)) :: (Goes Try.prog tab kRc (.loop rcL) (rcS ys 255#8 0) h00 (.exit 0) (mkT 23 [(3, x8 s)]) h00) :: (DV.int .u8 (IntKind.u8.wrap (IntKind.u64.wrap (255 - (s.toNat : Int)))) = w8 q) :: []) := by kernel_rfl
theorem fin8 (s : BitVec 8) : DV.int .u8 (IntKind.u8.wrap (IntKind.u64.wrap (255 - (s.toNat : Int)))) = w8 (~~~ s) := by
  have h := s.isLt
  have e : (~~~ s).toNat = 255 - s.toNat := by rw [BitVec.toNat_not]
  rw [show (255 : Int) - (s.toNat : Int) = ((255 - s.toNat : Nat) : Int) by omega, wrapU rfl, Nat.mod_eq_of_lt (by show 255 - s.toNat < 2 ^ 64; omega), wrapU rfl, Nat.mod_eq_of_lt (by show 255 - s.toNat < 2 ^ 8; omega), w8, e]
theorem ansRc (b : Bs) : Ans Try.prog fRc [byL b.1] (w8 (crc8 b.1)) ⟨0, [], []⟩ := by
  have g := loopR8 (bitsL b.1) (bitsL_lt b.1) (by rw [bitsL_length]; have := b.2; omega) 255#8
  rw [bytes_ok8] at g
  exact zflat_ok tab_ok mixed fun_ok cRef_ok (runR8 (by1 b.1) (bI (bitsL b.1)) _ _) (.cons (cRef_bits h00 b) (.cons g (.cons (fin8 _) .nil)))
/-- the reference's check of 8 bits, of bytes of the caller's too -/
def cRc : ConF := conC fRc (fun b : Bs => [byL b.1]) fun b => (w8 (crc8 b.1), ⟨0, [], []⟩)
theorem cRc_ok : ConOk Try.prog cRc := conC_ok ansRc fun _ => fine_w8 _
theorem cRc_at {hp : Hp} {d : DV} (b : Bs) (h : frz1 hp d (byL b.1)) : cRc fRc [d] hp = some (w8 (crc8 b.1), hp, none) :=
  conC_at (f0 := fRc) (A := fun b : Bs => [byL b.1]) (B := fun b => (w8 (crc8 b.1), ⟨0, [], []⟩)) (fun x y hxy => by
    simp only [List.cons.injEq, and_true] at hxy
    rw [byL_inj hxy]) b ⟨h, trivial⟩
end
end Go.Proofs.Ytmpmhkjfpeagkaa
