/- The bits of bytes, as the reference lists them. -/
import Derived.Test.YtmdomipnjlhmeabCr
import Derived.Test.YtmdomipnjlhmeabBz
namespace Go.Proofs.Ytmdomipnjlhmeab
open Go.RowKit

noncomputable section
abbrev tyI : List Nat := [78, 78]
abbrev intTI : TI := ⟨.int .i64, 1, 8, [.int .i64 0], true⟩
theorem app_tabI (hp : Hp) (d x : DV) : builtinD tab hp .append [d, x] tyI = match contD hp 1 x with
    | some (m, news) => appH hp 3 intTI d m news
    | none => none := by kernel_rfl
set_option maxRecDepth 1000000 in
theorem roundBits (xs : List (List DV)) (k z : Nat) (c : UInt8) (v0 v1 v2 v3 v4 v5 v6 v7 : Nat) (d0 d1 d2 d3 d4 d5 d6 d7 d8 : DV) (h0 h1 h2 h3 h4 h5 h6 h7 h8 : Hp) (m1 m2 m3 m4 m5 m6 m7 m8 : Mut) : zsee Try.prog tab ftab noC (ksF ftab 60) [0, 3, 4] (loopAt (bodyOf ftab 60) 0) (mkT 30 [(0, .list 1 xs), (3, d0), (4, iN k)]) h0
      [(10, .b true),
      (15, .n (.fptr [i8 c])),
      (17, .w (iN z)),
      (26, .w (iN v0)),
      (28, .h d1 h1 m1),
      (26, .w (iN v1)),
      (28, .h d2 h2 m2),
      (26, .w (iN v2)),
      (28, .h d3 h3 m3),
      (26, .w (iN v3)),
      (28, .h d4 h4 m4),
      (26, .w (iN v4)),
      (28, .h d5 h5 m5),
      (26, .w (iN v5)),
      (28, .h d6 h6 m6),
      (26, .w (iN v6)),
      (28, .h d7 h7 m7),
      (26, .w (iN v7)),
      (28, .h d8 h8 m8),
      (4, .w (iN (k + 1)))] = some (.normal, mkT 30 [(0, .list 1 xs), (3, d8), (4, iN (k + 1))], h8, [decide ((k : Int) < (xs.length : Int)) = true,
      idxOk (k : Int) xs.length = true,
      nth xs (k : Int).toNat = some [i8 c],
      DV.int .i64 (IntKind.i64.wrap (c.toNat : Int)) = iN z,
      DV.int .i64 (Int.tmod (quoD .i64 (z : Int) 128) 2) = iN v0,
      builtinD tab (pushH h0 0 3 [iN v0]) .append [d0, .sl h0.n 0 1 1 1] tyI = some (d1, h1, m1),
      DV.int .i64 (Int.tmod (quoD .i64 (z : Int) 64) 2) = iN v1,
      builtinD tab (pushH h1 0 3 [iN v1]) .append [d1, .sl h1.n 0 1 1 1] tyI = some (d2, h2, m2),
      DV.int .i64 (Int.tmod (quoD .i64 (z : Int) 32) 2) = iN v2,
      builtinD tab (pushH h2 0 3 [iN v2]) .append [d2, .sl h2.n 0 1 1 1] tyI = some (d3, h3, m3),
      DV.int .i64 (Int.tmod (quoD .i64 (z : Int) 16) 2) = iN v3,
      builtinD tab (pushH h3 0 3 [iN v3]) .append [d3, .sl h3.n 0 1 1 1] tyI = some (d4, h4, m4),
      DV.int .i64 (Int.tmod (quoD .i64 (z : Int) 8) 2) = iN v4,
      builtinD tab (pushH h4 0 3 [iN v4]) .append [d4, .sl h4.n 0 1 1 1] tyI = some (d5, h5, m5),
      DV.int .i64 (Int.tmod (quoD .i64 (z : Int) 4) 2) = iN v5,
      builtinD tab (pushH h5 0 3 [iN v5]) .append [d5, .sl h5.n 0 1 1 1] tyI = some (d6, h6, m6),
      DV.int .i64 (Int.tmod (quoD .i64 (z : Int) 2) 2) = iN v6,
      builtinD tab (pushH h6 0 3 [iN v6]) .append [d6, .sl h6.n 0 1 1 1] tyI = some (d7, h7, m7),
      DV.int .i64 (Int.tmod (quoD .i64 (z : Int) 1) 2) = iN v7,
      builtinD tab (pushH h7 0 3 [iN v7]) .append [d7, .sl h7.n 0 1 1 1] tyI = some (d8, h8, m8),
      DV.int .i64 (IntKind.i64.wrap ((k : Int) + 1)) = iN (k + 1)]) := by
  kernel_rfl
set_option maxRecDepth 1000000 in
theorem outBits (xs : List (List DV)) (k : Nat) (d : DV) (h : Hp) : zsee Try.prog tab ftab noC (ksF ftab 60) [0, 3] (loopAt (bodyOf ftab 60) 0) (mkT 30 [(0, .list 1 xs), (3, d), (4, iN k)]) h [(10, .b false)] = some (.exit 0, mkT 30 [(0, .list 1 xs), (3, d)], h, [decide ((k : Int) < (xs.length : Int)) = false]) := by
  kernel_rfl
set_option maxRecDepth 1000000 in
theorem runBits (xs : List (List DV)) (d : DV) (h : Hp) : zans Try.prog tab ftab noC 60 [.list 1 xs] [(0, .l [0, 3, 4] (.exit 0) (mkT 30 [(0, .list 1 xs), (3, d)]) h)] =
    some (d, h, [Goes Try.prog tab (ksF ftab 60) (.loop (loopAt (bodyOf ftab 60) 0)) (mkT 30 [(0, .list 1 xs), (3, .nil), (4, iN 0)]) ⟨0, []⟩ (.exit 0) (mkT 30 [(0, .list 1 xs), (3, d)]) h]) := by
  kernel_rfl
/-- the bits of a byte, of bytes, the highest one first -/
def bit8 (c : UInt8) : List Nat := [c.toNat / 128 % 2, c.toNat / 64 % 2, c.toNat / 32 % 2, c.toNat / 16 % 2, c.toNat / 8 % 2, c.toNat / 4 % 2, c.toNat / 2 % 2, c.toNat / 1 % 2]
def bitsL (bs : List UInt8) : List Nat := bs.flatMap bit8
def celI (vs : List Nat) : List DV := vs.map iN
theorem celI_append (a b : List Nat) : celI (a ++ b) = celI a ++ celI b := by simp [celI]
theorem celI_length (a : List Nat) : (celI a).length = a.length := by simp [celI]
theorem bitsL_length (bs : List UInt8) : (bitsL bs).length = 8 * bs.length := by
  induction bs with
  | nil => rfl
  | cons c bs ih =>
    show (bit8 c ++ bitsL bs).length = _
    rw [List.length_append, ih]
    simp [bit8]
    omega
theorem bit_ok (c : UInt8) (n : Nat) : DV.int .i64 (Int.tmod (quoD .i64 (c.toNat : Int) (n : Int)) 2) = iN (c.toNat / n % 2) := by
  have h := UInt8.toNat_lt c
  have hle : c.toNat / n ≤ c.toNat := Nat.div_le_self _ _
  have : quoD .i64 (c.toNat : Int) (n : Int) = ((c.toNat / n : Nat) : Int) := by
    unfold quoD
    rw [Int.tdiv_eq_ediv_of_nonneg (by omega), show ((c.toNat : Int) / (n : Int)) = ((c.toNat / n : Nat) : Int) from rfl, wrapI (by omega)]
  rw [this, show (2 : Int) = ((2 : Nat) : Int) from rfl]
  rfl
theorem step_ok {hp : Hp} {d : DV} {cl : List DV} (v : Nat) (h : SbZ 3 hp d cl) (hl : cl.length + 1 ≤ 2 ^ 40) : ∃ d' hp' m, builtinD tab (pushH hp 0 3 [iN v]) .append [d, .sl hp.n 0 1 1 1] tyI = some (d', hp', m) ∧ SbZ 3 hp' d' (cl ++ [iN v]) := by
  rw [app_tabI, cont_new (n := 0) rfl]
  exact appZ (j := intTI) (z := .int .i64 0) (zs := []) rfl rfl (by decide) (h.push ⟨0, 0, 3, [iN v]⟩) rfl hl

theorem ansBits0 (bs : List UInt8) (hb : bs.length < 2 ^ 30) : ∃ d h, Ans Try.prog 60 [byL bs] d h ∧ SbZ 3 h d (celI (bitsL bs)) ∧ (bs = [] → d = .nil ∧ h = ⟨0, []⟩) ∧ (bs ≠ [] → d ≠ .nil) := by
  have hl := by1_length bs
  have loop := Goes.loopI (P := Try.prog) (T := tab) (ks := (ksF ftab 60)) (x := loopAt (bodyOf ftab 60) 0) (e := .exit 0) bs.length
    (fun k sl h => ∃ d, sl = (fun xs => mkT 30 [(0, .list 1 xs), (3, d), (4, iN k)]) (by1 bs) ∧ SbZ 3 h d (celI (bitsL (bs.take k))) ∧ (k = 0 → d = .nil ∧ h = ⟨0, []⟩))
    (fun sl h => ∃ d, sl = (fun xs => mkT 30 [(0, .list 1 xs), (3, d)]) (by1 bs) ∧ SbZ 3 h d (celI (bitsL bs)) ∧ (bs.length = 0 → d = .nil ∧ h = ⟨0, []⟩)) (by intro h; cases h) ?_ ?_
    (sl := (fun xs => mkT 30 [(0, .list 1 xs), (3, .nil), (4, iN 0)]) (by1 bs)) (hp := ⟨0, []⟩) ⟨.nil, rfl, .inl ⟨rfl, rfl⟩, fun _ => ⟨rfl, rfl⟩⟩
  · obtain ⟨s1, h, g, d, rfl, sb, z⟩ := loop
    refine ⟨d, h, zans_ok tab_ok mixed fun_ok noC_ok (runBits (by1 bs) d h) (.cons g .nil), sb, fun e => z (by rw [e]; rfl), fun hne hd => ?_⟩
    subst hd
    rcases sb with ⟨_, sb⟩ | ⟨_, _, e, _⟩
    · have := congrArg List.length sb
      rw [celI_length, bitsL_length] at this
      have h2 : 8 * bs.length = 0 := this
      have : bs.length = 0 := by omega
      exact hne (List.eq_nil_of_length_eq_zero this)
    · cases e
  · rintro k sl h0 hk ⟨d0, rfl, s0, _⟩
    have hc : bs[k]? = some bs[k] := List.getElem?_eq_getElem hk
    have hu := UInt8.toNat_lt bs[k]
    have hlk : (bitsL (bs.take k)).length = 8 * k := by rw [bitsL_length, List.length_take]; omega
    obtain ⟨d1, h1, m1, e1, s1⟩ := step_ok (bs[k].toNat / 128 % 2) s0 (by simp only [celI_length, hlk]; omega)
    obtain ⟨d2, h2, m2, e2, s2⟩ := step_ok (bs[k].toNat / 64 % 2) s1 (by simp only [List.length_append, List.length_singleton, celI_length, hlk]; omega)
    obtain ⟨d3, h3, m3, e3, s3⟩ := step_ok (bs[k].toNat / 32 % 2) s2 (by simp only [List.length_append, List.length_singleton, celI_length, hlk]; omega)
    obtain ⟨d4, h4, m4, e4, s4⟩ := step_ok (bs[k].toNat / 16 % 2) s3 (by simp only [List.length_append, List.length_singleton, celI_length, hlk]; omega)
    obtain ⟨d5, h5, m5, e5, s5⟩ := step_ok (bs[k].toNat / 8 % 2) s4 (by simp only [List.length_append, List.length_singleton, celI_length, hlk]; omega)
    obtain ⟨d6, h6, m6, e6, s6⟩ := step_ok (bs[k].toNat / 4 % 2) s5 (by simp only [List.length_append, List.length_singleton, celI_length, hlk]; omega)
    obtain ⟨d7, h7, m7, e7, s7⟩ := step_ok (bs[k].toNat / 2 % 2) s6 (by simp only [List.length_append, List.length_singleton, celI_length, hlk]; omega)
    obtain ⟨d8, h8, m8, e8, s8⟩ := step_ok (bs[k].toNat / 1 % 2) s7 (by simp only [List.length_append, List.length_singleton, celI_length, hlk]; omega)
    refine ⟨_, h8, zsee_ok tab_ok mixed fun_ok noC_ok (roundBits (by1 bs) k bs[k].toNat bs[k] _ _ _ _ _ _ _ _ d0 d1 d2 d3 d4 d5 d6 d7 d8 h0 h1 h2 h3 h4 h5 h6 h7 h8 m1 m2 m3 m4 m5 m6 m7 m8) (.cons (decide_eq_true (by omega)) (.cons (idxOk_lt (by omega)) (.cons (by1_nth hc) (.cons (congrArg (DV.int .i64) (wrapI (n := bs[k].toNat) (by omega))) (.cons (bit_ok _ 128) (.cons e1 (.cons (bit_ok _ 64) (.cons e2 (.cons (bit_ok _ 32) (.cons e3 (.cons (bit_ok _ 16) (.cons e4 (.cons (bit_ok _ 8) (.cons e5 (.cons (bit_ok _ 4) (.cons e6 (.cons (bit_ok _ 2) (.cons e7 (.cons (bit_ok _ 1) (.cons e8 (.cons (congrArg (DV.int .i64) (wrapI (n := k + 1) (by omega))) .nil))))))))))))))))))))), d8, rfl, ?_, fun h => absurd h (by omega)⟩
    have hx : bitsL (bs.take (k + 1)) = bitsL (bs.take k) ++ bit8 bs[k] := by
      rw [List.take_add_one, hc, bitsL, List.flatMap_append]
      simp [bitsL]
    rw [hx, celI_append]
    simp only [List.append_assoc] at s8
    exact s8
  · rintro sl h ⟨d, rfl, s0, z0⟩
    refine ⟨_, h, zsee_ok tab_ok mixed fun_ok noC_ok (outBits (by1 bs) bs.length d h) (.cons (decide_eq_false (by omega)) .nil), d, rfl, ?_, z0⟩
    rw [List.take_length] at s0
    exact s0
/-- what Bits answers -/
theorem celI_plain (vs : List Nat) : ∀ x ∈ celI vs, plain x = true := fun x hx => by
  simp only [celI, List.mem_map] at hx
  obtain ⟨v, _, rfl⟩ := hx
  rfl
theorem ansBits1 (bs : List UInt8) (hb : bs.length < 2 ^ 30) (hne : bs ≠ []) : ∃ k, (k = 0 ∨ k = 1) ∧ Ans Try.prog 60 [byL bs] (.sl 0 0 1 (8 * bs.length) (8 * bs.length)) (ownH 3 k (celI (bitsL bs))) := by
  obtain ⟨d, h, a, s, _, n⟩ := ansBits0 bs hb
  obtain ⟨k, hk, sv⟩ := s.seenV (n hne) (celI_plain _)
  have := a.see sv
  rw [celI_length, bitsL_length] at this
  exact ⟨k, hk, this⟩
/-- the kind of the object that it makes -/
def kBits (bs : List UInt8) : Nat := @dite _ (∃ k, (k = 0 ∨ k = 1) ∧ Ans Try.prog 60 [byL bs] (.sl 0 0 1 (8 * bs.length) (8 * bs.length)) (ownH 3 k (celI (bitsL bs)))) (Classical.propDecidable _) (fun h => h.choose) (fun _ => 0)
def bBits (bs : List UInt8) : DV × Hp := if bs = [] then (.nil, ⟨0, []⟩) else (.sl 0 0 1 (8 * bs.length) (8 * bs.length), ownH 3 (kBits bs) (celI (bitsL bs)))
theorem ansBits (b : Bs) : Ans Try.prog 60 [byL b.1] (bBits b.1).1 (bBits b.1).2 := by
  obtain ⟨bs, hb⟩ := b
  by_cases hne : bs = []
  · obtain ⟨d, h, a, _, z, _⟩ := ansBits0 bs hb
    obtain ⟨rfl, rfl⟩ := z hne
    rw [bBits, if_pos hne]
    exact a
  · have hex := ansBits1 bs hb hne
    rw [bBits, if_neg hne, kBits, dif_pos hex]
    exact hex.choose_spec.2
theorem fineBits (bs : List UInt8) : Fine (bBits bs).1 (bBits bs).2 := by
  unfold bBits
  split
  · exact ⟨rfl, fun id o h => by simp [Hp.get_eq] at h, rfl⟩
  · refine ⟨rfl, fun id o h d hd => ?_, rfl⟩
    have h0 : id = 0 := by
      have := Hp.get_lt h
      simp only at this
      omega
    subst h0
    cases h
    exact celI_plain _ d hd
theorem byL_inj' {a b : Bs} (h : byL a.1 = byL b.1) : a = b := by
  simp only [byL, DV.list.injEq, true_and] at h
  exact Subtype.ext (by1_inj h)
def cBits : CallF := conC 60 (fun b : Bs => [byL b.1]) fun b => bBits b.1
theorem cBits_ok : CallOk Try.prog cBits := conC_ok ansBits fun _ => fineBits _
theorem cBits_at {hp : Hp} {d : DV} (b : Bs) (h : frz1 hp d (byL b.1)) : cBits 60 [d] hp = some (sh3 hp.n (bBits b.1).1, layH hp (bBits b.1).2, none) :=
  conC_at (f0 := 60) (A := fun b : Bs => [byL b.1]) (B := fun b => bBits b.1) (fun x y hxy => by
    simp only [List.cons.injEq, and_true] at hxy
    rw [byL_inj' hxy]) b ⟨h, trivial⟩
end
end Go.Proofs.Ytmdomipnjlhmeab
