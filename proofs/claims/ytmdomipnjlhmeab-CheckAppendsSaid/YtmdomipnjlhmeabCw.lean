/- Strings with checks, as contracts: verifying. -/
import Derived.Test.YtmdomipnjlhmeabCv
namespace Go.Proofs.Ytmdomipnjlhmeab
open Go.RowKit

noncomputable section
abbrev bTI : TI := ⟨.slice 5, 1, 24, [.nil], true⟩
theorem tab_u8 : tab 5 = some u8TI := by kernel_rfl
/-! ### Bytes as strings -/
theorem bytesOf_cel (bs : List UInt8) : bytesOf (celB bs) = some bs := by
  induction bs with
  | nil => rfl
  | cons b bs ih =>
    show (match bytesOf (celB bs) with | some l => some (UInt8.ofNat ((b.toNat : Int).toNat) :: l) | none => none) = _
    rw [ih, Int.toNat_natCast, UInt8.ofNat_toNat]
theorem eqBytes_iff (a b : List UInt8) : eqBytes a b = decide (a = b) := by
  induction a generalizing b with
  | nil => cases b <;> simp [eqBytes]
  | cons x a ih =>
    cases b with
    | nil => simp [eqBytes]
    | cons y b =>
      simp only [eqBytes, ih, List.cons.injEq]
      by_cases h : x = y
      · subst h
        rw [beqT rfl]
        simp
      · have : x.toNat ≠ y.toNat := fun e => h (UInt8.toNat_inj.1 e)
        rw [beqF this]
        simp [h]
/-- a datum that shows bytes -/
def Sh (hp : Hp) (d : DV) (bs : List UInt8) : Prop := d = byL bs ∨ ∃ id off o c, d = .sl id off 1 bs.length c ∧ hp.get id = some o ∧ (∀ (i : Nat) (b : UInt8), bs[i]? = some b → o.cs[off + i]? = some (i8 b))
theorem Sh.frz {hp : Hp} {d : DV} {bs : List UInt8} (h : Sh hp d bs) : frz1 hp d (byL bs) := by
  rcases h with rfl | ⟨id, off, o, c, rfl, h1, h2⟩
  · exact ⟨rfl, rfl⟩
  · exact frz_bytes h1 h2
theorem Sh.cont {hp : Hp} {d : DV} {bs : List UInt8} (h : Sh hp d bs) : contD hp 1 d = some (bs.length, celB bs) := by
  rcases h with rfl | ⟨id, off, o, c, rfl, h1, h2⟩
  · exact contD_list hp bs
  · cases bs with
    | nil => rfl
    | cons b bs =>
      have hlt : ∀ i, i < (b :: bs).length → off + i < o.cs.length := fun i hi => (List.getElem?_eq_some_iff.1 (h2 i _ (List.getElem?_eq_getElem hi))).1
      have hend := hlt bs.length (by simp)
      have hle : Nat.ble (off + (bs.length + 1) * 1) o.cs.length = true := bleT (by omega)
      have hcs : (o.cs.drop off).take ((bs.length + 1) * 1) = celB (b :: bs) := by
        refine List.ext_getElem? fun i => ?_
        rw [Nat.mul_one, List.getElem?_take, List.getElem?_drop]
        by_cases hi : i < bs.length + 1
        · have hb : (b :: bs)[i]? = some (b :: bs)[i] := List.getElem?_eq_getElem (by simpa using hi)
          rw [if_pos hi, h2 i _ hb, celB, List.getElem?_map, hb]
          rfl
        · rw [if_neg hi, List.getElem?_eq_none (by rw [celB_length]; simp; omega)]
      show (match hp.get id with | some o => (match Nat.ble (off + (bs.length + 1) * 1) o.cs.length with | true => some (bs.length + 1, (o.cs.drop off).take ((bs.length + 1) * 1)) | false => none) | none => none) = _
      rw [h1]
      simp only [hle, hcs]
      rfl
theorem sh_new (hp : Hp) (bs : List UInt8) (c : Nat) : Sh (layH hp (oneH (celB bs))) (.sl (hp.n + 0) 0 1 bs.length c) bs :=
  .inr ⟨_, 0, ⟨0, 0, 5, celB bs⟩, c, rfl, by rw [layH_get rfl, if_neg (by omega)]; simp; rfl, fun i b hb => celB_get hb⟩
theorem conv_str {hp : Hp} {d : DV} {bs : List UInt8} (h : Sh hp d bs) : convD tab hp 45 9 d = some (.str ⟨bs.toArray⟩, hp, none) := by
  have hc := h.cont
  have t1 : tab 45 = some bTI := by kernel_rfl
  have t2 : tab 9 = some ⟨.str, 1, 16, [.str .empty], true⟩ := by kernel_rfl
  rcases h with rfl | ⟨id, off, o, c, rfl, h1, h2⟩
  · unfold byL at hc ⊢
    simp only [convD, t1, t2, tab_u8, hc, bytesOf_cel]
  · simp only [convD, t1, t2, tab_u8, hc, bytesOf_cel]
set_option maxRecDepth 1000000 in
theorem runEq (xa xb : List (List DV)) (sa sb : ByteArray) (v : Bool) : zans Try.prog tab ftab noC 66 [.list 1 xa, .list 1 xb] [(6, .h (.str sa) ⟨0, []⟩ none), (8, .h (.str sb) ⟨0, []⟩ none), (9, .b v)] =
    some (.bool v, ⟨0, []⟩, [convD tab ⟨0, []⟩ 45 9 (.list 1 xa) = some (.str sa, ⟨0, []⟩, none), convD tab ⟨0, []⟩ 45 9 (.list 1 xb) = some (.str sb, ⟨0, []⟩, none), eqBytes sa.data.toList sb.data.toList = v]) := by
  kernel_rfl
theorem ansEq (x : Bs × Bs) : Ans Try.prog 66 (AW x) (.bool (decide (x.1.1 = x.2.1))) ⟨0, []⟩ :=
  zans_ok tab_ok mixed fun_ok noC_ok (runEq (by1 x.1.1) (by1 x.2.1) ⟨x.1.1.toArray⟩ ⟨x.2.1.toArray⟩ _) (.cons (conv_str (.inl rfl)) (.cons (conv_str (.inl rfl)) (.cons (eqBytes_iff _ _) .nil)))
def cEq : CallF := conC 66 AW fun x => (.bool (decide (x.1.1 = x.2.1)), ⟨0, []⟩)
theorem cEq_ok : CallOk Try.prog cEq := conC_ok ansEq fun _ => ⟨rfl, fun id o h => by simp [Hp.get_eq] at h, rfl⟩
theorem cEq_at {hp : Hp} {d e : DV} (b m : Bs) (h1 : frz1 hp d (byL b.1)) (h2 : frz1 hp e (byL m.1)) : cEq 66 [d, e] hp = some (.bool (decide (b.1 = m.1)), hp, none) :=
  conC_at (f0 := 66) (A := AW) (B := fun x => (.bool (decide (x.1.1 = x.2.1)), ⟨0, []⟩)) (fun x y hxy => by
    obtain ⟨x1, x2⟩ := x
    obtain ⟨y1, y2⟩ := y
    simp only [AW, List.cons.injEq, and_true] at hxy
    rw [byL_inj hxy.1, byL_inj hxy.2]) (b, m) ⟨h1, h2, trivial⟩
/-! ### Verify, Verify8 -/
theorem by1_take (bs : List UInt8) (n : Nat) : (by1 bs).take n = by1 (bs.take n) := by simp [by1]
theorem slice_list {hp : Hp} {xs : List (List DV)} {n : Nat} (hn : n ≤ xs.length) : sliceD tab hp bTI (.list 1 xs) none (some (iN n)) none = some (.list 1 (xs.take n)) := by
  have h1 : Nat.ble 0 n = true := bleT (Nat.zero_le n)
  have h2 : Nat.ble n xs.length = true := bleT hn
  have h3 : decide ((0 : Int) ≤ (n : Int)) = true := decide_eq_true (by omega)
  simp only [sliceD, tab_u8, optI, iN, h3, Int.toNat_natCast, h1, h2, show Nat.beq 1 1 = true from rfl, Bool.and_self, List.drop_zero, Nat.sub_zero]
theorem slice_sl3 {hp : Hp} {id N n : Nat} (hn : n ≤ N) : sliceD tab hp bTI (.sl id 0 1 N N) none (some (iN n)) (some (iN n)) = some (.sl id 0 1 n n) := by
  have h1 : Nat.ble 0 n = true := bleT (Nat.zero_le n)
  have h2 : Nat.ble n N = true := bleT hn
  have h3 : decide ((0 : Int) ≤ (n : Int)) = true := decide_eq_true (by omega)
  have h4 : Nat.ble n n = true := bleT (Nat.le_refl n)
  simp only [sliceD, tab_u8, optI, iN, h3, Int.toNat_natCast, h1, h2, h4, maxOk, show Nat.beq 1 1 = true from rfl, Bool.and_self, Nat.sub_zero, Nat.zero_mul, Nat.zero_add]
def cV0 : CallF := orK cApp (orK cApp8 cEq)
theorem cV0_ok : CallOk Try.prog cV0 := orK_ok cApp_ok (orK_ok cApp8_ok cEq_ok)
set_option maxRecDepth 1000000 in
theorem shortL (xs : List (List DV)) : zans Try.prog tab ftab cV0 28 [.list 1 xs] [(5, .c [(13, .b true)])] = some (.tuple [.nil, .int .i64 10], ⟨0, []⟩, [decide ((xs.length : Int) < 4) = true]) := by
  kernel_rfl
set_option maxRecDepth 1000000 in
theorem badL (xs ys : List (List DV)) (m N : Nat) (cl : List DV) : zans Try.prog tab ftab cV0 28 [.list 1 xs] [(5, .c [(13, .b false), (17, .w (iN m)), (21, .n (.list 1 ys)), (22, .r (.sl 0 0 1 N N) (oneH cl)), (25, .q (.bool false))])] = some (.tuple [.nil, .int .i64 31], ⟨0, []⟩, [decide ((xs.length : Int) < 4) = false, DV.int .i64 (IntKind.i64.wrap ((xs.length : Int) - 4)) = iN m, sliceD tab ⟨0, []⟩ bTI (.list 1 xs) none (some (iN m)) none = some (.list 1 ys), cV0 39 [.list 1 ys] ⟨0, []⟩ = some (.sl 0 0 1 N N, oneH cl, none), cV0 66 [.sl 0 0 1 N N, .list 1 xs] (oneH cl) = some (.bool false, oneH cl, none)]) := by
  kernel_rfl
set_option maxRecDepth 1000000 in
theorem goodL (xs ys : List (List DV)) (m N : Nat) (cl : List DV) : zans Try.prog tab ftab cV0 28 [.list 1 xs] [(5, .c [(13, .b false), (17, .w (iN m)), (21, .n (.list 1 ys)), (22, .r (.sl 0 0 1 N N) (oneH cl)), (25, .q (.bool true)), (30, .n (.sl 0 0 1 m m))])] = some (.tuple [.sl 0 0 1 m m, .int .i64 0], oneH cl, [decide ((xs.length : Int) < 4) = false, DV.int .i64 (IntKind.i64.wrap ((xs.length : Int) - 4)) = iN m, sliceD tab ⟨0, []⟩ bTI (.list 1 xs) none (some (iN m)) none = some (.list 1 ys), cV0 39 [.list 1 ys] ⟨0, []⟩ = some (.sl 0 0 1 N N, oneH cl, none), cV0 66 [.sl 0 0 1 N N, .list 1 xs] (oneH cl) = some (.bool true, oneH cl, none), sliceD tab (oneH cl) bTI (.sl 0 0 1 N N) none (some (iN m)) (some (iN m)) = some (.sl 0 0 1 m m)]) := by
  kernel_rfl
/-- what verifying answers -/
def verL (bs : List UInt8) : DV × Hp :=
  if bs.length < 4 then (.tuple [.nil, .int .i64 10], ⟨0, []⟩)
  else if withL (bs.take (bs.length - 4)) = bs then (.tuple [.sl 0 0 1 (bs.length - 4) (bs.length - 4), .int .i64 0], oneH (celB bs))
  else (.tuple [.nil, .int .i64 31], ⟨0, []⟩)
theorem ansVerL (b : Bs) : Ans Try.prog 28 (AB b) (verL b.1).1 (verL b.1).2 := by
  obtain ⟨bs, hb⟩ := b
  simp only [AB]
  by_cases h : bs.length < 4
  · rw [verL, if_pos h]
    exact zans_ok tab_ok mixed fun_ok cV0_ok (shortL (by1 bs)) (.cons (decide_eq_true (by rw [by1_length]; omega)) .nil)
  have hl : (by1 bs).length = bs.length := by1_length bs
  have n1 : decide (((by1 bs).length : Int) < 4) = false := decide_eq_false (by omega)
  have n2 : DV.int .i64 (IntKind.i64.wrap (((by1 bs).length : Int) - 4)) = iN (bs.length - 4) := by
    rw [show ((by1 bs).length : Int) - 4 = ((bs.length - 4 : Nat) : Int) by omega, wrapI (by omega)]
    rfl
  have ht : (bs.take (bs.length - 4)).length < 2 ^ 30 := by rw [List.length_take]; omega
  have n3 : sliceD tab ⟨0, []⟩ bTI (.list 1 (by1 bs)) none (some (iN (bs.length - 4))) none = some (.list 1 (by1 (bs.take (bs.length - 4)))) := by
    rw [← by1_take]
    exact slice_list (by omega)
  have n4 : cV0 39 [.list 1 (by1 (bs.take (bs.length - 4)))] ⟨0, []⟩ = some (.sl 0 0 1 (withL (bs.take (bs.length - 4))).length (withL (bs.take (bs.length - 4))).length, oneH (celB (withL (bs.take (bs.length - 4)))), none) := by
    refine orK_left ?_
    exact cApp_at (hp := ⟨0, []⟩) ⟨bs.take (bs.length - 4), ht⟩ ⟨rfl, rfl⟩
  have hw : (withL (bs.take (bs.length - 4))).length < 2 ^ 30 := by
    rw [withL, List.length_append, List.length_take]
    show _ + 4 < _
    omega
  have n5 : cV0 66 [.sl 0 0 1 (withL (bs.take (bs.length - 4))).length (withL (bs.take (bs.length - 4))).length, .list 1 (by1 bs)] (oneH (celB (withL (bs.take (bs.length - 4))))) = some (.bool (decide (withL (bs.take (bs.length - 4)) = bs)), oneH (celB (withL (bs.take (bs.length - 4)))), none) :=
    orK_right (conC_other (by kernel_rfl)) (orK_right (conC_other (by kernel_rfl)) (cEq_at ⟨_, hw⟩ ⟨bs, hb⟩ (frz_bytes rfl fun i c hi => celB_get hi) ⟨rfl, rfl⟩))
  by_cases h2 : withL (bs.take (bs.length - 4)) = bs
  · rw [verL, if_neg h, if_pos h2]
    rw [decide_eq_true h2] at n5
    rw [h2] at n4 n5
    exact zans_ok tab_ok mixed fun_ok cV0_ok (goodL (by1 bs) _ (bs.length - 4) bs.length (celB bs)) (.cons n1 (.cons n2 (.cons n3 (.cons n4 (.cons n5 (.cons (slice_sl3 (by omega)) .nil))))))
  · rw [verL, if_neg h, if_neg h2]
    rw [decide_eq_false h2] at n5
    exact zans_ok tab_ok mixed fun_ok cV0_ok (badL (by1 bs) _ (bs.length - 4) _ _) (.cons n1 (.cons n2 (.cons n3 (.cons n4 (.cons n5 .nil)))))
theorem fineVerL (bs : List UInt8) : Fine (verL bs).1 (verL bs).2 := by
  unfold verL
  split
  · exact ⟨rfl, fun id o h => by simp [Hp.get_eq] at h, rfl⟩
  · split
    · exact ⟨rfl, plain_one bs, rfl⟩
    · exact ⟨rfl, fun id o h => by simp [Hp.get_eq] at h, rfl⟩
def cVerL : CallF := conC 28 AB fun b => verL b.1
theorem cVerL_ok : CallOk Try.prog cVerL := conC_ok ansVerL fun _ => fineVerL _
theorem cVerL_at {hp : Hp} {d : DV} (b : Bs) (h : frz1 hp d (byL b.1)) : cVerL 28 [d] hp = some (sh3 hp.n (verL b.1).1, layH hp (verL b.1).2, none) :=
  conC_at (f0 := 28) (A := AB) (B := fun b => verL b.1) (fun x y hxy => by
    simp only [AB, List.cons.injEq, and_true] at hxy
    rw [byL_inj hxy]) b ⟨h, trivial⟩
set_option maxRecDepth 1000000 in
theorem shortS (xs : List (List DV)) : zans Try.prog tab ftab cV0 29 [.list 1 xs] [(5, .c [(13, .b true)])] = some (.tuple [.nil, .int .i64 10], ⟨0, []⟩, [decide ((xs.length : Int) < 1) = true]) := by
  kernel_rfl
set_option maxRecDepth 1000000 in
theorem badS (xs ys : List (List DV)) (m N : Nat) (cl : List DV) : zans Try.prog tab ftab cV0 29 [.list 1 xs] [(5, .c [(13, .b false), (17, .w (iN m)), (21, .n (.list 1 ys)), (22, .r (.sl 0 0 1 N N) (oneH cl)), (25, .q (.bool false))])] = some (.tuple [.nil, .int .i64 31], ⟨0, []⟩, [decide ((xs.length : Int) < 1) = false, DV.int .i64 (IntKind.i64.wrap ((xs.length : Int) - 1)) = iN m, sliceD tab ⟨0, []⟩ bTI (.list 1 xs) none (some (iN m)) none = some (.list 1 ys), cV0 40 [.list 1 ys] ⟨0, []⟩ = some (.sl 0 0 1 N N, oneH cl, none), cV0 66 [.sl 0 0 1 N N, .list 1 xs] (oneH cl) = some (.bool false, oneH cl, none)]) := by
  kernel_rfl
set_option maxRecDepth 1000000 in
theorem goodS (xs ys : List (List DV)) (m N : Nat) (cl : List DV) : zans Try.prog tab ftab cV0 29 [.list 1 xs] [(5, .c [(13, .b false), (17, .w (iN m)), (21, .n (.list 1 ys)), (22, .r (.sl 0 0 1 N N) (oneH cl)), (25, .q (.bool true)), (30, .n (.sl 0 0 1 m m))])] = some (.tuple [.sl 0 0 1 m m, .int .i64 0], oneH cl, [decide ((xs.length : Int) < 1) = false, DV.int .i64 (IntKind.i64.wrap ((xs.length : Int) - 1)) = iN m, sliceD tab ⟨0, []⟩ bTI (.list 1 xs) none (some (iN m)) none = some (.list 1 ys), cV0 40 [.list 1 ys] ⟨0, []⟩ = some (.sl 0 0 1 N N, oneH cl, none), cV0 66 [.sl 0 0 1 N N, .list 1 xs] (oneH cl) = some (.bool true, oneH cl, none), sliceD tab (oneH cl) bTI (.sl 0 0 1 N N) none (some (iN m)) (some (iN m)) = some (.sl 0 0 1 m m)]) := by
  kernel_rfl
/-- what verifying answers -/
def verS (bs : List UInt8) : DV × Hp :=
  if bs.length < 1 then (.tuple [.nil, .int .i64 10], ⟨0, []⟩)
  else if withS (bs.take (bs.length - 1)) = bs then (.tuple [.sl 0 0 1 (bs.length - 1) (bs.length - 1), .int .i64 0], oneH (celB bs))
  else (.tuple [.nil, .int .i64 31], ⟨0, []⟩)
theorem ansVerS (b : Bs) : Ans Try.prog 29 (AB b) (verS b.1).1 (verS b.1).2 := by
  obtain ⟨bs, hb⟩ := b
  simp only [AB]
  by_cases h : bs.length < 1
  · rw [verS, if_pos h]
    exact zans_ok tab_ok mixed fun_ok cV0_ok (shortS (by1 bs)) (.cons (decide_eq_true (by rw [by1_length]; omega)) .nil)
  have hl : (by1 bs).length = bs.length := by1_length bs
  have n1 : decide (((by1 bs).length : Int) < 1) = false := decide_eq_false (by omega)
  have n2 : DV.int .i64 (IntKind.i64.wrap (((by1 bs).length : Int) - 1)) = iN (bs.length - 1) := by
    rw [show ((by1 bs).length : Int) - 1 = ((bs.length - 1 : Nat) : Int) by omega, wrapI (by omega)]
    rfl
  have ht : (bs.take (bs.length - 1)).length < 2 ^ 30 := by rw [List.length_take]; omega
  have n3 : sliceD tab ⟨0, []⟩ bTI (.list 1 (by1 bs)) none (some (iN (bs.length - 1))) none = some (.list 1 (by1 (bs.take (bs.length - 1)))) := by
    rw [← by1_take]
    exact slice_list (by omega)
  have n4 : cV0 40 [.list 1 (by1 (bs.take (bs.length - 1)))] ⟨0, []⟩ = some (.sl 0 0 1 (withS (bs.take (bs.length - 1))).length (withS (bs.take (bs.length - 1))).length, oneH (celB (withS (bs.take (bs.length - 1)))), none) := by
    refine orK_right (conC_other (by kernel_rfl)) (orK_left ?_)
    exact cApp8_at (hp := ⟨0, []⟩) ⟨bs.take (bs.length - 1), ht⟩ ⟨rfl, rfl⟩
  have hw : (withS (bs.take (bs.length - 1))).length < 2 ^ 30 := by
    rw [withS, List.length_append, List.length_take]
    show _ + 1 < _
    omega
  have n5 : cV0 66 [.sl 0 0 1 (withS (bs.take (bs.length - 1))).length (withS (bs.take (bs.length - 1))).length, .list 1 (by1 bs)] (oneH (celB (withS (bs.take (bs.length - 1))))) = some (.bool (decide (withS (bs.take (bs.length - 1)) = bs)), oneH (celB (withS (bs.take (bs.length - 1)))), none) :=
    orK_right (conC_other (by kernel_rfl)) (orK_right (conC_other (by kernel_rfl)) (cEq_at ⟨_, hw⟩ ⟨bs, hb⟩ (frz_bytes rfl fun i c hi => celB_get hi) ⟨rfl, rfl⟩))
  by_cases h2 : withS (bs.take (bs.length - 1)) = bs
  · rw [verS, if_neg h, if_pos h2]
    rw [decide_eq_true h2] at n5
    rw [h2] at n4 n5
    exact zans_ok tab_ok mixed fun_ok cV0_ok (goodS (by1 bs) _ (bs.length - 1) bs.length (celB bs)) (.cons n1 (.cons n2 (.cons n3 (.cons n4 (.cons n5 (.cons (slice_sl3 (by omega)) .nil))))))
  · rw [verS, if_neg h, if_neg h2]
    rw [decide_eq_false h2] at n5
    exact zans_ok tab_ok mixed fun_ok cV0_ok (badS (by1 bs) _ (bs.length - 1) _ _) (.cons n1 (.cons n2 (.cons n3 (.cons n4 (.cons n5 .nil)))))
theorem fineVerS (bs : List UInt8) : Fine (verS bs).1 (verS bs).2 := by
  unfold verS
  split
  · exact ⟨rfl, fun id o h => by simp [Hp.get_eq] at h, rfl⟩
  · split
    · exact ⟨rfl, plain_one bs, rfl⟩
    · exact ⟨rfl, fun id o h => by simp [Hp.get_eq] at h, rfl⟩
def cVerS : CallF := conC 29 AB fun b => verS b.1
theorem cVerS_ok : CallOk Try.prog cVerS := conC_ok ansVerS fun _ => fineVerS _
theorem cVerS_at {hp : Hp} {d : DV} (b : Bs) (h : frz1 hp d (byL b.1)) : cVerS 29 [d] hp = some (sh3 hp.n (verS b.1).1, layH hp (verS b.1).2, none) :=
  conC_at (f0 := 29) (A := AB) (B := fun b => verS b.1) (fun x y hxy => by
    simp only [AB, List.cons.injEq, and_true] at hxy
    rw [byL_inj hxy]) b ⟨h, trivial⟩
end
end Go.Proofs.Ytmdomipnjlhmeab
