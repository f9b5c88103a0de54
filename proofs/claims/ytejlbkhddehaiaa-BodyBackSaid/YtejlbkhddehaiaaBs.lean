/- Requests for association, encoded: a contract. -/
import Derived.Test.YtejlbkhddehaiaaBq
namespace Go.Proofs.Ytejlbkhddehaiaa
open Go.RowKit

noncomputable section
theorem fine_wi (f : List UInt8) (l : List El) : Fine (wiB f l).1 (wiB f l).2 := by
  unfold wiB
  split
  · split
    · exact ⟨rfl, plain_own _ _ _, rfl⟩
    · exact ⟨rfl, fun id o h => by simp [Hp.get_eq] at h, rfl⟩
  · exact ⟨rfl, fun id o h => by simp [Hp.get_eq] at h, rfl⟩
def cWi : ConF := conC fWi (fun x : WiX => [byL x.1.1, elsD x.1.2]) fun x => wiB x.1.1 x.1.2
theorem cWi_ok : ConOk Try.prog cWi := conC_ok wi_ans fun x => fine_wi x.1.1 x.1.2
theorem cWi_at {hp : Hp} {d : DV} (f : List UInt8) (l : List El) (h : (f ≠ [] ∧ f.length ≤ 64) ∧ SmL l ∧ depA l ≤ 2 ^ 39) (hd : frz1 hp d (byL f)) : cWi fWi [d, elsD l] hp = some (sh3 hp.n (wiB f l).1, layH hp (wiB f l).2, none) :=
  conC_at (f0 := fWi) (A := fun x : WiX => [byL x.1.1, elsD x.1.2]) (B := fun x => wiB x.1.1 x.1.2) (args := [d, elsD l]) (hp := hp) (fun x y hxy => by
    simp only [List.cons.injEq, and_true] at hxy
    have h1 : x.1.1 = y.1.1 := by
      have := hxy.1
      simp only [byL, DV.list.injEq, true_and] at this
      exact by1_inj this
    rw [h1, els_inj hxy.2]) ⟨(f, l), h⟩ ⟨hd, ⟨rfl, rfl⟩, trivial⟩
abbrev fAr : FuncId := 12
abbrev oU (k r : Nat) (cl : List DV) : Ob := ⟨k, r, 5, cl⟩
/-- the heap when the front stands -/
abbrev arL (c l : Nat) (o0 o1 o2 o3 o4 o5 c0 c1 l0 _l1 : UInt8) (xs : List (List DV)) : List Ob :=
  [oU 2 7 [i8 c0, i8 c1, i8 l0], oU 0 0 [i8 l0], oU 2 7 [i8 c0, i8 c1], oU 2 0 [], oU 3 2 [i8 c0, i8 c1], oU 0 0 [i8 c1], oU 2 2 [i8 c0], oU 0 0 [i8 c0], oU 2 0 [], ⟨0, 0, 23, [w16 c, w16 l]⟩, ⟨0, 0, 32, rqC c l o0 o1 o2 o3 o4 o5 (.list 4 xs)⟩]
abbrev arF (c l : Nat) (o0 o1 o2 o3 o4 o5 c0 c1 l0 l1 : UInt8) (xs : List (List DV)) : Hp := ⟨13, oU 3 7 [i8 c0, i8 c1, i8 l0, i8 l1] :: oU 0 0 [i8 l1] :: arL c l o0 o1 o2 o3 o4 o5 c0 c1 l0 l1 xs, []⟩
abbrev arT (c l : Nat) (o0 o1 o2 o3 o4 o5 c0 c1 l0 l1 : UInt8) (xs : List (List DV)) : Hp := ⟨14, oU 3 7 [i8 c0, i8 c1, i8 l0, i8 l1, i8 o0, i8 o1, i8 o2, i8 o3, i8 o4, i8 o5] :: oU 2 7 [i8 c0, i8 c1, i8 l0, i8 l1] :: oU 0 0 [i8 l1] :: arL c l o0 o1 o2 o3 o4 o5 c0 c1 l0 l1 xs, []⟩
abbrev arP (c0 c1 l0 l1 : UInt8) : YE := .c [(15, .c [(7, .c [(9, .c [(16, .w (i8 c0)), (16, .w (i8 c1))])])]), (15, .c [(7, .c [(9, .c [(16, .w (i8 l0)), (16, .w (i8 l1))])])])]
abbrev arB (q : Nat) (k : Int) (c : UInt8) : Prop := DV.int .u8 (IntKind.u8.wrap (shrD .u64 (IntKind.u64.wrap (q : Int)) k)) = i8 c
set_option maxRecDepth 1000000 in
theorem arTE (c l : Nat) (o0 o1 o2 o3 o4 o5 : UInt8) (c0 c1 l0 l1 : UInt8) (xs : List (List DV)) (e : Nat) : zflat (zans Try.prog tab ftab cWi fAr [.agg (rqC c l o0 o1 o2 o3 o4 o5 (.list 4 xs)), .bool true] [(20, arP c0 c1 l0 l1), (29, .q (.tuple [.nil, iN e]))]) =
    some (.tuple [.nil, iN e], arB c 0 c0 :: arB c 8 c1 :: arB l 0 l0 :: arB l 8 l1 :: (cWi fWi [.sl 13 0 1 10 10, .list 4 xs] (arT c l o0 o1 o2 o3 o4 o5 c0 c1 l0 l1 xs) = some (.tuple [.nil, iN e], arT c l o0 o1 o2 o3 o4 o5 c0 c1 l0 l1 xs, none)) :: []) := by kernel_rfl
set_option maxRecDepth 1000000 in
theorem arTO (c l : Nat) (o0 o1 o2 o3 o4 o5 : UInt8) (c0 c1 l0 l1 : UInt8) (xs : List (List DV)) (n : Nat) (cl : List DV) : zans Try.prog tab ftab cWi fAr [.agg (rqC c l o0 o1 o2 o3 o4 o5 (.list 4 xs)), .bool true] [(20, arP c0 c1 l0 l1), (29, .r (.tuple [.sl 14 0 1 n n, iN 0]) (layH (arT c l o0 o1 o2 o3 o4 o5 c0 c1 l0 l1 xs) (ownH 5 1 cl)))] =
    some (.tuple [.sl 14 0 1 n n, iN 0], layH (arT c l o0 o1 o2 o3 o4 o5 c0 c1 l0 l1 xs) (ownH 5 1 cl), arB c 0 c0 :: arB c 8 c1 :: arB l 0 l0 :: arB l 8 l1 :: (cWi fWi [.sl 13 0 1 10 10, .list 4 xs] (arT c l o0 o1 o2 o3 o4 o5 c0 c1 l0 l1 xs) = some (.tuple [.sl 14 0 1 n n, iN 0], layH (arT c l o0 o1 o2 o3 o4 o5 c0 c1 l0 l1 xs) (ownH 5 1 cl), none)) :: []) := by kernel_rfl
set_option maxRecDepth 1000000 in
theorem arFE (c l : Nat) (c0 c1 l0 l1 : UInt8) (xs : List (List DV)) (e : Nat) : zflat (zans Try.prog tab ftab cWi fAr [.agg (rqC c l 0 0 0 0 0 0 (.list 4 xs)), .bool false] [(20, arP c0 c1 l0 l1), (29, .q (.tuple [.nil, iN e]))]) =
    some (.tuple [.nil, iN e], arB c 0 c0 :: arB c 8 c1 :: arB l 0 l0 :: arB l 8 l1 :: (cWi fWi [.sl 12 0 1 4 4, .list 4 xs] (arF c l 0 0 0 0 0 0 c0 c1 l0 l1 xs) = some (.tuple [.nil, iN e], arF c l 0 0 0 0 0 0 c0 c1 l0 l1 xs, none)) :: []) := by kernel_rfl
set_option maxRecDepth 1000000 in
theorem arFO (c l : Nat) (c0 c1 l0 l1 : UInt8) (xs : List (List DV)) (n : Nat) (cl : List DV) : zans Try.prog tab ftab cWi fAr [.agg (rqC c l 0 0 0 0 0 0 (.list 4 xs)), .bool false] [(20, arP c0 c1 l0 l1), (29, .r (.tuple [.sl 13 0 1 n n, iN 0]) (layH (arF c l 0 0 0 0 0 0 c0 c1 l0 l1 xs) (ownH 5 1 cl)))] =
    some (.tuple [.sl 13 0 1 n n, iN 0], layH (arF c l 0 0 0 0 0 0 c0 c1 l0 l1 xs) (ownH 5 1 cl), arB c 0 c0 :: arB c 8 c1 :: arB l 0 l0 :: arB l 8 l1 :: (cWi fWi [.sl 12 0 1 4 4, .list 4 xs] (arF c l 0 0 0 0 0 0 c0 c1 l0 l1 xs) = some (.tuple [.sl 13 0 1 n n, iN 0], layH (arF c l 0 0 0 0 0 0 c0 c1 l0 l1 xs) (ownH 5 1 cl), none)) :: []) := by kernel_rfl
/-- the front's bytes -/
def frR (x : Rq) : Bool → List UInt8
  | true => [UInt8.ofNat (x.c / 256 ^ 0 % 256), UInt8.ofNat (x.c / 256 ^ 1 % 256), UInt8.ofNat (x.l / 256 ^ 0 % 256), UInt8.ofNat (x.l / 256 ^ 1 % 256), x.o0, x.o1, x.o2, x.o3, x.o4, x.o5]
  | false => [UInt8.ofNat (x.c / 256 ^ 0 % 256), UInt8.ofNat (x.c / 256 ^ 1 % 256), UInt8.ofNat (x.l / 256 ^ 0 % 256), UInt8.ofNat (x.l / 256 ^ 1 % 256)]
def z0 (x : Rq) : Rq := ⟨x.c, x.l, 0, 0, 0, 0, 0, 0, x.es⟩
def arA (x : Rq) : Bool → Rq
  | true => x
  | false => z0 x
def wiD (f : List UInt8) (l : List El) : DV := match (szR l).2 with
  | 0 => match Nat.ble (f.length + (encA l).length) 2304 with
    | true => .tuple [byL (f ++ encA l), iN 0]
    | false => .tuple [.list 1 [], iN 11]
  | e => .tuple [.list 1 [], iN e]
theorem arB_ok {q : Nat} (h : q < 65536) (k : Nat) (hk : 8 * k < 64) : arB q ((8 * k : Nat) : Int) (UInt8.ofNat (q / 256 ^ k % 256)) := by
  have hw : IntKind.u64.wrap (q : Int) = (q : Int) := by
    rw [wrapU rfl]
    exact congrArg Nat.cast (Nat.mod_eq_of_lt (Nat.lt_of_lt_of_le h (by decide)))
  show DV.int .u8 (IntKind.u8.wrap (shrD .u64 (IntKind.u64.wrap (q : Int)) ((8 * k : Nat) : Int))) = _
  rw [hw]
  exact sh_byte (Nat.lt_of_lt_of_le h (by decide)) k hk
theorem frz_cells {hp : Hp} {id n : Nat} {o : Ob} {bs : List UInt8} (hg : hp.get id = some o) (hc : o.cs = celB bs) (hn : n = bs.length) : frz1 hp (.sl id 0 1 n n) (byL bs) := by
  rw [hn]
  refine frz_bytes hg fun i b hb => ?_
  rw [hc]
  exact celB_get hb
abbrev RqX : Type := {x : Rq // okRq x ∧ SmL x.es ∧ depA x.es ≤ 2 ^ 39}
theorem ar_ans (x : RqX × Bool) : Ans Try.prog fAr [rqD (arA x.1.1 x.2), .bool x.2] (wiD (frR x.1.1 x.2) x.1.1.es) ⟨0, [], []⟩ := by
  obtain ⟨⟨⟨c, l, o0, o1, o2, o3, o4, o5, es⟩, ⟨h1, h2, h3⟩, hs⟩, b⟩ := x
  have k1 := arB_ok h1 0 (by decide)
  have k2 := arB_ok h1 1 (by decide)
  have k3 := arB_ok h2 0 (by decide)
  have k4 := arB_ok h2 1 (by decide)
  cases b with
  | true =>
    have q := cWi_at (hp := arT c l o0 o1 o2 o3 o4 o5 (UInt8.ofNat (c / 256 ^ 0 % 256)) (UInt8.ofNat (c / 256 ^ 1 % 256)) (UInt8.ofNat (l / 256 ^ 0 % 256)) (UInt8.ofNat (l / 256 ^ 1 % 256)) (elR es)) (d := .sl 13 0 1 10 10) (frR ⟨c, l, o0, o1, o2, o3, o4, o5, es⟩ true) es ⟨⟨by simp [frR], by simp [frR]⟩, hs⟩ (frz_cells (id := 13) rfl rfl rfl)
    dsimp only
    unfold wiB at q
    unfold wiD
    cases he : (szR es).2 with
    | succ e =>
      rw [he] at q
      exact Ans.nil1 (zflat_ok tab_ok mixed fun_ok cWi_ok (arTE c l o0 o1 o2 o3 o4 o5 _ _ _ _ (elR es) (e + 1)) (.cons k1 (.cons k2 (.cons k3 (.cons k4 (.cons q .nil))))))
    | zero =>
      rw [he] at q
      dsimp only at q ⊢
      cases hb : Nat.ble ((frR ⟨c, l, o0, o1, o2, o3, o4, o5, es⟩ true).length + (encA es).length) 2304 with
      | false =>
        rw [hb] at q
        exact Ans.nil1 (zflat_ok tab_ok mixed fun_ok cWi_ok (arTE c l o0 o1 o2 o3 o4 o5 _ _ _ _ (elR es) 11) (.cons k1 (.cons k2 (.cons k3 (.cons k4 (.cons q .nil))))))
      | true =>
        rw [hb] at q
        have z := zans_ok tab_ok mixed fun_ok cWi_ok (arTO c l o0 o1 o2 o3 o4 o5 _ _ _ _ (elR es) _ _) (.cons k1 (.cons k2 (.cons k3 (.cons k4 (.cons q .nil)))))
        exact AnsH.frz z rfl (FrzL.tuple ⟨frzD_bytes (id := 14) (off := 0) (o := ⟨1, 0, 5, _⟩) rfl rfl (by show (1 : Nat) ≠ 2; decide) fun i b hb' => celB_get hb', FrzD.int' _ _, trivial⟩)
  | false =>
    have q := cWi_at (hp := arF c l 0 0 0 0 0 0 (UInt8.ofNat (c / 256 ^ 0 % 256)) (UInt8.ofNat (c / 256 ^ 1 % 256)) (UInt8.ofNat (l / 256 ^ 0 % 256)) (UInt8.ofNat (l / 256 ^ 1 % 256)) (elR es)) (d := .sl 12 0 1 4 4) (frR ⟨c, l, o0, o1, o2, o3, o4, o5, es⟩ false) es ⟨⟨by simp [frR], by simp [frR]⟩, hs⟩ (frz_cells (id := 12) rfl rfl rfl)
    dsimp only
    unfold wiB at q
    unfold wiD
    cases he : (szR es).2 with
    | succ e =>
      rw [he] at q
      exact Ans.nil1 (zflat_ok tab_ok mixed fun_ok cWi_ok (arFE c l _ _ _ _ (elR es) (e + 1)) (.cons k1 (.cons k2 (.cons k3 (.cons k4 (.cons q .nil))))))
    | zero =>
      rw [he] at q
      dsimp only at q ⊢
      cases hb : Nat.ble ((frR ⟨c, l, o0, o1, o2, o3, o4, o5, es⟩ false).length + (encA es).length) 2304 with
      | false =>
        rw [hb] at q
        exact Ans.nil1 (zflat_ok tab_ok mixed fun_ok cWi_ok (arFE c l _ _ _ _ (elR es) 11) (.cons k1 (.cons k2 (.cons k3 (.cons k4 (.cons q .nil))))))
      | true =>
        rw [hb] at q
        have z := zans_ok tab_ok mixed fun_ok cWi_ok (arFO c l _ _ _ _ (elR es) _ _) (.cons k1 (.cons k2 (.cons k3 (.cons k4 (.cons q .nil)))))
        exact AnsH.frz z rfl (FrzL.tuple ⟨frzD_bytes (id := 13) (off := 0) (o := ⟨1, 0, 5, _⟩) rfl rfl (by show (1 : Nat) ≠ 2; decide) fun i b hb' => celB_get hb', FrzD.int' _ _, trivial⟩)
end
end Go.Proofs.Ytejlbkhddehaiaa
