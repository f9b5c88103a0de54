/- BodyRequests, over the data of its arguments. -/
import Derived.Test.YtagliahkojmncaaBs
import Derived.Test.YtagliahkojmncaaEm
namespace Go.Proofs.Ytagliahkojmncaa
open Go.RowKit

noncomputable section
abbrev fAl : FuncId := 44
set_option maxRecDepth 1000000 in
theorem al_run : zflat (zans Try.prog tab ftab noC fAl [] []) = some (.bool true, []) := by kernel_rfl
def cAl : ConF := fixC fAl (.bool true)
theorem cAl_ok : ConOk Try.prog cAl := fixC_ok (zflat_ok tab_ok mixed fun_ok noC_ok al_run .nil) rfl
/-! ### Great, also of no list -/
set_option maxRecDepth 1000000 in
theorem gn_run : zflat (zans Try.prog tab ftab noC fGr [.nil] []) = some (.bool false, []) := by kernel_rfl
def gnA : Option ElA → DV
  | none => .nil
  | some l => elsD l.1
def gnB : Option ElA → Bool
  | none => false
  | some l => grB l.1
theorem gn_ans (x : Option ElA) : Ans Try.prog fGr [gnA x] (.bool (gnB x)) ⟨0, [], []⟩ := by
  cases x with
  | none => exact zflat_ok tab_ok mixed fun_ok noC_ok gn_run .nil
  | some l => exact gr_ans l
def cGn : ConF := liftC (eqC fGr (fun x : Option ElA => [gnA x]) fun x => (.bool (gnB x), ⟨0, [], []⟩))
theorem cGn_ok : ConOk Try.prog cGn := liftC_ok (eqC_ok gn_ans fun _ => rfl)
theorem cGn_at (hp : Hp) (x : Option ElA) : cGn fGr [gnA x] hp = some (.bool (gnB x), hp, none) :=
  lift_at (A := fun x : Option ElA => [gnA x]) (D := fun x => .bool (gnB x)) (fun x y hxy => by
    simp only [List.cons.injEq, and_true] at hxy
    cases x with
    | none =>
      cases y with
      | none => rfl
      | some y => cases hxy
    | some x =>
      cases y with
      | none => cases hxy
      | some y =>
        have : x.1 = y.1 := els_inj hxy
        simp only [gnB, this]) hp x (by cases x <;> rfl) rfl
/-! ### EncodeAssocReq -/
theorem rqD_inj {x y : Rq} (h : rqD x = rqD y) : x = y := by
  obtain ⟨a, b, o0, o1, o2, o3, o4, o5, s⟩ := x
  obtain ⟨a', b', q0, q1, q2, q3, q4, q5, s'⟩ := y
  simp only [rqD, DV.agg.injEq, List.cons.injEq, and_true, DV.int.injEq, true_and] at h
  obtain ⟨h0, h1, h2, h3, h4, h5, h6, h7, h8⟩ := h
  obtain rfl : a = a' := by omega
  obtain rfl : b = b' := by omega
  obtain rfl : o0 = q0 := i8_inj h2
  obtain rfl : o1 = q1 := i8_inj h3
  obtain rfl : o2 = q2 := i8_inj h4
  obtain rfl : o3 = q3 := i8_inj h5
  obtain rfl : o4 = q4 := i8_inj h6
  obtain rfl : o5 = q5 := i8_inj h7
  obtain rfl := els_inj h8
  rfl
theorem wiD_flat (f : List UInt8) (l : List El) : flatD (wiD f l) = true := by
  unfold wiD
  split
  · split <;> rfl
  · rfl
def cAr : ConF := liftC (eqC fAr (fun x : RqX × Bool => [rqD (arA x.1.1 x.2), .bool x.2]) fun x => (wiD (frR x.1.1 x.2) x.1.1.es, ⟨0, [], []⟩))
theorem cAr_ok : ConOk Try.prog cAr := liftC_ok (eqC_ok ar_ans fun _ => rfl)
theorem cAr_at (hp : Hp) (x : RqX × Bool) : cAr fAr [rqD (arA x.1.1 x.2), .bool x.2] hp = some (wiD (frR x.1.1 x.2) x.1.1.es, hp, none) :=
  lift_at (A := fun x : RqX × Bool => [rqD (arA x.1.1 x.2), .bool x.2]) (D := fun x => wiD (frR x.1.1 x.2) x.1.1.es) (fun x y hxy => by
    obtain ⟨⟨x, hx⟩, b⟩ := x
    obtain ⟨⟨y, hy⟩, b'⟩ := y
    simp only [List.cons.injEq, and_true, DV.bool.injEq] at hxy
    obtain ⟨h1, rfl⟩ := hxy
    have h2 := rqD_inj h1
    cases b with
    | true =>
      obtain rfl : x = y := h2
      rfl
    | false =>
      obtain ⟨a, b, o0, o1, o2, o3, o4, o5, s⟩ := x
      obtain ⟨a', b', q0, q1, q2, q3, q4, q5, s'⟩ := y
      simp only [arA, z0, Rq.mk.injEq, true_and] at h2
      obtain ⟨rfl, rfl, rfl⟩ := h2
      rfl) hp x rfl (wiD_flat _ _)
/-! ### The law's paths -/
def cRq : ConF := orK cAl (orK cGn cAr)
theorem cRq_ok : ConOk Try.prog cRq := orK_ok cAl_ok (orK_ok cGn_ok cAr_ok)
theorem cRq_al (cs : List DV) : cRq fAl [] ⟨1, [⟨0, 0, 32, cs⟩], []⟩ = some (.bool true, ⟨1, [⟨0, 0, 32, cs⟩], []⟩, none) := orK_left rfl
theorem cRq_gr (hp : Hp) (x : Option ElA) : cRq fGr [gnA x] hp = some (.bool (gnB x), hp, none) := orK_right rfl (orK_left (cGn_at hp x))
theorem cRq_ar (hp : Hp) (x : RqX × Bool) : cRq fAr [rqD (arA x.1.1 x.2), .bool x.2] hp = some (wiD (frR x.1.1 x.2) x.1.1.es, hp, none) := orK_right rfl (orK_right (lift_oth (eqC_other (by kernel_rfl))) (cAr_at hp x))
abbrev fRq : FuncId := 7
abbrev oQ (cs : List DV) : Ob := ⟨0, 0, 32, cs⟩
abbrev bgC (c l : Nat) (o0 o1 o2 o3 o4 o5 : UInt8) (e : DV) : List DV := [.int .u64 0, .int .u16 0, .int .u16 0, .nil, .int .u16 0, .int .u16 0, .int .u16 0, .nil, w16 c, w16 l, i8 o0, i8 o1, i8 o2, i8 o3, i8 o4, i8 o5, e, .bool false,
  .int .u16 0, .int .u16 0, .int .i64 0, .nil, .int .u16 0, .nil, .int .u8 0, .int .u8 0, .int .u8 0, .nil, .int .i64 0, .int .i64 0, .int .i64 0, .int .i64 0, .int .u64 0]
section
variable (C : ConF) (c l : Nat) (o0 o1 o2 o3 o4 o5 : UInt8) (xs : List (List DV))
abbrev rqH1 : Hp := ⟨1, [oQ (rqC c l o0 o1 o2 o3 o4 o5 (.list 4 xs))], []⟩
abbrev rqHg : Hp := ⟨2, [⟨0, 0, 45, bgC c l o0 o1 o2 o3 o4 o5 (.list 4 xs)⟩, oQ (rqC c l o0 o1 o2 o3 o4 o5 (.list 4 xs))], []⟩
abbrev rqH2 : Hp := ⟨2, [oQ (rqC c l 0 0 0 0 0 0 (.list 4 xs)), oQ (rqC c l o0 o1 o2 o3 o4 o5 (.list 4 xs))], []⟩
abbrev gQ (d : DV) (b : Bool) : Prop := C fGr [d] (rqHg c l o0 o1 o2 o3 o4 o5 xs) = some (.bool b, rqHg c l o0 o1 o2 o3 o4 o5 xs, none)
abbrev rqA (ps bs : List (List DV)) (e f : Nat) (t : List Prop) : List Prop := (C fAl [] (rqH1 c l o0 o1 o2 o3 o4 o5 xs) = some (.bool true, rqH1 c l o0 o1 o2 o3 o4 o5 xs, none)) :: gQ C c l o0 o1 o2 o3 o4 o5 xs .nil false :: gQ C c l o0 o1 o2 o3 o4 o5 xs .nil false :: gQ C c l o0 o1 o2 o3 o4 o5 xs (.list 4 xs) false :: gQ C c l o0 o1 o2 o3 o4 o5 xs .nil false :: gQ C c l o0 o1 o2 o3 o4 o5 xs .nil false ::
  (C fAr [.agg (rqC c l o0 o1 o2 o3 o4 o5 (.list 4 xs)), .bool true] (rqH2 c l o0 o1 o2 o3 o4 o5 xs) = some (.tuple [.list 1 ps, iN e], rqH2 c l o0 o1 o2 o3 o4 o5 xs, none)) ::
  (C fAr [.agg (rqC c l 0 0 0 0 0 0 (.list 4 xs)), .bool false] (rqH2 c l o0 o1 o2 o3 o4 o5 xs) = some (.tuple [.list 1 bs, iN f], rqH2 c l o0 o1 o2 o3 o4 o5 xs, none)) :: t
end
abbrev rqP (ps bs : List (List DV)) (e f : Nat) (t : Yath) : Yath := (9, .q (.bool true)) :: (12, .c [(6, .q (.bool false)), (11, .q (.bool false)), (17, .q (.bool false)), (23, .q (.bool false)), (29, .q (.bool false))]) :: (23, .q (.tuple [.list 1 ps, iN e])) :: (28, .q (.tuple [.list 1 bs, iN f])) :: t
section
variable (c l : Nat) (o0 o1 o2 o3 o4 o5 : UInt8) (xs ps bs : List (List DV))
set_option maxRecDepth 1000000 in
theorem rqG : zflat (zans Try.prog tab ftab cRq fRq [.agg (rqC c l o0 o1 o2 o3 o4 o5 (.list 4 xs))] [(9, .q (.bool true)), (12, .c [(6, .q (.bool false)), (11, .q (.bool false)), (17, .q (.bool true))])]) =
    some (.bool true, (cRq fAl [] (rqH1 c l o0 o1 o2 o3 o4 o5 xs) = some (.bool true, rqH1 c l o0 o1 o2 o3 o4 o5 xs, none)) :: gQ cRq c l o0 o1 o2 o3 o4 o5 xs .nil false :: gQ cRq c l o0 o1 o2 o3 o4 o5 xs .nil false :: gQ cRq c l o0 o1 o2 o3 o4 o5 xs (.list 4 xs) true :: []) := by kernel_rfl
set_option maxRecDepth 1000000 in
theorem rqE (e : Nat) : zflat (zans Try.prog tab ftab cRq fRq [.agg (rqC c l o0 o1 o2 o3 o4 o5 (.list 4 xs))] (rqP ps bs e e [(32, .b true), (41, .b true)])) =
    some (.bool true, rqA cRq c l o0 o1 o2 o3 o4 o5 xs ps bs e e ((((e : Int) != 0) = true) :: (((e : Int) == (e : Int)) = true) :: [])) := by kernel_rfl
set_option maxRecDepth 1000000 in
theorem rqL : zflat (zans Try.prog tab ftab cRq fRq [.agg (rqC c l o0 o1 o2 o3 o4 o5 (.list 4 xs))] (rqP ps bs 11 0 [])) =
    some (.bool true, rqA cRq c l o0 o1 o2 o3 o4 o5 xs ps bs 11 0 []) := by kernel_rfl
abbrev rqS (H : Hp) (d : DV) (s : ByteArray) : Prop := convD tab H 37 9 d = some (.str s, H, none)
abbrev rqT (s : ByteArray) : Prop := eqBytes s.data.toList s.data.toList = true
set_option maxRecDepth 1000000 in
theorem rqO (na : Nat) (a1 b1 a2 a3 b3 : List (List DV)) (s1 s2 s3 : ByteArray) : zflat (zans Try.prog tab ftab cRq fRq [.agg (rqC c l o0 o1 o2 o3 o4 o5 (.list 4 xs))] (rqP ps bs 0 0 [(51, .b true), (58, .w (iN na)), (59, .b true), (63, .n (.list 1 a1)), (64, .h (.str s1) (rqH2 c l o0 o1 o2 o3 o4 o5 xs) none), (66, .n (.list 1 b1)), (67, .h (.str s1) (rqH2 c l o0 o1 o2 o3 o4 o5 xs) none), (68, .b true),
      (72, .n (.list 1 a2)), (73, .h (.str s2) (rqH2 c l o0 o1 o2 o3 o4 o5 xs) none), (76, .h (.str s2) (rqH2 c l o0 o1 o2 o3 o4 o5 xs) none), (77, .b true), (81, .n (.list 1 a3)), (82, .h (.str s3) (rqH2 c l o0 o1 o2 o3 o4 o5 xs) none), (84, .n (.list 1 b3)), (85, .h (.str s3) (rqH2 c l o0 o1 o2 o3 o4 o5 xs) none), (86, .b true)])) =
    some (.bool true, rqA cRq c l o0 o1 o2 o3 o4 o5 xs ps bs 0 0 ((decide ((bs.length : Int) ≥ 4) = true) :: (DV.int .i64 (IntKind.i64.wrap ((bs.length : Int) + 6)) = iN na) :: (((ps.length : Int) == (na : Int)) = true) ::
      (sliceD tab (rqH2 c l o0 o1 o2 o3 o4 o5 xs) bTI (.list 1 ps) none (some (.int .i64 4)) none = some (.list 1 a1)) :: rqS (rqH2 c l o0 o1 o2 o3 o4 o5 xs) (.list 1 a1) s1 :: (sliceD tab (rqH2 c l o0 o1 o2 o3 o4 o5 xs) bTI (.list 1 bs) none (some (.int .i64 4)) none = some (.list 1 b1)) :: rqS (rqH2 c l o0 o1 o2 o3 o4 o5 xs) (.list 1 b1) s1 :: rqT s1 ::
      (sliceD tab (rqH2 c l o0 o1 o2 o3 o4 o5 xs) bTI (.list 1 ps) (some (.int .i64 4)) (some (.int .i64 10)) none = some (.list 1 a2)) :: rqS (rqH2 c l o0 o1 o2 o3 o4 o5 xs) (.list 1 a2) s2 :: rqS (rqH2 c l o0 o1 o2 o3 o4 o5 xs) (.sl 0 2 1 6 6) s2 :: rqT s2 ::
      (sliceD tab (rqH2 c l o0 o1 o2 o3 o4 o5 xs) bTI (.list 1 ps) (some (.int .i64 10)) none none = some (.list 1 a3)) :: rqS (rqH2 c l o0 o1 o2 o3 o4 o5 xs) (.list 1 a3) s3 :: (sliceD tab (rqH2 c l o0 o1 o2 o3 o4 o5 xs) bTI (.list 1 bs) (some (.int .i64 4)) none none = some (.list 1 b3)) :: rqS (rqH2 c l o0 o1 o2 o3 o4 o5 xs) (.list 1 b3) s3 :: rqT s3 :: [])) := by kernel_rfl
end
theorem slice_mid {hp : Hp} {xs : List (List DV)} {m n : Nat} (hm : m ≤ n) (hn : n ≤ xs.length) : sliceD tab hp bTI (.list 1 xs) (some (iN m)) (some (iN n)) none = some (.list 1 ((xs.drop m).take (n - m))) := by
  have e1 : decide ((0 : Int) ≤ (n : Int)) = true := decide_eq_true (by omega)
  have e2 : decide ((0 : Int) ≤ (m : Int)) = true := decide_eq_true (by omega)
  have b1 : Nat.ble m n = true := bleT hm
  have b2 : Nat.ble n xs.length = true := bleT hn
  simp only [sliceD, tab_u8, optI, iN, e1, e2, Int.toNat_natCast, b1, b2, Bool.and_self, show Nat.beq 1 1 = true from rfl]
section
variable (x : Rq) (E : List UInt8)
theorem by1_fr (b : Bool) : by1 (frR x b ++ E) = by1 (frR x b) ++ by1 E := by simp [by1]
end
theorem rqT_ok (b : List UInt8) : rqT ⟨b.toArray⟩ := by
  show eqBytes b b = true
  rw [eqBytes_iff]
  exact decide_eq_true rfl
theorem rq_all (x : Rq) (hx : okRq x) : Ans Try.prog fRq [rqD x] (.bool true) ⟨0, [], []⟩ := by
  have hf := hx
  obtain ⟨c, l, o0, o1, o2, o3, o4, o5, es⟩ := x
  obtain ⟨h1, h2, h3⟩ := hx
  have gN := cRq_gr (rqHg c l o0 o1 o2 o3 o4 o5 (elR es)) none
  have gL := cRq_gr (rqHg c l o0 o1 o2 o3 o4 o5 (elR es)) (some ⟨es, h3⟩)
  have al := cRq_al (rqC c l o0 o1 o2 o3 o4 o5 (.list 4 (elR es)))
  cases hq : grB es with
  | true =>
    have gL : gQ cRq c l o0 o1 o2 o3 o4 o5 (elR es) (.list 4 (elR es)) true := by
      show cRq fGr [gnA (some ⟨es, h3⟩)] _ = _
      rw [gL]
      show some (DV.bool (grB es), _, _) = _
      rw [hq]
    exact zflat_ok tab_ok mixed fun_ok cRq_ok (rqG c l o0 o1 o2 o3 o4 o5 (elR es)) (.cons al (.cons gN (.cons gN (.cons gL .nil))))
  | false =>
    have gL : gQ cRq c l o0 o1 o2 o3 o4 o5 (elR es) (.list 4 (elR es)) false := by
      show cRq fGr [gnA (some ⟨es, h3⟩)] _ = _
      rw [gL]
      show some (DV.bool (grB es), _, _) = _
      rw [hq]
    obtain ⟨hs, _⟩ := small_of h3.2 hq
    have hdep := dep_of hq
    have aT := cRq_ar (rqH2 c l o0 o1 o2 o3 o4 o5 (elR es)) (⟨⟨c, l, o0, o1, o2, o3, o4, o5, es⟩, hf, hs, Nat.le_trans hdep (by decide)⟩, true)
    have aF := cRq_ar (rqH2 c l o0 o1 o2 o3 o4 o5 (elR es)) (⟨⟨c, l, o0, o1, o2, o3, o4, o5, es⟩, hf, hs, Nat.le_trans hdep (by decide)⟩, false)
    dsimp only at aT aF
    unfold wiD at aT aF
    have first : ∀ {ps bs : List (List DV)} {e f : Nat} {t : List Prop}, cRq fAr [.agg (rqC c l o0 o1 o2 o3 o4 o5 (.list 4 (elR es))), .bool true] (rqH2 c l o0 o1 o2 o3 o4 o5 (elR es)) = some (.tuple [.list 1 ps, iN e], rqH2 c l o0 o1 o2 o3 o4 o5 (elR es), none) →
        cRq fAr [.agg (rqC c l 0 0 0 0 0 0 (.list 4 (elR es))), .bool false] (rqH2 c l o0 o1 o2 o3 o4 o5 (elR es)) = some (.tuple [.list 1 bs, iN f], rqH2 c l o0 o1 o2 o3 o4 o5 (elR es), none) → AskedP t → AskedP (rqA cRq c l o0 o1 o2 o3 o4 o5 (elR es) ps bs e f t) :=
      fun p q ht => .cons al (.cons gN (.cons gN (.cons gL (.cons gN (.cons gN (.cons p (.cons q ht)))))))
    cases he : (szR es).2 with
    | succ e =>
      rw [he] at aT aF
      exact zflat_ok tab_ok mixed fun_ok cRq_ok (rqE c l o0 o1 o2 o3 o4 o5 (elR es) [] [] (e + 1)) (first aT aF (.cons (bne_iff_ne.2 (by omega)) (.cons (beq_iff_eq.2 rfl) .nil)))
    | zero =>
      rw [he] at aT aF
      skip
      obtain ⟨E, hE⟩ : ∃ E, E = encA es := ⟨_, rfl⟩
      rw [← hE] at aT aF
      obtain ⟨q1, q2, q3, q4⟩ := szR_zero he
      have hle := szA_le es q3
      have hn64 := vf_len es (by decide) q1
      rw [← hE] at hle
      cases hT : Nat.ble ((frR ⟨c, l, o0, o1, o2, o3, o4, o5, es⟩ true).length + E.length) 2304 with
      | false =>
        rw [hT] at aT
        cases hF : Nat.ble ((frR ⟨c, l, o0, o1, o2, o3, o4, o5, es⟩ false).length + E.length) 2304 with
        | false =>
          rw [hF] at aF
          exact zflat_ok tab_ok mixed fun_ok cRq_ok (rqE c l o0 o1 o2 o3 o4 o5 (elR es) [] [] 11) (first aT aF (.cons rfl (.cons rfl .nil)))
        | true =>
          rw [hF] at aF
          exact zflat_ok tab_ok mixed fun_ok cRq_ok (rqL c l o0 o1 o2 o3 o4 o5 (elR es) [] _) (first aT aF .nil)
      | true =>
        rw [hT] at aT
        have hle10 : 10 + E.length ≤ 2304 := Nat.le_of_ble_eq_true hT
        have hF : Nat.ble ((frR ⟨c, l, o0, o1, o2, o3, o4, o5, es⟩ false).length + E.length) 2304 = true := bleT (show 4 + E.length ≤ 2304 by omega)
        rw [hF] at aF
        have lT : (by1 (frR ⟨c, l, o0, o1, o2, o3, o4, o5, es⟩ true ++ E)).length = 10 + E.length := by rw [by1_length, List.length_append]; rfl
        have lF : (by1 (frR ⟨c, l, o0, o1, o2, o3, o4, o5, es⟩ false ++ E)).length = 4 + E.length := by rw [by1_length, List.length_append]; rfl
        refine zflat_ok tab_ok mixed fun_ok cRq_ok (rqO c l o0 o1 o2 o3 o4 o5 (elR es) _ _ (10 + E.length) (by1 (frR ⟨c, l, o0, o1, o2, o3, o4, o5, es⟩ false)) (by1 (frR ⟨c, l, o0, o1, o2, o3, o4, o5, es⟩ false)) (by1 [o0, o1, o2, o3, o4, o5]) (by1 E) (by1 E) ⟨(frR ⟨c, l, o0, o1, o2, o3, o4, o5, es⟩ false).toArray⟩ ⟨[o0, o1, o2, o3, o4, o5].toArray⟩ ⟨E.toArray⟩)
          (first aT aF (.cons ?_ (.cons ?_ (.cons ?_ (.cons ?_ (.cons (conv_str (.inl rfl)) (.cons ?_ (.cons (conv_str (.inl rfl)) (.cons (rqT_ok _) (.cons ?_ (.cons (conv_str (.inl rfl)) (.cons ?_ (.cons (rqT_ok _) (.cons ?_ (.cons (conv_str (.inl rfl)) (.cons ?_ (.cons (conv_str (.inl rfl)) (.cons (rqT_ok _) .nil))))))))))))))))))
        · exact decide_eq_true (by rw [lF]; omega)
        · rw [lF, show ((4 + E.length : Nat) : Int) + 6 = ((10 + E.length : Nat) : Int) by omega]
          exact congrArg (DV.int .i64) (wrapI (by omega))
        · rw [lT]
          exact beq_iff_eq.2 rfl
        · exact slice_to (n := 4) (by rw [lT]; omega)
        · exact slice_to (n := 4) (by rw [lF]; omega)
        · exact slice_mid (m := 4) (n := 10) (by omega) (by rw [lT]; omega)
        · exact conv_str (bs := [o0, o1, o2, o3, o4, o5]) (.inr ⟨0, 2, _, 6, rfl, rfl, fun i b hb => by
            match i, hb with
            | 0, hb => cases hb; rfl
            | 1, hb => cases hb; rfl
            | 2, hb => cases hb; rfl
            | 3, hb => cases hb; rfl
            | 4, hb => cases hb; rfl
            | 5, hb => cases hb; rfl⟩)
        · exact slice_from (n := 10) (by rw [lT]; omega)
        · exact slice_from (n := 4) (by rw [lF]; omega)
end
end Go.Proofs.Ytagliahkojmncaa
