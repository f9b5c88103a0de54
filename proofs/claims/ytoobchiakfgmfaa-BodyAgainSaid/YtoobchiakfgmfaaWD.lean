/- BodyAgain, in groups of statements: the first, and authentications as an example of the others. -/
import Derived.Test.YtoobchiakfgmfaaWC
import Derived.Test.YtoobchiakfgmfaaZd
namespace Go.Proofs.Ytoobchiakfgmfaa
open Go.RowKit

noncomputable section
abbrev fAg : FuncId := 6
abbrev fGo : FuncId := 43
abbrev kAg : List (Nat × Nat) := ksF ftab fAg
def agL : List Code := spine (bodyOf ftab fAg)
abbrev agS (ag : Bool) : Slots := mkT 174 [(1, .bool ag), (2, .ptr 0 0), (5, .bool true), (6, .fn fGo [] [.ptr 0 0])]
abbrev oBx (bs : List (List DV)) : Ob := ⟨0, 0, 37, [.list 1 bs]⟩
abbrev agH (bs : List (List DV)) : Hp := ⟨1, [oBx bs], []⟩
theorem flat_box {bs : List (List DV)} {h : Hp} (hg : h.get 0 = some (oBx bs)) : FlatIn [0] h := by
  intro id o hid ho a ha
  obtain rfl : id = 0 := List.mem_singleton.1 hid
  rw [hg] at ho
  cases ho
  obtain rfl := List.mem_singleton.1 ha
  rfl
theorem wiD_fl (f : List UInt8) (l : List El) : flatD (wiD f l) = true := by
  unfold wiD
  repeat' split
  all_goals rfl
theorem nlD_fl {d : DV} (s : Nat) (h : flatD d = true) : flatD (nlD s d) = true := by
  unfold nlD
  split
  · rename_i cs x
    have h1 : (flats1 cs && (flat2 x && true)) = true := h
    simp only [Bool.and_eq_true] at h1
    show (flats1 (cs.map (nl1 s)) && (flat2 x && true)) = true
    rw [h1.2.1]
    have : ∀ l : List DV, flats1 l = true → flats1 (l.map (nl1 s)) = true := by
      intro l
      induction l with
      | nil => exact fun _ => rfl
      | cons d r ih =>
        intro hl
        have h2 : (flat1 d && flats1 r) = true := hl
        simp only [Bool.and_eq_true] at h2
        show (flat1 (nl1 s d) && flats1 (r.map (nl1 s))) = true
        rw [ih h2.2]
        cases d <;> first | rfl | simpa [nl1] using h2.1
    rw [this cs h1.1]
    rfl
  · exact h
theorem eq_tt : ∀ (l : List UInt8), eqBytes l l = true
  | [] => rfl
  | b :: l => by
    simp only [eqBytes, beqT (rfl : b.toNat = b.toNat)]
    exact eq_tt l
/-! ### Authentications -/
def cDan : ConF := liftC (eqC fDDa (fun x : Bs => [byL x.1]) fun x => (nlD 4 (DaD x.1), ⟨0, [], []⟩))
theorem cDan_ok : ConOk Try.prog cDan := liftC_ok (eqC_ok (fun x => Ans.nlD 4 (Dad_ans x)) fun _ => rfl)
theorem cDan_at (hp : Hp) (b : List UInt8) (h : b.length < 2 ^ 30) : cDan fDDa [byL b] hp = some (nlD 4 (DaD b), hp, none) :=
  lift_at (A := fun x : Bs => [byL x.1]) (D := fun x => nlD 4 (DaD x.1)) (fun x y hxy => by
    simp only [List.cons.injEq, and_true] at hxy
    rw [byL_in hxy]) hp ⟨b, h⟩ rfl (nlD_fl 4 (DaD_flat b))
theorem cEAu_at (hp : Hp) (a b c : Nat) (l : List El) (h : (a < 65536 ∧ b < 65536 ∧ c < 65536) ∧ SmL l ∧ depA l ≤ 2 ^ 39) : cEAu fEAu [.agg [w16 a, w16 b, w16 c, elsD l]] hp = some (wiD (frAu a b c) l, hp, none) :=
  lift_at (A := fun x : XAu => [.agg [w16 x.1.1.1, w16 x.1.1.2.1, w16 x.1.1.2.2, elsD x.1.2]]) (D := fun x => wiD (frAu x.1.1.1 x.1.1.2.1 x.1.1.2.2) x.1.2) (fun x y hxy => by
    simp only [List.cons.injEq, and_true, DV.agg.injEq, DV.int.injEq, true_and] at hxy
    rw [show x.1.1.1 = y.1.1.1 by omega, show x.1.1.2.1 = y.1.1.2.1 by omega, show x.1.1.2.2 = y.1.1.2.2 by omega, els_inj hxy.2.2.2]) hp ⟨((a, b, c), l), h⟩ rfl (wiD_fl _ _)
def cG2t : ConF := orK cDan cEAu
theorem cG2t_ok : ConOk Try.prog cG2t := orK_ok cDan_ok cEAu_ok
section
variable (ag : Bool) (bs cs es : List (List DV)) (i0 i1 i2 : Int) (e f : Nat) (s : ByteArray)
abbrev g2C : List DV := [.int .u16 i0, .int .u16 i1, .int .u16 i2, .list 4 es]
abbrev g2H : Hp := ⟨2, [⟨0, 0, 28, g2C es i0 i1 i2⟩, oBx bs], []⟩
set_option maxRecDepth 1000000 in
theorem g2E : zlm [0] [0] [1, 2, 5, 6] (zl Try.prog tab ftab cG2t kAg ((agL.drop 7).take 3) (agS ag) (agH bs) [(48, .q (.tuple [.agg (g2C es i0 i1 i2), iN e])), (53, .q (.tuple [.list 1 cs, iN f])), (62, .c [(9, .b true)])]) =
    some (agS ag, agH bs, FlatIn [0] (g2H bs es i0 i1 i2) :: (cG2t fDDa [.list 1 bs] (agH bs) = some (.tuple [.agg (g2C es i0 i1 i2), iN e], agH bs, none)) :: (cG2t fEAu [.agg (g2C es i0 i1 i2)] (g2H bs es i0 i1 i2) = some (.tuple [.list 1 cs, iN f], g2H bs es i0 i1 i2, none)) :: (((e : Int) != 0) = true) :: []) := by kernel_rfl
set_option maxRecDepth 1000000 in
theorem g2O : zlm [0] [0] [1, 2, 5, 6] (zl Try.prog tab ftab cG2t kAg ((agL.drop 7).take 3) (agS ag) (agH bs) [(48, .q (.tuple [.agg (g2C es i0 i1 i2), iN 0])), (53, .q (.tuple [.list 1 bs, iN 0])), (62, .c [(15, .h (.str s) (g2H bs es i0 i1 i2) none), (17, .h (.str s) (g2H bs es i0 i1 i2) none), (18, .b true)])]) =
    some (agS ag, agH bs, FlatIn [0] (g2H bs es i0 i1 i2) :: (cG2t fDDa [.list 1 bs] (agH bs) = some (.tuple [.agg (g2C es i0 i1 i2), iN 0], agH bs, none)) :: (cG2t fEAu [.agg (g2C es i0 i1 i2)] (g2H bs es i0 i1 i2) = some (.tuple [.list 1 bs, iN 0], g2H bs es i0 i1 i2, none)) :: (convD tab (g2H bs es i0 i1 i2) 37 9 (.list 1 bs) = some (.str s, g2H bs es i0 i1 i2, none)) :: (convD tab (g2H bs es i0 i1 i2) 37 9 (.list 1 bs) = some (.str s, g2H bs es i0 i1 i2, none)) :: (eqBytes s.data.toList s.data.toList = true) :: []) := by kernel_rfl
end
theorem wiD_form (f : List UInt8) (l : List El) : ∃ cs n, wiD f l = .tuple [.list 1 cs, iN n] := by
  unfold wiD
  repeat' split
  all_goals exact ⟨_, _, rfl⟩
theorem frAu_take {b : List UInt8} (h : 6 ≤ b.length) : frAu (g16 b 0) (g16 b 2) (g16 b 4) = b.take 6 := by
  have e0 := by2_take (b := b) (x := 0) (by omega)
  have e1 := by2_take (b := b) (x := 2) (by omega)
  have e2 := by2_take (b := b) (x := 4) (by omega)
  show by2 (g16 b 0) ++ (by2 (g16 b 2) ++ by2 (g16 b 4)) = _
  rw [e0, e1, e2, take_two b 2 2 2]
  exact take_two b 0 2 4
theorem grp2 {b : List UInt8} (hb : b.length < 2 ^ 30) (ag : Bool) {B : List Code} {e : Ex} {s2 : Slots} {h2 : Hp} (k : GL Try.prog tab kAg B (agS ag) (agH (by1 b)) e s2 h2) : GL Try.prog tab kAg ((agL.drop 7).take 3 ++ B) (agS ag) (agH (by1 b)) e s2 h2 := by
  have bad : ∀ n : Nat, DaD b = .tuple [.agg [.int .u16 0, .int .u16 0, .int .u16 0, .nil], iN (n + 1)] → GL Try.prog tab kAg ((agL.drop 7).take 3 ++ B) (agS ag) (agH (by1 b)) e s2 h2 := fun n hn => by
    have d : cG2t fDDa [byL b] (agH (by1 b)) = some (nlD 4 (DaD b), agH (by1 b), none) := orK_left (cDan_at _ b hb)
    rw [hn] at d
    obtain ⟨cs, f, hw⟩ := wiD_form (frAu 0 0 0) []
    have q : cG2t fEAu [.agg [w16 0, w16 0, w16 0, elsD []]] (g2H (by1 b) [] 0 0 0) = some (wiD (frAu 0 0 0) [], g2H (by1 b) [] 0 0 0, none) := orK_right (lift_oth (eqC_other (by kernel_rfl))) (cEAu_at _ 0 0 0 [] ⟨⟨by decide, by decide, by decide⟩, ⟨by decide, trivial⟩, by decide⟩)
    rw [hw] at q
    exact zlm_ok tab_ok mixed fun_ok cG2t_ok (g2E ag (by1 b) cs [] 0 0 0 (n + 1) f) (.cons (flat_box rfl) (.cons d (.cons q (.cons (bne_iff_ne.2 (by omega)) .nil)))) k
  unfold DaD at bad
  cases h1 : Nat.ble b.length 2304 with
  | false => exact bad 10 (by rw [h1])
  | true =>
    cases h3 : Nat.ble 6 b.length with
    | false => exact bad 9 (by rw [h1, h3])
    | true =>
      cases he : deE (b.drop 6) with
      | succ n => exact bad n (by rw [h1, h3]; dsimp only; rw [he]; rfl)
      | zero =>
        have h1' := Nat.le_of_ble_eq_true h1
        have h3' := Nat.le_of_ble_eq_true h3
        have d : cG2t fDDa [byL b] (agH (by1 b)) = some (nlD 4 (DaD b), agH (by1 b), none) := orK_left (cDan_at _ b hb)
        unfold DaD at d
        rw [h1, h3] at d
        dsimp only at d
        rw [he] at d
        obtain ⟨w1, w2⟩ := wi_back h1' h3' (frAu_take h3') he
        have q : cG2t fEAu [.agg [w16 (g16 b 0), w16 (g16 b 2), w16 (g16 b 4), elsD (deL (b.drop 6))]] (g2H (by1 b) (elR (deL (b.drop 6))) (g16 b 0) (g16 b 2) (g16 b 4)) = some (wiD (frAu (g16 b 0) (g16 b 2) (g16 b 4)) (deL (b.drop 6)), g2H (by1 b) (elR (deL (b.drop 6))) (g16 b 0) (g16 b 2) (g16 b 4), none) := orK_right (lift_oth (eqC_other (by kernel_rfl))) (cEAu_at _ _ _ _ _ ⟨⟨g16_lt b 0, g16_lt b 2, g16_lt b 4⟩, w2⟩)
        rw [w1] at q
        have cv : ∀ h, convD tab h 37 9 (.list 1 (by1 b)) = some (.str ⟨b.toArray⟩, h, none) := fun h => conv_str (.inl rfl)
        exact zlm_ok tab_ok mixed fun_ok cG2t_ok (g2O ag (by1 b) (elR (deL (b.drop 6))) (g16 b 0) (g16 b 2) (g16 b 4) ⟨b.toArray⟩) (.cons (flat_box rfl) (.cons d (.cons q (.cons (cv _) (.cons (cv _) (.cons (eq_tt _) .nil)))))) k
end
end Go.Proofs.Ytoobchiakfgmfaa
/- BodyAgain: beacons. -/
namespace Go.Proofs.Ytoobchiakfgmfaa
open Go.RowKit

noncomputable section
theorem g64_lt (b : List UInt8) (x : Nat) : g64 b x < 18446744073709551616 := by
  have h := leN_lt ((b.drop x).take 8)
  have h2 : ((b.drop x).take 8).length ≤ 8 := by rw [List.length_take]; omega
  have h3 : 256 ^ ((b.drop x).take 8).length ≤ 256 ^ 8 := Nat.pow_le_pow_right (by decide) h2
  show leN _ < _
  omega
theorem frBe_take {b : List UInt8} (h : 12 ≤ b.length) : frBe (g64 b 0) (g16 b 8) (g16 b 10) = b.take 12 := by
  have e0 := by8_take (b := b) (x := 0) (by omega)
  have e1 := by2_take (b := b) (x := 8) (by omega)
  have e2 := by2_take (b := b) (x := 10) (by omega)
  show by8 (g64 b 0) ++ (by2 (g16 b 8) ++ by2 (g16 b 10)) = _
  rw [e0, e1, e2, take_two b 8 2 2]
  exact take_two b 0 8 4
def cD1q : ConF := liftC (eqC fDDn (fun x : Bs => [byL x.1]) fun x => (nlD 4 (DnD x.1), ⟨0, [], []⟩))
theorem cD1q_ok : ConOk Try.prog cD1q := liftC_ok (eqC_ok (fun x => Ans.nlD 4 (Dnd_ans x)) fun _ => rfl)
theorem cD1q_at (hp : Hp) (b : List UInt8) (h : b.length < 2 ^ 30) : cD1q fDDn [byL b] hp = some (nlD 4 (DnD b), hp, none) :=
  lift_at (A := fun x : Bs => [byL x.1]) (D := fun x => nlD 4 (DnD x.1)) (fun x y hxy => by
    simp only [List.cons.injEq, and_true] at hxy
    rw [byL_in hxy]) hp ⟨b, h⟩ rfl (nlD_fl 4 (DnD_flat b))
theorem cE1q_at (hp : Hp) (n0 n1 n2 : Nat) (l : List El) (h : (n0 < 18446744073709551616 ∧ n1 < 65536 ∧ n2 < 65536) ∧ SmL l ∧ depA l ≤ 2 ^ 39) : cEBe fEBe [.agg [.int .u64 (n0 : Int), w16 n1, w16 n2, elsD l]] hp = some (wiD (frBe n0 n1 n2) l, hp, none) :=
  lift_at (A := fun x : XBe => [.agg [.int .u64 (x.1.1.1 : Int), w16 x.1.1.2.1, w16 x.1.1.2.2, elsD x.1.2]]) (D := fun x => wiD (frBe x.1.1.1 x.1.1.2.1 x.1.1.2.2) x.1.2) (fun x y hxy => by
    simp only [List.cons.injEq, and_true, DV.agg.injEq, DV.int.injEq, true_and] at hxy
    rw [show x.1.1.1 = y.1.1.1 by omega, show x.1.1.2.1 = y.1.1.2.1 by omega, show x.1.1.2.2 = y.1.1.2.2 by omega, els_inj hxy.2.2.2]) hp ⟨((n0, n1, n2), l), h⟩ rfl (wiD_fl _ _)
def cG1t : ConF := orK cD1q cEBe
theorem cG1t_ok : ConOk Try.prog cG1t := orK_ok cD1q_ok cEBe_ok
section
variable (ag : Bool) (bs cs es : List (List DV)) (i0 i1 i2 : Int) (e f : Nat) (s : ByteArray)
abbrev g1C : List DV := [.int .u64 i0, .int .u16 i1, .int .u16 i2, .list 4 es]
abbrev g1H : Hp := ⟨2, [⟨0, 0, 26, g1C es i0 i1 i2⟩, oBx bs], []⟩
set_option maxRecDepth 1000000 in
theorem g1E : zlm [0] [0] [1, 2, 5, 6] (zl Try.prog tab ftab cG1t kAg ((agL.drop 4).take 3) (agS ag) (agH bs) [(30, .q (.tuple [.agg (g1C es i0 i1 i2), iN e])), (35, .q (.tuple [.list 1 cs, iN f])), (44, .c [(9, .b true)])]) =
    some (agS ag, agH bs, FlatIn [0] (g1H bs es i0 i1 i2) :: (cG1t fDDn [.list 1 bs] (agH bs) = some (.tuple [.agg (g1C es i0 i1 i2), iN e], agH bs, none)) :: (cG1t fEBe [.agg (g1C es i0 i1 i2)] (g1H bs es i0 i1 i2) = some (.tuple [.list 1 cs, iN f], g1H bs es i0 i1 i2, none)) :: (((e : Int) != 0) = true) :: []) := by kernel_rfl
set_option maxRecDepth 1000000 in
theorem g1O : zlm [0] [0] [1, 2, 5, 6] (zl Try.prog tab ftab cG1t kAg ((agL.drop 4).take 3) (agS ag) (agH bs) [(30, .q (.tuple [.agg (g1C es i0 i1 i2), iN 0])), (35, .q (.tuple [.list 1 bs, iN 0])), (44, .c [(15, .h (.str s) (g1H bs es i0 i1 i2) none), (17, .h (.str s) (g1H bs es i0 i1 i2) none), (18, .b true)])]) =
    some (agS ag, agH bs, FlatIn [0] (g1H bs es i0 i1 i2) :: (cG1t fDDn [.list 1 bs] (agH bs) = some (.tuple [.agg (g1C es i0 i1 i2), iN 0], agH bs, none)) :: (cG1t fEBe [.agg (g1C es i0 i1 i2)] (g1H bs es i0 i1 i2) = some (.tuple [.list 1 bs, iN 0], g1H bs es i0 i1 i2, none)) :: (convD tab (g1H bs es i0 i1 i2) 37 9 (.list 1 bs) = some (.str s, g1H bs es i0 i1 i2, none)) :: (convD tab (g1H bs es i0 i1 i2) 37 9 (.list 1 bs) = some (.str s, g1H bs es i0 i1 i2, none)) :: (eqBytes s.data.toList s.data.toList = true) :: []) := by kernel_rfl
end
theorem grp1 {b : List UInt8} (hb : b.length < 2 ^ 30) (ag : Bool) {B : List Code} {e : Ex} {s2 : Slots} {h2 : Hp} (k : GL Try.prog tab kAg B (agS ag) (agH (by1 b)) e s2 h2) : GL Try.prog tab kAg ((agL.drop 4).take 3 ++ B) (agS ag) (agH (by1 b)) e s2 h2 := by
  have bad : ∀ n : Nat, DnD b = .tuple [.agg [.int .u64 0, .int .u16 0, .int .u16 0, .nil], iN (n + 1)] → GL Try.prog tab kAg ((agL.drop 4).take 3 ++ B) (agS ag) (agH (by1 b)) e s2 h2 := fun n hn => by
    have d : cG1t fDDn [byL b] (agH (by1 b)) = some (nlD 4 (DnD b), agH (by1 b), none) := orK_left (cD1q_at _ b hb)
    rw [hn] at d
    obtain ⟨cs, f, hw⟩ := wiD_form (frBe 0 0 0) []
    have q : cG1t fEBe [.agg [.int .u64 ((0 : Nat) : Int), w16 0, w16 0, elsD []]] (g1H (by1 b) [] 0 0 0) = some (wiD (frBe 0 0 0) [], g1H (by1 b) [] 0 0 0, none) := orK_right (lift_oth (eqC_other (by kernel_rfl))) (cE1q_at _ 0 0 0 [] ⟨⟨by decide, by decide, by decide⟩, ⟨by decide, trivial⟩, by decide⟩)
    rw [hw] at q
    exact zlm_ok tab_ok mixed fun_ok cG1t_ok (g1E ag (by1 b) cs [] 0 0 0 (n + 1) f) (.cons (flat_box rfl) (.cons d (.cons q (.cons (bne_iff_ne.2 (by omega)) .nil)))) k
  unfold DnD at bad
  cases h1 : Nat.ble b.length 2304 with
  | false => exact bad 10 (by rw [h1])
  | true =>
    cases h3 : Nat.ble 12 b.length with
    | false => exact bad 9 (by rw [h1, h3])
    | true =>
      cases he : deE (b.drop 12) with
      | succ n => exact bad n (by rw [h1, h3]; dsimp only; rw [he]; rfl)
      | zero =>
        have h1' := Nat.le_of_ble_eq_true h1
        have h3' := Nat.le_of_ble_eq_true h3
        have d : cG1t fDDn [byL b] (agH (by1 b)) = some (nlD 4 (DnD b), agH (by1 b), none) := orK_left (cD1q_at _ b hb)
        unfold DnD at d
        rw [h1, h3] at d
        dsimp only at d
        rw [he] at d
        obtain ⟨w1, w2⟩ := wi_back h1' h3' (frBe_take h3') he
        have q : cG1t fEBe [.agg [.int .u64 ((g64 b 0) : Int), w16 (g16 b 8), w16 (g16 b 10), elsD (deL (b.drop 12))]] (g1H (by1 b) (elR (deL (b.drop 12))) (g64 b 0) (g16 b 8) (g16 b 10)) = some (wiD (frBe (g64 b 0) (g16 b 8) (g16 b 10)) (deL (b.drop 12)), g1H (by1 b) (elR (deL (b.drop 12))) (g64 b 0) (g16 b 8) (g16 b 10), none) := orK_right (lift_oth (eqC_other (by kernel_rfl))) (cE1q_at _ _ _ _ _ ⟨⟨g64_lt b 0, g16_lt b 8, g16_lt b 10⟩, w2⟩)
        rw [w1] at q
        have cv : ∀ h, convD tab h 37 9 (.list 1 (by1 b)) = some (.str ⟨b.toArray⟩, h, none) := fun h => conv_str (.inl rfl)
        exact zlm_ok tab_ok mixed fun_ok cG1t_ok (g1O ag (by1 b) (elR (deL (b.drop 12))) (g64 b 0) (g16 b 8) (g16 b 10) ⟨b.toArray⟩) (.cons (flat_box rfl) (.cons d (.cons q (.cons (cv _) (.cons (cv _) (.cons (eq_tt _) .nil)))))) k
end
end Go.Proofs.Ytoobchiakfgmfaa
/- BodyAgain: answers to associations, reasons. -/
namespace Go.Proofs.Ytoobchiakfgmfaa
open Go.RowKit

noncomputable section
theorem drD_fl (b : List UInt8) : flatD (drD b) = true := by
  unfold drD
  repeat' split
  all_goals rfl
theorem frE_take {b : List UInt8} (h : 2 ≤ b.length) : frE (g16 b 0) = b.take 2 := by2_take (b := b) (x := 0) (by omega)
def cD5q : ConF := liftC (eqC fDr (fun x : Bs => [byL x.1]) fun x => (nlD 4 (drD x.1), ⟨0, [], []⟩))
theorem cD5q_ok : ConOk Try.prog cD5q := liftC_ok (eqC_ok (fun x => Ans.nlD 4 (dr_ans x)) fun _ => rfl)
theorem cD5q_at (hp : Hp) (b : List UInt8) (h : b.length < 2 ^ 30) : cD5q fDr [byL b] hp = some (nlD 4 (drD b), hp, none) :=
  lift_at (A := fun x : Bs => [byL x.1]) (D := fun x => nlD 4 (drD x.1)) (fun x y hxy => by
    simp only [List.cons.injEq, and_true] at hxy
    rw [byL_in hxy]) hp ⟨b, h⟩ rfl (nlD_fl 4 (drD_fl b))
theorem cE5q_at (hp : Hp) (n0 : Nat) (l : List El) (h : (n0 < 65536) ∧ SmL l ∧ depA l ≤ 2 ^ 39) : cEr fEr [.agg [w16 n0, elsD l]] hp = some (wiD (frE n0) l, hp, none) :=
  lift_at (A := fun x : ErX => [.agg [w16 x.1.1, elsD x.1.2]]) (D := fun x => wiD (frE x.1.1) x.1.2) (fun x y hxy => by
    simp only [List.cons.injEq, and_true, DV.agg.injEq, DV.int.injEq, true_and] at hxy
    rw [show x.1.1 = y.1.1 by omega, els_inj hxy.2]) hp ⟨(n0, l), h⟩ rfl (wiD_fl _ _)
def cG5t : ConF := orK cD5q cEr
theorem cG5t_ok : ConOk Try.prog cG5t := orK_ok cD5q_ok cEr_ok
section
variable (ag : Bool) (bs cs es : List (List DV)) (i0 : Int) (e f : Nat) (s : ByteArray)
abbrev g5C : List DV := [.int .u16 i0, .list 4 es]
abbrev g5H : Hp := ⟨2, [⟨0, 0, 36, g5C es i0⟩, oBx bs], []⟩
set_option maxRecDepth 1000000 in
theorem g5E : zlm [0] [0] [1, 2, 5, 6] (zl Try.prog tab ftab cG5t kAg ((agL.drop 16).take 3) (agS ag) (agH bs) [(104, .q (.tuple [.agg (g5C es i0), iN e])), (109, .q (.tuple [.list 1 cs, iN f])), (118, .c [(9, .b true)])]) =
    some (agS ag, agH bs, FlatIn [0] (g5H bs es i0) :: (cG5t fDr [.list 1 bs] (agH bs) = some (.tuple [.agg (g5C es i0), iN e], agH bs, none)) :: (cG5t fEr [.agg (g5C es i0)] (g5H bs es i0) = some (.tuple [.list 1 cs, iN f], g5H bs es i0, none)) :: (((e : Int) != 0) = true) :: []) := by kernel_rfl
set_option maxRecDepth 1000000 in
theorem g5O : zlm [0] [0] [1, 2, 5, 6] (zl Try.prog tab ftab cG5t kAg ((agL.drop 16).take 3) (agS ag) (agH bs) [(104, .q (.tuple [.agg (g5C es i0), iN 0])), (109, .q (.tuple [.list 1 bs, iN 0])), (118, .c [(15, .h (.str s) (g5H bs es i0) none), (17, .h (.str s) (g5H bs es i0) none), (18, .b true)])]) =
    some (agS ag, agH bs, FlatIn [0] (g5H bs es i0) :: (cG5t fDr [.list 1 bs] (agH bs) = some (.tuple [.agg (g5C es i0), iN 0], agH bs, none)) :: (cG5t fEr [.agg (g5C es i0)] (g5H bs es i0) = some (.tuple [.list 1 bs, iN 0], g5H bs es i0, none)) :: (convD tab (g5H bs es i0) 37 9 (.list 1 bs) = some (.str s, g5H bs es i0, none)) :: (convD tab (g5H bs es i0) 37 9 (.list 1 bs) = some (.str s, g5H bs es i0, none)) :: (eqBytes s.data.toList s.data.toList = true) :: []) := by kernel_rfl
end
theorem grp5 {b : List UInt8} (hb : b.length < 2 ^ 30) (ag : Bool) {B : List Code} {e : Ex} {s2 : Slots} {h2 : Hp} (k : GL Try.prog tab kAg B (agS ag) (agH (by1 b)) e s2 h2) : GL Try.prog tab kAg ((agL.drop 16).take 3 ++ B) (agS ag) (agH (by1 b)) e s2 h2 := by
  have bad : ∀ n : Nat, drD b = .tuple [.agg [.int .u16 0, .nil], iN (n + 1)] → GL Try.prog tab kAg ((agL.drop 16).take 3 ++ B) (agS ag) (agH (by1 b)) e s2 h2 := fun n hn => by
    have d : cG5t fDr [byL b] (agH (by1 b)) = some (nlD 4 (drD b), agH (by1 b), none) := orK_left (cD5q_at _ b hb)
    rw [hn] at d
    obtain ⟨cs, f, hw⟩ := wiD_form (frE 0) []
    have q : cG5t fEr [.agg [w16 0, elsD []]] (g5H (by1 b) [] 0) = some (wiD (frE 0) [], g5H (by1 b) [] 0, none) := orK_right (lift_oth (eqC_other (by kernel_rfl))) (cE5q_at _ 0 [] ⟨by decide, ⟨by decide, trivial⟩, by decide⟩)
    rw [hw] at q
    exact zlm_ok tab_ok mixed fun_ok cG5t_ok (g5E ag (by1 b) cs [] 0 (n + 1) f) (.cons (flat_box rfl) (.cons d (.cons q (.cons (bne_iff_ne.2 (by omega)) .nil)))) k
  unfold drD at bad
  cases h1 : Nat.ble b.length 2304 with
  | false => exact bad 10 (by rw [h1])
  | true =>
    cases h3 : Nat.ble 2 b.length with
    | false => exact bad 9 (by rw [h1, h3])
    | true =>
      cases he : deE (b.drop 2) with
      | succ n => exact bad n (by rw [h1, h3]; dsimp only; rw [he]; rfl)
      | zero =>
        have h1' := Nat.le_of_ble_eq_true h1
        have h3' := Nat.le_of_ble_eq_true h3
        have d : cG5t fDr [byL b] (agH (by1 b)) = some (nlD 4 (drD b), agH (by1 b), none) := orK_left (cD5q_at _ b hb)
        unfold drD at d
        rw [h1, h3] at d
        dsimp only at d
        rw [he] at d
        obtain ⟨w1, w2⟩ := wi_back h1' h3' (frE_take h3') he
        have q : cG5t fEr [.agg [w16 (g16 b 0), elsD (deL (b.drop 2))]] (g5H (by1 b) (elR (deL (b.drop 2))) (g16 b 0)) = some (wiD (frE (g16 b 0)) (deL (b.drop 2)), g5H (by1 b) (elR (deL (b.drop 2))) (g16 b 0), none) := orK_right (lift_oth (eqC_other (by kernel_rfl))) (cE5q_at _ _ _ ⟨g16_lt b 0, w2⟩)
        rw [w1] at q
        have cv : ∀ h, convD tab h 37 9 (.list 1 (by1 b)) = some (.str ⟨b.toArray⟩, h, none) := fun h => conv_str (.inl rfl)
        exact zlm_ok tab_ok mixed fun_ok cG5t_ok (g5O ag (by1 b) (elR (deL (b.drop 2))) (g16 b 0) ⟨b.toArray⟩) (.cons (flat_box rfl) (.cons d (.cons q (.cons (cv _) (.cons (cv _) (.cons (eq_tt _) .nil)))))) k
theorem frRe_take {b : List UInt8} (h : 6 ≤ b.length) : frRe (g16 b 0) (g16 b 2) (g16 b 4) = b.take 6 := frAu_take h
def cD4q : ConF := liftC (eqC fDDp (fun x : Bs => [byL x.1]) fun x => (nlD 4 (DpD x.1), ⟨0, [], []⟩))
theorem cD4q_ok : ConOk Try.prog cD4q := liftC_ok (eqC_ok (fun x => Ans.nlD 4 (Dpd_ans x)) fun _ => rfl)
theorem cD4q_at (hp : Hp) (b : List UInt8) (h : b.length < 2 ^ 30) : cD4q fDDp [byL b] hp = some (nlD 4 (DpD b), hp, none) :=
  lift_at (A := fun x : Bs => [byL x.1]) (D := fun x => nlD 4 (DpD x.1)) (fun x y hxy => by
    simp only [List.cons.injEq, and_true] at hxy
    rw [byL_in hxy]) hp ⟨b, h⟩ rfl (nlD_fl 4 (DpD_flat b))
theorem cE4q_at (hp : Hp) (n0 n1 n2 : Nat) (l : List El) (h : (n0 < 65536 ∧ n1 < 65536 ∧ n2 ≤ 255) ∧ SmL l ∧ depA l ≤ 2 ^ 39) : cERe fERe [.agg [w16 n0, w16 n1, iN n2, elsD l]] hp = some (wiD (frRe n0 n1 n2) l, hp, none) :=
  lift_at (A := fun x : XRe => [.agg [w16 x.1.1.1, w16 x.1.1.2.1, iN x.1.1.2.2, elsD x.1.2]]) (D := fun x => wiD (frRe x.1.1.1 x.1.1.2.1 x.1.1.2.2) x.1.2) (fun x y hxy => by
    simp only [List.cons.injEq, and_true, DV.agg.injEq, iN, DV.int.injEq, true_and] at hxy
    rw [show x.1.1.1 = y.1.1.1 by omega, show x.1.1.2.1 = y.1.1.2.1 by omega, show x.1.1.2.2 = y.1.1.2.2 by omega, els_inj hxy.2.2.2]) hp ⟨((n0, n1, n2), l), h⟩ rfl (wiD_fl _ _)
def cG4t : ConF := orK cD4q cERe
theorem cG4t_ok : ConOk Try.prog cG4t := orK_ok cD4q_ok cERe_ok
section
variable (ag : Bool) (bs cs es : List (List DV)) (i0 i1 i2 : Int) (e f : Nat) (s : ByteArray)
abbrev g4C : List DV := [.int .u16 i0, .int .u16 i1, .int .i64 i2, .list 4 es]
abbrev g4H : Hp := ⟨2, [⟨0, 0, 34, g4C es i0 i1 i2⟩, oBx bs], []⟩
set_option maxRecDepth 1000000 in
theorem g4E : zlm [0] [0] [1, 2, 5, 6] (zl Try.prog tab ftab cG4t kAg ((agL.drop 13).take 3) (agS ag) (agH bs) [(86, .q (.tuple [.agg (g4C es i0 i1 i2), iN e])), (91, .q (.tuple [.list 1 cs, iN f])), (100, .c [(9, .b true)])]) =
    some (agS ag, agH bs, FlatIn [0] (g4H bs es i0 i1 i2) :: (cG4t fDDp [.list 1 bs] (agH bs) = some (.tuple [.agg (g4C es i0 i1 i2), iN e], agH bs, none)) :: (cG4t fERe [.agg (g4C es i0 i1 i2)] (g4H bs es i0 i1 i2) = some (.tuple [.list 1 cs, iN f], g4H bs es i0 i1 i2, none)) :: (((e : Int) != 0) = true) :: []) := by kernel_rfl
set_option maxRecDepth 1000000 in
theorem g4O : zlm [0] [0] [1, 2, 5, 6] (zl Try.prog tab ftab cG4t kAg ((agL.drop 13).take 3) (agS ag) (agH bs) [(86, .q (.tuple [.agg (g4C es i0 i1 i2), iN 0])), (91, .q (.tuple [.list 1 bs, iN 0])), (100, .c [(15, .h (.str s) (g4H bs es i0 i1 i2) none), (17, .h (.str s) (g4H bs es i0 i1 i2) none), (18, .b true)])]) =
    some (agS ag, agH bs, FlatIn [0] (g4H bs es i0 i1 i2) :: (cG4t fDDp [.list 1 bs] (agH bs) = some (.tuple [.agg (g4C es i0 i1 i2), iN 0], agH bs, none)) :: (cG4t fERe [.agg (g4C es i0 i1 i2)] (g4H bs es i0 i1 i2) = some (.tuple [.list 1 bs, iN 0], g4H bs es i0 i1 i2, none)) :: (convD tab (g4H bs es i0 i1 i2) 37 9 (.list 1 bs) = some (.str s, g4H bs es i0 i1 i2, none)) :: (convD tab (g4H bs es i0 i1 i2) 37 9 (.list 1 bs) = some (.str s, g4H bs es i0 i1 i2, none)) :: (eqBytes s.data.toList s.data.toList = true) :: []) := by kernel_rfl
end
theorem grp4 {b : List UInt8} (hb : b.length < 2 ^ 30) (ag : Bool) {B : List Code} {e : Ex} {s2 : Slots} {h2 : Hp} (k : GL Try.prog tab kAg B (agS ag) (agH (by1 b)) e s2 h2) : GL Try.prog tab kAg ((agL.drop 13).take 3 ++ B) (agS ag) (agH (by1 b)) e s2 h2 := by
  have bad : ∀ n : Nat, DpD b = .tuple [.agg [.int .u16 0, .int .u16 0, .int .i64 0, .nil], iN (n + 1)] → GL Try.prog tab kAg ((agL.drop 13).take 3 ++ B) (agS ag) (agH (by1 b)) e s2 h2 := fun n hn => by
    have d : cG4t fDDp [byL b] (agH (by1 b)) = some (nlD 4 (DpD b), agH (by1 b), none) := orK_left (cD4q_at _ b hb)
    rw [hn] at d
    obtain ⟨cs, f, hw⟩ := wiD_form (frRe 0 0 0) []
    have q : cG4t fERe [.agg [w16 0, w16 0, iN (0 : Nat), elsD []]] (g4H (by1 b) [] 0 0 0) = some (wiD (frRe 0 0 0) [], g4H (by1 b) [] 0 0 0, none) := orK_right (lift_oth (eqC_other (by kernel_rfl))) (cE4q_at _ 0 0 0 [] ⟨⟨by decide, by decide, by decide⟩, ⟨by decide, trivial⟩, by decide⟩)
    rw [hw] at q
    exact zlm_ok tab_ok mixed fun_ok cG4t_ok (g4E ag (by1 b) cs [] 0 0 0 (n + 1) f) (.cons (flat_box rfl) (.cons d (.cons q (.cons (bne_iff_ne.2 (by omega)) .nil)))) k
  unfold DpD at bad
  cases h1 : Nat.ble b.length 2304 with
  | false => exact bad 10 (by rw [h1])
  | true =>
    cases h3 : Nat.ble 6 b.length with
    | false => exact bad 9 (by rw [h1, h3])
    | true =>
      cases h5 : Nat.ble (g16 b 4) 255 with
      | false => exact bad 11 (by rw [h1, h3]; dsimp only; rw [h5])
      | true =>
          cases he : deE (b.drop 6) with
          | succ n => exact bad n (by rw [h1, h3]; dsimp only; rw [h5]; dsimp only; rw [he]; rfl)
          | zero =>
            have h1' := Nat.le_of_ble_eq_true h1
            have h3' := Nat.le_of_ble_eq_true h3
            have d : cG4t fDDp [byL b] (agH (by1 b)) = some (nlD 4 (DpD b), agH (by1 b), none) := orK_left (cD4q_at _ b hb)
            unfold DpD at d
            rw [h1, h3] at d
            dsimp only at d
            rw [h5] at d
            dsimp only at d
            rw [he] at d
            obtain ⟨w1, w2⟩ := wi_back h1' h3' (frRe_take h3') he
            have q : cG4t fERe [.agg [w16 (g16 b 0), w16 (g16 b 2), iN (g16 b 4), elsD (deL (b.drop 6))]] (g4H (by1 b) (elR (deL (b.drop 6))) (g16 b 0) (g16 b 2) (g16 b 4)) = some (wiD (frRe (g16 b 0) (g16 b 2) (g16 b 4)) (deL (b.drop 6)), g4H (by1 b) (elR (deL (b.drop 6))) (g16 b 0) (g16 b 2) (g16 b 4), none) := orK_right (lift_oth (eqC_other (by kernel_rfl))) (cE4q_at _ _ _ _ _ ⟨⟨g16_lt b 0, g16_lt b 2, Nat.le_of_ble_eq_true h5⟩, w2⟩)
            rw [w1] at q
            have cv : ∀ h, convD tab h 37 9 (.list 1 (by1 b)) = some (.str ⟨b.toArray⟩, h, none) := fun h => conv_str (.inl rfl)
            exact zlm_ok tab_ok mixed fun_ok cG4t_ok (g4O ag (by1 b) (elR (deL (b.drop 6))) (g16 b 0) (g16 b 2) (g16 b 4) ⟨b.toArray⟩) (.cons (flat_box rfl) (.cons d (.cons q (.cons (cv _) (.cons (cv _) (.cons (eq_tt _) .nil)))))) k
end
end Go.Proofs.Ytoobchiakfgmfaa
/- BodyAgain: requests for a block acknowledgement and such. -/
namespace Go.Proofs.Ytoobchiakfgmfaa
open Go.RowKit

noncomputable section
theorem okTS_ok {a s : Nat} (h1 : a ≤ 7) (h2 : s ≤ 4095) : okTS (a : Int) (s : Int) = true := by
  unfold okTS
  rw [decide_eq_true (show (a : Int) ≥ 0 by omega), decide_eq_true (show (a : Int) ≤ 7 by omega), decide_eq_true (show (s : Int) ≥ 0 by omega), decide_eq_true (show (s : Int) ≤ 4095 by omega)]
  rfl
def cG7t : ConF := orK cDBx cEBr
theorem cG7t_ok : ConOk Try.prog cG7t := orK_ok cDBx_ok cEBr_ok
section
variable (ag : Bool) (bs cs : List (List DV)) (a s : Nat) (e f : Nat) (sv : ByteArray)
abbrev g7C : List DV := [iN a, iN s]
abbrev g7H : Hp := ⟨2, [⟨0, 0, 41, g7C a s⟩, oBx bs], []⟩
set_option maxRecDepth 1000000 in
theorem g7E : zlm [0] [0] [1, 2, 5, 6] (zl Try.prog tab ftab cG7t kAg ((agL.drop 22).take 3) (agS ag) (agH bs) [(140, .q (.tuple [.agg (g7C a s), iN e])), (145, .q (.tuple [.list 1 cs, iN f])), (154, .c [(9, .b true)])]) =
    some (agS ag, agH bs, FlatIn [0] (g7H bs a s) :: (cG7t fDBr [.list 1 bs] (agH bs) = some (.tuple [.agg (g7C a s), iN e], agH bs, none)) :: (cG7t fEBr [.agg (g7C a s)] (g7H bs a s) = some (.tuple [.list 1 cs, iN f], g7H bs a s, none)) :: (((e : Int) != 0) = true) :: []) := by kernel_rfl
set_option maxRecDepth 1000000 in
theorem g7O : zlm [0] [0] [1, 2, 5, 6] (zl Try.prog tab ftab cG7t kAg ((agL.drop 22).take 3) (agS ag) (agH bs) [(140, .q (.tuple [.agg (g7C a s), iN 0])), (145, .q (.tuple [.list 1 bs, iN 0])), (154, .c [(15, .h (.str sv) (g7H bs a s) none), (17, .h (.str sv) (g7H bs a s) none), (18, .b true)])]) =
    some (agS ag, agH bs, FlatIn [0] (g7H bs a s) :: (cG7t fDBr [.list 1 bs] (agH bs) = some (.tuple [.agg (g7C a s), iN 0], agH bs, none)) :: (cG7t fEBr [.agg (g7C a s)] (g7H bs a s) = some (.tuple [.list 1 bs, iN 0], g7H bs a s, none)) :: (convD tab (g7H bs a s) 37 9 (.list 1 bs) = some (.str sv, g7H bs a s, none)) :: (convD tab (g7H bs a s) 37 9 (.list 1 bs) = some (.str sv, g7H bs a s, none)) :: (eqBytes sv.data.toList sv.data.toList = true) :: []) := by kernel_rfl
end
theorem grp7 {b : List UInt8} (hb : b.length < 2 ^ 30) (ag : Bool) {B : List Code} {e : Ex} {s2 : Slots} {h2 : Hp} (k : GL Try.prog tab kAg B (agS ag) (agH (by1 b)) e s2 h2) : GL Try.prog tab kAg ((agL.drop 22).take 3 ++ B) (agS ag) (agH (by1 b)) e s2 h2 := by
  have d : cG7t fDBr [byL b] (agH (by1 b)) = some (BxD b, agH (by1 b), none) := orK_left (cDBx_at _ b hb)
  have bad : ∀ n : Nat, BxD b = .tuple [.agg [.int .i64 0, .int .i64 0], iN (n + 1)] → GL Try.prog tab kAg ((agL.drop 22).take 3 ++ B) (agS ag) (agH (by1 b)) e s2 h2 := fun n hn => by
    rw [hn] at d
    have q : cG7t fEBr [.agg (g7C 0 0)] (g7H (by1 b) 0 0) = some (ebrD 0 0, g7H (by1 b) 0 0, none) := orK_right (lift_oth (eqC_other (by kernel_rfl))) (cEBr_at _ 0 0)
    exact zlm_ok tab_ok mixed fun_ok cG7t_ok (g7E ag (by1 b) _ 0 0 (n + 1) 0) (.cons (flat_box rfl) (.cons d (.cons q (.cons (bne_iff_ne.2 (by omega)) .nil)))) k
  unfold BxD at bad d
  cases h1 : Nat.ble b.length 2304 with
  | false => exact bad 10 (by rw [h1])
  | true =>
    cases h3 : Nat.ble 2 b.length with
    | false => exact bad 9 (by rw [h1, h3])
    | true =>
      have h3' := Nat.le_of_ble_eq_true h3
      cases h5 : Nat.ble (g16 b 0 % 16) 7 with
      | false => exact bad 11 (by rw [h1, h3]; dsimp only; rw [h5])
      | true =>
      have h5' := Nat.le_of_ble_eq_true h5
      cases h6 : Nat.ble b.length 2 with
      | false => exact bad 10 (by rw [h1, h3]; dsimp only; rw [h5]; dsimp only; rw [h6])
      | true =>
        have h6' := Nat.le_of_ble_eq_true h6
        rw [h1, h3] at d
        dsimp only at d
        rw [h5] at d
        dsimp only at d
        rw [h6] at d
        have hbk : ebrD ((g16 b 0 % 16 : Nat) : Int) ((g16 b 0 / 16 : Nat) : Int) = .tuple [byL b, iN 0] := by
          unfold ebrD
          rw [okTS_ok h5' (by have := g16_lt b 0; omega), Int.toNat_natCast, Int.toNat_natCast, Nat.mod_add_div (g16 b 0) 16, by2_take (b := b) (x := 0) (by omega)]
          show DV.tuple [byL (b.take 2), iN 0] = _
          rw [List.take_of_length_le h6']
        have q : cG7t fEBr [.agg (g7C (g16 b 0 % 16) (g16 b 0 / 16))] (g7H (by1 b) (g16 b 0 % 16) (g16 b 0 / 16)) = some (ebrD (g16 b 0 % 16 : Nat) (g16 b 0 / 16 : Nat), g7H (by1 b) (g16 b 0 % 16) (g16 b 0 / 16), none) := orK_right (lift_oth (eqC_other (by kernel_rfl))) (cEBr_at _ _ _)
        rw [hbk] at q
        have cv : ∀ h, convD tab h 37 9 (.list 1 (by1 b)) = some (.str ⟨b.toArray⟩, h, none) := fun h => conv_str (.inl rfl)
        exact zlm_ok tab_ok mixed fun_ok cG7t_ok (g7O ag (by1 b) (g16 b 0 % 16) (g16 b 0 / 16) ⟨b.toArray⟩) (.cons (flat_box rfl) (.cons d (.cons q (.cons (cv _) (.cons (cv _) (.cons (eq_tt _) .nil)))))) k
def cG8t : ConF := orK cDBy cEBk
theorem cG8t_ok : ConOk Try.prog cG8t := orK_ok cDBy_ok cEBk_ok
section
variable (ag : Bool) (bs cs : List (List DV)) (a s q : Nat) (e f : Nat) (sv : ByteArray)
abbrev g8C : List DV := [iN a, iN s, .int .u64 (q : Int)]
abbrev g8H : Hp := ⟨2, [⟨0, 0, 43, g8C a s q⟩, oBx bs], []⟩
set_option maxRecDepth 1000000 in
theorem g8E : zlm [0] [0] [4] (zl Try.prog tab ftab cG8t kAg ((agL.drop 25).take 3) (agS ag) (agH bs) [(158, .q (.tuple [.agg (g8C a s q), iN e])), (163, .q (.tuple [.list 1 cs, iN f])), (172, .c [(9, .b true)])]) =
    some (mkT 174 [(4, .bool true)], agH bs, FlatIn [0] (g8H bs a s q) :: (cG8t fDBk [.list 1 bs] (agH bs) = some (.tuple [.agg (g8C a s q), iN e], agH bs, none)) :: (cG8t fEBk [.agg (g8C a s q)] (g8H bs a s q) = some (.tuple [.list 1 cs, iN f], g8H bs a s q, none)) :: (((e : Int) != 0) = true) :: []) := by kernel_rfl
set_option maxRecDepth 1000000 in
theorem g8O : zlm [0] [0] [4] (zl Try.prog tab ftab cG8t kAg ((agL.drop 25).take 3) (agS ag) (agH bs) [(158, .q (.tuple [.agg (g8C a s q), iN 0])), (163, .q (.tuple [.list 1 bs, iN 0])), (172, .c [(15, .h (.str sv) (g8H bs a s q) none), (17, .h (.str sv) (g8H bs a s q) none), (18, .b true)])]) =
    some (mkT 174 [(4, .bool true)], agH bs, FlatIn [0] (g8H bs a s q) :: (cG8t fDBk [.list 1 bs] (agH bs) = some (.tuple [.agg (g8C a s q), iN 0], agH bs, none)) :: (cG8t fEBk [.agg (g8C a s q)] (g8H bs a s q) = some (.tuple [.list 1 bs, iN 0], g8H bs a s q, none)) :: (convD tab (g8H bs a s q) 37 9 (.list 1 bs) = some (.str sv, g8H bs a s q, none)) :: (convD tab (g8H bs a s q) 37 9 (.list 1 bs) = some (.str sv, g8H bs a s q, none)) :: (eqBytes sv.data.toList sv.data.toList = true) :: []) := by kernel_rfl
end
theorem grp8 {b : List UInt8} (hb : b.length < 2 ^ 30) (ag : Bool) {B : List Code} {e : Ex} {s2 : Slots} {h2 : Hp} (k : GL Try.prog tab kAg B (mkT 174 [(4, .bool true)]) (agH (by1 b)) e s2 h2) : GL Try.prog tab kAg ((agL.drop 25).take 3 ++ B) (agS ag) (agH (by1 b)) e s2 h2 := by
  have d : cG8t fDBk [byL b] (agH (by1 b)) = some (ByD b, agH (by1 b), none) := orK_left (cDBy_at _ b hb)
  have bad : ∀ n : Nat, ByD b = .tuple [.agg [.int .i64 0, .int .i64 0, .int .u64 0], iN (n + 1)] → GL Try.prog tab kAg ((agL.drop 25).take 3 ++ B) (agS ag) (agH (by1 b)) e s2 h2 := fun n hn => by
    rw [hn] at d
    have q : cG8t fEBk [.agg (g8C 0 0 0)] (g8H (by1 b) 0 0 0) = some (ebkD 0 0 0, g8H (by1 b) 0 0 0, none) := orK_right (lift_oth (eqC_other (by kernel_rfl))) (cEBk_at _ 0 0 0 (by decide))
    exact zlm_ok tab_ok mixed fun_ok cG8t_ok (g8E ag (by1 b) _ 0 0 0 (n + 1) 0) (.cons (flat_box rfl) (.cons d (.cons q (.cons (bne_iff_ne.2 (by omega)) .nil)))) k
  unfold ByD at bad d
  cases h1 : Nat.ble b.length 2304 with
  | false => exact bad 10 (by rw [h1])
  | true =>
    cases h3 : Nat.ble 10 b.length with
    | false => exact bad 9 (by rw [h1, h3])
    | true =>
      have h3' := Nat.le_of_ble_eq_true h3
      cases h5 : Nat.ble (g16 b 0 % 16) 7 with
      | false => exact bad 11 (by rw [h1, h3]; dsimp only; rw [h5])
      | true =>
      have h5' := Nat.le_of_ble_eq_true h5
      cases h6 : Nat.ble b.length 10 with
      | false => exact bad 10 (by rw [h1, h3]; dsimp only; rw [h5]; dsimp only; rw [h6])
      | true =>
        have h6' := Nat.le_of_ble_eq_true h6
        rw [h1, h3] at d
        dsimp only at d
        rw [h5] at d
        dsimp only at d
        rw [h6] at d
        have hbk : ebkD ((g16 b 0 % 16 : Nat) : Int) ((g16 b 0 / 16 : Nat) : Int) (g64 b 2) = .tuple [byL b, iN 0] := by
          unfold ebkD
          rw [okTS_ok h5' (by have := g16_lt b 0; omega), Int.toNat_natCast, Int.toNat_natCast, Nat.mod_add_div (g16 b 0) 16, by2_take (b := b) (x := 0) (by omega), by8_take (b := b) (x := 2) (by omega), take_two b 0 2 8]
          show DV.tuple [byL (b.take 10), iN 0] = _
          rw [List.take_of_length_le h6']
        have q : cG8t fEBk [.agg (g8C (g16 b 0 % 16) (g16 b 0 / 16) (g64 b 2))] (g8H (by1 b) (g16 b 0 % 16) (g16 b 0 / 16) (g64 b 2)) = some (ebkD (g16 b 0 % 16 : Nat) (g16 b 0 / 16 : Nat) (g64 b 2), g8H (by1 b) (g16 b 0 % 16) (g16 b 0 / 16) (g64 b 2), none) := orK_right (lift_oth (eqC_other (by kernel_rfl))) (cEBk_at _ _ _ _ (g64_lt b 2))
        rw [hbk] at q
        have cv : ∀ h, convD tab h 37 9 (.list 1 (by1 b)) = some (.str ⟨b.toArray⟩, h, none) := fun h => conv_str (.inl rfl)
        exact zlm_ok tab_ok mixed fun_ok cG8t_ok (g8O ag (by1 b) (g16 b 0 % 16) (g16 b 0 / 16) (g64 b 2) ⟨b.toArray⟩) (.cons (flat_box rfl) (.cons d (.cons q (.cons (cv _) (.cons (cv _) (.cons (eq_tt _) .nil)))))) k
end
end Go.Proofs.Ytoobchiakfgmfaa
/- BodyAgain: actions. -/
namespace Go.Proofs.Ytoobchiakfgmfaa
open Go.RowKit

noncomputable section
def cD6q : ConF := liftC (eqC fDAc (fun x : Bs => [byL x.1]) fun x => (nlD 1 (daD x.1), ⟨0, [], []⟩))
theorem cD6q_ok : ConOk Try.prog cD6q := liftC_ok (eqC_ok (fun x => Ans.nlD 1 (da_ans x)) fun _ => rfl)
theorem cD6q_at (hp : Hp) (b : List UInt8) (h : b.length < 2 ^ 30) : cD6q fDAc [byL b] hp = some (nlD 1 (daD b), hp, none) :=
  lift_at (A := fun x : Bs => [byL x.1]) (D := fun x => nlD 1 (daD x.1)) (fun x y hxy => by
    simp only [List.cons.injEq, and_true] at hxy
    rw [byL_in hxy]) hp ⟨b, h⟩ rfl (nlD_fl 1 (daD_flat b))
theorem i8_in {a b : UInt8} (h : i8 a = i8 b) : a = b := by
  unfold i8 at h
  injection h with _ h
  exact UInt8.toNat_inj.1 (by omega)
theorem eacD_fl (a b c : UInt8) (g : List UInt8) : flatD (eacD a b c g) = true := by
  unfold eacD
  split <;> rfl
theorem cE6q_at (hp : Hp) (a b c : UInt8) (g : List UInt8) (h : g.length < 2 ^ 62) : cEAc fEAc [.agg [i8 a, i8 b, i8 c, byL g]] hp = some (eacD a b c g, hp, none) :=
  lift_at (A := fun x : AcX => [.agg [i8 x.1.1.1, i8 x.1.1.2.1, i8 x.1.1.2.2, byL x.1.2]]) (D := fun x => eacD x.1.1.1 x.1.1.2.1 x.1.1.2.2 x.1.2) (fun x y hxy => by
    simp only [List.cons.injEq, and_true, DV.agg.injEq] at hxy
    rw [i8_in hxy.1, i8_in hxy.2.1, i8_in hxy.2.2.1, byL_in hxy.2.2.2]) hp ⟨((a, b, c), g), h⟩ rfl (eacD_fl _ _ _ _)
def cG6t : ConF := orK cD6q cEAc
theorem cG6t_ok : ConOk Try.prog cG6t := orK_ok cD6q_ok cEAc_ok
section
variable (ag : Bool) (bs cs es : List (List DV)) (u0 u1 u2 : UInt8) (e f : Nat) (sv : ByteArray)
abbrev g6C : List DV := [i8 u0, i8 u1, i8 u2, .list 1 es]
abbrev g6H : Hp := ⟨2, [⟨0, 0, 39, g6C es u0 u1 u2⟩, oBx bs], []⟩
set_option maxRecDepth 1000000 in
theorem g6E : zlm [0] [0] [1, 2, 5, 6] (zl Try.prog tab ftab cG6t kAg ((agL.drop 19).take 3) (agS ag) (agH bs) [(122, .q (.tuple [.agg (g6C es u0 u1 u2), iN e])), (127, .q (.tuple [.list 1 cs, iN f])), (136, .c [(9, .b true)])]) =
    some (agS ag, agH bs, FlatIn [0] (g6H bs es u0 u1 u2) :: (cG6t fDAc [.list 1 bs] (agH bs) = some (.tuple [.agg (g6C es u0 u1 u2), iN e], agH bs, none)) :: (cG6t fEAc [.agg (g6C es u0 u1 u2)] (g6H bs es u0 u1 u2) = some (.tuple [.list 1 cs, iN f], g6H bs es u0 u1 u2, none)) :: (((e : Int) != 0) = true) :: []) := by kernel_rfl
set_option maxRecDepth 1000000 in
theorem g6O : zlm [0] [0] [1, 2, 5, 6] (zl Try.prog tab ftab cG6t kAg ((agL.drop 19).take 3) (agS ag) (agH bs) [(122, .q (.tuple [.agg (g6C es u0 u1 u2), iN 0])), (127, .q (.tuple [.list 1 bs, iN 0])), (136, .c [(15, .h (.str sv) (g6H bs es u0 u1 u2) none), (17, .h (.str sv) (g6H bs es u0 u1 u2) none), (18, .b true)])]) =
    some (agS ag, agH bs, FlatIn [0] (g6H bs es u0 u1 u2) :: (cG6t fDAc [.list 1 bs] (agH bs) = some (.tuple [.agg (g6C es u0 u1 u2), iN 0], agH bs, none)) :: (cG6t fEAc [.agg (g6C es u0 u1 u2)] (g6H bs es u0 u1 u2) = some (.tuple [.list 1 bs, iN 0], g6H bs es u0 u1 u2, none)) :: (convD tab (g6H bs es u0 u1 u2) 37 9 (.list 1 bs) = some (.str sv, g6H bs es u0 u1 u2, none)) :: (convD tab (g6H bs es u0 u1 u2) 37 9 (.list 1 bs) = some (.str sv, g6H bs es u0 u1 u2, none)) :: (eqBytes sv.data.toList sv.data.toList = true) :: []) := by kernel_rfl
end
theorem grp6 {b : List UInt8} (hb : b.length < 2 ^ 30) (ag : Bool) {B : List Code} {e : Ex} {s2 : Slots} {h2 : Hp} (k : GL Try.prog tab kAg B (agS ag) (agH (by1 b)) e s2 h2) : GL Try.prog tab kAg ((agL.drop 19).take 3 ++ B) (agS ag) (agH (by1 b)) e s2 h2 := by
  have d : cG6t fDAc [byL b] (agH (by1 b)) = some (nlD 1 (daD b), agH (by1 b), none) := orK_left (cD6q_at _ b hb)
  have bad : ∀ n : Nat, daD b = .tuple [.agg [.int .u8 0, .int .u8 0, .int .u8 0, .nil], iN (n + 1)] → GL Try.prog tab kAg ((agL.drop 19).take 3 ++ B) (agS ag) (agH (by1 b)) e s2 h2 := fun n hn => by
    rw [hn] at d
    have q : cG6t fEAc [.agg [i8 0, i8 0, i8 0, byL []]] (g6H (by1 b) [] 0 0 0) = some (eacD 0 0 0 [], g6H (by1 b) [] 0 0 0, none) := orK_right (lift_oth (eqC_other (by kernel_rfl))) (cE6q_at _ 0 0 0 [] (by decide))
    exact zlm_ok tab_ok mixed fun_ok cG6t_ok (g6E ag (by1 b) _ [] 0 0 0 (n + 1) 0) (.cons (flat_box rfl) (.cons d (.cons q (.cons (bne_iff_ne.2 (by omega)) .nil)))) k
  cases h1 : Nat.ble b.length 2304 with
  | false => exact bad 10 (by unfold daD; rw [h1])
  | true =>
    cases h3 : Nat.ble 3 b.length with
    | false => exact bad 9 (by unfold daD; rw [h1, h3])
    | true =>
      have h1' := Nat.le_of_ble_eq_true h1
      have h3' := Nat.le_of_ble_eq_true h3
      clear bad
      unfold daD at d
      rw [h1, h3] at d
      match b, h3' with
      | c0 :: c1 :: c2 :: r, _ =>
        have hr : r.length < 2 ^ 62 := by simp only [List.length_cons] at h1'; omega
        have q : cG6t fEAc [.agg [i8 c0, i8 c1, i8 c2, byL r]] (g6H (by1 (c0 :: c1 :: c2 :: r)) (by1 r) c0 c1 c2) = some (eacD c0 c1 c2 r, g6H (by1 (c0 :: c1 :: c2 :: r)) (by1 r) c0 c1 c2, none) := orK_right (lift_oth (eqC_other (by kernel_rfl))) (cE6q_at _ c0 c1 c2 r hr)
        unfold eacD at q
        rw [bleT (show [c0, c1, c2].length + r.length ≤ 2304 by simp only [List.length_cons, List.length_nil] at h1' ⊢; omega)] at q
        have cv : ∀ h, convD tab h 37 9 (.list 1 (by1 (c0 :: c1 :: c2 :: r))) = some (.str ⟨(c0 :: c1 :: c2 :: r).toArray⟩, h, none) := fun h => conv_str (.inl rfl)
        exact zlm_ok tab_ok mixed fun_ok cG6t_ok (g6O ag (by1 (c0 :: c1 :: c2 :: r)) (by1 r) c0 c1 c2 ⟨(c0 :: c1 :: c2 :: r).toArray⟩) (.cons (flat_box rfl) (.cons d (.cons q (.cons (cv _) (.cons (cv _) (.cons (eq_tt _) .nil)))))) k
end
end Go.Proofs.Ytoobchiakfgmfaa
/- BodyAgain: requests for association. -/
namespace Go.Proofs.Ytoobchiakfgmfaa
open Go.RowKit

noncomputable section
mutual
theorem okE_sm : ∀ {x : El}, smE x → okE x
  | .mk _ _ d s, h => by
    obtain ⟨h1, h2, h3⟩ := h
    exact ⟨by omega, by omega, okL_sm h3⟩
theorem okL_sm : ∀ {l : List El}, smL l → okL l
  | [], _ => trivial
  | _ :: _, h => ⟨okE_sm h.1, okL_sm h.2⟩
end
theorem rqD_inj {x y : Rq} (h : rqD x = rqD y) : x = y := by
  obtain ⟨a, b, o0, o1, o2, o3, o4, o5, s⟩ := x
  obtain ⟨a', b', q0, q1, q2, q3, q4, q5, s'⟩ := y
  simp only [rqD, DV.agg.injEq, List.cons.injEq, and_true, DV.int.injEq, true_and] at h
  obtain ⟨h0, h1, h2, h3, h4, h5, h6, h7, h8⟩ := h
  obtain rfl : a = a' := by omega
  obtain rfl : b = b' := by omega
  obtain rfl : o0 = q0 := i8_inj h2
  obtain rfl : o1 = q1 := i8_inj h3
  obtain rfl : o2 = q2 := i8_inj h4
  obtain rfl : o3 = q3 := i8_inj h5
  obtain rfl : o4 = q4 := i8_inj h6
  obtain rfl : o5 = q5 := i8_inj h7
  obtain rfl := els_inj h8
  rfl
def cAr : ConF := liftC (eqC fAr (fun x : RqX × Bool => [rqD (arA x.1.1 x.2), .bool x.2]) fun x => (wiD (frR x.1.1 x.2) x.1.1.es, ⟨0, [], []⟩))
theorem cAr_ok : ConOk Try.prog cAr := liftC_ok (eqC_ok ar_ans fun _ => rfl)
theorem cAr_at (hp : Hp) (x : RqX × Bool) : cAr fAr [rqD (arA x.1.1 x.2), .bool x.2] hp = some (wiD (frR x.1.1 x.2) x.1.1.es, hp, none) :=
  lift_at (A := fun x : RqX × Bool => [rqD (arA x.1.1 x.2), .bool x.2]) (D := fun x => wiD (frR x.1.1 x.2) x.1.1.es) (fun x y hxy => by
    obtain ⟨⟨x, hx⟩, b⟩ := x
    obtain ⟨⟨y, hy⟩, b'⟩ := y
    simp only [List.cons.injEq, and_true, DV.bool.injEq] at hxy
    obtain ⟨h1, rfl⟩ := hxy
    have h2 := rqD_inj h1
    cases b with
    | true =>
      obtain rfl : x = y := h2
      rfl
    | false =>
      obtain ⟨a, b, o0, o1, o2, o3, o4, o5, s⟩ := x
      obtain ⟨a', b', q0, q1, q2, q3, q4, q5, s'⟩ := y
      simp only [arA, z0, Rq.mk.injEq, true_and] at h2
      obtain ⟨rfl, rfl, rfl⟩ := h2
      rfl) hp x rfl (wiD_fl _ _)
def cD3q : ConF := liftC (eqC fDAq (fun x : Bs × Bool => [byL x.1.1, .bool x.2]) fun x => (nlD 4 (dqD x.1.1 x.2), ⟨0, [], []⟩))
theorem cD3q_ok : ConOk Try.prog cD3q := liftC_ok (eqC_ok (fun x => by
  obtain ⟨b, ag⟩ := x
  cases ag with
  | true => exact Ans.nlD 4 (dq_anst b)
  | false => exact Ans.nlD 4 (dq_ansf b)) fun _ => rfl)
theorem cD3q_at (hp : Hp) (b : List UInt8) (ag : Bool) (h : b.length < 2 ^ 30) : cD3q fDAq [byL b, .bool ag] hp = some (nlD 4 (dqD b ag), hp, none) :=
  lift_at (A := fun x : Bs × Bool => [byL x.1.1, .bool x.2]) (D := fun x => nlD 4 (dqD x.1.1 x.2)) (fun x y hxy => by
    simp only [List.cons.injEq, and_true, DV.bool.injEq] at hxy
    rw [byL_in hxy.1, hxy.2]) hp (⟨b, h⟩, ag) rfl (nlD_fl 4 (dqD_flat b ag))
def cG3t : ConF := orK cD3q cAr
theorem cG3t_ok : ConOk Try.prog cG3t := orK_ok cD3q_ok cAr_ok
section
variable (ag : Bool) (bs cs es : List (List DV)) (a l : Nat) (u0 u1 u2 u3 u4 u5 : UInt8) (e f : Nat) (sv : ByteArray)
abbrev g3C : List DV := rqC a l u0 u1 u2 u3 u4 u5 (.list 4 es)
abbrev g3H : Hp := ⟨2, [⟨0, 0, 32, g3C es a l u0 u1 u2 u3 u4 u5⟩, oBx bs], []⟩
set_option maxRecDepth 1000000 in
theorem g3E : zlm [0] [0] [1, 2, 5, 6] (zl Try.prog tab ftab cG3t kAg ((agL.drop 10).take 3) (agS ag) (agH bs) [(67, .q (.tuple [.agg (g3C es a l u0 u1 u2 u3 u4 u5), iN e])), (73, .q (.tuple [.list 1 cs, iN f])), (82, .c [(9, .b true)])]) =
    some (agS ag, agH bs, FlatIn [0] (g3H bs es a l u0 u1 u2 u3 u4 u5) :: (cG3t fDAq [.list 1 bs, .bool ag] (agH bs) = some (.tuple [.agg (g3C es a l u0 u1 u2 u3 u4 u5), iN e], agH bs, none)) :: (cG3t fAr [.agg (g3C es a l u0 u1 u2 u3 u4 u5), .bool ag] (g3H bs es a l u0 u1 u2 u3 u4 u5) = some (.tuple [.list 1 cs, iN f], g3H bs es a l u0 u1 u2 u3 u4 u5, none)) :: (((e : Int) != 0) = true) :: []) := by kernel_rfl
set_option maxRecDepth 1000000 in
theorem g3O : zlm [0] [0] [1, 2, 5, 6] (zl Try.prog tab ftab cG3t kAg ((agL.drop 10).take 3) (agS ag) (agH bs) [(67, .q (.tuple [.agg (g3C es a l u0 u1 u2 u3 u4 u5), iN 0])), (73, .q (.tuple [.list 1 bs, iN 0])), (82, .c [(15, .h (.str sv) (g3H bs es a l u0 u1 u2 u3 u4 u5) none), (17, .h (.str sv) (g3H bs es a l u0 u1 u2 u3 u4 u5) none), (18, .b true)])]) =
    some (agS ag, agH bs, FlatIn [0] (g3H bs es a l u0 u1 u2 u3 u4 u5) :: (cG3t fDAq [.list 1 bs, .bool ag] (agH bs) = some (.tuple [.agg (g3C es a l u0 u1 u2 u3 u4 u5), iN 0], agH bs, none)) :: (cG3t fAr [.agg (g3C es a l u0 u1 u2 u3 u4 u5), .bool ag] (g3H bs es a l u0 u1 u2 u3 u4 u5) = some (.tuple [.list 1 bs, iN 0], g3H bs es a l u0 u1 u2 u3 u4 u5, none)) :: (convD tab (g3H bs es a l u0 u1 u2 u3 u4 u5) 37 9 (.list 1 bs) = some (.str sv, g3H bs es a l u0 u1 u2 u3 u4 u5, none)) :: (convD tab (g3H bs es a l u0 u1 u2 u3 u4 u5) 37 9 (.list 1 bs) = some (.str sv, g3H bs es a l u0 u1 u2 u3 u4 u5, none)) :: (eqBytes sv.data.toList sv.data.toList = true) :: []) := by kernel_rfl
end
theorem arA_B (b : List UInt8) (ag : Bool) : arA (rqB b ag) ag = rqB b ag := by
  cases ag <;> rfl
theorem frR_B {b : List UInt8} {ag : Bool} (h : rqN ag ≤ b.length) : frR (rqB b ag) ag = b.take (rqN ag) := by
  cases ag with
  | true =>
    have h : 10 ≤ b.length := h
    have e0 := by2_take (b := b) (x := 0) (by omega)
    have e1 := by2_take (b := b) (x := 2) (by omega)
    have ht : (b.drop 4).take 6 = [b.getD 4 0, b.getD 5 0, b.getD 6 0, b.getD 7 0, b.getD 8 0, b.getD 9 0] := by
      match b, h with
      | _ :: _ :: _ :: _ :: _ :: _ :: _ :: _ :: _ :: _ :: _, _ => rfl
    show by2 (g16 b 0) ++ (by2 (g16 b 2) ++ [b.getD 4 0, b.getD 5 0, b.getD 6 0, b.getD 7 0, b.getD 8 0, b.getD 9 0]) = b.take 10
    rw [e0, e1, ← ht, take_two b 2 2 6]
    exact take_two b 0 2 8
  | false =>
    have h : 4 ≤ b.length := h
    have e0 := by2_take (b := b) (x := 0) (by omega)
    have e1 := by2_take (b := b) (x := 2) (by omega)
    show by2 (g16 b 0) ++ by2 (g16 b 2) = b.take 4
    rw [e0, e1]
    exact take_two b 0 2 2
theorem rqB_es (b : List UInt8) (ag : Bool) : (rqB b ag).es = deL (b.drop (rqN ag)) ∧ (rqB b ag).c = g16 b 0 ∧ (rqB b ag).l = g16 b 2 := by
  cases ag <;> exact ⟨rfl, rfl, rfl⟩
theorem grp3 {b : List UInt8} (hb : b.length < 2 ^ 30) (ag : Bool) {B : List Code} {e : Ex} {s2 : Slots} {h2 : Hp} (k : GL Try.prog tab kAg B (agS ag) (agH (by1 b)) e s2 h2) : GL Try.prog tab kAg ((agL.drop 10).take 3 ++ B) (agS ag) (agH (by1 b)) e s2 h2 := by
  have d : cG3t fDAq [byL b, .bool ag] (agH (by1 b)) = some (nlD 4 (dqD b ag), agH (by1 b), none) := orK_left (cD3q_at _ b ag hb)
  have bad : ∀ n : Nat, dqD b ag = .tuple [.agg [.int .u16 0, .int .u16 0, .int .u8 0, .int .u8 0, .int .u8 0, .int .u8 0, .int .u8 0, .int .u8 0, .nil], iN (n + 1)] → GL Try.prog tab kAg ((agL.drop 10).take 3 ++ B) (agS ag) (agH (by1 b)) e s2 h2 := fun n hn => by
    rw [hn] at d
    obtain ⟨cs, f, hw⟩ := wiD_form (frR ⟨0, 0, 0, 0, 0, 0, 0, 0, []⟩ ag) []
    have q : cG3t fAr [rqD (arA ⟨0, 0, 0, 0, 0, 0, 0, 0, []⟩ ag), .bool ag] (g3H (by1 b) [] 0 0 0 0 0 0 0 0) = some (wiD (frR ⟨0, 0, 0, 0, 0, 0, 0, 0, []⟩ ag) [], g3H (by1 b) [] 0 0 0 0 0 0 0 0, none) := orK_right (lift_oth (eqC_other (by kernel_rfl))) (cAr_at _ (⟨⟨0, 0, 0, 0, 0, 0, 0, 0, []⟩, ⟨⟨by decide, by decide, by decide, trivial⟩, ⟨by decide, trivial⟩, by decide⟩⟩, ag))
    rw [hw, show arA ⟨0, 0, 0, 0, 0, 0, 0, 0, []⟩ ag = ⟨0, 0, 0, 0, 0, 0, 0, 0, []⟩ by cases ag <;> rfl] at q
    exact zlm_ok tab_ok mixed fun_ok cG3t_ok (g3E ag (by1 b) cs [] 0 0 0 0 0 0 0 0 (n + 1) f) (.cons (flat_box rfl) (.cons d (.cons q (.cons (bne_iff_ne.2 (by omega)) .nil)))) k
  cases h1 : Nat.ble b.length 2304 with
  | false => exact bad 10 (by unfold dqD; rw [h1])
  | true =>
    cases h3 : Nat.ble (rqN ag) b.length with
    | false => exact bad 9 (by unfold dqD; rw [h1, h3])
    | true =>
      cases he : deE (b.drop (rqN ag)) with
      | succ n => exact bad n (by unfold dqD; rw [h1, h3]; dsimp only; rw [he]; rfl)
      | zero =>
        have h1' := Nat.le_of_ble_eq_true h1
        have h3' := Nat.le_of_ble_eq_true h3
        unfold dqD at d
        rw [h1, h3] at d
        dsimp only at d
        rw [he] at d
        obtain ⟨w1, w2⟩ := wi_back h1' h3' (frR_B h3') he
        obtain ⟨r1, r2, r3⟩ := rqB_es b ag
        have hX : okRq (rqB b ag) ∧ SmL (rqB b ag).es ∧ depA (rqB b ag).es ≤ 2 ^ 39 := ⟨⟨by rw [r2]; exact g16_lt b 0, by rw [r3]; exact g16_lt b 2, by rw [r1]; exact Nat.lt_trans w2.1.1 (by decide), by rw [r1]; exact okL_sm w2.1.2⟩, by rw [r1]; exact w2.1, by rw [r1]; exact w2.2⟩
        have q := fun h => cAr_at h (⟨rqB b ag, hX⟩, ag)
        dsimp only at q
        rw [arA_B, r1, w1] at q
        have cv : ∀ h, convD tab h 37 9 (.list 1 (by1 b)) = some (.str ⟨b.toArray⟩, h, none) := fun h => conv_str (.inl rfl)
        generalize rqB b ag = x at d q
        obtain ⟨c, l, u0, u1, u2, u3, u4, u5, es⟩ := x
        exact zlm_ok tab_ok mixed fun_ok cG3t_ok (g3O ag (by1 b) (elR es) c l u0 u1 u2 u3 u4 u5 ⟨b.toArray⟩) (.cons (flat_box rfl) (.cons d (.cons (orK_right (lift_oth (eqC_other (by kernel_rfl))) (q _)) (.cons (cv _) (.cons (cv _) (.cons (eq_tt _) .nil)))))) k
end
end Go.Proofs.Ytoobchiakfgmfaa
/- BodyAgain is true of all data. -/
namespace Go.Proofs.Ytoobchiakfgmfaa
open Go.RowKit

noncomputable section
abbrev fAl : FuncId := 42
set_option maxRecDepth 1000000 in
theorem al_run : zflat (zans Try.prog tab ftab noC fAl [] []) = some (.bool true, []) := by kernel_rfl
def cAl : ConF := fixC fAl (.bool true)
theorem cAl_ok : ConOk Try.prog cAl := fixC_ok (zflat_ok tab_ok mixed fun_ok noC_ok al_run .nil) rfl
set_option maxRecDepth 1000000 in
theorem ag0 (ag : Bool) (bs : List (List DV)) : zlm [0] [0] [1, 2, 5, 6] (zl Try.prog tab ftab cAl kAg (agL.take 4) (initS 174 [.list 1 bs, .bool ag]) ⟨0, [], []⟩ [(18, .q (.bool true)), (21, .b false)]) =
    some (agS ag, agH bs, FlatIn [0] (agH bs) :: (cAl fAl [] (agH bs) = some (.bool true, agH bs, none)) :: (decide ((bs.length : Int) > 2400) = false) :: []) := by kernel_rfl
set_option maxRecDepth 1000000 in
theorem agX (ag : Bool) (bs : List (List DV)) : zflat (zans Try.prog tab ftab cAl fAg [.list 1 bs, .bool ag] [(18, .q (.bool true)), (21, .b true)]) = some (.bool true, (cAl fAl [] (agH bs) = some (.bool true, agH bs, none)) :: (decide ((bs.length : Int) > 2400) = true) :: []) := by kernel_rfl
set_option maxRecDepth 1000000 in
def fnG : FnT := (ftab fAg).get (by kernel_rfl)
set_option maxRecDepth 1000000 in
theorem fnG_eq : ftab fAg = some fnG := (Option.some_get _).symm
set_option maxRecDepth 1000000 in
theorem ag_split : spine fnG.body = agL.take 4 ++ ((agL.drop 4).take 3 ++ ((agL.drop 7).take 3 ++ ((agL.drop 10).take 3 ++ ((agL.drop 13).take 3 ++ ((agL.drop 16).take 3 ++ ((agL.drop 19).take 3 ++ ((agL.drop 22).take 3 ++ ((agL.drop 25).take 3 ++ [.ret])))))))) := by kernel_rfl
set_option maxRecDepth 1000000 in
theorem ag_init (ag : Bool) (bs : List (List DV)) : initS fnG.nt [.list 1 bs, .bool ag] = initS 174 [.list 1 bs, .bool ag] := by kernel_rfl
set_option maxRecDepth 1000000 in
theorem ag_ks : fnG.ks = kAg := by kernel_rfl
set_option maxRecDepth 1000000 in
theorem ag_res (bs : List (List DV)) : resD tab (agH bs) (mkT 174 [(4, .bool true)]) fnG.res = some [.bool true] := by kernel_rfl
theorem ag_ret (bs : List (List DV)) : Goes Try.prog tab kAg .ret (mkT 174 [(4, .bool true)]) (agH bs) .ret (mkT 174 [(4, .bool true)]) (agH bs) := zsee_ok tab_ok mixed fun_ok noC_ok (live := [4]) (p := []) (cs := []) (by kernel_rfl) .nil
theorem ag_all (b : List UInt8) (ag : Bool) : Ans Try.prog fAg [byL b, .bool ag] (.bool true) ⟨0, [], []⟩ := by
  have hl := by1_length b
  have al : cAl fAl [] (agH (by1 b)) = some (.bool true, agH (by1 b), none) := rfl
  by_cases hb : b.length > 2400
  · exact zflat_ok tab_ok mixed fun_ok cAl_ok (agX ag (by1 b)) (.cons al (.cons (decide_eq_true (by omega)) .nil))
  have hb' : b.length < 2 ^ 30 := by omega
  have z : Ans Try.prog fAg [byL b, .bool ag] (.bool true) (agH (by1 b)) := by
    refine ans_of_goes (ds := [.bool true]) tab_ok fun_ok fnG_eq (by kernel_rfl) (e := .ret) (sl' := mkT 174 [(4, .bool true)]) ?_ (by intro i h; cases h) (ag_res (by1 b))
    refine goes_spine _ ?_
    rw [ag_split, ag_ks]
    show GL _ _ _ _ (initS fnG.nt [.list 1 (by1 b), .bool ag]) _ _ _ _
    rw [ag_init]
    refine zlm_ok tab_ok mixed fun_ok cAl_ok (ag0 ag (by1 b)) (.cons (flat_box rfl) (.cons al (.cons (decide_eq_false (by omega)) .nil))) ?_
    exact grp1 hb' ag (grp2 hb' ag (grp3 hb' ag (grp4 hb' ag (grp5 hb' ag (grp6 hb' ag (grp7 hb' ag (grp8 hb' ag (.one _ _ _ _ _ _ (ag_ret (by1 b))))))))))
  exact AnsH.frz z rfl (.flat _ rfl)
end
end Go.Proofs.Ytoobchiakfgmfaa
