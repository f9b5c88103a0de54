/- How long the encoding of elements is: a contract for every nesting. -/
import Derived.Test.YtejlbkhddehaiaaEv
namespace Go.Proofs.Ytejlbkhddehaiaa
open Go.RowKit

noncomputable section
abbrev fSi : FuncId := 123
abbrev kSi : List (Nat × Nat) := ksF ftab fSi
abbrev siL : Code := loopAt (bodyOf ftab fSi) 0
abbrev siS (xs : List (List DV)) (a j : Nat) : Slots := mkT 47 [(4, iN a), (9, .list 4 xs), (10, .int .i64 (xs.length : Int)), (11, iN j)]
abbrev siF : Slots := mkT 47 [(2, iN 0), (3, iN 11)]
abbrev siH (c : List DV) : Hp := ⟨1, [oEl 0 c], []⟩
section
variable (C : ConF)
abbrev siQ (xs ys ss : List (List DV)) (j : Nat) (i e : UInt8) (cv : Bool) (t : List Prop) : List Prop := FlatIn [] (siH (elC i e ys ss)) :: (decide ((j : Int) < (xs.length : Int)) = true) :: weA xs j i e ys ss ((C fCo [i8 i] (siH (elC i e ys ss)) = some (.bool cv, siH (elC i e ys ss), none)) :: t)
abbrev siC (ys ss : List (List DV)) (i e : UInt8) (n er : Int) (b : Bool) (t : List Prop) : List Prop := (C fSi [.list 4 ss] (siH (elC i e ys ss)) = some (.tuple [.int .i64 n, .int .i64 er], siH (elC i e ys ss), none)) :: ((er != 0) = b) :: t
abbrev siT (ys ss : List (List DV)) (i e : UInt8) (n : Int) (a j x n1 q m1 m2 s1 : Nat) : List Prop := (decide (n > 1024) = false) :: (C fXs [i8 i] (siH (elC i e ys ss)) = some (iN x, siH (elC i e ys ss), none)) :: (DV.int .i64 (IntKind.i64.wrap (n + (x : Int))) = iN n1) :: (DV.int .i64 (quoD .i64 (n1 : Int) 255) = iN q) :: (DV.int .i64 (IntKind.i64.wrap ((q : Int) + 1)) = iN (q + 1)) :: (DV.int .i64 (IntKind.i64.wrap (2 * ((q + 1 : Nat) : Int))) = iN m1) :: (DV.int .i64 (IntKind.i64.wrap ((n1 : Int) + (m1 : Int))) = iN m2) :: (DV.int .i64 (IntKind.i64.wrap ((a : Int) + (m2 : Int))) = iN s1) :: (DV.int .i64 (IntKind.i64.wrap ((j : Int) + 1)) = iN (j + 1)) :: []
abbrev siP (x n1 q m1 m2 s1 j : Nat) : Yath := [(31, .b false), (35, .q (iN x)), (36, .w (iN n1)), (40, .w (iN q)), (41, .w (iN (q + 1))), (42, .w (iN m1)), (43, .w (iN m2)), (44, .w (iN s1)), (45, .w (iN (j + 1)))]
set_option maxRecDepth 1000000 in
theorem si1 (xs ys ss : List (List DV)) (a j x n1 q m1 m2 s1 : Nat) (i e : UInt8) : zgm [] [] (zsee Try.prog tab ftab C kSi [4, 9, 10, 11] siL (siS xs a j) ⟨0, [], []⟩ ((12, .b true) :: (13, .n (.fptr (elC i e ys ss))) :: (20, .q (.bool false)) :: siP x n1 q m1 m2 s1 j)) =
    some (.normal, siS xs s1 (j + 1), ⟨0, [], []⟩, siQ C xs ys ss j i e false (siT C ys ss i e (ys.length : Int) a j x n1 q m1 m2 s1)) := by kernel_rfl
set_option maxRecDepth 1000000 in
theorem si2 (xs ys ss : List (List DV)) (a j x n1 q m1 m2 s1 : Nat) (n : Int) (i e : UInt8) : zgm [] [] (zsee Try.prog tab ftab C kSi [4, 9, 10, 11] siL (siS xs a j) ⟨0, [], []⟩ ((12, .b true) :: (13, .n (.fptr (elC i e ys ss))) :: (20, .q (.bool true)) :: (24, .q (.tuple [.int .i64 n, .int .i64 0])) :: (28, .b false) :: siP x n1 q m1 m2 s1 j)) =
    some (.normal, siS xs s1 (j + 1), ⟨0, [], []⟩, siQ C xs ys ss j i e true (siC C ys ss i e n 0 false (siT C ys ss i e n a j x n1 q m1 m2 s1))) := by kernel_rfl
set_option maxRecDepth 1000000 in
theorem si3 (xs ys ss : List (List DV)) (a j : Nat) (i e : UInt8) : zgm [] [] (zsee Try.prog tab ftab C kSi [2, 3] siL (siS xs a j) ⟨0, [], []⟩ [(12, .b true), (13, .n (.fptr (elC i e ys ss))), (20, .q (.bool false)), (31, .b true)]) =
    some (.ret, siF, ⟨0, [], []⟩, siQ C xs ys ss j i e false ((decide ((ys.length : Int) > 1024) = true) :: [])) := by kernel_rfl
set_option maxRecDepth 1000000 in
theorem si4 (xs ys ss : List (List DV)) (a j : Nat) (n : Int) (i e : UInt8) : zgm [] [] (zsee Try.prog tab ftab C kSi [2, 3] siL (siS xs a j) ⟨0, [], []⟩ [(12, .b true), (13, .n (.fptr (elC i e ys ss))), (20, .q (.bool true)), (24, .q (.tuple [.int .i64 n, .int .i64 0])), (28, .b false), (31, .b true)]) =
    some (.ret, siF, ⟨0, [], []⟩, siQ C xs ys ss j i e true (siC C ys ss i e n 0 false ((decide (n > 1024) = true) :: []))) := by kernel_rfl
set_option maxRecDepth 1000000 in
theorem si5 (xs ys ss : List (List DV)) (a j : Nat) (i e : UInt8) : zgm [] [] (zsee Try.prog tab ftab C kSi [2, 3] siL (siS xs a j) ⟨0, [], []⟩ [(12, .b true), (13, .n (.fptr (elC i e ys ss))), (20, .q (.bool true)), (24, .q (.tuple [.int .i64 0, .int .i64 11])), (28, .b true)]) =
    some (.ret, siF, ⟨0, [], []⟩, siQ C xs ys ss j i e true (siC C ys ss i e 0 11 true [])) := by kernel_rfl
set_option maxRecDepth 1000000 in
theorem siO (xs : List (List DV)) (a j : Nat) : zsee Try.prog tab ftab C kSi [4] siL (siS xs a j) ⟨0, [], []⟩ [(12, .b false)] = some (.exit 0, mkT 47 [(4, iN a)], ⟨0, [], []⟩, (decide ((j : Int) < (xs.length : Int)) = false) :: []) := by kernel_rfl
set_option maxRecDepth 1000000 in
theorem siG (xs : List (List DV)) (a : Nat) : zflat (zans Try.prog tab ftab C fSi [.list 4 xs] [(0, .l [4, 9, 10, 11] (.exit 0) (mkT 47 [(4, iN a)]) ⟨0, [], []⟩)]) = some (.tuple [iN a, iN 0], (Goes Try.prog tab kSi (.loop siL) (siS xs 0 0) ⟨0, [], []⟩ (.exit 0) (mkT 47 [(4, iN a)]) ⟨0, [], []⟩) :: []) := by kernel_rfl
set_option maxRecDepth 1000000 in
theorem siB (xs : List (List DV)) : zflat (zans Try.prog tab ftab C fSi [.list 4 xs] [(0, .l [4, 9, 10, 11] .ret siF ⟨0, [], []⟩)]) = some (.tuple [iN 0, iN 11], (Goes Try.prog tab kSi (.loop siL) (siS xs 0 0) ⟨0, [], []⟩ .ret siF ⟨0, [], []⟩) :: []) := by kernel_rfl
end
/-! ### What size answers -/
def szN (n i : Nat) : Nat := (n + i) + 2 * ((n + i) / 255 + 1)
mutual
/-- how long the encoding is; none: a content is too long -/
def szE : El → Option Nat
  | .mk i _ d s => match (match cont i with
      | true => szA 0 s
      | false => some d.length) with
    | none => none
    | some n => match decide (n > 1024) with
      | true => none
      | false => some (szN n (exts i))
def szA : Nat → List El → Option Nat
  | a, [] => some a
  | a, x :: l => match szE x with
    | none => none
    | some n => szA (a + n) l
end
def siD : Option Nat → DV
  | some n => .tuple [iN n, iN 0]
  | none => .tuple [iN 0, iN 11]
def siX : Option Nat → Ex × Slots
  | some a => (.exit 0, mkT 47 [(4, iN a)])
  | none => (.ret, siF)
def cSi (d : Nat) : ConF := liftC (eqC fSi (fun x : ElD d => [elsD x.1]) fun x => (siD (szA 0 x.1), ⟨0, [], []⟩))
theorem siD_flat (o : Option Nat) : flatD (siD o) = true := by cases o <;> rfl
theorem cSi_at (d : Nat) (hp : Hp) (l : List El) (h : depA l ≤ d ∧ SmL l) : cSi d fSi [elsD l] hp = some (siD (szA 0 l), hp, none) :=
  lift_at (A := fun x : ElD d => [elsD x.1]) (D := fun x => siD (szA 0 x.1)) (fun x y hxy => by
    simp only [List.cons.injEq, and_true] at hxy
    rw [els_inj hxy]) hp ⟨l, h⟩ rfl (siD_flat _)
def cSx (d : Nat) : ConF := orK cCo (orK cXs (cSi d))
theorem cSx_ok {d : Nat} (h : ConOk Try.prog (cSi d)) : ConOk Try.prog (cSx d) := orK_ok cCo_ok (orK_ok cXs_ok h)
theorem cSx_co (d : Nat) (hp : Hp) (i : UInt8) : cSx d fCo [i8 i] hp = some (.bool (cont i), hp, none) := orK_left (cCo_at hp i)
theorem cSx_xs (d : Nat) (hp : Hp) (i : UInt8) : cSx d fXs [i8 i] hp = some (iN (exts i), hp, none) := orK_right (lift_oth (eqC_other (by kernel_rfl))) (orK_left (cXs_at hp i))
theorem cSx_si (d : Nat) (hp : Hp) (l : List El) (h : depA l ≤ d ∧ SmL l) : cSx d fSi [elsD l] hp = some (siD (szA 0 l), hp, none) := orK_right (lift_oth (eqC_other (by kernel_rfl))) (orK_right (lift_oth (eqC_other (by kernel_rfl))) (cSi_at d hp l h))
theorem exts_le (i : UInt8) : exts i ≤ 1 := by
  unfold exts
  cases (nx i == 255) <;> decide
theorem szE_le {x : El} {n : Nat} (h : szE x = some n) : n ≤ 1040 := by
  obtain ⟨i, e, d, s⟩ := x
  unfold szE at h
  split at h
  · cases h
  · rename_i k hk
    split at h
    · cases h
    · rename_i hb
      cases h
      have := of_decide_eq_false hb
      have := exts_le i
      unfold szN
      omega
theorem si_tail (d : Nat) (ys ss : List (List DV)) (i e : UInt8) (n a j : Nat) (hn : n ≤ 1024) (ha : a ≤ 2 ^ 42) (hj : j < 2 ^ 31) : AskedP (siT (cSx d) ys ss i e (n : Int) a j (exts i) (n + exts i) ((n + exts i) / 255) (2 * ((n + exts i) / 255 + 1)) (szN n (exts i)) (a + szN n (exts i))) := by
  have hx := exts_le i
  have hz : szN n (exts i) ≤ 1040 := by unfold szN; omega
  have w : ∀ m : Nat, m < 2 ^ 63 → ∀ z : Int, z = (m : Int) → DV.int .i64 (IntKind.i64.wrap z) = iN m := fun m hm z hz => by rw [hz, wrapI hm]; rfl
  refine .cons (decide_eq_false (by omega)) (.cons (cSx_xs d _ i) (.cons (w _ (by omega) _ (by omega)) (.cons ?_ (.cons (w _ (by omega) _ (by omega)) (.cons (w _ (by omega) _ (by omega)) (.cons (w _ (by omega) _ (by unfold szN; omega)) (.cons (w _ (by omega) _ (by omega)) (.cons (w _ (by omega) _ (by omega)) .nil))))))))
  show DV.int .i64 (IntKind.i64.wrap (Int.tdiv _ _)) = _
  rw [Int.tdiv_eq_ediv_of_nonneg (by omega)]
  exact w _ (by omega) _ rfl
theorem si_loop (d : Nat) (hC : ConOk Try.prog (cSi d)) (l : List El) (hl : depA l ≤ d + 1 ∧ SmL l) : ∀ (rest pre : List El) (a : Nat), l = pre ++ rest → a ≤ 1040 * pre.length → ∃ m, GoesR Try.prog tab kSi siL (m + 1) (siS (elR l) a pre.length) ⟨0, [], []⟩ (siX (szA a rest)).1 (siX (szA a rest)).2 ⟨0, [], []⟩
  | [], pre, a, e, _ => by
    have hn : (elR l).length = pre.length := by rw [elR_length, e, List.append_nil]
    exact ⟨0, GoesR.last (zsee_ok tab_ok mixed fun_ok (cSx_ok hC) (siO (cSx d) (elR l) a pre.length) (.cons (decide_eq_false (by omega)) .nil)) (by intro h; cases h)⟩
  | .mk i x dt s :: rest, pre, a, e, ha => by
    obtain ⟨hl1, hl2, hl3⟩ := hl
    have hn := elR_length l
    have hll : l.length = pre.length + (rest.length + 1) := by rw [e]; simp
    have hj : l[pre.length]? = some (.mk i x dt s) := by rw [e]; simp
    have hlt : decide ((pre.length : Int) < ((elR l).length : Int)) = true := decide_eq_true (by omega)
    have hi : idxOk (pre.length : Int) (elR l).length = true := idxOk_lt (by omega)
    have hs := dep_sub hj
    have ho : smE (.mk i x dt s) := smL_at hl3 hj
    have hX := cSx_ok hC
    have hlb := by1_length dt
    have hco := cSx_co d (siH (elC i x (by1 dt) (elR s))) i
    have hsi := cSx_si d (siH (elC i x (by1 dt) (elR s))) s ⟨by omega, ho.2⟩
    have next : ∀ n : Nat, n ≤ 1024 → szE (.mk i x dt s) = some (szN n (exts i)) → (∃ m, GoesR Try.prog tab kSi siL (m + 1) (siS (elR l) (a + szN n (exts i)) (pre.length + 1)) ⟨0, [], []⟩ (siX (szA (a + szN n (exts i)) rest)).1 (siX (szA (a + szN n (exts i)) rest)).2 ⟨0, [], []⟩) ∧ szA a (.mk i x dt s :: rest) = szA (a + szN n (exts i)) rest := fun n hn he => by
      have hz := szE_le he
      obtain ⟨m, g⟩ := si_loop d hC l ⟨hl1, hl2, hl3⟩ rest (pre ++ [.mk i x dt s]) (a + szN n (exts i)) (by rw [e, List.append_assoc]; rfl) (by rw [List.length_append]; simp; omega)
      rw [List.length_append] at g
      refine ⟨⟨m, g⟩, ?_⟩
      show (match szE (.mk i x dt s) with
        | none => none
        | some n => szA (a + n) rest) = _
      rw [he]
    have stop : szE (.mk i x dt s) = none → szA a (.mk i x dt s :: rest) = none := fun he => by
      show (match szE (.mk i x dt s) with
        | none => none
        | some n => szA (a + n) rest) = _
      rw [he]
    cases hc : cont i with
    | false =>
      rw [hc] at hco
      cases hg : decide (dt.length > 1024) with
      | true =>
        have hgi : decide (((by1 dt).length : Int) > 1024) = true := decide_eq_true (by have := of_decide_eq_true hg; omega)
        rw [stop (by unfold szE; rw [hc]; dsimp only; rw [hg])]
        exact ⟨0, GoesR.last (zgm_ok tab_ok mixed fun_ok hX (si3 (cSx d) (elR l) (by1 dt) (elR s) a pre.length i x) (.cons (flatIn_nil _) (.cons hlt (.cons hi (.cons (elR_at hj) (.cons hco (.cons hgi .nil))))))) (by intro h; cases h)⟩
      | false =>
        have hle : dt.length ≤ 1024 := by have := of_decide_eq_false hg; omega
        obtain ⟨⟨m, g⟩, he⟩ := next dt.length hle (by unfold szE; rw [hc]; dsimp only; rw [hg])
        rw [he]
        have ht := si_tail d (by1 dt) (elR s) i x dt.length a pre.length hle (by omega) (by omega)
        rw [← hlb] at ht g ⊢
        exact ⟨m + 1, GoesR.step (zgm_ok tab_ok mixed fun_ok hX (si1 (cSx d) (elR l) (by1 dt) (elR s) a pre.length _ _ _ _ _ _ i x) (.cons (flatIn_nil _) (.cons hlt (.cons hi (.cons (elR_at hj) (.cons hco ht)))))) g⟩
    | true =>
      rw [hc] at hco
      cases hz : szA 0 s with
      | none =>
        rw [hz] at hsi
        rw [stop (by unfold szE; rw [hc]; dsimp only; rw [hz])]
        exact ⟨0, GoesR.last (zgm_ok tab_ok mixed fun_ok hX (si5 (cSx d) (elR l) (by1 dt) (elR s) a pre.length i x) (.cons (flatIn_nil _) (.cons hlt (.cons hi (.cons (elR_at hj) (.cons hco (.cons hsi (.cons rfl .nil)))))))) (by intro h; cases h)⟩
      | some n =>
        rw [hz] at hsi
        cases hg : decide (n > 1024) with
        | true =>
          have hgi : decide ((n : Int) > 1024) = true := decide_eq_true (by have := of_decide_eq_true hg; omega)
          rw [stop (by unfold szE; rw [hc]; dsimp only; rw [hz]; dsimp only; rw [hg])]
          exact ⟨0, GoesR.last (zgm_ok tab_ok mixed fun_ok hX (si4 (cSx d) (elR l) (by1 dt) (elR s) a pre.length (n : Int) i x) (.cons (flatIn_nil _) (.cons hlt (.cons hi (.cons (elR_at hj) (.cons hco (.cons hsi (.cons rfl (.cons hgi .nil))))))))) (by intro h; cases h)⟩
        | false =>
          have hle : n ≤ 1024 := by have := of_decide_eq_false hg; omega
          obtain ⟨⟨m, g⟩, he⟩ := next n hle (by unfold szE; rw [hc]; dsimp only; rw [hz]; dsimp only; rw [hg])
          rw [he]
          have ht := si_tail d (by1 dt) (elR s) i x n a pre.length hle (by omega) (by omega)
          exact ⟨m + 1, GoesR.step (zgm_ok tab_ok mixed fun_ok hX (si2 (cSx d) (elR l) (by1 dt) (elR s) a pre.length _ _ _ _ _ _ (n : Int) i x) (.cons (flatIn_nil _) (.cons hlt (.cons hi (.cons (elR_at hj) (.cons hco (.cons hsi (.cons rfl ht)))))))) g⟩
theorem si_from {C : ConF} (hC : ConOk Try.prog C) (l : List El) {o : Option Nat} (g : Goes Try.prog tab kSi (.loop siL) (siS (elR l) 0 0) ⟨0, [], []⟩ (siX o).1 (siX o).2 ⟨0, [], []⟩) : Ans Try.prog fSi [elsD l] (siD o) ⟨0, [], []⟩ := by
  cases o with
  | some a => exact zflat_ok tab_ok mixed fun_ok hC (siG C (elR l) a) (.cons g .nil)
  | none => exact zflat_ok tab_ok mixed fun_ok hC (siB C (elR l)) (.cons g .nil)
theorem si_ans : ∀ (d : Nat) (x : ElD d), Ans Try.prog fSi [elsD x.1] (siD (szA 0 x.1)) ⟨0, [], []⟩
  | 0, ⟨l, h, hs⟩ => by
    obtain rfl := dep_zero h
    exact si_from noC_ok [] (o := some 0) (GoesR.last (zsee_ok tab_ok mixed fun_ok noC_ok (siO noC (elR []) 0 0) (.cons (decide_eq_false (by simp [elR])) .nil)) (by intro h; cases h)).goes
  | d + 1, ⟨l, h⟩ => by
    have hC : ConOk Try.prog (cSi d) := liftC_ok (eqC_ok (si_ans d) fun _ => rfl)
    obtain ⟨m, g⟩ := si_loop d hC l h l [] 0 rfl (Nat.zero_le _)
    exact si_from (cSx_ok hC) l g.goes
def cSa2 : ConF := liftC (eqC fSi (fun x : ElS => [elsD x.1]) fun x => (siD (szA 0 x.1), ⟨0, [], []⟩))
theorem cSa2_ok : ConOk Try.prog cSa2 := liftC_ok (eqC_ok (fun x : ElS => si_ans (depA x.1) ⟨x.1, Nat.le_refl _, x.2⟩) fun _ => rfl)
theorem cSa2_at (hp : Hp) (l : List El) (h : SmL l) : cSa2 fSi [elsD l] hp = some (siD (szA 0 l), hp, none) :=
  lift_at (A := fun x : ElS => [elsD x.1]) (D := fun x => siD (szA 0 x.1)) (fun x y hxy => by
    simp only [List.cons.injEq, and_true] at hxy
    rw [els_inj hxy]) hp ⟨l, h⟩ rfl (siD_flat _)
/-! ### Size -/
abbrev fSz : FuncId := 100
def cZ : ConF := orK cFt (orK cVa cSa2)
theorem cZ_ok : ConOk Try.prog cZ := orK_ok cFt_ok (orK_ok cVa_ok cSa2_ok)
theorem cZ_ft (hp : Hp) (l : List El) (hl : SmL l) : cZ fFt [elsD l] hp = some (.bool (vfA l 1 0).2, hp, none) := orK_left (cFt_at hp l hl)
theorem cZ_va (hp : Hp) (l : List El) (hl : SmL l ∧ depA l ≤ 2 ^ 39) : cZ fVa [elsD l] hp = some (.bool (vdA l), hp, none) := orK_right (lift_oth (eqC_other (by kernel_rfl))) (orK_left (cVa_at hp l hl))
theorem cZ_si (hp : Hp) (l : List El) (hl : SmL l) : cZ fSi [elsD l] hp = some (siD (szA 0 l), hp, none) := orK_right (lift_oth (eqC_other (by kernel_rfl))) (orK_right (lift_oth (eqC_other (by kernel_rfl))) (cSa2_at hp l hl))
set_option maxRecDepth 1000000 in
theorem sz1 (xs : List (List DV)) : zflat (zans Try.prog tab ftab cZ fSz [.list 4 xs] [(5, .q (.bool false))]) = some (.tuple [iN 0, iN 4], (cZ fFt [.list 4 xs] ⟨0, [], []⟩ = some (.bool false, ⟨0, [], []⟩, none)) :: []) := by kernel_rfl
set_option maxRecDepth 1000000 in
theorem sz2 (xs : List (List DV)) : zflat (zans Try.prog tab ftab cZ fSz [.list 4 xs] [(5, .q (.bool true)), (8, .q (.bool false))]) = some (.tuple [iN 0, iN 8], (cZ fFt [.list 4 xs] ⟨0, [], []⟩ = some (.bool true, ⟨0, [], []⟩, none)) :: (cZ fVa [.list 4 xs] ⟨0, [], []⟩ = some (.bool false, ⟨0, [], []⟩, none)) :: []) := by kernel_rfl
set_option maxRecDepth 1000000 in
theorem sz3 (xs : List (List DV)) (n e : Nat) : zflat (zans Try.prog tab ftab cZ fSz [.list 4 xs] [(5, .q (.bool true)), (8, .q (.bool true)), (11, .q (.tuple [iN n, iN e]))]) = some (.tuple [iN n, iN e], (cZ fFt [.list 4 xs] ⟨0, [], []⟩ = some (.bool true, ⟨0, [], []⟩, none)) :: (cZ fVa [.list 4 xs] ⟨0, [], []⟩ = some (.bool true, ⟨0, [], []⟩, none)) :: (cZ fSi [.list 4 xs] ⟨0, [], []⟩ = some (.tuple [iN n, iN e], ⟨0, [], []⟩, none)) :: []) := by kernel_rfl
/-- a length and an error -/
def szR (l : List El) : Nat × Nat := match (vfA l 1 0).2 with
  | false => (0, 4)
  | true => match vdA l with
    | false => (0, 8)
    | true => match szA 0 l with
      | some n => (n, 0)
      | none => (0, 11)
theorem szr_ans (x : ElV) : Ans Try.prog fSz [elsD x.1] (.tuple [iN (szR x.1).1, iN (szR x.1).2]) ⟨0, [], []⟩ := by
  obtain ⟨l, hl⟩ := x
  have h1 := cZ_ft ⟨0, [], []⟩ l hl.1
  have h2 := cZ_va ⟨0, [], []⟩ l hl
  have h3 := cZ_si ⟨0, [], []⟩ l hl.1
  dsimp only
  unfold szR
  cases hf : (vfA l 1 0).2 with
  | false =>
    rw [hf] at h1
    exact zflat_ok tab_ok mixed fun_ok cZ_ok (sz1 (elR l)) (.cons h1 .nil)
  | true =>
    rw [hf] at h1
    cases hv : vdA l with
    | false =>
      rw [hv] at h2
      exact zflat_ok tab_ok mixed fun_ok cZ_ok (sz2 (elR l)) (.cons h1 (.cons h2 .nil))
    | true =>
      rw [hv] at h2
      cases hs : szA 0 l with
      | some n =>
        rw [hs] at h3
        exact zflat_ok tab_ok mixed fun_ok cZ_ok (sz3 (elR l) n 0) (.cons h1 (.cons h2 (.cons h3 .nil)))
      | none =>
        rw [hs] at h3
        exact zflat_ok tab_ok mixed fun_ok cZ_ok (sz3 (elR l) 0 11) (.cons h1 (.cons h2 (.cons h3 .nil)))
def cSi2 : ConF := liftC (eqC fSz (fun x : ElV => [elsD x.1]) fun x => (.tuple [iN (szR x.1).1, iN (szR x.1).2], ⟨0, [], []⟩))
theorem cSi2_ok : ConOk Try.prog cSi2 := liftC_ok (eqC_ok szr_ans fun _ => rfl)
theorem cSi2_at (hp : Hp) (l : List El) (h : SmL l ∧ depA l ≤ 2 ^ 39) : cSi2 fSz [elsD l] hp = some (.tuple [iN (szR l).1, iN (szR l).2], hp, none) :=
  lift_at (A := fun x : ElV => [elsD x.1]) (D := fun x => .tuple [iN (szR x.1).1, iN (szR x.1).2]) (fun x y hxy => by
    simp only [List.cons.injEq, and_true] at hxy
    rw [els_inj hxy]) hp ⟨l, h⟩ rfl rfl
end
end Go.Proofs.Ytejlbkhddehaiaa
