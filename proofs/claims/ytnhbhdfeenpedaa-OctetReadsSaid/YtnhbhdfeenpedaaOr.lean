/- Octet's readers, the program's and the reference's. -/
import Derived.Test.YtnhbhdfeenpedaaCl
import Derived.Test.YtnhbhdfeenpedaaTb
import Derived.Test.YtnhbhdfeenpedaaNatBits
namespace Go.Proofs.Ytnhbhdfeenpedaa
open Go.RowKit

noncomputable section
/-! ### Answers seen otherwise -/
theorem Ans.seeH {P : Program} {f : FuncId} {args : List DV} {d d' : DV} {hp hp' : Hp} (h : Ans P f args d hp) (hs : ∀ W0 S0 E w v, HS W0 0 S0 E hp w → VR w E d v → ∃ E', (∀ b, E.S b → E'.S b) ∧ HS W0 0 S0 E' hp' w ∧ VR w E' d' v) : Ans P f args d' hp' := by
  refine ⟨h.1, fun W0 S0 E w vs hh hv => (h.2 W0 S0 E w vs hh hv).mono ?_⟩
  rintro e w' ⟨E1, v, rfl, h1, h2, h3⟩
  obtain ⟨E2, e2, h4, h5⟩ := hs _ _ _ _ _ h2 h3
  exact ⟨E2, v, rfl, later_ro h1 (later_up e2 w'), h4, h5⟩
theorem hs_froz {W0 : World} {S0 : Nat → Prop} {E : Env} {hp : Hp} {w : World} (hs : HS W0 0 S0 E hp w) : HS W0 0 S0 (ro (roS E)) ⟨0, []⟩ w := by
  refine ⟨hs.bel, fun _ h => h.elim, fun _ h => h.elim, fun _ h => h.elim, fun _ _ _ _ h => h.elim, (hs_frz hs).ro, fun b hb => ?_, Nat.le_refl _⟩
  rcases hb with hb | ⟨id, hd, rfl⟩
  · exact hs.olds b hb
  · exact .inr (hs.own id hd (Nat.zero_le _)).1
theorem vr_nl {w : World} {E E' : Env} {s : Nat} {v : Value} (h : VR w E .nil v) : VR w E' (.list s []) v := by
  cases h
  exact .list _ s [] none 0 0 0 (fun _ _ => undef) (Nat.zero_le _) (Nat.zero_le _) (fun _ => rfl) (fun h => absurd h (by simp)) (fun i cs h => by simp at h) (fun i cs j d h => by simp at h) (fun i cs j d h => by simp at h) (fun cs h => by simp at h)
/-- parts seen otherwise -/
def SeeL (w : World) (E E' : Env) : List DV → List DV → Prop
  | [], [] => True
  | d :: ds, a :: bs => (∀ u, VR w E d u → VR w E' a u) ∧ SeeL w E E' ds bs
  | _, _ => False
theorem SeeL.len {w : World} {E E' : Env} : ∀ {ds bs : List DV}, SeeL w E E' ds bs → ds.length = bs.length
  | [], [], _ => rfl
  | _ :: _, _ :: _, h => by simp [SeeL.len h.2]
  | [], _ :: _, h => h.elim
  | _ :: _, [], h => h.elim
theorem SeeL.at {w : World} {E E' : Env} : ∀ {ds bs : List DV}, SeeL w E E' ds bs → ∀ {j : Nat} {a : DV}, bs[j]? = some a → ∃ d, ds[j]? = some d ∧ ∀ u, VR w E d u → VR w E' a u
  | d :: _, _ :: _, h, 0, a, hj => by
    simp at hj
    subst hj
    exact ⟨d, rfl, h.1⟩
  | _ :: _, _ :: _, h, j + 1, a, hj => by
    obtain ⟨d, h1, h2⟩ := SeeL.at h.2 (by simpa using hj)
    exact ⟨d, by simpa using h1, h2⟩
  | [], [], _, j, a, hj => by simp at hj
  | [], _ :: _, h, _, _, _ => h.elim
  | _ :: _, [], h, _, _, _ => h.elim
theorem see_tuple {w : World} {E E' : Env} {ds bs : List DV} (h : SeeL w E E' ds bs) {v : Value} (hv : VR w E (.tuple ds) v) : VR w E' (.tuple bs) v := by
  cases hv with
  | tuple _ _ vs hl hq =>
    refine .tuple _ _ vs (h.len ▸ hl) fun j a u hj hu => ?_
    obtain ⟨d, h1, h2⟩ := h.at hj
    exact h2 u (hq j d u h1 hu)
theorem see_agg {w : World} {E E' : Env} {ds bs : List DV} (h : SeeL w E E' ds bs) {v : Value} (hv : VR w E (.agg ds) v) : VR w E' (.agg bs) v := by
  cases hv with
  | agg _ _ vs hl hq =>
    refine .agg _ _ vs (h.len ▸ hl) fun j a u hj hu => ?_
    obtain ⟨d, h1, h2⟩ := h.at hj
    exact h2 u (hq j d u h1 hu)
theorem Ans.nil3 {P : Program} {f : FuncId} {args : List DV} {x e : Int} (h : Ans P f args (.tuple [.nil, .agg [.nil, .int .i64 x], .int .i64 e]) ⟨0, []⟩) : Ans P f args (.tuple [.list 1 [], .agg [.list 1 [], .int .i64 x], .int .i64 e]) ⟨0, []⟩ :=
  h.seeH fun _ _ E w _ hs hv => ⟨E, fun _ h => h, hs, see_tuple (w := w) (E := E) (E' := E) (ds := [.nil, .agg [.nil, .int .i64 x], .int .i64 e]) (bs := [.list 1 [], .agg [.list 1 [], .int .i64 x], .int .i64 e]) ⟨fun _ h => vr_nl h, fun _ h => see_agg (w := w) (E := E) (E' := E) (ds := [.nil, .int .i64 x]) (bs := [.list 1 [], .int .i64 x]) ⟨fun _ h => vr_nl h, fun _ h => h, trivial⟩ h, fun _ h => h, trivial⟩ hv⟩
theorem Ans.nil2 {P : Program} {f : FuncId} {args : List DV} {k : IntKind} {n x e : Int} (h : Ans P f args (.tuple [.int k n, .agg [.nil, .int .i64 x], .int .i64 e]) ⟨0, []⟩) : Ans P f args (.tuple [.int k n, .agg [.list 1 [], .int .i64 x], .int .i64 e]) ⟨0, []⟩ :=
  h.seeH fun _ _ E w _ hs hv => ⟨E, fun _ h => h, hs, see_tuple (w := w) (E := E) (E' := E) (ds := [.int k n, .agg [.nil, .int .i64 x], .int .i64 e]) (bs := [.int k n, .agg [.list 1 [], .int .i64 x], .int .i64 e]) ⟨fun _ h => h, fun _ h => see_agg (w := w) (E := E) (E' := E) (ds := [.nil, .int .i64 x]) (bs := [.list 1 [], .int .i64 x]) ⟨fun _ h => vr_nl h, fun _ h => h, trivial⟩ h, fun _ h => h, trivial⟩ hv⟩
/-! ### What is read -/
def rd (b : List UInt8) (x : Int) : DV := .agg [byL b, .int .i64 x]
def cutE (len : Nat) (x n : Int) : Int := if x < 0 ∨ (len : Int) < x then 8 else if n < 0 then 2 else if (len : Int) - x < n then 10 else 0
theorem cutE_zero {len : Nat} {x n : Int} (h : cutE len x n = 0) : 0 ≤ x ∧ x ≤ (len : Int) ∧ 0 ≤ n ∧ x + n ≤ (len : Int) := by
  unfold cutE at h
  split at h
  · omega
  · split at h
    · omega
    · split at h
      · omega
      · omega
def pcB (b : List UInt8) (x n : Int) : List UInt8 := if cutE b.length x n = 0 then (b.drop x.toNat).take n.toNat else []
def afB (b : List UInt8) (x n : Int) : List UInt8 := if cutE b.length x n = 0 then b else []
def afX (b : List UInt8) (x n : Int) : Int := if cutE b.length x n = 0 then x + n else 0
def d3 (b : List UInt8) (x n : Int) : DV := .tuple [byL (pcB b x n), rd (afB b x n) (afX b x n), .int .i64 (cutE b.length x n)]
def leN : List UInt8 → Nat
  | [] => 0
  | c :: r => c.toNat + 256 * leN r
def vA (b : List UInt8) (x n : Int) : Nat := leN (pcB b x n)
def dn (k : IntKind) (b : List UInt8) (x n : Int) : DV := .tuple [.int k (vA b x n : Int), rd (afB b x n) (afX b x n), .int .i64 (cutE b.length x n)]
abbrev BI : Type := Bs × Int
abbrev BII : Type := Bs × Int × Int
theorem rd_inj {a b : Bs} {x y : Int} (h : rd a.1 x = rd b.1 y) : a = b ∧ x = y := by
  simp only [rd, DV.agg.injEq, List.cons.injEq, DV.int.injEq, true_and, and_true] at h
  exact ⟨byL_inj h.1, h.2⟩
theorem wrapZ {z : Int} (h0 : -9223372036854775808 ≤ z) (h1 : z ≤ 9223372036854775807) : IntKind.i64.wrap z = z := by
  simp only [IntKind.wrap, IntKind.bits, IntKind.signed, Bool.true_and]
  split <;> simp_all <;> omega
/-! ### Check, Valid -/
set_option maxRecDepth 1000000 in
theorem ck1 (xs : List (List DV)) (x : Int) : zflat (zans Try.prog tab ftab noC 36 [.agg [.list 1 xs, .int .i64 x]] [(5, .b true)]) =
    some (.int .i64 8, [decide (x < 0) = true]) := by
  kernel_rfl
set_option maxRecDepth 1000000 in
theorem ck2 (xs : List (List DV)) (x : Int) : zflat (zans Try.prog tab ftab noC 36 [.agg [.list 1 xs, .int .i64 x]] [(5, .b false), (12, .b true)]) =
    some (.int .i64 8, [decide (x < 0) = false, decide (x > (xs.length : Int)) = true]) := by
  kernel_rfl
set_option maxRecDepth 1000000 in
theorem ck3 (xs : List (List DV)) (x : Int) : zflat (zans Try.prog tab ftab noC 36 [.agg [.list 1 xs, .int .i64 x]] [(5, .b false), (12, .b false)]) =
    some (.int .i64 0, [decide (x < 0) = false, decide (x > (xs.length : Int)) = false]) := by
  kernel_rfl
set_option maxRecDepth 1000000 in
theorem vd1 (xs : List (List DV)) (x : Int) : zflat (zans Try.prog tab ftab noC 37 [.agg [.list 1 xs, .int .i64 x]] [(5, .b false)]) =
    some (.bool false, [decide (x ≥ 0) = false]) := by
  kernel_rfl
set_option maxRecDepth 1000000 in
theorem vd2 (xs : List (List DV)) (x : Int) (v : Bool) : zflat (zans Try.prog tab ftab noC 37 [.agg [.list 1 xs, .int .i64 x]] [(5, .b true), (12, .b v)]) =
    some (.bool v, [decide (x ≥ 0) = true, decide (x ≤ (xs.length : Int)) = v]) := by
  kernel_rfl
def chkE (b : List UInt8) (x : Int) : Int := if 0 ≤ x ∧ x ≤ (b.length : Int) then 0 else 8
def vld (b : List UInt8) (x : Int) : Bool := decide (0 ≤ x ∧ x ≤ (b.length : Int))
theorem ans_cKk (x : BI) : Ans Try.prog 36 [rd x.1.1 x.2] (.int .i64 (chkE x.1.1 x.2)) ⟨0, []⟩ := by
  obtain ⟨⟨b, hb⟩, x⟩ := x
  have hl := by1_length b
  simp only [chkE]
  by_cases h1 : x < 0
  · rw [if_neg (by omega)]
    exact zflat_ok tab_ok mixed fun_ok noC_ok (ck1 (by1 b) x) (.cons (decide_eq_true h1) .nil)
  · by_cases h2 : x > (b.length : Int)
    · rw [if_neg (by omega)]
      exact zflat_ok tab_ok mixed fun_ok noC_ok (ck2 (by1 b) x) (.cons (decide_eq_false h1) (.cons (decide_eq_true (by omega)) .nil))
    · rw [if_pos (by omega)]
      exact zflat_ok tab_ok mixed fun_ok noC_ok (ck3 (by1 b) x) (.cons (decide_eq_false h1) (.cons (decide_eq_false (by omega)) .nil))
theorem ans_cVd (x : BI) : Ans Try.prog 37 [rd x.1.1 x.2] (.bool (vld x.1.1 x.2)) ⟨0, []⟩ := by
  obtain ⟨⟨b, hb⟩, x⟩ := x
  have hl := by1_length b
  simp only [vld]
  by_cases h1 : x ≥ 0
  · exact zflat_ok tab_ok mixed fun_ok noC_ok (vd2 (by1 b) x _) (.cons (decide_eq_true h1) (.cons (by rw [Bool.eq_iff_iff, decide_eq_true_eq, decide_eq_true_eq]; omega) .nil))
  · rw [decide_eq_false (by omega)]
    exact zflat_ok tab_ok mixed fun_ok noC_ok (vd1 (by1 b) x) (.cons (decide_eq_false h1) .nil)
def cKk : CallF := liftC (eqC 36 (fun x : BI => [rd x.1.1 x.2]) fun x => (.int .i64 (chkE x.1.1 x.2), ⟨0, []⟩))
theorem cKk_ok : CallOk Try.prog cKk := liftC_ok (eqC_ok ans_cKk)
theorem cKk_at (hp : Hp) (x : BI) : cKk 36 [rd x.1.1 x.2] hp = some (.int .i64 (chkE x.1.1 x.2), hp, none) :=
  lift_at (A := fun x : BI => [rd x.1.1 x.2]) (D := fun x => .int .i64 (chkE x.1.1 x.2)) (fun x y hxy => by
    obtain ⟨x1, x2⟩ := x
    obtain ⟨y1, y2⟩ := y
    simp only [List.cons.injEq, and_true] at hxy
    obtain ⟨rfl, rfl⟩ := rd_inj hxy
    rfl) hp x rfl rfl
def cVd : CallF := liftC (eqC 37 (fun x : BI => [rd x.1.1 x.2]) fun x => (.bool (vld x.1.1 x.2), ⟨0, []⟩))
theorem cVd_ok : CallOk Try.prog cVd := liftC_ok (eqC_ok ans_cVd)
theorem cVd_at (hp : Hp) (x : BI) : cVd 37 [rd x.1.1 x.2] hp = some (.bool (vld x.1.1 x.2), hp, none) :=
  lift_at (A := fun x : BI => [rd x.1.1 x.2]) (D := fun x => .bool (vld x.1.1 x.2)) (fun x y hxy => by
    obtain ⟨x1, x2⟩ := x
    obtain ⟨y1, y2⟩ := y
    simp only [List.cons.injEq, and_true] at hxy
    obtain ⟨rfl, rfl⟩ := rd_inj hxy
    rfl) hp x rfl rfl
/-! ### cut -/
def slL (h : Hp) (xs : List (List DV)) (lo hi : Int) : Option DV := match tab 23 with
  | some i => sliceD tab h i (.list 1 xs) (some (.int .i64 lo)) (some (.int .i64 hi)) none
  | none => none
theorem slL_eq (h : Hp) (xs : List (List DV)) (lo hi : Int) : slL h xs lo hi = match optI (some (.int .i64 hi)) xs.length, optI (some (.int .i64 lo)) 0 with
    | some h, some l => match Nat.ble l h && Nat.ble h xs.length with
      | true => some (.list 1 ((xs.drop l).take (h - l)))
      | false => none
    | _, _ => none := by kernel_rfl
theorem sl_ok (h : Hp) (b : List UInt8) {x n : Int} (he : cutE b.length x n = 0) : slL h (by1 b) x (x + n) = some (byL (pcB b x n)) := by
  obtain ⟨h1, h2, h3, h4⟩ := cutE_zero he
  rw [slL_eq]
  simp only [optI, decide_eq_true h1, decide_eq_true (show 0 ≤ x + n by omega)]
  rw [show Nat.ble x.toNat (x + n).toNat = true from bleT (by omega), show Nat.ble (x + n).toNat (by1 b).length = true from bleT (by rw [by1_length]; omega)]
  simp only [Bool.and_self]
  rw [show (x + n).toNat - x.toNat = n.toNat by omega]
  unfold pcB
  rw [if_pos he]
  simp [byL, by1, List.map_drop, List.map_take]
set_option maxRecDepth 1000000 in
theorem cu8 (xs : List (List DV)) (x n : Int) : zflat (zans Try.prog tab ftab cKk 100 [.agg [.list 1 xs, .int .i64 x], .int .i64 n] [(10, .q (.int .i64 8))]) =
    some (.tuple [.nil, .agg [.nil, .int .i64 0], .int .i64 8], [cKk 36 [.agg [.list 1 xs, .int .i64 x]] ⟨2, [⟨0, 0, 25, [.nil, .int .i64 0]⟩, ⟨0, 0, 25, [.list 1 xs, .int .i64 x]⟩]⟩ = some (.int .i64 8, ⟨2, [⟨0, 0, 25, [.nil, .int .i64 0]⟩, ⟨0, 0, 25, [.list 1 xs, .int .i64 x]⟩]⟩, none)]) := by
  kernel_rfl
set_option maxRecDepth 1000000 in
theorem cu2 (xs : List (List DV)) (x n : Int) : zflat (zans Try.prog tab ftab cKk 100 [.agg [.list 1 xs, .int .i64 x], .int .i64 n] [(10, .q (.int .i64 0)), (16, .b true)]) =
    some (.tuple [.nil, .agg [.nil, .int .i64 0], .int .i64 2], [cKk 36 [.agg [.list 1 xs, .int .i64 x]] ⟨2, [⟨0, 0, 25, [.nil, .int .i64 0]⟩, ⟨0, 0, 25, [.list 1 xs, .int .i64 x]⟩]⟩ = some (.int .i64 0, ⟨2, [⟨0, 0, 25, [.nil, .int .i64 0]⟩, ⟨0, 0, 25, [.list 1 xs, .int .i64 x]⟩]⟩, none), decide (n < 0) = true]) := by
  kernel_rfl
set_option maxRecDepth 1000000 in
theorem cu10 (xs : List (List DV)) (x n : Int) : zflat (zans Try.prog tab ftab cKk 100 [.agg [.list 1 xs, .int .i64 x], .int .i64 n] [(10, .q (.int .i64 0)), (16, .b false), (25, .b true)]) =
    some (.tuple [.nil, .agg [.nil, .int .i64 0], .int .i64 10], [cKk 36 [.agg [.list 1 xs, .int .i64 x]] ⟨2, [⟨0, 0, 25, [.nil, .int .i64 0]⟩, ⟨0, 0, 25, [.list 1 xs, .int .i64 x]⟩]⟩ = some (.int .i64 0, ⟨2, [⟨0, 0, 25, [.nil, .int .i64 0]⟩, ⟨0, 0, 25, [.list 1 xs, .int .i64 x]⟩]⟩, none), decide (n < 0) = false, decide (n > IntKind.i64.wrap ((xs.length : Int) - x)) = true]) := by
  kernel_rfl
set_option maxRecDepth 1000000 in
theorem cu0 (xs ps : List (List DV)) (x n y : Int) : zflat (zans Try.prog tab ftab cKk 100 [.agg [.list 1 xs, .int .i64 x], .int .i64 n] [(10, .q (.int .i64 0)), (16, .b false), (25, .b false), (30, .w (.int .i64 y)), (36, .n (.list 1 ps))]) =
    some (.tuple [.list 1 ps, .agg [.list 1 xs, .int .i64 y], .int .i64 0], [cKk 36 [.agg [.list 1 xs, .int .i64 x]] ⟨2, [⟨0, 0, 25, [.nil, .int .i64 0]⟩, ⟨0, 0, 25, [.list 1 xs, .int .i64 x]⟩]⟩ = some (.int .i64 0, ⟨2, [⟨0, 0, 25, [.nil, .int .i64 0]⟩, ⟨0, 0, 25, [.list 1 xs, .int .i64 x]⟩]⟩, none), decide (n < 0) = false, decide (n > IntKind.i64.wrap ((xs.length : Int) - x)) = false, DV.int .i64 (IntKind.i64.wrap (x + n)) = .int .i64 y, slL ⟨2, [⟨0, 0, 25, [.nil, .int .i64 0]⟩, ⟨0, 0, 25, [.list 1 xs, .int .i64 x]⟩]⟩ xs x y = some (.list 1 ps)]) := by
  kernel_rfl
theorem ans_cCt (x : BII) : Ans Try.prog 100 [rd x.1.1 x.2.1, .int .i64 x.2.2] (d3 x.1.1 x.2.1 x.2.2) ⟨0, []⟩ := by
  obtain ⟨b, x, n⟩ := x
  have hl := by1_length b.1
  have hb := b.2
  have q := fun hp => cKk_at hp (b, x)
  simp only [chkE] at q
  unfold d3
  by_cases h1 : 0 ≤ x ∧ x ≤ (b.1.length : Int)
  · rw [if_pos h1] at q
    have hw : IntKind.i64.wrap (((by1 b.1).length : Int) - x) = (b.1.length : Int) - x := by rw [hl, wrapZ (by omega) (by omega)]
    by_cases h2 : n < 0
    · have he : cutE b.1.length x n = 2 := by unfold cutE; rw [if_neg (by omega), if_pos h2]
      unfold pcB afB afX
      rw [he]
      exact (zflat_ok tab_ok mixed fun_ok cKk_ok (cu2 (by1 b.1) x n) (.cons (q _) (.cons (decide_eq_true h2) .nil))).nil3
    · by_cases h3 : n > (b.1.length : Int) - x
      · have he : cutE b.1.length x n = 10 := by unfold cutE; rw [if_neg (by omega), if_neg h2, if_pos (by omega)]
        unfold pcB afB afX
        rw [he]
        exact (zflat_ok tab_ok mixed fun_ok cKk_ok (cu10 (by1 b.1) x n) (.cons (q _) (.cons (decide_eq_false h2) (.cons (by rw [hw]; exact decide_eq_true h3) .nil)))).nil3
      · have he : cutE b.1.length x n = 0 := by unfold cutE; rw [if_neg (by omega), if_neg h2, if_neg (by omega)]
        have hy : DV.int .i64 (IntKind.i64.wrap (x + n)) = .int .i64 (x + n) := by rw [wrapZ (by omega) (by omega)]
        have hs := fun h => sl_ok h b.1 he
        have ha : afB b.1 x n = b.1 := if_pos he
        have hx : afX b.1 x n = x + n := if_pos he
        rw [ha, hx, he]
        exact zflat_ok tab_ok mixed fun_ok cKk_ok (cu0 (by1 b.1) (by1 (pcB b.1 x n)) x n (x + n)) (.cons (q _) (.cons (decide_eq_false h2) (.cons (by rw [hw]; exact decide_eq_false h3) (.cons hy (.cons (hs _) .nil)))))
  · have he : cutE b.1.length x n = 8 := by unfold cutE; rw [if_pos (by omega)]
    rw [if_neg h1] at q
    unfold pcB afB afX
    rw [he]
    exact (zflat_ok tab_ok mixed fun_ok cKk_ok (cu8 (by1 b.1) x n) (.cons (q _) .nil)).nil3
def cCt : CallF := liftC (eqC 100 (fun x : BII => [rd x.1.1 x.2.1, .int .i64 x.2.2]) fun x => (d3 x.1.1 x.2.1 x.2.2, ⟨0, []⟩))
theorem cCt_ok : CallOk Try.prog cCt := liftC_ok (eqC_ok ans_cCt)
theorem cCt_at (hp : Hp) (x : BII) : cCt 100 [rd x.1.1 x.2.1, .int .i64 x.2.2] hp = some (d3 x.1.1 x.2.1 x.2.2, hp, none) :=
  lift_at (A := fun x : BII => [rd x.1.1 x.2.1, .int .i64 x.2.2]) (D := fun x => d3 x.1.1 x.2.1 x.2.2) (fun x y hxy => by
    obtain ⟨x1, x2, x3⟩ := x
    obtain ⟨y1, y2, y3⟩ := y
    simp only [List.cons.injEq, and_true, DV.int.injEq, true_and] at hxy
    obtain ⟨rfl, rfl⟩ := rd_inj hxy.1
    obtain rfl := hxy.2
    rfl) hp x rfl rfl
/-! ### Copy, Clone -/
set_option maxRecDepth 1000000 in
theorem cpRun (xs : List (List DV)) (d : DV) (h : Hp) (m : Mut) : zans Try.prog tab ftab noC 27 [.list 1 xs] [(5, .h d h m)] = some (d, h, [builtinD tab ⟨1, [⟨0, 0, 5, []⟩]⟩ .append [.sl 0 0 1 0 0, .list 1 xs] [23, 23] = some (d, h, m)]) := by
  kernel_rfl
theorem sb_vr {W0 : World} {S0 : Nat → Prop} {E : Env} {hp : Hp} {w : World} (hs : HS W0 0 S0 E hp w) {d : DV} {bs : List UInt8} (h : Sb hp d bs) {v : Value} (hv : VR w E d v) : VR w (ro (roS E)) (byL bs) v := by
  rcases h with ⟨rfl, rfl⟩ | ⟨id, off, o, c, rfl, h1, h2, h3, h4, h5, h6⟩
  · exact vr_nl hv
  · refine frz1_ok hs hv (frz_bytes h1 fun i b hb => ?_)
    have : (celB bs)[i]? = some (i8 b) := by simp [celB, hb]
    rw [← h5, List.getElem?_drop] at this
    exact this
theorem ans_cCp (b : Bs) : Ans Try.prog 27 [byL b.1] (byL b.1) ⟨0, []⟩ := by
  obtain ⟨d, h, m, e, sb⟩ := app_bytes (hp := ⟨1, [⟨0, 0, 5, []⟩]⟩) (d := .sl 0 0 1 0 0) (x := byL b.1) (bs := []) (cs := b.1) (.inr ⟨0, 0, ⟨0, 0, 5, []⟩, 0, rfl, rfl, .inl rfl, rfl, rfl, rfl, rfl⟩) (contD_list _ _) (by have := b.2; simp; omega)
  exact (zans_ok tab_ok mixed fun_ok noC_ok (cpRun (by1 b.1) d h m) (.cons e .nil)).seeH fun _ _ E _ _ hs hv => ⟨ro (roS E), fun _ hb => .inl hb, hs_froz hs, sb_vr hs sb hv⟩
theorem ans_cCl (b : Bs) : Ans Try.prog 101 [byL b.1] (byL b.1) ⟨0, []⟩ := ansClone b
def cCp : CallF := liftC (eqC 27 (fun x : Bs => [byL x.1]) fun x => (byL x.1, ⟨0, []⟩))
theorem cCp_ok : CallOk Try.prog cCp := liftC_ok (eqC_ok ans_cCp)
theorem cCp_at (hp : Hp) (x : Bs) : cCp 27 [byL x.1] hp = some (byL x.1, hp, none) :=
  lift_at (A := fun x : Bs => [byL x.1]) (D := fun x => byL x.1) (fun x y hxy => by
    simp only [List.cons.injEq, and_true] at hxy
    rw [byL_inj hxy]) hp x rfl rfl
def cCl : CallF := liftC (eqC 101 (fun x : Bs => [byL x.1]) fun x => (byL x.1, ⟨0, []⟩))
theorem cCl_ok : CallOk Try.prog cCl := liftC_ok (eqC_ok ans_cCl)
theorem cCl_at (hp : Hp) (x : Bs) : cCl 101 [byL x.1] hp = some (byL x.1, hp, none) :=
  lift_at (A := fun x : Bs => [byL x.1]) (D := fun x => byL x.1) (fun x y hxy => by
    simp only [List.cons.injEq, and_true] at hxy
    rw [byL_inj hxy]) hp x rfl rfl
theorem pc_len (b : Bs) (x n : Int) : (pcB b.1 x n).length < 2 ^ 30 := by
  have := b.2
  unfold pcB
  split
  · rw [List.length_take, List.length_drop]
    omega
  · exact Nat.two_pow_pos 30
theorem af_len (b : Bs) (x n : Int) : (afB b.1 x n).length < 2 ^ 30 := by
  have := b.2
  unfold afB
  split
  · exact this
  · exact Nat.two_pow_pos 30
def pcS (b : Bs) (x n : Int) : Bs := ⟨pcB b.1 x n, pc_len b x n⟩
def afS (b : Bs) (x n : Int) : Bs := ⟨afB b.1 x n, af_len b x n⟩
/-! ### Take -/
def cT1 : CallF := orK cCt cCl
theorem cT1_ok : CallOk Try.prog cT1 := orK_ok cCt_ok cCl_ok
theorem lift_oth {C : CallF} {f : FuncId} {args : List DV} {hp : Hp} (h : C f args ⟨0, []⟩ = none) : liftC C f args hp = none := by
  unfold liftC
  rw [h]
  split <;> rfl
set_option maxRecDepth 1000000 in
theorem tk (xs ps ys : List (List DV)) (x n y e : Int) : zflat (zans Try.prog tab ftab cT1 17 [.agg [.list 1 xs, .int .i64 x], .int .i64 n] [(13, .q (.tuple [.list 1 ps, .agg [.list 1 ys, .int .i64 y], .int .i64 e])), (18, .q (.list 1 ps))]) =
    some (.tuple [.list 1 ps, .agg [.list 1 ys, .int .i64 y], .int .i64 e], [cT1 100 [.agg [.list 1 xs, .int .i64 x], .int .i64 n] ⟨2, [⟨0, 0, 25, [.nil, .int .i64 0]⟩, ⟨0, 0, 25, [.list 1 xs, .int .i64 x]⟩]⟩ = some (.tuple [.list 1 ps, .agg [.list 1 ys, .int .i64 y], .int .i64 e], ⟨2, [⟨0, 0, 25, [.nil, .int .i64 0]⟩, ⟨0, 0, 25, [.list 1 xs, .int .i64 x]⟩]⟩, none), cT1 101 [.list 1 ps] ⟨3, [⟨0, 0, 25, [.list 1 ys, .int .i64 y]⟩, ⟨0, 0, 25, [.nil, .int .i64 0]⟩, ⟨0, 0, 25, [.list 1 xs, .int .i64 x]⟩]⟩ = some (.list 1 ps, ⟨3, [⟨0, 0, 25, [.list 1 ys, .int .i64 y]⟩, ⟨0, 0, 25, [.nil, .int .i64 0]⟩, ⟨0, 0, 25, [.list 1 xs, .int .i64 x]⟩]⟩, none)]) := by
  kernel_rfl
theorem ans_cTk (x : BII) : Ans Try.prog 17 [rd x.1.1 x.2.1, .int .i64 x.2.2] (d3 x.1.1 x.2.1 x.2.2) ⟨0, []⟩ :=
  zflat_ok tab_ok mixed fun_ok cT1_ok (tk (by1 x.1.1) (by1 (pcB x.1.1 x.2.1 x.2.2)) (by1 (afB x.1.1 x.2.1 x.2.2)) x.2.1 x.2.2 (afX x.1.1 x.2.1 x.2.2) (cutE x.1.1.length x.2.1 x.2.2)) (.cons (orK_left (cCt_at _ x)) (.cons (orK_right (lift_oth (by kernel_rfl)) (cCl_at _ (pcS x.1 x.2.1 x.2.2))) .nil))
def cTk : CallF := liftC (eqC 17 (fun x : BII => [rd x.1.1 x.2.1, .int .i64 x.2.2]) fun x => (d3 x.1.1 x.2.1 x.2.2, ⟨0, []⟩))
theorem cTk_ok : CallOk Try.prog cTk := liftC_ok (eqC_ok ans_cTk)
theorem cTk_at (hp : Hp) (x : BII) : cTk 17 [rd x.1.1 x.2.1, .int .i64 x.2.2] hp = some (d3 x.1.1 x.2.1 x.2.2, hp, none) :=
  lift_at (A := fun x : BII => [rd x.1.1 x.2.1, .int .i64 x.2.2]) (D := fun x => d3 x.1.1 x.2.1 x.2.2) (fun x y hxy => by
    obtain ⟨x1, x2, x3⟩ := x
    obtain ⟨y1, y2, y3⟩ := y
    simp only [List.cons.injEq, and_true, DV.int.injEq, true_and] at hxy
    obtain ⟨rfl, rfl⟩ := rd_inj hxy.1
    obtain rfl := hxy.2
    rfl) hp x rfl rfl
def cT2 : CallF := orK cVd cCp
theorem cT2_ok : CallOk Try.prog cT2 := orK_ok cVd_ok cCp_ok
set_option maxRecDepth 1000000 in
theorem rt8 (xs : List (List DV)) (x n : Int) : zflat (zans Try.prog tab ftab cT2 32 [.agg [.list 1 xs, .int .i64 x], .int .i64 n] [(8, .q (.bool false))]) =
    some (.tuple [.nil, .agg [.nil, .int .i64 0], .int .i64 8], [cT2 37 [.agg [.list 1 xs, .int .i64 x]] ⟨2, [⟨0, 0, 25, [.nil, .int .i64 0]⟩, ⟨0, 0, 25, [.list 1 xs, .int .i64 x]⟩]⟩ = some (.bool false, ⟨2, [⟨0, 0, 25, [.nil, .int .i64 0]⟩, ⟨0, 0, 25, [.list 1 xs, .int .i64 x]⟩]⟩, none)]) := by
  kernel_rfl
set_option maxRecDepth 1000000 in
theorem rt2 (xs : List (List DV)) (x n : Int) : zflat (zans Try.prog tab ftab cT2 32 [.agg [.list 1 xs, .int .i64 x], .int .i64 n] [(8, .q (.bool true)), (12, .b true)]) =
    some (.tuple [.nil, .agg [.nil, .int .i64 0], .int .i64 2], [cT2 37 [.agg [.list 1 xs, .int .i64 x]] ⟨2, [⟨0, 0, 25, [.nil, .int .i64 0]⟩, ⟨0, 0, 25, [.list 1 xs, .int .i64 x]⟩]⟩ = some (.bool true, ⟨2, [⟨0, 0, 25, [.nil, .int .i64 0]⟩, ⟨0, 0, 25, [.list 1 xs, .int .i64 x]⟩]⟩, none), decide (n < 0) = true]) := by
  kernel_rfl
set_option maxRecDepth 1000000 in
theorem rt10 (xs : List (List DV)) (x n : Int) : zflat (zans Try.prog tab ftab cT2 32 [.agg [.list 1 xs, .int .i64 x], .int .i64 n] [(8, .q (.bool true)), (12, .b false), (21, .b true)]) =
    some (.tuple [.nil, .agg [.nil, .int .i64 0], .int .i64 10], [cT2 37 [.agg [.list 1 xs, .int .i64 x]] ⟨2, [⟨0, 0, 25, [.nil, .int .i64 0]⟩, ⟨0, 0, 25, [.list 1 xs, .int .i64 x]⟩]⟩ = some (.bool true, ⟨2, [⟨0, 0, 25, [.nil, .int .i64 0]⟩, ⟨0, 0, 25, [.list 1 xs, .int .i64 x]⟩]⟩, none), decide (n < 0) = false, decide (n > IntKind.i64.wrap ((xs.length : Int) - x)) = true]) := by
  kernel_rfl
set_option maxRecDepth 1000000 in
theorem rt0 (xs ps : List (List DV)) (x n y : Int) : zflat (zans Try.prog tab ftab cT2 32 [.agg [.list 1 xs, .int .i64 x], .int .i64 n] [(8, .q (.bool true)), (12, .b false), (21, .b false), (30, .w (.int .i64 y)), (31, .n (.list 1 ps)), (32, .q (.list 1 ps)), (38, .w (.int .i64 y))]) =
    some (.tuple [.list 1 ps, .agg [.list 1 xs, .int .i64 y], .int .i64 0], [cT2 37 [.agg [.list 1 xs, .int .i64 x]] ⟨2, [⟨0, 0, 25, [.nil, .int .i64 0]⟩, ⟨0, 0, 25, [.list 1 xs, .int .i64 x]⟩]⟩ = some (.bool true, ⟨2, [⟨0, 0, 25, [.nil, .int .i64 0]⟩, ⟨0, 0, 25, [.list 1 xs, .int .i64 x]⟩]⟩, none), decide (n < 0) = false, decide (n > IntKind.i64.wrap ((xs.length : Int) - x)) = false, DV.int .i64 (IntKind.i64.wrap (x + n)) = .int .i64 y, slL ⟨2, [⟨0, 0, 25, [.nil, .int .i64 0]⟩, ⟨0, 0, 25, [.list 1 xs, .int .i64 x]⟩]⟩ xs x y = some (.list 1 ps), cT2 27 [.list 1 ps] ⟨2, [⟨0, 0, 25, [.nil, .int .i64 0]⟩, ⟨0, 0, 25, [.list 1 xs, .int .i64 x]⟩]⟩ = some (.list 1 ps, ⟨2, [⟨0, 0, 25, [.nil, .int .i64 0]⟩, ⟨0, 0, 25, [.list 1 xs, .int .i64 x]⟩]⟩, none), DV.int .i64 (IntKind.i64.wrap (x + n)) = .int .i64 y]) := by
  kernel_rfl
theorem ans_cRt (x : BII) : Ans Try.prog 32 [rd x.1.1 x.2.1, .int .i64 x.2.2] (d3 x.1.1 x.2.1 x.2.2) ⟨0, []⟩ := by
  obtain ⟨b, x, n⟩ := x
  have hl := by1_length b.1
  have hb := b.2
  have q : ∀ hp, cT2 37 [rd b.1 x] hp = some (.bool (vld b.1 x), hp, none) := fun hp => orK_left (cVd_at hp (b, x))
  have cp : ∀ hp, cT2 27 [byL (pcB b.1 x n)] hp = some (byL (pcB b.1 x n), hp, none) := fun hp => orK_right (lift_oth (by kernel_rfl)) (cCp_at hp (pcS b x n))
  simp only [vld] at q
  unfold d3
  by_cases h1 : 0 ≤ x ∧ x ≤ (b.1.length : Int)
  · rw [decide_eq_true h1] at q
    have hw : IntKind.i64.wrap (((by1 b.1).length : Int) - x) = (b.1.length : Int) - x := by rw [hl, wrapZ (by omega) (by omega)]
    by_cases h2 : n < 0
    · have he : cutE b.1.length x n = 2 := by unfold cutE; rw [if_neg (by omega), if_pos h2]
      unfold pcB afB afX
      rw [he]
      exact (zflat_ok tab_ok mixed fun_ok cT2_ok (rt2 (by1 b.1) x n) (.cons (q _) (.cons (decide_eq_true h2) .nil))).nil3
    · by_cases h3 : n > (b.1.length : Int) - x
      · have he : cutE b.1.length x n = 10 := by unfold cutE; rw [if_neg (by omega), if_neg h2, if_pos (by omega)]
        unfold pcB afB afX
        rw [he]
        exact (zflat_ok tab_ok mixed fun_ok cT2_ok (rt10 (by1 b.1) x n) (.cons (q _) (.cons (decide_eq_false h2) (.cons (by rw [hw]; exact decide_eq_true h3) .nil)))).nil3
      · have he : cutE b.1.length x n = 0 := by unfold cutE; rw [if_neg (by omega), if_neg h2, if_neg (by omega)]
        have hy : DV.int .i64 (IntKind.i64.wrap (x + n)) = .int .i64 (x + n) := by rw [wrapZ (by omega) (by omega)]
        have hs := fun h => sl_ok h b.1 he
        have ha : afB b.1 x n = b.1 := if_pos he
        have hx : afX b.1 x n = x + n := if_pos he
        rw [ha, hx, he]
        exact zflat_ok tab_ok mixed fun_ok cT2_ok (rt0 (by1 b.1) (by1 (pcB b.1 x n)) x n (x + n)) (.cons (q _) (.cons (decide_eq_false h2) (.cons (by rw [hw]; exact decide_eq_false h3) (.cons hy (.cons (hs _) (.cons (cp _) (.cons hy .nil)))))))
  · have he : cutE b.1.length x n = 8 := by unfold cutE; rw [if_pos (by omega)]
    rw [decide_eq_false h1] at q
    unfold pcB afB afX
    rw [he]
    exact (zflat_ok tab_ok mixed fun_ok cT2_ok (rt8 (by1 b.1) x n) (.cons (q _) .nil)).nil3
def cRt : CallF := liftC (eqC 32 (fun x : BII => [rd x.1.1 x.2.1, .int .i64 x.2.2]) fun x => (d3 x.1.1 x.2.1 x.2.2, ⟨0, []⟩))
theorem cRt_ok : CallOk Try.prog cRt := liftC_ok (eqC_ok ans_cRt)
theorem cRt_at (hp : Hp) (x : BII) : cRt 32 [rd x.1.1 x.2.1, .int .i64 x.2.2] hp = some (d3 x.1.1 x.2.1 x.2.2, hp, none) :=
  lift_at (A := fun x : BII => [rd x.1.1 x.2.1, .int .i64 x.2.2]) (D := fun x => d3 x.1.1 x.2.1 x.2.2) (fun x y hxy => by
    obtain ⟨x1, x2, x3⟩ := x
    obtain ⟨y1, y2, y3⟩ := y
    simp only [List.cons.injEq, and_true, DV.int.injEq, true_and] at hxy
    obtain ⟨rfl, rfl⟩ := rd_inj hxy.1
    obtain rfl := hxy.2
    rfl) hp x rfl rfl
/-! ### Numbers -/
def orL : Nat → Int → List Int → Int
  | _, acc, [] => acc
  | i, acc, c :: r => orL (i + 1) (bitD .or .u64 acc (shlD .u64 (IntKind.u64.wrap c) ((8 * i : Nat) : Int))) r
theorem leN_lt : ∀ l : List UInt8, leN l < 256 ^ l.length
  | [] => by simp [leN]
  | c :: r => by
    have h1 := leN_lt r
    have h2 := UInt8.toNat_lt c
    rw [leN, List.length_cons, Nat.pow_succ]
    omega
theorem orL_eq : ∀ (l : List UInt8) (i acc : Nat), i + l.length ≤ 8 → acc < 256 ^ i → orL i (acc : Int) (l.map fun c => (c.toNat : Int)) = ((acc + 256 ^ i * leN l : Nat) : Int)
  | [], i, acc, _, _ => by simp [orL, leN]
  | c :: r, i, acc, h1, h2 => by
    have hc := UInt8.toNat_lt c
    rw [List.length_cons] at h1
    have hp : (256 : Nat) ^ i = 2 ^ (8 * i) := by rw [show (256 : Nat) = 2 ^ 8 from rfl, ← Nat.pow_mul]
    have hp1 : (256 : Nat) ^ (i + 1) = 2 ^ (8 * (i + 1)) := by rw [show (256 : Nat) = 2 ^ 8 from rfl, ← Nat.pow_mul]
    have hle : (2 : Nat) ^ (8 * (i + 1)) ≤ 2 ^ 64 := Nat.pow_le_pow_right (by decide) (by omega)
    have hs : (2 : Nat) ^ (8 * (i + 1)) = 256 * 2 ^ (8 * i) := by rw [show 8 * (i + 1) = 8 + 8 * i by omega, Nat.pow_add]
    have hlt : c.toNat * 2 ^ (8 * i) + 2 ^ (8 * i) ≤ 2 ^ (8 * (i + 1)) := by
      rw [hs, show c.toNat * 2 ^ (8 * i) + 2 ^ (8 * i) = (c.toNat + 1) * 2 ^ (8 * i) by rw [Nat.add_mul, Nat.one_mul]]
      exact Nat.mul_le_mul_right _ (by omega)
    rw [hp] at h2
    rw [List.map_cons, orL, wrap64 (by omega), shlU (k := .u64) rfl _ (by show 8 * i ≤ 64; omega), show (2 : Nat) ^ IntKind.u64.bits = 2 ^ 64 from rfl, Nat.mod_eq_of_lt (by omega), or64 (by omega) (by omega)]
    have ho : acc ||| c.toNat * 2 ^ (8 * i) = acc + c.toNat * 2 ^ (8 * i) := by
      have := Nat.shiftLeft_add_eq_or_of_lt (b := acc) (i := 8 * i) h2 c.toNat
      rw [Nat.shiftLeft_eq] at this
      rw [Nat.or_comm, ← this, Nat.add_comm]
    rw [ho, orL_eq r (i + 1) _ (by omega) (by rw [hp1]; omega)]
    congr 1
    rw [leN, hp, hp1, hs, Nat.mul_add, Nat.add_assoc, Nat.mul_comm c.toNat, show 256 * 2 ^ (8 * i) * leN r = 2 ^ (8 * i) * (256 * leN r) by rw [Nat.mul_comm 256, Nat.mul_assoc]]
theorem numR_app (l : List Int) (c : Int) : numR (l ++ [c]) = IntKind.u64.wrap (IntKind.u64.wrap (numR l * 256) + IntKind.u64.wrap c) := by
  simp [numR]
theorem numR_le : ∀ l : List UInt8, l.length ≤ 8 → numR (l.map fun c => (c.toNat : Int)).reverse = (leN l : Int)
  | [], _ => rfl
  | c :: r, h => by
    rw [List.length_cons] at h
    have hc := UInt8.toNat_lt c
    have hr := leN_lt r
    have hle : (256 : Nat) ^ r.length ≤ 256 ^ 7 := Nat.pow_le_pow_right (by decide) (by omega)
    rw [List.map_cons, List.reverse_cons, numR_app, numR_le r (by omega), stepR (by omega) (by omega), leN]
    congr 1
    omega
set_option maxRecDepth 1000000 in
theorem gt1 (xs ys : List (List DV)) (x y e : Int) (v : Nat) (c0 : UInt8) : zflat (zans Try.prog tab ftab cCt 99 [.agg [.list 1 xs, .int .i64 x]] [(14, .q (.tuple [.list 1 [[i8 c0]], .agg [.list 1 ys, .int .i64 y], .int .i64 e])), (34, .w (.int .u8 (v : Int)))]) =
    some (.tuple [.int .u8 (v : Int), .agg [.list 1 ys, .int .i64 y], .int .i64 e], [cCt 100 [.agg [.list 1 xs, .int .i64 x], .int .i64 1] ⟨2, [⟨0, 0, 25, [.nil, .int .i64 0]⟩, ⟨0, 0, 25, [.list 1 xs, .int .i64 x]⟩]⟩ = some (.tuple [.list 1 [[i8 c0]], .agg [.list 1 ys, .int .i64 y], .int .i64 e], ⟨2, [⟨0, 0, 25, [.nil, .int .i64 0]⟩, ⟨0, 0, 25, [.list 1 xs, .int .i64 x]⟩]⟩, none), DV.int .u8 (IntKind.u8.wrap (orL 0 0 [(c0.toNat : Int)])) = .int .u8 (v : Int)]) := by
  kernel_rfl
set_option maxRecDepth 1000000 in
theorem gz1 (xs ys : List (List DV)) (x y e : Int) : zflat (zans Try.prog tab ftab cCt 99 [.agg [.list 1 xs, .int .i64 x]] [(14, .q (.tuple [.list 1 [], .agg [.list 1 ys, .int .i64 y], .int .i64 e]))]) =
    some (.tuple [.int .u8 0, .agg [.list 1 ys, .int .i64 y], .int .i64 e], [cCt 100 [.agg [.list 1 xs, .int .i64 x], .int .i64 1] ⟨2, [⟨0, 0, 25, [.nil, .int .i64 0]⟩, ⟨0, 0, 25, [.list 1 xs, .int .i64 x]⟩]⟩ = some (.tuple [.list 1 [], .agg [.list 1 ys, .int .i64 y], .int .i64 e], ⟨2, [⟨0, 0, 25, [.nil, .int .i64 0]⟩, ⟨0, 0, 25, [.list 1 xs, .int .i64 x]⟩]⟩, none)]) := by
  kernel_rfl
theorem ans_cG1 (x : BI) : Ans Try.prog 99 [rd x.1.1 x.2] (dn .u8 x.1.1 x.2 1) ⟨0, []⟩ := by
  obtain ⟨b, x⟩ := x
  have q := fun hp => cCt_at hp (b, x, (1 : Int))
  simp only [d3] at q
  unfold dn vA
  by_cases he : cutE b.1.length x 1 = 0
  · have hlen : (pcB b.1 x 1).length = 1 := by
      obtain ⟨h1, h2, h3, h4⟩ := cutE_zero he
      unfold pcB
      rw [if_pos he, List.length_take, List.length_drop]
      omega
    revert q hlen
    generalize pcB b.1 x 1 = l
    intro q hlen
    match l, hlen with
    | [c0], _ =>
      have hv := orL_eq [c0] 0 0 (by simp) (by decide)
      rw [Nat.pow_zero, Nat.one_mul, Nat.zero_add] at hv
      have hlt := leN_lt [c0]
      generalize hL : leN [c0] = L at *
      exact zflat_ok tab_ok mixed fun_ok cCt_ok (gt1 (by1 b.1) (by1 (afB b.1 x 1)) x _ _ L c0) (.cons (q _) (.cons (congrArg (DV.int .u8) (by rw [show orL 0 0 [(c0.toNat : Int)] = (L : Int) from hv, wrapU rfl, Nat.mod_eq_of_lt (by show L < 2 ^ 8; have h := hlt; simp only [List.length_cons, List.length_nil, Nat.zero_add, Nat.reducePow] at h; omega)])) .nil))
  · have hz : pcB b.1 x 1 = [] := if_neg he
    rw [hz] at q ⊢
    exact zflat_ok tab_ok mixed fun_ok cCt_ok (gz1 (by1 b.1) (by1 (afB b.1 x 1)) x _ _) (.cons (q _) .nil)
def cG1 : CallF := liftC (eqC 99 (fun x : BI => [rd x.1.1 x.2]) fun x => (dn .u8 x.1.1 x.2 1, ⟨0, []⟩))
theorem cG1_ok : CallOk Try.prog cG1 := liftC_ok (eqC_ok ans_cG1)
theorem cG1_at (hp : Hp) (x : BI) : cG1 99 [rd x.1.1 x.2] hp = some (dn .u8 x.1.1 x.2 1, hp, none) :=
  lift_at (A := fun x : BI => [rd x.1.1 x.2]) (D := fun x => dn .u8 x.1.1 x.2 1) (fun x y hxy => by
    obtain ⟨x1, x2⟩ := x
    obtain ⟨y1, y2⟩ := y
    simp only [List.cons.injEq, and_true] at hxy
    obtain ⟨rfl, rfl⟩ := rd_inj hxy
    rfl) hp x rfl rfl
set_option maxRecDepth 1000000 in
theorem us1 (xs ys : List (List DV)) (x y e : Int) (v : Nat) : zflat (zans Try.prog tab ftab cG1 16 [.agg [.list 1 xs, .int .i64 x]] [(6, .q (.tuple [.int .u8 (v : Int), .agg [.list 1 ys, .int .i64 y], .int .i64 e]))]) =
    some (.tuple [.int .u8 (v : Int), .agg [.list 1 ys, .int .i64 y], .int .i64 e], [cG1 99 [.agg [.list 1 xs, .int .i64 x]] ⟨2, [⟨0, 0, 25, [.nil, .int .i64 0]⟩, ⟨0, 0, 25, [.list 1 xs, .int .i64 x]⟩]⟩ = some (.tuple [.int .u8 (v : Int), .agg [.list 1 ys, .int .i64 y], .int .i64 e], ⟨2, [⟨0, 0, 25, [.nil, .int .i64 0]⟩, ⟨0, 0, 25, [.list 1 xs, .int .i64 x]⟩]⟩, none)]) := by
  kernel_rfl
theorem ans_cW1 (x : BI) : Ans Try.prog 16 [rd x.1.1 x.2] (dn .u8 x.1.1 x.2 1) ⟨0, []⟩ :=
  zflat_ok tab_ok mixed fun_ok cG1_ok (us1 (by1 x.1.1) (by1 (afB x.1.1 x.2 1)) x.2 _ _ _) (.cons (cG1_at _ x) .nil)
def cW1 : CallF := liftC (eqC 16 (fun x : BI => [rd x.1.1 x.2]) fun x => (dn .u8 x.1.1 x.2 1, ⟨0, []⟩))
theorem cW1_ok : CallOk Try.prog cW1 := liftC_ok (eqC_ok ans_cW1)
theorem cW1_at (hp : Hp) (x : BI) : cW1 16 [rd x.1.1 x.2] hp = some (dn .u8 x.1.1 x.2 1, hp, none) :=
  lift_at (A := fun x : BI => [rd x.1.1 x.2]) (D := fun x => dn .u8 x.1.1 x.2 1) (fun x y hxy => by
    obtain ⟨x1, x2⟩ := x
    obtain ⟨y1, y2⟩ := y
    simp only [List.cons.injEq, and_true] at hxy
    obtain ⟨rfl, rfl⟩ := rd_inj hxy
    rfl) hp x rfl rfl
set_option maxRecDepth 1000000 in
theorem gt2 (xs ys : List (List DV)) (x y e : Int) (v : Nat) (c0 c1 : UInt8) : zflat (zans Try.prog tab ftab cCt 98 [.agg [.list 1 xs, .int .i64 x]] [(14, .q (.tuple [.list 1 [[i8 c0], [i8 c1]], .agg [.list 1 ys, .int .i64 y], .int .i64 e])), (34, .w (.int .u16 (v : Int)))]) =
    some (.tuple [.int .u16 (v : Int), .agg [.list 1 ys, .int .i64 y], .int .i64 e], [cCt 100 [.agg [.list 1 xs, .int .i64 x], .int .i64 2] ⟨2, [⟨0, 0, 25, [.nil, .int .i64 0]⟩, ⟨0, 0, 25, [.list 1 xs, .int .i64 x]⟩]⟩ = some (.tuple [.list 1 [[i8 c0], [i8 c1]], .agg [.list 1 ys, .int .i64 y], .int .i64 e], ⟨2, [⟨0, 0, 25, [.nil, .int .i64 0]⟩, ⟨0, 0, 25, [.list 1 xs, .int .i64 x]⟩]⟩, none), DV.int .u16 (IntKind.u16.wrap (orL 0 0 [(c0.toNat : Int), (c1.toNat : Int)])) = .int .u16 (v : Int)]) := by
  kernel_rfl
set_option maxRecDepth 1000000 in
theorem gz2 (xs ys : List (List DV)) (x y e : Int) : zflat (zans Try.prog tab ftab cCt 98 [.agg [.list 1 xs, .int .i64 x]] [(14, .q (.tuple [.list 1 [], .agg [.list 1 ys, .int .i64 y], .int .i64 e]))]) =
    some (.tuple [.int .u16 0, .agg [.list 1 ys, .int .i64 y], .int .i64 e], [cCt 100 [.agg [.list 1 xs, .int .i64 x], .int .i64 2] ⟨2, [⟨0, 0, 25, [.nil, .int .i64 0]⟩, ⟨0, 0, 25, [.list 1 xs, .int .i64 x]⟩]⟩ = some (.tuple [.list 1 [], .agg [.list 1 ys, .int .i64 y], .int .i64 e], ⟨2, [⟨0, 0, 25, [.nil, .int .i64 0]⟩, ⟨0, 0, 25, [.list 1 xs, .int .i64 x]⟩]⟩, none)]) := by
  kernel_rfl
theorem ans_cG2 (x : BI) : Ans Try.prog 98 [rd x.1.1 x.2] (dn .u16 x.1.1 x.2 2) ⟨0, []⟩ := by
  obtain ⟨b, x⟩ := x
  have q := fun hp => cCt_at hp (b, x, (2 : Int))
  simp only [d3] at q
  unfold dn vA
  by_cases he : cutE b.1.length x 2 = 0
  · have hlen : (pcB b.1 x 2).length = 2 := by
      obtain ⟨h1, h2, h3, h4⟩ := cutE_zero he
      unfold pcB
      rw [if_pos he, List.length_take, List.length_drop]
      omega
    revert q hlen
    generalize pcB b.1 x 2 = l
    intro q hlen
    match l, hlen with
    | [c0, c1], _ =>
      have hv := orL_eq [c0, c1] 0 0 (by simp) (by decide)
      rw [Nat.pow_zero, Nat.one_mul, Nat.zero_add] at hv
      have hlt := leN_lt [c0, c1]
      generalize hL : leN [c0, c1] = L at *
      exact zflat_ok tab_ok mixed fun_ok cCt_ok (gt2 (by1 b.1) (by1 (afB b.1 x 2)) x _ _ L c0 c1) (.cons (q _) (.cons (congrArg (DV.int .u16) (by rw [show orL 0 0 [(c0.toNat : Int), (c1.toNat : Int)] = (L : Int) from hv, wrapU rfl, Nat.mod_eq_of_lt (by show L < 2 ^ 16; have h := hlt; simp only [List.length_cons, List.length_nil, Nat.zero_add, Nat.reduceAdd, Nat.reducePow] at h; omega)])) .nil))
  · have hz : pcB b.1 x 2 = [] := if_neg he
    rw [hz] at q ⊢
    exact zflat_ok tab_ok mixed fun_ok cCt_ok (gz2 (by1 b.1) (by1 (afB b.1 x 2)) x _ _) (.cons (q _) .nil)
def cG2 : CallF := liftC (eqC 98 (fun x : BI => [rd x.1.1 x.2]) fun x => (dn .u16 x.1.1 x.2 2, ⟨0, []⟩))
theorem cG2_ok : CallOk Try.prog cG2 := liftC_ok (eqC_ok ans_cG2)
theorem cG2_at (hp : Hp) (x : BI) : cG2 98 [rd x.1.1 x.2] hp = some (dn .u16 x.1.1 x.2 2, hp, none) :=
  lift_at (A := fun x : BI => [rd x.1.1 x.2]) (D := fun x => dn .u16 x.1.1 x.2 2) (fun x y hxy => by
    obtain ⟨x1, x2⟩ := x
    obtain ⟨y1, y2⟩ := y
    simp only [List.cons.injEq, and_true] at hxy
    obtain ⟨rfl, rfl⟩ := rd_inj hxy
    rfl) hp x rfl rfl
set_option maxRecDepth 1000000 in
theorem us2 (xs ys : List (List DV)) (x y e : Int) (v : Nat) : zflat (zans Try.prog tab ftab cG2 15 [.agg [.list 1 xs, .int .i64 x]] [(6, .q (.tuple [.int .u16 (v : Int), .agg [.list 1 ys, .int .i64 y], .int .i64 e]))]) =
    some (.tuple [.int .u16 (v : Int), .agg [.list 1 ys, .int .i64 y], .int .i64 e], [cG2 98 [.agg [.list 1 xs, .int .i64 x]] ⟨2, [⟨0, 0, 25, [.nil, .int .i64 0]⟩, ⟨0, 0, 25, [.list 1 xs, .int .i64 x]⟩]⟩ = some (.tuple [.int .u16 (v : Int), .agg [.list 1 ys, .int .i64 y], .int .i64 e], ⟨2, [⟨0, 0, 25, [.nil, .int .i64 0]⟩, ⟨0, 0, 25, [.list 1 xs, .int .i64 x]⟩]⟩, none)]) := by
  kernel_rfl
theorem ans_cW2 (x : BI) : Ans Try.prog 15 [rd x.1.1 x.2] (dn .u16 x.1.1 x.2 2) ⟨0, []⟩ :=
  zflat_ok tab_ok mixed fun_ok cG2_ok (us2 (by1 x.1.1) (by1 (afB x.1.1 x.2 2)) x.2 _ _ _) (.cons (cG2_at _ x) .nil)
def cW2 : CallF := liftC (eqC 15 (fun x : BI => [rd x.1.1 x.2]) fun x => (dn .u16 x.1.1 x.2 2, ⟨0, []⟩))
theorem cW2_ok : CallOk Try.prog cW2 := liftC_ok (eqC_ok ans_cW2)
theorem cW2_at (hp : Hp) (x : BI) : cW2 15 [rd x.1.1 x.2] hp = some (dn .u16 x.1.1 x.2 2, hp, none) :=
  lift_at (A := fun x : BI => [rd x.1.1 x.2]) (D := fun x => dn .u16 x.1.1 x.2 2) (fun x y hxy => by
    obtain ⟨x1, x2⟩ := x
    obtain ⟨y1, y2⟩ := y
    simp only [List.cons.injEq, and_true] at hxy
    obtain ⟨rfl, rfl⟩ := rd_inj hxy
    rfl) hp x rfl rfl
set_option maxRecDepth 1000000 in
theorem gt4 (xs ys : List (List DV)) (x y e : Int) (v : Nat) (c0 c1 c2 c3 : UInt8) : zflat (zans Try.prog tab ftab cCt 111 [.agg [.list 1 xs, .int .i64 x]] [(14, .q (.tuple [.list 1 [[i8 c0], [i8 c1], [i8 c2], [i8 c3]], .agg [.list 1 ys, .int .i64 y], .int .i64 e])), (34, .w (.int .u32 (v : Int)))]) =
    some (.tuple [.int .u32 (v : Int), .agg [.list 1 ys, .int .i64 y], .int .i64 e], [cCt 100 [.agg [.list 1 xs, .int .i64 x], .int .i64 4] ⟨2, [⟨0, 0, 25, [.nil, .int .i64 0]⟩, ⟨0, 0, 25, [.list 1 xs, .int .i64 x]⟩]⟩ = some (.tuple [.list 1 [[i8 c0], [i8 c1], [i8 c2], [i8 c3]], .agg [.list 1 ys, .int .i64 y], .int .i64 e], ⟨2, [⟨0, 0, 25, [.nil, .int .i64 0]⟩, ⟨0, 0, 25, [.list 1 xs, .int .i64 x]⟩]⟩, none), DV.int .u32 (IntKind.u32.wrap (orL 0 0 [(c0.toNat : Int), (c1.toNat : Int), (c2.toNat : Int), (c3.toNat : Int)])) = .int .u32 (v : Int)]) := by
  kernel_rfl
set_option maxRecDepth 1000000 in
theorem gz4 (xs ys : List (List DV)) (x y e : Int) : zflat (zans Try.prog tab ftab cCt 111 [.agg [.list 1 xs, .int .i64 x]] [(14, .q (.tuple [.list 1 [], .agg [.list 1 ys, .int .i64 y], .int .i64 e]))]) =
    some (.tuple [.int .u32 0, .agg [.list 1 ys, .int .i64 y], .int .i64 e], [cCt 100 [.agg [.list 1 xs, .int .i64 x], .int .i64 4] ⟨2, [⟨0, 0, 25, [.nil, .int .i64 0]⟩, ⟨0, 0, 25, [.list 1 xs, .int .i64 x]⟩]⟩ = some (.tuple [.list 1 [], .agg [.list 1 ys, .int .i64 y], .int .i64 e], ⟨2, [⟨0, 0, 25, [.nil, .int .i64 0]⟩, ⟨0, 0, 25, [.list 1 xs, .int .i64 x]⟩]⟩, none)]) := by
  kernel_rfl
theorem ans_cG4 (x : BI) : Ans Try.prog 111 [rd x.1.1 x.2] (dn .u32 x.1.1 x.2 4) ⟨0, []⟩ := by
  obtain ⟨b, x⟩ := x
  have q := fun hp => cCt_at hp (b, x, (4 : Int))
  simp only [d3] at q
  unfold dn vA
  by_cases he : cutE b.1.length x 4 = 0
  · have hlen : (pcB b.1 x 4).length = 4 := by
      obtain ⟨h1, h2, h3, h4⟩ := cutE_zero he
      unfold pcB
      rw [if_pos he, List.length_take, List.length_drop]
      omega
    revert q hlen
    generalize pcB b.1 x 4 = l
    intro q hlen
    match l, hlen with
    | [c0, c1, c2, c3], _ =>
      have hv := orL_eq [c0, c1, c2, c3] 0 0 (by simp) (by decide)
      rw [Nat.pow_zero, Nat.one_mul, Nat.zero_add] at hv
      have hlt := leN_lt [c0, c1, c2, c3]
      generalize hL : leN [c0, c1, c2, c3] = L at *
      exact zflat_ok tab_ok mixed fun_ok cCt_ok (gt4 (by1 b.1) (by1 (afB b.1 x 4)) x _ _ L c0 c1 c2 c3) (.cons (q _) (.cons (congrArg (DV.int .u32) (by rw [show orL 0 0 [(c0.toNat : Int), (c1.toNat : Int), (c2.toNat : Int), (c3.toNat : Int)] = (L : Int) from hv, wrapU rfl, Nat.mod_eq_of_lt (by show L < 2 ^ 32; have h := hlt; simp only [List.length_cons, List.length_nil, Nat.zero_add, Nat.reduceAdd, Nat.reducePow] at h; omega)])) .nil))
  · have hz : pcB b.1 x 4 = [] := if_neg he
    rw [hz] at q ⊢
    exact zflat_ok tab_ok mixed fun_ok cCt_ok (gz4 (by1 b.1) (by1 (afB b.1 x 4)) x _ _) (.cons (q _) .nil)
def cG4 : CallF := liftC (eqC 111 (fun x : BI => [rd x.1.1 x.2]) fun x => (dn .u32 x.1.1 x.2 4, ⟨0, []⟩))
theorem cG4_ok : CallOk Try.prog cG4 := liftC_ok (eqC_ok ans_cG4)
theorem cG4_at (hp : Hp) (x : BI) : cG4 111 [rd x.1.1 x.2] hp = some (dn .u32 x.1.1 x.2 4, hp, none) :=
  lift_at (A := fun x : BI => [rd x.1.1 x.2]) (D := fun x => dn .u32 x.1.1 x.2 4) (fun x y hxy => by
    obtain ⟨x1, x2⟩ := x
    obtain ⟨y1, y2⟩ := y
    simp only [List.cons.injEq, and_true] at hxy
    obtain ⟨rfl, rfl⟩ := rd_inj hxy
    rfl) hp x rfl rfl
set_option maxRecDepth 1000000 in
theorem us4 (xs ys : List (List DV)) (x y e : Int) (v : Nat) : zflat (zans Try.prog tab ftab cG4 28 [.agg [.list 1 xs, .int .i64 x]] [(6, .q (.tuple [.int .u32 (v : Int), .agg [.list 1 ys, .int .i64 y], .int .i64 e]))]) =
    some (.tuple [.int .u32 (v : Int), .agg [.list 1 ys, .int .i64 y], .int .i64 e], [cG4 111 [.agg [.list 1 xs, .int .i64 x]] ⟨2, [⟨0, 0, 25, [.nil, .int .i64 0]⟩, ⟨0, 0, 25, [.list 1 xs, .int .i64 x]⟩]⟩ = some (.tuple [.int .u32 (v : Int), .agg [.list 1 ys, .int .i64 y], .int .i64 e], ⟨2, [⟨0, 0, 25, [.nil, .int .i64 0]⟩, ⟨0, 0, 25, [.list 1 xs, .int .i64 x]⟩]⟩, none)]) := by
  kernel_rfl
theorem ans_cW4 (x : BI) : Ans Try.prog 28 [rd x.1.1 x.2] (dn .u32 x.1.1 x.2 4) ⟨0, []⟩ :=
  zflat_ok tab_ok mixed fun_ok cG4_ok (us4 (by1 x.1.1) (by1 (afB x.1.1 x.2 4)) x.2 _ _ _) (.cons (cG4_at _ x) .nil)
def cW4 : CallF := liftC (eqC 28 (fun x : BI => [rd x.1.1 x.2]) fun x => (dn .u32 x.1.1 x.2 4, ⟨0, []⟩))
theorem cW4_ok : CallOk Try.prog cW4 := liftC_ok (eqC_ok ans_cW4)
theorem cW4_at (hp : Hp) (x : BI) : cW4 28 [rd x.1.1 x.2] hp = some (dn .u32 x.1.1 x.2 4, hp, none) :=
  lift_at (A := fun x : BI => [rd x.1.1 x.2]) (D := fun x => dn .u32 x.1.1 x.2 4) (fun x y hxy => by
    obtain ⟨x1, x2⟩ := x
    obtain ⟨y1, y2⟩ := y
    simp only [List.cons.injEq, and_true] at hxy
    obtain ⟨rfl, rfl⟩ := rd_inj hxy
    rfl) hp x rfl rfl
set_option maxRecDepth 1000000 in
theorem gt8 (xs ys : List (List DV)) (x y e : Int) (v : Nat) (c0 c1 c2 c3 c4 c5 c6 c7 : UInt8) : zflat (zans Try.prog tab ftab cCt 112 [.agg [.list 1 xs, .int .i64 x]] [(14, .q (.tuple [.list 1 [[i8 c0], [i8 c1], [i8 c2], [i8 c3], [i8 c4], [i8 c5], [i8 c6], [i8 c7]], .agg [.list 1 ys, .int .i64 y], .int .i64 e])), (33, .w (.int .u64 (v : Int)))]) =
    some (.tuple [.int .u64 (v : Int), .agg [.list 1 ys, .int .i64 y], .int .i64 e], [cCt 100 [.agg [.list 1 xs, .int .i64 x], .int .i64 8] ⟨2, [⟨0, 0, 25, [.nil, .int .i64 0]⟩, ⟨0, 0, 25, [.list 1 xs, .int .i64 x]⟩]⟩ = some (.tuple [.list 1 [[i8 c0], [i8 c1], [i8 c2], [i8 c3], [i8 c4], [i8 c5], [i8 c6], [i8 c7]], .agg [.list 1 ys, .int .i64 y], .int .i64 e], ⟨2, [⟨0, 0, 25, [.nil, .int .i64 0]⟩, ⟨0, 0, 25, [.list 1 xs, .int .i64 x]⟩]⟩, none), DV.int .u64 (orL 0 0 [(c0.toNat : Int), (c1.toNat : Int), (c2.toNat : Int), (c3.toNat : Int), (c4.toNat : Int), (c5.toNat : Int), (c6.toNat : Int), (c7.toNat : Int)]) = .int .u64 (v : Int)]) := by
  kernel_rfl
set_option maxRecDepth 1000000 in
theorem gz8 (xs ys : List (List DV)) (x y e : Int) : zflat (zans Try.prog tab ftab cCt 112 [.agg [.list 1 xs, .int .i64 x]] [(14, .q (.tuple [.list 1 [], .agg [.list 1 ys, .int .i64 y], .int .i64 e]))]) =
    some (.tuple [.int .u64 0, .agg [.list 1 ys, .int .i64 y], .int .i64 e], [cCt 100 [.agg [.list 1 xs, .int .i64 x], .int .i64 8] ⟨2, [⟨0, 0, 25, [.nil, .int .i64 0]⟩, ⟨0, 0, 25, [.list 1 xs, .int .i64 x]⟩]⟩ = some (.tuple [.list 1 [], .agg [.list 1 ys, .int .i64 y], .int .i64 e], ⟨2, [⟨0, 0, 25, [.nil, .int .i64 0]⟩, ⟨0, 0, 25, [.list 1 xs, .int .i64 x]⟩]⟩, none)]) := by
  kernel_rfl
theorem ans_cG8 (x : BI) : Ans Try.prog 112 [rd x.1.1 x.2] (dn .u64 x.1.1 x.2 8) ⟨0, []⟩ := by
  obtain ⟨b, x⟩ := x
  have q := fun hp => cCt_at hp (b, x, (8 : Int))
  simp only [d3] at q
  unfold dn vA
  by_cases he : cutE b.1.length x 8 = 0
  · have hlen : (pcB b.1 x 8).length = 8 := by
      obtain ⟨h1, h2, h3, h4⟩ := cutE_zero he
      unfold pcB
      rw [if_pos he, List.length_take, List.length_drop]
      omega
    revert q hlen
    generalize pcB b.1 x 8 = l
    intro q hlen
    match l, hlen with
    | [c0, c1, c2, c3, c4, c5, c6, c7], _ =>
      have hv := orL_eq [c0, c1, c2, c3, c4, c5, c6, c7] 0 0 (by simp) (by decide)
      rw [Nat.pow_zero, Nat.one_mul, Nat.zero_add] at hv
      have hlt := leN_lt [c0, c1, c2, c3, c4, c5, c6, c7]
      generalize hL : leN [c0, c1, c2, c3, c4, c5, c6, c7] = L at *
      exact zflat_ok tab_ok mixed fun_ok cCt_ok (gt8 (by1 b.1) (by1 (afB b.1 x 8)) x _ _ L c0 c1 c2 c3 c4 c5 c6 c7) (.cons (q _) (.cons (congrArg (DV.int .u64) hv) .nil))
  · have hz : pcB b.1 x 8 = [] := if_neg he
    rw [hz] at q ⊢
    exact zflat_ok tab_ok mixed fun_ok cCt_ok (gz8 (by1 b.1) (by1 (afB b.1 x 8)) x _ _) (.cons (q _) .nil)
def cG8 : CallF := liftC (eqC 112 (fun x : BI => [rd x.1.1 x.2]) fun x => (dn .u64 x.1.1 x.2 8, ⟨0, []⟩))
theorem cG8_ok : CallOk Try.prog cG8 := liftC_ok (eqC_ok ans_cG8)
theorem cG8_at (hp : Hp) (x : BI) : cG8 112 [rd x.1.1 x.2] hp = some (dn .u64 x.1.1 x.2 8, hp, none) :=
  lift_at (A := fun x : BI => [rd x.1.1 x.2]) (D := fun x => dn .u64 x.1.1 x.2 8) (fun x y hxy => by
    obtain ⟨x1, x2⟩ := x
    obtain ⟨y1, y2⟩ := y
    simp only [List.cons.injEq, and_true] at hxy
    obtain ⟨rfl, rfl⟩ := rd_inj hxy
    rfl) hp x rfl rfl
set_option maxRecDepth 1000000 in
theorem us8 (xs ys : List (List DV)) (x y e : Int) (v : Nat) : zflat (zans Try.prog tab ftab cG8 29 [.agg [.list 1 xs, .int .i64 x]] [(6, .q (.tuple [.int .u64 (v : Int), .agg [.list 1 ys, .int .i64 y], .int .i64 e]))]) =
    some (.tuple [.int .u64 (v : Int), .agg [.list 1 ys, .int .i64 y], .int .i64 e], [cG8 112 [.agg [.list 1 xs, .int .i64 x]] ⟨2, [⟨0, 0, 25, [.nil, .int .i64 0]⟩, ⟨0, 0, 25, [.list 1 xs, .int .i64 x]⟩]⟩ = some (.tuple [.int .u64 (v : Int), .agg [.list 1 ys, .int .i64 y], .int .i64 e], ⟨2, [⟨0, 0, 25, [.nil, .int .i64 0]⟩, ⟨0, 0, 25, [.list 1 xs, .int .i64 x]⟩]⟩, none)]) := by
  kernel_rfl
theorem ans_cW8 (x : BI) : Ans Try.prog 29 [rd x.1.1 x.2] (dn .u64 x.1.1 x.2 8) ⟨0, []⟩ :=
  zflat_ok tab_ok mixed fun_ok cG8_ok (us8 (by1 x.1.1) (by1 (afB x.1.1 x.2 8)) x.2 _ _ _) (.cons (cG8_at _ x) .nil)
def cW8 : CallF := liftC (eqC 29 (fun x : BI => [rd x.1.1 x.2]) fun x => (dn .u64 x.1.1 x.2 8, ⟨0, []⟩))
theorem cW8_ok : CallOk Try.prog cW8 := liftC_ok (eqC_ok ans_cW8)
theorem cW8_at (hp : Hp) (x : BI) : cW8 29 [rd x.1.1 x.2] hp = some (dn .u64 x.1.1 x.2 8, hp, none) :=
  lift_at (A := fun x : BI => [rd x.1.1 x.2]) (D := fun x => dn .u64 x.1.1 x.2 8) (fun x y hxy => by
    obtain ⟨x1, x2⟩ := x
    obtain ⟨y1, y2⟩ := y
    simp only [List.cons.injEq, and_true] at hxy
    obtain ⟨rfl, rfl⟩ := rd_inj hxy
    rfl) hp x rfl rfl
set_option maxRecDepth 1000000 in
theorem nb_e (xs ps ys : List (List DV)) (x n y e : Int) : zflat (zans Try.prog tab ftab cRt 30 [.agg [.list 1 xs, .int .i64 x], .int .i64 n] [(15, .q (.tuple [.list 1 ps, .agg [.list 1 ys, .int .i64 y], .int .i64 e])), (20, .b true)]) =
    some (.tuple [.int .u64 0, .agg [.nil, .int .i64 0], .int .i64 e], [cRt 32 [.agg [.list 1 xs, .int .i64 x], .int .i64 n] ⟨2, [⟨0, 0, 25, [.nil, .int .i64 0]⟩, ⟨0, 0, 25, [.list 1 xs, .int .i64 x]⟩]⟩ = some (.tuple [.list 1 ps, .agg [.list 1 ys, .int .i64 y], .int .i64 e], ⟨2, [⟨0, 0, 25, [.nil, .int .i64 0]⟩, ⟨0, 0, 25, [.list 1 xs, .int .i64 x]⟩]⟩, none), (e != 0) = true]) := by
  kernel_rfl
set_option maxRecDepth 1000000 in
theorem nb1 (xs ys : List (List DV)) (x y : Int) (v : Nat) (c0 : UInt8) : zflat (zans Try.prog tab ftab cRt 30 [.agg [.list 1 xs, .int .i64 x], .int .i64 1] [(15, .q (.tuple [.list 1 [[i8 c0]], .agg [.list 1 ys, .int .i64 y], .int .i64 0])), (37, .w (.int .u64 (v : Int)))]) =
    some (.tuple [.int .u64 (v : Int), .agg [.list 1 ys, .int .i64 y], .int .i64 0], [cRt 32 [.agg [.list 1 xs, .int .i64 x], .int .i64 1] ⟨2, [⟨0, 0, 25, [.nil, .int .i64 0]⟩, ⟨0, 0, 25, [.list 1 xs, .int .i64 x]⟩]⟩ = some (.tuple [.list 1 [[i8 c0]], .agg [.list 1 ys, .int .i64 y], .int .i64 0], ⟨2, [⟨0, 0, 25, [.nil, .int .i64 0]⟩, ⟨0, 0, 25, [.list 1 xs, .int .i64 x]⟩]⟩, none), DV.int .u64 (numR [(c0.toNat : Int)]) = .int .u64 (v : Int)]) := by
  kernel_rfl
theorem ansN1 (x : BI) : Ans Try.prog 30 [rd x.1.1 x.2, .int .i64 1] (dn .u64 x.1.1 x.2 1) ⟨0, []⟩ := by
  obtain ⟨b, x⟩ := x
  have q := fun hp => cRt_at hp (b, x, (1 : Int))
  simp only [d3] at q
  unfold dn vA
  by_cases he : cutE b.1.length x 1 = 0
  · have hlen : (pcB b.1 x 1).length = 1 := by
      obtain ⟨h1, h2, h3, h4⟩ := cutE_zero he
      unfold pcB
      rw [if_pos he, List.length_take, List.length_drop]
      omega
    rw [he] at q ⊢
    revert q hlen
    generalize pcB b.1 x 1 = l
    intro q hlen
    match l, hlen with
    | [c0], _ =>
      have hv := numR_le [c0] (by simp)
      exact zflat_ok tab_ok mixed fun_ok cRt_ok (nb1 (by1 b.1) (by1 (afB b.1 x 1)) x _ _ c0) (.cons (q _) (.cons (congrArg (DV.int .u64) hv) .nil))
  · have hz : pcB b.1 x 1 = [] := if_neg he
    have hb : afB b.1 x 1 = [] := if_neg he
    have hx : afX b.1 x 1 = 0 := if_neg he
    have key := zflat_ok tab_ok mixed fun_ok cRt_ok (nb_e (by1 b.1) (by1 (pcB b.1 x 1)) (by1 (afB b.1 x 1)) x 1 (afX b.1 x 1) (cutE b.1.length x 1)) (.cons (q _) (.cons (bne_iff_ne.2 he) .nil))
    rw [hz, hb, hx]
    exact key.nil2
set_option maxRecDepth 1000000 in
theorem nb2 (xs ys : List (List DV)) (x y : Int) (v : Nat) (c0 c1 : UInt8) : zflat (zans Try.prog tab ftab cRt 30 [.agg [.list 1 xs, .int .i64 x], .int .i64 2] [(15, .q (.tuple [.list 1 [[i8 c0], [i8 c1]], .agg [.list 1 ys, .int .i64 y], .int .i64 0])), (37, .w (.int .u64 (v : Int)))]) =
    some (.tuple [.int .u64 (v : Int), .agg [.list 1 ys, .int .i64 y], .int .i64 0], [cRt 32 [.agg [.list 1 xs, .int .i64 x], .int .i64 2] ⟨2, [⟨0, 0, 25, [.nil, .int .i64 0]⟩, ⟨0, 0, 25, [.list 1 xs, .int .i64 x]⟩]⟩ = some (.tuple [.list 1 [[i8 c0], [i8 c1]], .agg [.list 1 ys, .int .i64 y], .int .i64 0], ⟨2, [⟨0, 0, 25, [.nil, .int .i64 0]⟩, ⟨0, 0, 25, [.list 1 xs, .int .i64 x]⟩]⟩, none), DV.int .u64 (numR [(c1.toNat : Int), (c0.toNat : Int)]) = .int .u64 (v : Int)]) := by
  kernel_rfl
theorem ansN2 (x : BI) : Ans Try.prog 30 [rd x.1.1 x.2, .int .i64 2] (dn .u64 x.1.1 x.2 2) ⟨0, []⟩ := by
  obtain ⟨b, x⟩ := x
  have q := fun hp => cRt_at hp (b, x, (2 : Int))
  simp only [d3] at q
  unfold dn vA
  by_cases he : cutE b.1.length x 2 = 0
  · have hlen : (pcB b.1 x 2).length = 2 := by
      obtain ⟨h1, h2, h3, h4⟩ := cutE_zero he
      unfold pcB
      rw [if_pos he, List.length_take, List.length_drop]
      omega
    rw [he] at q ⊢
    revert q hlen
    generalize pcB b.1 x 2 = l
    intro q hlen
    match l, hlen with
    | [c0, c1], _ =>
      have hv := numR_le [c0, c1] (by simp)
      exact zflat_ok tab_ok mixed fun_ok cRt_ok (nb2 (by1 b.1) (by1 (afB b.1 x 2)) x _ _ c0 c1) (.cons (q _) (.cons (congrArg (DV.int .u64) hv) .nil))
  · have hz : pcB b.1 x 2 = [] := if_neg he
    have hb : afB b.1 x 2 = [] := if_neg he
    have hx : afX b.1 x 2 = 0 := if_neg he
    have key := zflat_ok tab_ok mixed fun_ok cRt_ok (nb_e (by1 b.1) (by1 (pcB b.1 x 2)) (by1 (afB b.1 x 2)) x 2 (afX b.1 x 2) (cutE b.1.length x 2)) (.cons (q _) (.cons (bne_iff_ne.2 he) .nil))
    rw [hz, hb, hx]
    exact key.nil2
set_option maxRecDepth 1000000 in
theorem nb4 (xs ys : List (List DV)) (x y : Int) (v : Nat) (c0 c1 c2 c3 : UInt8) : zflat (zans Try.prog tab ftab cRt 30 [.agg [.list 1 xs, .int .i64 x], .int .i64 4] [(15, .q (.tuple [.list 1 [[i8 c0], [i8 c1], [i8 c2], [i8 c3]], .agg [.list 1 ys, .int .i64 y], .int .i64 0])), (37, .w (.int .u64 (v : Int)))]) =
    some (.tuple [.int .u64 (v : Int), .agg [.list 1 ys, .int .i64 y], .int .i64 0], [cRt 32 [.agg [.list 1 xs, .int .i64 x], .int .i64 4] ⟨2, [⟨0, 0, 25, [.nil, .int .i64 0]⟩, ⟨0, 0, 25, [.list 1 xs, .int .i64 x]⟩]⟩ = some (.tuple [.list 1 [[i8 c0], [i8 c1], [i8 c2], [i8 c3]], .agg [.list 1 ys, .int .i64 y], .int .i64 0], ⟨2, [⟨0, 0, 25, [.nil, .int .i64 0]⟩, ⟨0, 0, 25, [.list 1 xs, .int .i64 x]⟩]⟩, none), DV.int .u64 (numR [(c3.toNat : Int), (c2.toNat : Int), (c1.toNat : Int), (c0.toNat : Int)]) = .int .u64 (v : Int)]) := by
  kernel_rfl
theorem ansN4 (x : BI) : Ans Try.prog 30 [rd x.1.1 x.2, .int .i64 4] (dn .u64 x.1.1 x.2 4) ⟨0, []⟩ := by
  obtain ⟨b, x⟩ := x
  have q := fun hp => cRt_at hp (b, x, (4 : Int))
  simp only [d3] at q
  unfold dn vA
  by_cases he : cutE b.1.length x 4 = 0
  · have hlen : (pcB b.1 x 4).length = 4 := by
      obtain ⟨h1, h2, h3, h4⟩ := cutE_zero he
      unfold pcB
      rw [if_pos he, List.length_take, List.length_drop]
      omega
    rw [he] at q ⊢
    revert q hlen
    generalize pcB b.1 x 4 = l
    intro q hlen
    match l, hlen with
    | [c0, c1, c2, c3], _ =>
      have hv := numR_le [c0, c1, c2, c3] (by simp)
      exact zflat_ok tab_ok mixed fun_ok cRt_ok (nb4 (by1 b.1) (by1 (afB b.1 x 4)) x _ _ c0 c1 c2 c3) (.cons (q _) (.cons (congrArg (DV.int .u64) hv) .nil))
  · have hz : pcB b.1 x 4 = [] := if_neg he
    have hb : afB b.1 x 4 = [] := if_neg he
    have hx : afX b.1 x 4 = 0 := if_neg he
    have key := zflat_ok tab_ok mixed fun_ok cRt_ok (nb_e (by1 b.1) (by1 (pcB b.1 x 4)) (by1 (afB b.1 x 4)) x 4 (afX b.1 x 4) (cutE b.1.length x 4)) (.cons (q _) (.cons (bne_iff_ne.2 he) .nil))
    rw [hz, hb, hx]
    exact key.nil2
set_option maxRecDepth 1000000 in
theorem nb8 (xs ys : List (List DV)) (x y : Int) (v : Nat) (c0 c1 c2 c3 c4 c5 c6 c7 : UInt8) : zflat (zans Try.prog tab ftab cRt 30 [.agg [.list 1 xs, .int .i64 x], .int .i64 8] [(15, .q (.tuple [.list 1 [[i8 c0], [i8 c1], [i8 c2], [i8 c3], [i8 c4], [i8 c5], [i8 c6], [i8 c7]], .agg [.list 1 ys, .int .i64 y], .int .i64 0])), (37, .w (.int .u64 (v : Int)))]) =
    some (.tuple [.int .u64 (v : Int), .agg [.list 1 ys, .int .i64 y], .int .i64 0], [cRt 32 [.agg [.list 1 xs, .int .i64 x], .int .i64 8] ⟨2, [⟨0, 0, 25, [.nil, .int .i64 0]⟩, ⟨0, 0, 25, [.list 1 xs, .int .i64 x]⟩]⟩ = some (.tuple [.list 1 [[i8 c0], [i8 c1], [i8 c2], [i8 c3], [i8 c4], [i8 c5], [i8 c6], [i8 c7]], .agg [.list 1 ys, .int .i64 y], .int .i64 0], ⟨2, [⟨0, 0, 25, [.nil, .int .i64 0]⟩, ⟨0, 0, 25, [.list 1 xs, .int .i64 x]⟩]⟩, none), DV.int .u64 (numR [(c7.toNat : Int), (c6.toNat : Int), (c5.toNat : Int), (c4.toNat : Int), (c3.toNat : Int), (c2.toNat : Int), (c1.toNat : Int), (c0.toNat : Int)]) = .int .u64 (v : Int)]) := by
  kernel_rfl
theorem ansN8 (x : BI) : Ans Try.prog 30 [rd x.1.1 x.2, .int .i64 8] (dn .u64 x.1.1 x.2 8) ⟨0, []⟩ := by
  obtain ⟨b, x⟩ := x
  have q := fun hp => cRt_at hp (b, x, (8 : Int))
  simp only [d3] at q
  unfold dn vA
  by_cases he : cutE b.1.length x 8 = 0
  · have hlen : (pcB b.1 x 8).length = 8 := by
      obtain ⟨h1, h2, h3, h4⟩ := cutE_zero he
      unfold pcB
      rw [if_pos he, List.length_take, List.length_drop]
      omega
    rw [he] at q ⊢
    revert q hlen
    generalize pcB b.1 x 8 = l
    intro q hlen
    match l, hlen with
    | [c0, c1, c2, c3, c4, c5, c6, c7], _ =>
      have hv := numR_le [c0, c1, c2, c3, c4, c5, c6, c7] (by simp)
      exact zflat_ok tab_ok mixed fun_ok cRt_ok (nb8 (by1 b.1) (by1 (afB b.1 x 8)) x _ _ c0 c1 c2 c3 c4 c5 c6 c7) (.cons (q _) (.cons (congrArg (DV.int .u64) hv) .nil))
  · have hz : pcB b.1 x 8 = [] := if_neg he
    have hb : afB b.1 x 8 = [] := if_neg he
    have hx : afX b.1 x 8 = 0 := if_neg he
    have key := zflat_ok tab_ok mixed fun_ok cRt_ok (nb_e (by1 b.1) (by1 (pcB b.1 x 8)) (by1 (afB b.1 x 8)) x 8 (afX b.1 x 8) (cutE b.1.length x 8)) (.cons (q _) (.cons (bne_iff_ne.2 he) .nil))
    rw [hz, hb, hx]
    exact key.nil2
abbrev W4 : Type := {n : Nat // n = 1 ∨ n = 2 ∨ n = 4 ∨ n = 8}
theorem ans_cNu (x : BI × W4) : Ans Try.prog 30 [rd x.1.1.1 x.1.2, .int .i64 (x.2.1 : Int)] (dn .u64 x.1.1.1 x.1.2 (x.2.1 : Int)) ⟨0, []⟩ := by
  obtain ⟨x, n, h⟩ := x
  rcases h with rfl | rfl | rfl | rfl
  · exact ansN1 x
  · exact ansN2 x
  · exact ansN4 x
  · exact ansN8 x
def cNu : CallF := liftC (eqC 30 (fun x : BI × W4 => [rd x.1.1.1 x.1.2, .int .i64 (x.2.1 : Int)]) fun x => (dn .u64 x.1.1.1 x.1.2 (x.2.1 : Int), ⟨0, []⟩))
theorem cNu_ok : CallOk Try.prog cNu := liftC_ok (eqC_ok ans_cNu)
theorem cNu_at (hp : Hp) (x : BI × W4) : cNu 30 [rd x.1.1.1 x.1.2, .int .i64 (x.2.1 : Int)] hp = some (dn .u64 x.1.1.1 x.1.2 (x.2.1 : Int), hp, none) :=
  lift_at (A := fun x : BI × W4 => [rd x.1.1.1 x.1.2, .int .i64 (x.2.1 : Int)]) (D := fun x => dn .u64 x.1.1.1 x.1.2 (x.2.1 : Int)) (fun x y hxy => by
    obtain ⟨⟨x1, x2⟩, x3, _⟩ := x
    obtain ⟨⟨y1, y2⟩, y3, _⟩ := y
    simp only [List.cons.injEq, and_true, DV.int.injEq, true_and, Int.natCast_inj] at hxy
    obtain ⟨rfl, rfl⟩ := rd_inj hxy.1
    obtain rfl := hxy.2
    rfl) hp x rfl rfl
/-! ### Text -/
def txD (b : List UInt8) (x : Int) : DV := if cutE b.length x 1 = 0 then d3 b (x + 1) (vA b x 1 : Int) else .tuple [byL [], rd [] 0, .int .i64 (cutE b.length x 1)]
def cX1 : CallF := orK cG1 cTk
theorem cX1_ok : CallOk Try.prog cX1 := orK_ok cG1_ok cTk_ok
def cX2 : CallF := orK cNu cRt
theorem cX2_ok : CallOk Try.prog cX2 := orK_ok cNu_ok cRt_ok
set_option maxRecDepth 1000000 in
theorem sz_e (xs ys : List (List DV)) (x y e : Int) (v : Nat) : zflat (zans Try.prog tab ftab cX1 102 [.agg [.list 1 xs, .int .i64 x]] [(10, .q (.tuple [.int .u8 (v : Int), .agg [.list 1 ys, .int .i64 y], .int .i64 e])), (15, .b true)]) =
    some (.tuple [.nil, .agg [.nil, .int .i64 0], .int .i64 e], [cX1 99 [.agg [.list 1 xs, .int .i64 x]] ⟨2, [⟨0, 0, 25, [.nil, .int .i64 0]⟩, ⟨0, 0, 25, [.list 1 xs, .int .i64 x]⟩]⟩ = some (.tuple [.int .u8 (v : Int), .agg [.list 1 ys, .int .i64 y], .int .i64 e], ⟨2, [⟨0, 0, 25, [.nil, .int .i64 0]⟩, ⟨0, 0, 25, [.list 1 xs, .int .i64 x]⟩]⟩, none), (e != 0) = true]) := by
  kernel_rfl
set_option maxRecDepth 1000000 in
theorem sz (xs ys zs ps : List (List DV)) (x y z f : Int) (v : Nat) : zflat (zans Try.prog tab ftab cX1 102 [.agg [.list 1 xs, .int .i64 x]] [(10, .q (.tuple [.int .u8 (v : Int), .agg [.list 1 ys, .int .i64 y], .int .i64 0])), (20, .w (.int .i64 (v : Int))), (21, .q (.tuple [.list 1 ps, .agg [.list 1 zs, .int .i64 z], .int .i64 f]))]) =
    some (.tuple [.list 1 ps, .agg [.list 1 zs, .int .i64 z], .int .i64 f], [cX1 99 [.agg [.list 1 xs, .int .i64 x]] ⟨2, [⟨0, 0, 25, [.nil, .int .i64 0]⟩, ⟨0, 0, 25, [.list 1 xs, .int .i64 x]⟩]⟩ = some (.tuple [.int .u8 (v : Int), .agg [.list 1 ys, .int .i64 y], .int .i64 0], ⟨2, [⟨0, 0, 25, [.nil, .int .i64 0]⟩, ⟨0, 0, 25, [.list 1 xs, .int .i64 x]⟩]⟩, none), DV.int .i64 (IntKind.i64.wrap (v : Int)) = .int .i64 (v : Int), cX1 17 [.agg [.list 1 ys, .int .i64 y], .int .i64 (v : Int)] ⟨3, [⟨0, 0, 25, [.list 1 ys, .int .i64 y]⟩, ⟨0, 0, 25, [.nil, .int .i64 0]⟩, ⟨0, 0, 25, [.list 1 xs, .int .i64 x]⟩]⟩ = some (.tuple [.list 1 ps, .agg [.list 1 zs, .int .i64 z], .int .i64 f], ⟨3, [⟨0, 0, 25, [.list 1 ys, .int .i64 y]⟩, ⟨0, 0, 25, [.nil, .int .i64 0]⟩, ⟨0, 0, 25, [.list 1 xs, .int .i64 x]⟩]⟩, none)]) := by
  kernel_rfl
set_option maxRecDepth 1000000 in
theorem rx_e (xs ys : List (List DV)) (x y e : Int) (v : Nat) : zflat (zans Try.prog tab ftab cX2 34 [.agg [.list 1 xs, .int .i64 x]] [(13, .q (.tuple [.int .u64 (v : Int), .agg [.list 1 ys, .int .i64 y], .int .i64 e])), (18, .b true)]) =
    some (.tuple [.nil, .agg [.nil, .int .i64 0], .int .i64 e], [cX2 30 [.agg [.list 1 xs, .int .i64 x], .int .i64 1] ⟨2, [⟨0, 0, 25, [.nil, .int .i64 0]⟩, ⟨0, 0, 25, [.list 1 xs, .int .i64 x]⟩]⟩ = some (.tuple [.int .u64 (v : Int), .agg [.list 1 ys, .int .i64 y], .int .i64 e], ⟨2, [⟨0, 0, 25, [.nil, .int .i64 0]⟩, ⟨0, 0, 25, [.list 1 xs, .int .i64 x]⟩]⟩, none), (e != 0) = true]) := by
  kernel_rfl
set_option maxRecDepth 1000000 in
theorem rx (xs ys zs ps : List (List DV)) (x y z f : Int) (v : Nat) : zflat (zans Try.prog tab ftab cX2 34 [.agg [.list 1 xs, .int .i64 x]] [(13, .q (.tuple [.int .u64 (v : Int), .agg [.list 1 ys, .int .i64 y], .int .i64 0])), (24, .w (.int .i64 (v : Int))), (25, .q (.tuple [.list 1 ps, .agg [.list 1 zs, .int .i64 z], .int .i64 f]))]) =
    some (.tuple [.list 1 ps, .agg [.list 1 zs, .int .i64 z], .int .i64 f], [cX2 30 [.agg [.list 1 xs, .int .i64 x], .int .i64 1] ⟨2, [⟨0, 0, 25, [.nil, .int .i64 0]⟩, ⟨0, 0, 25, [.list 1 xs, .int .i64 x]⟩]⟩ = some (.tuple [.int .u64 (v : Int), .agg [.list 1 ys, .int .i64 y], .int .i64 0], ⟨2, [⟨0, 0, 25, [.nil, .int .i64 0]⟩, ⟨0, 0, 25, [.list 1 xs, .int .i64 x]⟩]⟩, none), DV.int .i64 (IntKind.i64.wrap (v : Int)) = .int .i64 (v : Int), cX2 32 [.agg [.list 1 ys, .int .i64 y], .int .i64 (v : Int)] ⟨3, [⟨0, 0, 25, [.list 1 ys, .int .i64 y]⟩, ⟨0, 0, 25, [.nil, .int .i64 0]⟩, ⟨0, 0, 25, [.list 1 xs, .int .i64 x]⟩]⟩ = some (.tuple [.list 1 ps, .agg [.list 1 zs, .int .i64 z], .int .i64 f], ⟨3, [⟨0, 0, 25, [.list 1 ys, .int .i64 y]⟩, ⟨0, 0, 25, [.nil, .int .i64 0]⟩, ⟨0, 0, 25, [.list 1 xs, .int .i64 x]⟩]⟩, none)]) := by
  kernel_rfl
theorem ans_cSz (x : BI) : Ans Try.prog 102 [rd x.1.1 x.2] (txD x.1.1 x.2) ⟨0, []⟩ := by
  obtain ⟨b, x⟩ := x
  have q : ∀ hp, cX1 99 [rd b.1 x] hp = some (dn .u8 b.1 x 1, hp, none) := fun hp => orK_left (C2 := cTk) (cG1_at hp (b, x))
  simp only [dn] at q
  have hv : vA b.1 x 1 < 256 := by
    have := leN_lt (pcB b.1 x 1)
    have hl : (pcB b.1 x 1).length ≤ 1 := by
      unfold pcB
      split
      · rw [List.length_take]
        exact Nat.min_le_left _ _
      · exact Nat.zero_le _
    have h2 : (256 : Nat) ^ (pcB b.1 x 1).length ≤ 256 ^ 1 := Nat.pow_le_pow_right (by decide) hl
    unfold vA
    omega
  simp only [txD]
  by_cases he : cutE b.1.length x 1 = 0
  · rw [if_pos he]
    have h2 : afB b.1 x 1 = b.1 := if_pos he
    have h3 : afX b.1 x 1 = x + 1 := if_pos he
    rw [h2, h3, he] at q
    have k := fun hp => orK_right (C1 := cG1) (lift_oth (by kernel_rfl)) (cTk_at hp (b, x + 1, (vA b.1 x 1 : Int)))
    simp only [d3] at k ⊢
    exact zflat_ok tab_ok mixed fun_ok cX1_ok (sz (by1 b.1) (by1 b.1) (by1 (afB b.1 (x + 1) (vA b.1 x 1 : Int))) (by1 (pcB b.1 (x + 1) (vA b.1 x 1 : Int))) x (x + 1) _ _ (vA b.1 x 1)) (.cons (q _) (.cons (by rw [wrapI (by omega)]) (.cons (k _) .nil)))
  · rw [if_neg he]
    exact (zflat_ok tab_ok mixed fun_ok cX1_ok (sz_e (by1 b.1) (by1 (afB b.1 x 1)) x _ _ _) (.cons (q _) (.cons (bne_iff_ne.2 he) .nil))).nil3
theorem ans_cRx (x : BI) : Ans Try.prog 34 [rd x.1.1 x.2] (txD x.1.1 x.2) ⟨0, []⟩ := by
  obtain ⟨b, x⟩ := x
  have q : ∀ hp, cX2 30 [rd b.1 x, .int .i64 1] hp = some (dn .u64 b.1 x 1, hp, none) := fun hp => orK_left (C2 := cRt) (cNu_at hp ((b, x), ⟨1, .inl rfl⟩))
  simp only [dn] at q
  have hv : vA b.1 x 1 < 256 := by
    have := leN_lt (pcB b.1 x 1)
    have hl : (pcB b.1 x 1).length ≤ 1 := by
      unfold pcB
      split
      · rw [List.length_take]
        exact Nat.min_le_left _ _
      · exact Nat.zero_le _
    have h2 : (256 : Nat) ^ (pcB b.1 x 1).length ≤ 256 ^ 1 := Nat.pow_le_pow_right (by decide) hl
    unfold vA
    omega
  simp only [txD]
  by_cases he : cutE b.1.length x 1 = 0
  · rw [if_pos he]
    have h2 : afB b.1 x 1 = b.1 := if_pos he
    have h3 : afX b.1 x 1 = x + 1 := if_pos he
    rw [h2, h3, he] at q
    have k := fun hp => orK_right (C1 := cNu) (lift_oth (by kernel_rfl)) (cRt_at hp (b, x + 1, (vA b.1 x 1 : Int)))
    simp only [d3] at k ⊢
    exact zflat_ok tab_ok mixed fun_ok cX2_ok (rx (by1 b.1) (by1 b.1) (by1 (afB b.1 (x + 1) (vA b.1 x 1 : Int))) (by1 (pcB b.1 (x + 1) (vA b.1 x 1 : Int))) x (x + 1) _ _ (vA b.1 x 1)) (.cons (q _) (.cons (by rw [wrapI (by omega)]) (.cons (k _) .nil)))
  · rw [if_neg he]
    exact (zflat_ok tab_ok mixed fun_ok cX2_ok (rx_e (by1 b.1) (by1 (afB b.1 x 1)) x _ _ _) (.cons (q _) (.cons (bne_iff_ne.2 he) .nil))).nil3
theorem tx_flat (b : List UInt8) (x : Int) : flatD (txD b x) = true := by
  unfold txD
  split <;> rfl
def cSz : CallF := liftC (eqC 102 (fun x : BI => [rd x.1.1 x.2]) fun x => (txD x.1.1 x.2, ⟨0, []⟩))
theorem cSz_ok : CallOk Try.prog cSz := liftC_ok (eqC_ok ans_cSz)
theorem cSz_at (hp : Hp) (x : BI) : cSz 102 [rd x.1.1 x.2] hp = some (txD x.1.1 x.2, hp, none) :=
  lift_at (A := fun x : BI => [rd x.1.1 x.2]) (D := fun x => txD x.1.1 x.2) (fun x y hxy => by
    obtain ⟨x1, x2⟩ := x
    obtain ⟨y1, y2⟩ := y
    simp only [List.cons.injEq, and_true] at hxy
    obtain ⟨rfl, rfl⟩ := rd_inj hxy
    rfl) hp x rfl (tx_flat _ _)
def cRx : CallF := liftC (eqC 34 (fun x : BI => [rd x.1.1 x.2]) fun x => (txD x.1.1 x.2, ⟨0, []⟩))
theorem cRx_ok : CallOk Try.prog cRx := liftC_ok (eqC_ok ans_cRx)
theorem cRx_at (hp : Hp) (x : BI) : cRx 34 [rd x.1.1 x.2] hp = some (txD x.1.1 x.2, hp, none) :=
  lift_at (A := fun x : BI => [rd x.1.1 x.2]) (D := fun x => txD x.1.1 x.2) (fun x y hxy => by
    obtain ⟨x1, x2⟩ := x
    obtain ⟨y1, y2⟩ := y
    simp only [List.cons.injEq, and_true] at hxy
    obtain ⟨rfl, rfl⟩ := rd_inj hxy
    rfl) hp x rfl (tx_flat _ _)
set_option maxRecDepth 1000000 in
theorem tx (xs ps ys : List (List DV)) (x y e : Int) : zflat (zans Try.prog tab ftab cSz 18 [.agg [.list 1 xs, .int .i64 x]] [(6, .q (.tuple [.list 1 ps, .agg [.list 1 ys, .int .i64 y], .int .i64 e]))]) =
    some (.tuple [.list 1 ps, .agg [.list 1 ys, .int .i64 y], .int .i64 e], [cSz 102 [.agg [.list 1 xs, .int .i64 x]] ⟨2, [⟨0, 0, 25, [.nil, .int .i64 0]⟩, ⟨0, 0, 25, [.list 1 xs, .int .i64 x]⟩]⟩ = some (.tuple [.list 1 ps, .agg [.list 1 ys, .int .i64 y], .int .i64 e], ⟨2, [⟨0, 0, 25, [.nil, .int .i64 0]⟩, ⟨0, 0, 25, [.list 1 xs, .int .i64 x]⟩]⟩, none)]) := by
  kernel_rfl
theorem tx_shape (b : Bs) (x : Int) : ∃ (p q : Bs) (y e : Int), txD b.1 x = .tuple [byL p.1, rd q.1 y, .int .i64 e] := by
  unfold txD
  split
  · exact ⟨pcS b _ _, afS b _ _, _, _, rfl⟩
  · exact ⟨⟨[], Nat.two_pow_pos 30⟩, ⟨[], Nat.two_pow_pos 30⟩, _, _, rfl⟩
theorem ans_cTx (x : BI) : Ans Try.prog 18 [rd x.1.1 x.2] (txD x.1.1 x.2) ⟨0, []⟩ := by
  have q := fun hp => cSz_at hp x
  obtain ⟨p, c, y, e, h⟩ := tx_shape x.1 x.2
  rw [h] at q ⊢
  exact zflat_ok tab_ok mixed fun_ok cSz_ok (tx (by1 x.1.1) (by1 p.1) (by1 c.1) x.2 y e) (.cons (q _) .nil)
def cTx : CallF := liftC (eqC 18 (fun x : BI => [rd x.1.1 x.2]) fun x => (txD x.1.1 x.2, ⟨0, []⟩))
theorem cTx_ok : CallOk Try.prog cTx := liftC_ok (eqC_ok ans_cTx)
theorem cTx_at (hp : Hp) (x : BI) : cTx 18 [rd x.1.1 x.2] hp = some (txD x.1.1 x.2, hp, none) :=
  lift_at (A := fun x : BI => [rd x.1.1 x.2]) (D := fun x => txD x.1.1 x.2) (fun x y hxy => by
    obtain ⟨x1, x2⟩ := x
    obtain ⟨y1, y2⟩ := y
    simp only [List.cons.injEq, and_true] at hxy
    obtain ⟨rfl, rfl⟩ := rd_inj hxy
    rfl) hp x rfl (tx_flat _ _)
/-! ### Done -/
def dnE (b : List UInt8) (x : Int) : Int := if 0 ≤ x ∧ x ≤ (b.length : Int) then (if x < (b.length : Int) then 11 else 0) else 8
set_option maxRecDepth 1000000 in
theorem do8 (xs : List (List DV)) (x : Int) : zflat (zans Try.prog tab ftab cKk 25 [.agg [.list 1 xs, .int .i64 x]] [(5, .q (.int .i64 8))]) =
    some (.int .i64 8, [cKk 36 [.agg [.list 1 xs, .int .i64 x]] ⟨1, [⟨0, 0, 25, [.list 1 xs, .int .i64 x]⟩]⟩ = some (.int .i64 8, ⟨1, [⟨0, 0, 25, [.list 1 xs, .int .i64 x]⟩]⟩, none)]) := by
  kernel_rfl
set_option maxRecDepth 1000000 in
theorem do11 (xs : List (List DV)) (x : Int) : zflat (zans Try.prog tab ftab cKk 25 [.agg [.list 1 xs, .int .i64 x]] [(5, .q (.int .i64 0)), (14, .b true)]) =
    some (.int .i64 11, [cKk 36 [.agg [.list 1 xs, .int .i64 x]] ⟨1, [⟨0, 0, 25, [.list 1 xs, .int .i64 x]⟩]⟩ = some (.int .i64 0, ⟨1, [⟨0, 0, 25, [.list 1 xs, .int .i64 x]⟩]⟩, none), decide (x < (xs.length : Int)) = true]) := by
  kernel_rfl
set_option maxRecDepth 1000000 in
theorem do0 (xs : List (List DV)) (x : Int) : zflat (zans Try.prog tab ftab cKk 25 [.agg [.list 1 xs, .int .i64 x]] [(5, .q (.int .i64 0)), (14, .b false)]) =
    some (.int .i64 0, [cKk 36 [.agg [.list 1 xs, .int .i64 x]] ⟨1, [⟨0, 0, 25, [.list 1 xs, .int .i64 x]⟩]⟩ = some (.int .i64 0, ⟨1, [⟨0, 0, 25, [.list 1 xs, .int .i64 x]⟩]⟩, none), decide (x < (xs.length : Int)) = false]) := by
  kernel_rfl
set_option maxRecDepth 1000000 in
theorem rd8 (xs : List (List DV)) (x : Int) : zflat (zans Try.prog tab ftab cVd 35 [.agg [.list 1 xs, .int .i64 x]] [(4, .q (.bool false))]) =
    some (.int .i64 8, [cVd 37 [.agg [.list 1 xs, .int .i64 x]] ⟨1, [⟨0, 0, 25, [.list 1 xs, .int .i64 x]⟩]⟩ = some (.bool false, ⟨1, [⟨0, 0, 25, [.list 1 xs, .int .i64 x]⟩]⟩, none)]) := by
  kernel_rfl
set_option maxRecDepth 1000000 in
theorem rd11 (xs : List (List DV)) (x : Int) : zflat (zans Try.prog tab ftab cVd 35 [.agg [.list 1 xs, .int .i64 x]] [(4, .q (.bool true)), (11, .b true)]) =
    some (.int .i64 11, [cVd 37 [.agg [.list 1 xs, .int .i64 x]] ⟨1, [⟨0, 0, 25, [.list 1 xs, .int .i64 x]⟩]⟩ = some (.bool true, ⟨1, [⟨0, 0, 25, [.list 1 xs, .int .i64 x]⟩]⟩, none), decide (x < (xs.length : Int)) = true]) := by
  kernel_rfl
set_option maxRecDepth 1000000 in
theorem rd0 (xs : List (List DV)) (x : Int) : zflat (zans Try.prog tab ftab cVd 35 [.agg [.list 1 xs, .int .i64 x]] [(4, .q (.bool true)), (11, .b false)]) =
    some (.int .i64 0, [cVd 37 [.agg [.list 1 xs, .int .i64 x]] ⟨1, [⟨0, 0, 25, [.list 1 xs, .int .i64 x]⟩]⟩ = some (.bool true, ⟨1, [⟨0, 0, 25, [.list 1 xs, .int .i64 x]⟩]⟩, none), decide (x < (xs.length : Int)) = false]) := by
  kernel_rfl
theorem ans_cDo (x : BI) : Ans Try.prog 25 [rd x.1.1 x.2] (.int .i64 (dnE x.1.1 x.2)) ⟨0, []⟩ := by
  obtain ⟨b, x⟩ := x
  have hl := by1_length b.1
  have q := fun hp => cKk_at hp (b, x)
  simp only [chkE] at q
  simp only [dnE]
  by_cases h : 0 ≤ x ∧ x ≤ (b.1.length : Int)
  · rw [if_pos h] at q
    rw [if_pos h]
    by_cases h2 : x < (b.1.length : Int)
    · rw [if_pos h2]
      exact zflat_ok tab_ok mixed fun_ok cKk_ok (do11 (by1 b.1) x) (.cons (q _) (.cons (decide_eq_true (by omega)) .nil))
    · rw [if_neg h2]
      exact zflat_ok tab_ok mixed fun_ok cKk_ok (do0 (by1 b.1) x) (.cons (q _) (.cons (decide_eq_false (by omega)) .nil))
  · rw [if_neg h] at q
    rw [if_neg h]
    exact zflat_ok tab_ok mixed fun_ok cKk_ok (do8 (by1 b.1) x) (.cons (q _) .nil)
theorem ans_cRd1 (x : BI) : Ans Try.prog 35 [rd x.1.1 x.2] (.int .i64 (dnE x.1.1 x.2)) ⟨0, []⟩ := by
  obtain ⟨b, x⟩ := x
  have hl := by1_length b.1
  have q := fun hp => cVd_at hp (b, x)
  simp only [vld] at q
  simp only [dnE]
  by_cases h : 0 ≤ x ∧ x ≤ (b.1.length : Int)
  · rw [decide_eq_true h] at q
    rw [if_pos h]
    by_cases h2 : x < (b.1.length : Int)
    · rw [if_pos h2]
      exact zflat_ok tab_ok mixed fun_ok cVd_ok (rd11 (by1 b.1) x) (.cons (q _) (.cons (decide_eq_true (by omega)) .nil))
    · rw [if_neg h2]
      exact zflat_ok tab_ok mixed fun_ok cVd_ok (rd0 (by1 b.1) x) (.cons (q _) (.cons (decide_eq_false (by omega)) .nil))
  · rw [decide_eq_false h] at q
    rw [if_neg h]
    exact zflat_ok tab_ok mixed fun_ok cVd_ok (rd8 (by1 b.1) x) (.cons (q _) .nil)
def cDo : CallF := liftC (eqC 25 (fun x : BI => [rd x.1.1 x.2]) fun x => (.int .i64 (dnE x.1.1 x.2), ⟨0, []⟩))
theorem cDo_ok : CallOk Try.prog cDo := liftC_ok (eqC_ok ans_cDo)
theorem cDo_at (hp : Hp) (x : BI) : cDo 25 [rd x.1.1 x.2] hp = some (.int .i64 (dnE x.1.1 x.2), hp, none) :=
  lift_at (A := fun x : BI => [rd x.1.1 x.2]) (D := fun x => .int .i64 (dnE x.1.1 x.2)) (fun x y hxy => by
    obtain ⟨x1, x2⟩ := x
    obtain ⟨y1, y2⟩ := y
    simp only [List.cons.injEq, and_true] at hxy
    obtain ⟨rfl, rfl⟩ := rd_inj hxy
    rfl) hp x rfl rfl
def cRd1 : CallF := liftC (eqC 35 (fun x : BI => [rd x.1.1 x.2]) fun x => (.int .i64 (dnE x.1.1 x.2), ⟨0, []⟩))
theorem cRd1_ok : CallOk Try.prog cRd1 := liftC_ok (eqC_ok ans_cRd1)
theorem cRd1_at (hp : Hp) (x : BI) : cRd1 35 [rd x.1.1 x.2] hp = some (.int .i64 (dnE x.1.1 x.2), hp, none) :=
  lift_at (A := fun x : BI => [rd x.1.1 x.2]) (D := fun x => .int .i64 (dnE x.1.1 x.2)) (fun x y hxy => by
    obtain ⟨x1, x2⟩ := x
    obtain ⟨y1, y2⟩ := y
    simp only [List.cons.injEq, and_true] at hxy
    obtain ⟨rfl, rfl⟩ := rd_inj hxy
    rfl) hp x rfl rfl
/-! ### Same -/
set_option maxRecDepth 1000000 in
theorem sm (xs : List (List DV)) (s : ByteArray) : zflat (zans Try.prog tab ftab noC 33 [.list 1 xs, .list 1 xs] [(6, .h (.str s) ⟨0, []⟩ none), (8, .h (.str s) ⟨0, []⟩ none), (9, .b true)]) =
    some (.bool true, [convD tab ⟨0, []⟩ 23 9 (.list 1 xs) = some (.str s, ⟨0, []⟩, none), convD tab ⟨0, []⟩ 23 9 (.list 1 xs) = some (.str s, ⟨0, []⟩, none), eqBytes s.data.toList s.data.toList = true]) := by
  kernel_rfl
theorem bytesOf_cel : ∀ bs : List UInt8, bytesOf (celB bs) = some bs
  | [] => rfl
  | c :: r => by
    have ih := bytesOf_cel r
    show (match bytesOf (celB r) with | some l => some (UInt8.ofNat ((c.toNat : Int)).toNat :: l) | none => none) = _
    rw [ih, Int.toNat_natCast]
    simp
theorem conv_tab (hp : Hp) (xs : List (List DV)) : convD tab hp 23 9 (.list 1 xs) = match contD hp 1 (.list 1 xs) with
    | some (_, cs) => match bytesOf cs with
      | some l => some (.str ⟨l.toArray⟩, hp, none)
      | none => none
    | none => none := by kernel_rfl
theorem conv_by (hp : Hp) (bs : List UInt8) : convD tab hp 23 9 (byL bs) = some (.str ⟨bs.toArray⟩, hp, none) := by
  unfold byL
  rw [conv_tab]
  have h := contD_list hp bs
  unfold byL at h
  rw [h]
  simp only [bytesOf_cel]
theorem ans_cSm (x : Bs) : Ans Try.prog 33 [byL x.1, byL x.1] (.bool true) ⟨0, []⟩ :=
  zflat_ok tab_ok mixed fun_ok noC_ok (sm (by1 x.1) ⟨x.1.toArray⟩) (.cons (conv_by _ _) (.cons (conv_by _ _) (.cons (eqBytes_refl _) .nil)))
def cSm : CallF := liftC (eqC 33 (fun x : Bs => [byL x.1, byL x.1]) fun _ => (.bool true, ⟨0, []⟩))
theorem cSm_ok : CallOk Try.prog cSm := liftC_ok (eqC_ok ans_cSm)
theorem cSm_at (hp : Hp) (x : Bs) : cSm 33 [byL x.1, byL x.1] hp = some (.bool true, hp, none) :=
  lift_at (A := fun x : Bs => [byL x.1, byL x.1]) (D := fun _ => .bool true) (fun x y hxy => by
    rfl) hp x rfl rfl
set_option maxRecDepth 1000000 in
theorem sr (xs : List (List DV)) (x : Int) : zflat (zans Try.prog tab ftab cSm 31 [.agg [.list 1 xs, .int .i64 x], .agg [.list 1 xs, .int .i64 x]] [(9, .b true), (15, .q (.bool true))]) =
    some (.bool true, [(x == x) = true, cSm 33 [.list 1 xs, .list 1 xs] ⟨2, [⟨0, 0, 25, [.list 1 xs, .int .i64 x]⟩, ⟨0, 0, 25, [.list 1 xs, .int .i64 x]⟩]⟩ = some (.bool true, ⟨2, [⟨0, 0, 25, [.list 1 xs, .int .i64 x]⟩, ⟨0, 0, 25, [.list 1 xs, .int .i64 x]⟩]⟩, none)]) := by
  kernel_rfl
theorem ans_cSr (x : BI) : Ans Try.prog 31 [rd x.1.1 x.2, rd x.1.1 x.2] (.bool true) ⟨0, []⟩ :=
  zflat_ok tab_ok mixed fun_ok cSm_ok (sr (by1 x.1.1) x.2) (.cons (beq_self_eq_true _) (.cons (cSm_at _ x.1) .nil))
def cSr : CallF := liftC (eqC 31 (fun x : BI => [rd x.1.1 x.2, rd x.1.1 x.2]) fun _ => (.bool true, ⟨0, []⟩))
theorem cSr_ok : CallOk Try.prog cSr := liftC_ok (eqC_ok ans_cSr)
theorem cSr_at (hp : Hp) (x : BI) : cSr 31 [rd x.1.1 x.2, rd x.1.1 x.2] hp = some (.bool true, hp, none) :=
  lift_at (A := fun x : BI => [rd x.1.1 x.2, rd x.1.1 x.2]) (D := fun _ => .bool true) (fun x y hxy => by
    rfl) hp x rfl rfl
end
end Go.Proofs.Ytnhbhdfeenpedaa
