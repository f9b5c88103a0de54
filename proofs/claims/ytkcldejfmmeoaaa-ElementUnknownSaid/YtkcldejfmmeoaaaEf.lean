/- Find and Remove of elements: contracts. -/
import Derived.Test.YtkcldejfmmeoaaaEs
namespace Go.Proofs.Ytkcldejfmmeoaaa
open Go.RowKit

noncomputable section
/-! ### named -/
abbrev fNm : FuncId := 34
section
variable (C : ConF)
set_option maxRecDepth 1000000 in
theorem nm1 (ys ss : List (List DV)) (i e a b : UInt8) : zflat (zans Try.prog tab ftab C fNm [.agg (elC i e ys ss), i8 a, i8 b] [(10, .b false)]) = some (.bool false, ((nx i == nx a) = false) :: []) := by kernel_rfl
set_option maxRecDepth 1000000 in
theorem nm2 (ys ss : List (List DV)) (i e a b : UInt8) (v : Bool) : zflat (zans Try.prog tab ftab C fNm [.agg (elC i e ys ss), i8 a, i8 b] [(10, .b true), (15, .b v)]) = some (.bool v, ((nx i == nx a) = true) :: ((nx e == nx b) = v) :: []) := by kernel_rfl
end
def named (a b : UInt8) : El → Bool
  | .mk i e _ _ => decide (i = a) && decide (e = b)
theorem nx_dec (a b : UInt8) : (nx a == nx b) = decide (a = b) := by
  by_cases h : a = b
  · subst h
    simp
  · rw [decide_eq_false h]
    have := nx_ne h
    rw [bne_iff_ne] at this
    exact beq_false_of_ne this
theorem nm_ans (x : El × UInt8 × UInt8) : Ans Try.prog fNm [.agg (elD x.1), i8 x.2.1, i8 x.2.2] (.bool (named x.2.1 x.2.2 x.1)) ⟨0, [], []⟩ := by
  obtain ⟨⟨i, e, d, s⟩, a, b⟩ := x
  have h1 := nx_dec i a
  cases hq : decide (i = a) with
  | false =>
    rw [hq] at h1
    have hn : named a b (.mk i e d s) = false := by show (decide (i = a) && decide (e = b)) = _; rw [hq]; rfl
    dsimp only
    rw [hn]
    exact zflat_ok tab_ok mixed fun_ok noC_ok (nm1 noC (by1 d) (elR s) i e a b) (.cons h1 .nil)
  | true =>
    rw [hq] at h1
    have hn : named a b (.mk i e d s) = decide (e = b) := by show (decide (i = a) && decide (e = b)) = _; rw [hq]; rfl
    dsimp only
    rw [hn]
    exact zflat_ok tab_ok mixed fun_ok noC_ok (nm2 noC (by1 d) (elR s) i e a b _) (.cons h1 (.cons (nx_dec e b) .nil))
def cNm : ConF := liftC (eqC fNm (fun x : El × UInt8 × UInt8 => [.agg (elD x.1), i8 x.2.1, i8 x.2.2]) fun x => (.bool (named x.2.1 x.2.2 x.1), ⟨0, [], []⟩))
theorem cNm_ok : ConOk Try.prog cNm := liftC_ok (eqC_ok nm_ans fun _ => rfl)
theorem cNm_at (hp : Hp) (x : El) (a b : UInt8) : cNm fNm [.agg (elD x), i8 a, i8 b] hp = some (.bool (named a b x), hp, none) :=
  lift_at (A := fun x : El × UInt8 × UInt8 => [.agg (elD x.1), i8 x.2.1, i8 x.2.2]) (D := fun x => .bool (named x.2.1 x.2.2 x.1)) (fun x y hxy => by
    simp only [List.cons.injEq, and_true, DV.agg.injEq] at hxy
    rw [elD_inj hxy.1, i8_inj hxy.2.1, i8_inj hxy.2.2]) hp (x, a, b) (by obtain ⟨i, e, d, s⟩ := x; rfl) rfl
/-! ### twin and Twin, for all nestings -/
abbrev El1 : Type := {x : El // smE x}
def cTxa : ConF := liftC (eqC fTx (fun x : El1 => [.agg (elD x.1)]) fun x => (.agg (elD x.1), ⟨0, [], []⟩))
theorem depE_pos (x : El) : depE x = (depE x - 1) + 1 := by
  obtain ⟨i, e, d, s⟩ := x
  show depA s + 1 = depA s + 1 - 1 + 1
  omega
theorem cTxa_ok : ConOk Try.prog cTxa := liftC_ok (eqC_ok (fun x => tx_ans (depE x.1 - 1) (cTw_ok _) ⟨x.1, Nat.le_of_eq (depE_pos x.1), x.2⟩) fun _ => rfl)
theorem cTxa_at (hp : Hp) (x : El) (h : smE x) : cTxa fTx [.agg (elD x)] hp = some (.agg (elD x), hp, none) :=
  lift_at (A := fun x : El1 => [.agg (elD x.1)]) (D := fun x => .agg (elD x.1)) (fun x y hxy => by
    simp only [List.cons.injEq, and_true] at hxy
    exact hxy) hp ⟨x, h⟩ (by obtain ⟨i, e, d, s⟩ := x; rfl) (by obtain ⟨i, e, d, s⟩ := x; rfl)
def cFn : ConF := orK cNm cTxa
theorem cFn_ok : ConOk Try.prog cFn := orK_ok cNm_ok cTxa_ok
theorem cFn_nm (hp : Hp) (x : El) (a b : UInt8) : cFn fNm [.agg (elD x), i8 a, i8 b] hp = some (.bool (named a b x), hp, none) := orK_left (cNm_at hp x a b)
theorem cFn_tx (hp : Hp) (x : El) (h : smE x) : cFn fTx [.agg (elD x)] hp = some (.agg (elD x), hp, none) := orK_right (lift_oth (eqC_other (by kernel_rfl))) (cTxa_at hp x h)
/-! ### Find -/
abbrev fFi : FuncId := 14
abbrev kFi : List (Nat × Nat) := ksF ftab fFi
abbrev fiL : Code := loopAt (bodyOf ftab fFi) 0
abbrev fiS (xs : List (List DV)) (a b : UInt8) (j : Nat) : Slots := mkT 24 [(1, i8 a), (2, i8 b), (6, .ptr 0 0), (10, .list 4 xs), (11, .int .i64 (xs.length : Int)), (12, iN j)]
abbrev fiH (x : List DV) : Hp := ⟨1, [oEl 0 x], []⟩
abbrev zE : List DV := [.int .u8 0, .int .u8 0, .nil, .nil]
section
variable (C : ConF)
set_option maxRecDepth 1000000 in
theorem fi1 (xs ys ss : List (List DV)) (j : Nat) (i e a b : UInt8) : zgm [0] [] (zsee Try.prog tab ftab C kFi [1, 2, 6, 10, 11, 12] fiL (fiS xs a b j) (fiH zE) [(13, .b true), (14, .n (.fptr (elC i e ys ss))), (19, .q (.bool false)), (22, .w (iN (j + 1)))]) =
    some (.normal, fiS xs a b (j + 1), fiH zE, FlatIn [] ⟨2, [oEl 0 (elC i e ys ss), oEl 0 zE], []⟩ :: (decide ((j : Int) < (xs.length : Int)) = true) :: weA xs j i e ys ss ((C fNm [.agg (elC i e ys ss), i8 a, i8 b] ⟨2, [oEl 0 (elC i e ys ss), oEl 0 zE], []⟩ = some (.bool false, ⟨2, [oEl 0 (elC i e ys ss), oEl 0 zE], []⟩, none)) :: (DV.int .i64 (IntKind.i64.wrap ((j : Int) + 1)) = iN (j + 1)) :: [])) := by kernel_rfl
set_option maxRecDepth 1000000 in
theorem fi2 (xs ys ss : List (List DV)) (j : Nat) (i e a b : UInt8) : zgm [0] [] (zsee Try.prog tab ftab C kFi [6, 7] fiL (fiS xs a b j) (fiH zE) [(13, .b true), (14, .n (.fptr (elC i e ys ss))), (19, .q (.bool true)), (21, .q (.agg (elC i e ys ss)))]) =
    some (.ret, mkT 24 [(6, .ptr 0 0), (7, .bool true)], fiH (elC i e ys ss), FlatIn [] ⟨2, [oEl 0 (elC i e ys ss), oEl 0 (elC i e ys ss)], []⟩ :: (decide ((j : Int) < (xs.length : Int)) = true) :: weA xs j i e ys ss ((C fNm [.agg (elC i e ys ss), i8 a, i8 b] ⟨2, [oEl 0 (elC i e ys ss), oEl 0 zE], []⟩ = some (.bool true, ⟨2, [oEl 0 (elC i e ys ss), oEl 0 zE], []⟩, none)) :: (C fTx [.agg (elC i e ys ss)] ⟨2, [oEl 0 (elC i e ys ss), oEl 0 zE], []⟩ = some (.agg (elC i e ys ss), ⟨2, [oEl 0 (elC i e ys ss), oEl 0 zE], []⟩, none)) :: [])) := by kernel_rfl
set_option maxRecDepth 1000000 in
theorem fiO (xs : List (List DV)) (j : Nat) (a b : UInt8) : zsee Try.prog tab ftab C kFi [6] fiL (fiS xs a b j) (fiH zE) [(13, .b false)] = some (.exit 0, mkT 24 [(6, .ptr 0 0)], fiH zE, (decide ((j : Int) < (xs.length : Int)) = false) :: []) := by kernel_rfl
set_option maxRecDepth 1000000 in
theorem fiG (xs : List (List DV)) (a b : UInt8) (i e : UInt8) (ys ss : List (List DV)) : zflat (zans Try.prog tab ftab C fFi [.list 4 xs, i8 a, i8 b] [(0, .l [1, 2, 6, 10, 11, 12] .ret (mkT 24 [(6, .ptr 0 0), (7, .bool true)]) (fiH (elC i e ys ss)))]) =
    some (.tuple [.agg (elC i e ys ss), .bool true], (Goes Try.prog tab kFi (.loop fiL) (fiS xs a b 0) (fiH zE) .ret (mkT 24 [(6, .ptr 0 0), (7, .bool true)]) (fiH (elC i e ys ss))) :: []) := by kernel_rfl
set_option maxRecDepth 1000000 in
theorem fiN (xs : List (List DV)) (a b : UInt8) : zflat (zans Try.prog tab ftab C fFi [.list 4 xs, i8 a, i8 b] [(0, .l [1, 2, 6, 10, 11, 12] (.exit 0) (mkT 24 [(6, .ptr 0 0)]) (fiH zE))]) =
    some (.tuple [.agg zE, .bool false], (Goes Try.prog tab kFi (.loop fiL) (fiS xs a b 0) (fiH zE) (.exit 0) (mkT 24 [(6, .ptr 0 0)]) (fiH zE)) :: []) := by kernel_rfl
end
theorem flatIn_nil (hp : Hp) : FlatIn [] hp := fun id o h _ => by cases h
/-- the first that bears the name -/
def findL (a b : UInt8) : List El → Option El
  | [] => none
  | x :: l => match named a b x with
    | true => some x
    | false => findL a b l
def zEl : El := .mk 0 0 [] []
def fiD : Option El → DV
  | some x => .tuple [.agg (elD x), .bool true]
  | none => .tuple [.agg (elD zEl), .bool false]
def fiX : Option El → Ex × Slots × Hp
  | some x => (.ret, mkT 24 [(6, .ptr 0 0), (7, .bool true)], fiH (elD x))
  | none => (.exit 0, mkT 24 [(6, .ptr 0 0)], fiH zE)
theorem fi_loop (l : List El) (hl : SmL l) (a b : UInt8) : ∀ (rest pre : List El), l = pre ++ rest → ∃ m, GoesR Try.prog tab kFi fiL (m + 1) (fiS (elR l) a b pre.length) (fiH zE) (fiX (findL a b rest)).1 (fiX (findL a b rest)).2.1 (fiX (findL a b rest)).2.2
  | [], pre, e => by
    have hn : (elR l).length = pre.length := by rw [elR_length, e, List.append_nil]
    exact ⟨0, GoesR.last (zsee_ok tab_ok mixed fun_ok cFn_ok (fiO cFn (elR l) pre.length a b) (.cons (decide_eq_false (by omega)) .nil)) (by intro h; cases h)⟩
  | .mk i x dt s :: rest, pre, e => by
    have hn := elR_length l
    have h30 := hl.1
    have hll : l.length = pre.length + (rest.length + 1) := by rw [e]; simp
    have hj : l[pre.length]? = some (.mk i x dt s) := by rw [e]; simp
    have hlt : decide ((pre.length : Int) < ((elR l).length : Int)) = true := decide_eq_true (by omega)
    have hi : idxOk (pre.length : Int) (elR l).length = true := idxOk_lt (by omega)
    have ho : smE (.mk i x dt s) := smL_at hl.2 hj
    have hw : DV.int .i64 (IntKind.i64.wrap ((pre.length : Int) + 1)) = iN (pre.length + 1) := congrArg (DV.int .i64) (wrapI (n := pre.length + 1) (by omega))
    have hm := cFn_nm ⟨2, [oEl 0 (elC i x (by1 dt) (elR s)), oEl 0 zE], []⟩ (.mk i x dt s) a b
    unfold findL
    cases hq : named a b (.mk i x dt s) with
    | true =>
      rw [hq] at hm
      exact ⟨0, GoesR.last (zgm_ok tab_ok mixed fun_ok cFn_ok (fi2 cFn (elR l) (by1 dt) (elR s) pre.length i x a b) (.cons (flatIn_nil _) (.cons hlt (.cons hi (.cons (elR_at hj) (.cons hm (.cons (cFn_tx _ (.mk i x dt s) ho) .nil))))))) (by intro h; cases h)⟩
    | false =>
      rw [hq] at hm
      obtain ⟨m, g⟩ := fi_loop l hl a b rest (pre ++ [.mk i x dt s]) (by rw [e, List.append_assoc]; rfl)
      rw [List.length_append] at g
      exact ⟨m + 1, GoesR.step (zgm_ok tab_ok mixed fun_ok cFn_ok (fi1 cFn (elR l) (by1 dt) (elR s) pre.length i x a b) (.cons (flatIn_nil _) (.cons hlt (.cons hi (.cons (elR_at hj) (.cons hm (.cons hw .nil))))))) g⟩
abbrev EII : Type := ElS × UInt8 × UInt8
theorem fi_ans (x : EII) : Ans Try.prog fFi [elsD x.1.1, i8 x.2.1, i8 x.2.2] (fiD (findL x.2.1 x.2.2 x.1.1)) ⟨0, [], []⟩ := by
  obtain ⟨⟨l, hl⟩, a, b⟩ := x
  obtain ⟨m, g⟩ := fi_loop l hl a b l [] rfl
  have g := g.goes
  dsimp only
  cases hf : findL a b l with
  | some y =>
    rw [hf] at g
    obtain ⟨i, e, d, s⟩ := y
    exact zflat_ok tab_ok mixed fun_ok cFn_ok (fiG cFn (elR l) a b i e (by1 d) (elR s)) (.cons g .nil)
  | none =>
    rw [hf] at g
    refine (zflat_ok tab_ok mixed fun_ok cFn_ok (fiN cFn (elR l) a b) (.cons g .nil)).seeH rfl fun _ _ E w _ hs hv => ⟨E, fun _ h => h, yb_none hs.ys rfl, rfl, hs, see_tuple (w := w) (E := E) (E' := E) (ds := [.agg zE, .bool false]) (bs := [.agg (elD zEl), .bool false]) ⟨fun _ h => ?_, fun _ h => h, trivial⟩ hv⟩
    exact see_agg (w := w) (E := E) (E' := E) (ds := zE) (bs := elD zEl) ⟨fun _ h => h, fun _ h => h, fun _ h => vr_nl h, fun _ h => vr_nl h, trivial⟩ h
theorem fiD_flat (o : Option El) : flatD (fiD o) = true := by
  cases o with
  | none => rfl
  | some x =>
    obtain ⟨i, e, d, s⟩ := x
    rfl
def cFi : ConF := liftC (eqC fFi (fun x : EII => [elsD x.1.1, i8 x.2.1, i8 x.2.2]) fun x => (fiD (findL x.2.1 x.2.2 x.1.1), ⟨0, [], []⟩))
theorem cFi_ok : ConOk Try.prog cFi := liftC_ok (eqC_ok fi_ans fun _ => rfl)
theorem eii_inj {x y : EII} (h : ([elsD x.1.1, i8 x.2.1, i8 x.2.2] : List DV) = [elsD y.1.1, i8 y.2.1, i8 y.2.2]) : x.1.1 = y.1.1 ∧ x.2 = y.2 := by
  simp only [List.cons.injEq, and_true] at h
  exact ⟨els_inj h.1, Prod.ext (i8_inj h.2.1) (i8_inj h.2.2)⟩
theorem cFi_at (hp : Hp) (l : List El) (hl : SmL l) (a b : UInt8) : cFi fFi [elsD l, i8 a, i8 b] hp = some (fiD (findL a b l), hp, none) :=
  lift_at (A := fun x : EII => [elsD x.1.1, i8 x.2.1, i8 x.2.2]) (D := fun x => fiD (findL x.2.1 x.2.2 x.1.1)) (fun x y hxy => by
    obtain ⟨h1, h2⟩ := eii_inj hxy
    rw [h1, h2]) hp (⟨l, hl⟩, a, b) rfl (fiD_flat _)
/-! ### Remove -/
abbrev fRm : FuncId := 16
abbrev kRm : List (Nat × Nat) := ksF ftab fRm
abbrev rmL : Code := loopAt (bodyOf ftab fRm) 0
abbrev rmS (xs : List (List DV)) (a b : UInt8) (n j : Nat) : Slots := mkT 31 [(1, i8 a), (2, i8 b), (7, .sl 0 0 4 n n), (13, .list 4 xs), (14, .int .i64 (xs.length : Int)), (15, iN j)]
abbrev rmE (n : Nat) : Slots := mkT 31 [(7, .sl 0 0 4 n n)]
section
variable (C : ConF)
set_option maxRecDepth 1000000 in
theorem rm1 (xs ys ss : List (List DV)) (cl : List DV) (n j : Nat) (i e a b : UInt8) : zgm [3] [3] (zsee Try.prog tab ftab C kRm [1, 2, 7, 13, 14, 15] rmL (rmS xs a b n j) (twH cl) [(16, .b true), (17, .n (.fptr (elC i e ys ss))), (22, .q (.bool false)), (26, .q (.agg (elC i e ys ss))), (28, .h (.sl 3 0 4 (n + 1) (n + 1)) (twH4 cl (elC i e ys ss)) (some 0)), (29, .w (iN (j + 1)))]) =
    some (.normal, rmS xs a b (n + 1) (j + 1), twH (cl ++ elC i e ys ss), FlatIn [3] (twH4 cl (elC i e ys ss)) :: (decide ((j : Int) < (xs.length : Int)) = true) :: weA xs j i e ys ss ((C fNm [.agg (elC i e ys ss), i8 a, i8 b] ⟨2, [oEl 0 (elC i e ys ss), oEl 1 cl], []⟩ = some (.bool false, ⟨2, [oEl 0 (elC i e ys ss), oEl 1 cl], []⟩, none)) :: (C fTx [.agg (elC i e ys ss)] ⟨2, [oEl 0 (elC i e ys ss), oEl 1 cl], []⟩ = some (.agg (elC i e ys ss), ⟨2, [oEl 0 (elC i e ys ss), oEl 1 cl], []⟩, none)) ::
      (builtinD tab (twH3 cl (elC i e ys ss)) .append [.sl 0 0 4 n n, .sl 2 0 4 1 1] tyEE = some (.sl 3 0 4 (n + 1) (n + 1), twH4 cl (elC i e ys ss), some 0)) :: (DV.int .i64 (IntKind.i64.wrap ((j : Int) + 1)) = iN (j + 1)) :: [])) := by kernel_rfl
set_option maxRecDepth 1000000 in
theorem rm2 (xs ys ss : List (List DV)) (cl : List DV) (n j : Nat) (i e a b : UInt8) : zgm [0] [0] (zsee Try.prog tab ftab C kRm [1, 2, 7, 13, 14, 15] rmL (rmS xs a b n j) (twH cl) [(16, .b true), (17, .n (.fptr (elC i e ys ss))), (22, .q (.bool true)), (29, .w (iN (j + 1)))]) =
    some (.normal, rmS xs a b n (j + 1), twH cl, FlatIn [0] ⟨2, [oEl 0 (elC i e ys ss), oEl 1 cl], []⟩ :: (decide ((j : Int) < (xs.length : Int)) = true) :: weA xs j i e ys ss ((C fNm [.agg (elC i e ys ss), i8 a, i8 b] ⟨2, [oEl 0 (elC i e ys ss), oEl 1 cl], []⟩ = some (.bool true, ⟨2, [oEl 0 (elC i e ys ss), oEl 1 cl], []⟩, none)) :: (DV.int .i64 (IntKind.i64.wrap ((j : Int) + 1)) = iN (j + 1)) :: [])) := by kernel_rfl
set_option maxRecDepth 1000000 in
theorem rmO (xs : List (List DV)) (cl : List DV) (n j : Nat) (a b : UInt8) : zsee Try.prog tab ftab C kRm [7] rmL (rmS xs a b n j) (twH cl) [(16, .b false)] = some (.exit 0, rmE n, twH cl, (decide ((j : Int) < (xs.length : Int)) = false) :: []) := by kernel_rfl
set_option maxRecDepth 1000000 in
theorem rmG (xs : List (List DV)) (cl : List DV) (n : Nat) (a b : UInt8) : zans Try.prog tab ftab C fRm [.list 4 xs, i8 a, i8 b] [(12, .h (.sl 0 0 4 0 0) (twH []) none), (0, .l [1, 2, 7, 13, 14, 15] (.exit 0) (rmE n) (twH cl))] =
    some (.sl 0 0 4 n n, twH cl, ((decide ((0 : Int) ≤ 0) && decide ((0 : Int) ≤ (xs.length : Int)) && fitB ((xs.length : Int).toNat) 56) = true) :: (mkRow ⟨0, [], []⟩ 34 4 [.int .u8 0, .int .u8 0, .nil, .nil] ((0 : Int).toNat) ((xs.length : Int).toNat) = (.sl 0 0 4 0 0, twH [], none)) :: (Goes Try.prog tab kRm (.loop rmL) (rmS xs a b 0 0) (twH []) (.exit 0) (rmE n) (twH cl)) :: []) := by kernel_rfl
end
/-- those that do not bear the name -/
def remL (a b : UInt8) : List El → List El
  | [] => []
  | x :: l => match named a b x with
    | true => remL a b l
    | false => x :: remL a b l
theorem remL_append (a b : UInt8) : ∀ (l m : List El), remL a b (l ++ m) = remL a b l ++ remL a b m
  | [], m => rfl
  | x :: l, m => by
    simp only [List.cons_append, remL]
    cases named a b x with
    | true => exact remL_append a b l m
    | false => simp only [remL_append a b l m, List.cons_append]
theorem remL_len (a b : UInt8) : ∀ l, (remL a b l).length ≤ l.length
  | [] => Nat.le_refl _
  | x :: l => by
    have := remL_len a b l
    unfold remL
    cases named a b x <;> simp only [List.length_cons] <;> omega
theorem remL_sm (a b : UInt8) : ∀ l, smL l → smL (remL a b l)
  | [], _ => trivial
  | x :: l, h => by
    unfold remL
    cases named a b x with
    | true => exact remL_sm a b l h.2
    | false => exact ⟨h.1, remL_sm a b l h.2⟩
theorem rm_loop (l : List El) (hl : SmL l) (a b : UInt8) : ∀ (rest pre : List El), l = pre ++ rest → ∃ m, GoesR Try.prog tab kRm rmL (m + 1) (rmS (elR l) a b (remL a b pre).length pre.length) (twH (celE (remL a b pre))) (.exit 0) (rmE (remL a b l).length) (twH (celE (remL a b l)))
  | [], pre, e => by
    rw [List.append_nil] at e
    subst e
    have hn := elR_length l
    exact ⟨0, GoesR.last (zsee_ok tab_ok mixed fun_ok cFn_ok (rmO cFn (elR l) (celE (remL a b l)) (remL a b l).length l.length a b) (.cons (decide_eq_false (by omega)) .nil)) (by intro h; cases h)⟩
  | .mk i x dt s :: rest, pre, e => by
    have hn := elR_length l
    have h30 := hl.1
    have hrl := remL_len a b pre
    have hll : l.length = pre.length + (rest.length + 1) := by rw [e]; simp
    have hj : l[pre.length]? = some (.mk i x dt s) := by rw [e]; simp
    have hlt : decide ((pre.length : Int) < ((elR l).length : Int)) = true := decide_eq_true (by omega)
    have hi : idxOk (pre.length : Int) (elR l).length = true := idxOk_lt (by omega)
    have ho : smE (.mk i x dt s) := smL_at hl.2 hj
    have hw : DV.int .i64 (IntKind.i64.wrap ((pre.length : Int) + 1)) = iN (pre.length + 1) := congrArg (DV.int .i64) (wrapI (n := pre.length + 1) (by omega))
    have hm := cFn_nm ⟨2, [oEl 0 (elC i x (by1 dt) (elR s)), oEl 1 (celE (remL a b pre))], []⟩ (.mk i x dt s) a b
    obtain ⟨m, g⟩ := rm_loop l hl a b rest (pre ++ [.mk i x dt s]) (by rw [e, List.append_assoc]; rfl)
    rw [List.length_append, remL_append] at g
    cases hq : named a b (.mk i x dt s) with
    | true =>
      rw [hq] at hm
      have h1 : remL a b [.mk i x dt s] = [] := by simp only [remL, hq]
      rw [h1, List.append_nil] at g
      refine ⟨m + 1, GoesR.step (zgm_ok tab_ok mixed fun_ok cFn_ok (rm2 cFn (elR l) (by1 dt) (elR s) (celE (remL a b pre)) (remL a b pre).length pre.length i x a b) (.cons ?_ (.cons hlt (.cons hi (.cons (elR_at hj) (.cons hm (.cons hw .nil))))))) g⟩
      intro id o hid hg c hc
      obtain rfl : id = 0 := List.mem_singleton.1 hid
      cases hg
      exact celE_flat _ c hc
    | false =>
      rw [hq] at hm
      have h1 : remL a b [.mk i x dt s] = [.mk i x dt s] := by simp only [remL, hq]
      rw [h1, celE_snoc, List.length_append] at g
      refine ⟨m + 1, GoesR.step (zgm_ok tab_ok mixed fun_ok cFn_ok (rm1 cFn (elR l) (by1 dt) (elR s) (celE (remL a b pre)) (remL a b pre).length pre.length i x a b) (.cons ?_ (.cons hlt (.cons hi (.cons (elR_at hj) (.cons hm (.cons (cFn_tx _ (.mk i x dt s) ho) (.cons ?_ (.cons hw .nil))))))))) g⟩
      · intro id o hid hg c hc
        obtain rfl : id = 3 := List.mem_singleton.1 hid
        cases hg
        rcases List.mem_append.1 hc with hc | hc
        · exact celE_flat _ c hc
        · exact elD_flat (.mk i x dt s) c hc
      · exact app_el (o := oEl 1 (celE (remL a b pre))) (o2 := oEl 0 (elC i x (by1 dt) (elR s))) rfl rfl rfl rfl (celE_length _) rfl rfl rfl (by omega) rfl
theorem rm_ans (x : EII) : Ans Try.prog fRm [elsD x.1.1, i8 x.2.1, i8 x.2.2] (elsD (remL x.2.1 x.2.2 x.1.1)) ⟨0, [], []⟩ := by
  obtain ⟨⟨l, hl⟩, a, b⟩ := x
  obtain ⟨m, g⟩ := rm_loop l hl a b l [] rfl
  have hn := elR_length l
  have z := zans_ok tab_ok mixed fun_ok cFn_ok (rmG cFn (elR l) (celE (remL a b l)) (remL a b l).length a b) (.cons ?_ (.cons rfl (.cons g.goes .nil)))
  · exact z.frz rfl (frz_el rfl rfl (by decide) rfl)
  · rw [Bool.and_eq_true, Bool.and_eq_true]
    refine ⟨⟨rfl, decide_eq_true (by omega)⟩, ?_⟩
    rw [Int.toNat_natCast, hn]
    exact fitB_le56 (by have := hl.1; omega)
def cRm : ConF := liftC (eqC fRm (fun x : EII => [elsD x.1.1, i8 x.2.1, i8 x.2.2]) fun x => (elsD (remL x.2.1 x.2.2 x.1.1), ⟨0, [], []⟩))
theorem cRm_ok : ConOk Try.prog cRm := liftC_ok (eqC_ok rm_ans fun _ => rfl)
theorem cRm_at (hp : Hp) (l : List El) (hl : SmL l) (a b : UInt8) : cRm fRm [elsD l, i8 a, i8 b] hp = some (elsD (remL a b l), hp, none) :=
  lift_at (A := fun x : EII => [elsD x.1.1, i8 x.2.1, i8 x.2.2]) (D := fun x => elsD (remL x.2.1 x.2.2 x.1.1)) (fun x y hxy => by
    obtain ⟨h1, h2⟩ := eii_inj hxy
    rw [h1, h2]) hp (⟨l, hl⟩, a, b) rfl rfl
end
end Go.Proofs.Ytkcldejfmmeoaaa
