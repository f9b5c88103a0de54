/- Copies of elements: contracts for every nesting. -/
import Derived.Test.YtkcldejfmmeoaaaEd
import Derived.Test.YtkcldejfmmeoaaaQc
namespace Go.Proofs.Ytkcldejfmmeoaaa
open Go.RowKit

noncomputable section
/-! ### Elements that are not too long -/
mutual
def smE : El → Prop
  | .mk _ _ d s => d.length < 2 ^ 30 ∧ s.length < 2 ^ 30 ∧ smL s
def smL : List El → Prop
  | [] => True
  | x :: l => smE x ∧ smL l
end
theorem smL_at : ∀ {l : List El} {j : Nat} {x : El}, smL l → l[j]? = some x → smE x
  | [], _, _, _, h => by simp at h
  | y :: l, 0, x, ho, h => by
    simp at h
    subst h
    exact ho.1
  | y :: l, j + 1, x, ho, h => smL_at (l := l) (j := j) ho.2 (by simpa using h)
abbrev SmL (l : List El) : Prop := l.length < 2 ^ 30 ∧ smL l
abbrev ElD (d : Nat) : Type := {l : List El // depA l ≤ d ∧ SmL l}
abbrev ElD1 (d : Nat) : Type := {x : El // depE x ≤ d + 1 ∧ smE x}
/-! ### Rows of elements -/
abbrev oEl (k : Nat) (cl : List DV) : Ob := ⟨k, 0, 34, cl⟩
abbrev tyEE : List TypeId := [22, 22]
def eTI : TI := match tab 34 with
  | some i => i
  | none => ⟨.str, 1, 16, [], true⟩
theorem app_tabE (hp : Hp) (d x : DV) : builtinD tab hp .append [d, x] tyEE = match contD hp 4 x with
    | some (m, news) => appH hp 34 eTI d m news
    | none => none := by kernel_rfl
theorem eTI_ok : eTI.size = 4 ∧ eTI.bytes = 56 ∧ ∃ z zs, eTI.zero = z :: zs := ⟨by kernel_rfl, by kernel_rfl, .int .u8 0, [.int .u8 0, .nil, .nil], by kernel_rfl⟩
theorem fitB_le56 {n : Nat} (h : n ≤ 2 ^ 30) : fitB n 56 = true := by
  have h1 : Nat.ble n mxL = true := bleT (Nat.le_trans h (by decide))
  have h2 : Nat.ble (n * 56) mxB = true := bleT (Nat.le_trans (show _ ≤ 2 ^ 30 * 56 from Nat.mul_le_mul_right _ h) (by decide))
  simp only [fitB, h1, h2, Bool.and_self]
/-- an element behind a row of one's own -/
theorem app_el {hp : Hp} {id id2 n : Nat} {o o2 : Ob} {news : List DV} (hg : hp.get id = some o) (hk : o.k = 1) (hr : o.r = 0) (ht : o.t = 34) (hn : o.cs.length = n * 4) (hg2 : hp.get id2 = some o2) (hnew : o2.cs = news) (hl4 : news.length = 4) (hl : n < 2 ^ 30) (hid : id = 0) :
    builtinD tab hp .append [.sl id 0 4 n n, .sl id2 0 4 1 1] tyEE = some (.sl hp.n 0 4 (n + 1) (n + 1), (hp.put id ⟨2, 0, o.t, o.cs⟩).push ⟨3, 0, o.t, o.cs ++ news⟩, some 0) := by
  have hc : contD hp 4 (.sl id2 0 4 1 1) = some (1, news) := by
    have hb : Nat.ble (0 + (0 + 1) * 4) news.length = true := bleT (by rw [hl4]; exact Nat.le_refl 4)
    show (match hp.get id2 with
      | some o => match Nat.ble (0 + (0 + 1) * 4) o.cs.length with
        | true => some (0 + 1, (o.cs.drop 0).take ((0 + 1) * 4))
        | false => none
      | none => none) = _
    rw [hg2]
    simp only [hnew, hb, List.drop_zero]
    rw [List.take_of_length_le (by omega)]
  rw [app_tabE, hc]
  obtain ⟨e1, e2, z, zs, e3⟩ := eTI_ok
  have hf := fitB_le56 (n := n + (0 + 1)) (by omega)
  have hb : Nat.ble (n + (0 + 1)) n = false := bleF (by omega)
  have he : Nat.ble (0 + n * 4) o.cs.length = true := bleT (by omega)
  have hq : Nat.beq (0 + n * 4) o.cs.length = true := beqT (by omega)
  have hte : Nat.beq o.t 34 = true := beqT ht
  obtain ⟨k, r, t, cs⟩ := o
  dsimp only at hk hr ht hn hg he hq hte ⊢
  subst hk hr hid
  show appH hp 34 eTI (.sl 0 0 4 n n) (0 + 1) news = _
  simp only [appH, e1, e2, e3, show Nat.beq 4 0 = false from rfl, show Nat.beq 4 4 = true from rfl, hg, hb, he, hf, hq, hte, List.drop_zero]
  rfl
/-- elements as cells -/
def celE (l : List El) : List DV := (elR l).flatten
theorem celE_snoc (l : List El) (x : El) : celE (l ++ [x]) = celE l ++ elD x := by
  induction l with
  | nil => simp [celE, elR]
  | cons y l ih =>
    simp only [celE, List.cons_append, elR, List.flatten_cons, List.append_assoc] at ih ⊢
    rw [ih]
theorem celE_length (l : List El) : (celE l).length = l.length * 4 := by
  induction l with
  | nil => simp [celE, elR]
  | cons y l ih =>
    have := elD_length y
    simp only [celE, elR, List.flatten_cons, List.length_append, List.length_cons] at ih ⊢
    omega
theorem elD_flat (x : El) : ∀ d ∈ elD x, flat0 d = true := by
  obtain ⟨i, e, d, s⟩ := x
  intro a ha
  simp only [elD, List.mem_cons, List.not_mem_nil, or_false] at ha
  rcases ha with rfl | rfl | rfl | rfl <;> rfl
theorem celE_flat (l : List El) : ∀ d ∈ celE l, flat0 d = true := by
  induction l with
  | nil => intro d h; simp [celE, elR] at h
  | cons y l ih =>
    intro d h
    simp only [celE, elR, List.flatten_cons, List.mem_append] at h
    rcases h with h | h
    · exact elD_flat y d h
    · exact ih d h
theorem celE_at : ∀ {l : List El} {i j : Nat} {x : El} {d : DV}, l[i]? = some x → (elD x)[j]? = some d → (celE l)[i * 4 + j]? = some d
  | [], _, _, _, _, h, _ => by simp at h
  | y :: l, 0, j, x, d, h, hd => by
    simp at h
    subst h
    have hj := (List.getElem?_eq_some_iff.1 hd).1
    simp only [celE, elR, List.flatten_cons]
    rw [List.getElem?_append_left (by omega), Nat.zero_mul, Nat.zero_add]
    exact hd
  | y :: l, i + 1, j, x, d, h, hd => by
    have := celE_at (l := l) (i := i) (j := j) (by simpa using h) hd
    have hl := elD_length y
    simp only [celE, elR, List.flatten_cons] at this ⊢
    rw [List.getElem?_append_right (by omega), show (i + 1) * 4 + j - (elD y).length = i * 4 + j by omega]
    exact this
theorem el_frz {L : List Nat} {hp : Hp} (l : List El) (i : Nat) (cs : List DV) (h : (elR l)[i]? = some cs) : cs.length = 4 ∧ scals cs = true ∧ ∀ (j : Nat) (d : DV), cs[j]? = some d → ∃ e, (celE l)[0 + (i * 4 + j)]? = some e ∧ FrzD L hp e d := by
  obtain ⟨x, h1, rfl⟩ := elR_get h
  refine ⟨elD_length x, elD_scals x, fun j d hd => ⟨d, ?_, .flat _ (elD_flat x d (List.mem_of_getElem? hd))⟩⟩
  rw [Nat.zero_add]
  exact celE_at h1 hd
theorem frz_el {L : List Nat} {hp : Hp} {id k : Nat} {l : List El} {n c : Nat} (hL : posN id L = none) (hg : hp.get id = some (oEl k (celE l))) (hk : k ≠ 2) (hn : l.length = n) : FrzD L hp (.sl id 0 4 n c) (elsD l) :=
  FrzD.slice (o := oEl k (celE l)) hL hg hk (by rw [elR_length]; exact hn) (el_frz l)
/-! ### twin -/
abbrev fTx : FuncId := 35
abbrev fTw : FuncId := 17
abbrev fBc : FuncId := 52
abbrev oE0 : Ob := oEl 0 [.int .u8 0, .int .u8 0, .nil, .nil]
section
variable (C : ConF)
set_option maxRecDepth 1000000 in
theorem tx1 (ys ss : List (List DV)) (i e : UInt8) : zflat (zans Try.prog tab ftab C fTx [.agg (elC i e ys ss)] [(5, .q (.list 1 ys)), (9, .q (.list 4 ss))]) = some (.agg (elC i e ys ss), (C fBc [.list 1 ys] ⟨2, [oE0, oEl 0 (elC i e ys ss)], []⟩ = some (.list 1 ys, ⟨2, [oE0, oEl 0 (elC i e ys ss)], []⟩, none)) :: (C fTw [.list 4 ss] ⟨2, [oE0, oEl 0 (elC i e ys ss)], []⟩ = some (.list 4 ss, ⟨2, [oE0, oEl 0 (elC i e ys ss)], []⟩, none)) :: []) := by kernel_rfl
/-! ### Twin -/
abbrev kTw : List (Nat × Nat) := ksF ftab fTw
abbrev twL : Code := loopAt (bodyOf ftab fTw) 0
abbrev twS (xs : List (List DV)) (n j : Nat) : Slots := mkT 22 [(3, .sl 0 0 4 n n), (9, .list 4 xs), (10, .int .i64 (xs.length : Int)), (11, iN j)]
abbrev twH (cl : List DV) : Hp := ⟨1, [oEl 1 cl], []⟩
abbrev twE (n : Nat) : Slots := mkT 22 [(3, .sl 0 0 4 n n)]
abbrev twH3 (cl new : List DV) : Hp := ⟨3, [oEl 0 new, oEl 0 new, oEl 1 cl], []⟩
abbrev twH4 (cl new : List DV) : Hp := ⟨4, [oEl 3 (cl ++ new), oEl 0 new, oEl 0 new, oEl 2 cl], []⟩
set_option maxRecDepth 1000000 in
theorem tw1 (xs ys ss : List (List DV)) (cl : List DV) (n j : Nat) (i e : UInt8) : zgm [3] [3] (zsee Try.prog tab ftab C kTw [3, 9, 10, 11] twL (twS xs n j) (twH cl) [(12, .b true), (13, .n (.fptr (elC i e ys ss))), (17, .q (.agg (elC i e ys ss))), (19, .h (.sl 3 0 4 (n + 1) (n + 1)) (twH4 cl (elC i e ys ss)) (some 0)), (20, .w (iN (j + 1)))]) =
    some (.normal, twS xs (n + 1) (j + 1), twH (cl ++ elC i e ys ss), FlatIn [3] (twH4 cl (elC i e ys ss)) :: (decide ((j : Int) < (xs.length : Int)) = true) :: weA xs j i e ys ss ((C fTx [.agg (elC i e ys ss)] ⟨2, [oEl 0 (elC i e ys ss), oEl 1 cl], []⟩ = some (.agg (elC i e ys ss), ⟨2, [oEl 0 (elC i e ys ss), oEl 1 cl], []⟩, none)) ::
      (builtinD tab (twH3 cl (elC i e ys ss)) .append [.sl 0 0 4 n n, .sl 2 0 4 1 1] tyEE = some (.sl 3 0 4 (n + 1) (n + 1), twH4 cl (elC i e ys ss), some 0)) :: (DV.int .i64 (IntKind.i64.wrap ((j : Int) + 1)) = iN (j + 1)) :: [])) := by kernel_rfl
set_option maxRecDepth 1000000 in
theorem twO (xs : List (List DV)) (cl : List DV) (n j : Nat) : zsee Try.prog tab ftab C kTw [3] twL (twS xs n j) (twH cl) [(12, .b false)] = some (.exit 0, twE n, twH cl, (decide ((j : Int) < (xs.length : Int)) = false) :: []) := by kernel_rfl
set_option maxRecDepth 1000000 in
theorem twG (xs : List (List DV)) (cl : List DV) (n : Nat) : zans Try.prog tab ftab C fTw [.list 4 xs] [(8, .h (.sl 0 0 4 0 0) (twH []) none), (0, .l [3, 9, 10, 11] (.exit 0) (twE n) (twH cl))] =
    some (.sl 0 0 4 n n, twH cl, ((decide ((0 : Int) ≤ 0) && decide ((0 : Int) ≤ (xs.length : Int)) && fitB ((xs.length : Int).toNat) 56) = true) :: (mkRow ⟨0, [], []⟩ 34 4 [.int .u8 0, .int .u8 0, .nil, .nil] ((0 : Int).toNat) ((xs.length : Int).toNat) = (.sl 0 0 4 0 0, twH [], none)) :: (Goes Try.prog tab kTw (.loop twL) (twS xs 0 0) (twH []) (.exit 0) (twE n) (twH cl)) :: []) := by kernel_rfl
end
end
/-! ### The contracts -/
noncomputable section
def cTw (d : Nat) : ConF := liftC (eqC fTw (fun x : ElD d => [elsD x.1]) fun x => (elsD x.1, ⟨0, [], []⟩))
theorem cTw_at (d : Nat) (hp : Hp) (l : List El) (h : depA l ≤ d ∧ SmL l) : cTw d fTw [elsD l] hp = some (elsD l, hp, none) :=
  lift_at (A := fun x : ElD d => [elsD x.1]) (D := fun x => elsD x.1) (fun x y hxy => by
    simp only [List.cons.injEq, and_true] at hxy
    exact hxy) hp ⟨l, h⟩ rfl rfl
def cTx (d : Nat) : ConF := liftC (eqC fTx (fun x : ElD1 d => [.agg (elD x.1)]) fun x => (.agg (elD x.1), ⟨0, [], []⟩))
theorem cTx_at (d : Nat) (hp : Hp) (x : El) (h : depE x ≤ d + 1 ∧ smE x) : cTx d fTx [.agg (elD x)] hp = some (.agg (elD x), hp, none) :=
  lift_at (A := fun x : ElD1 d => [.agg (elD x.1)]) (D := fun x => .agg (elD x.1)) (fun x y hxy => by
    simp only [List.cons.injEq, and_true] at hxy
    exact hxy) hp ⟨x, h⟩ (by obtain ⟨i, e, d, s⟩ := x; rfl) (by obtain ⟨i, e, d, s⟩ := x; rfl)
theorem tx_ans (d : Nat) (hC : ConOk Try.prog (cTw d)) (x : ElD1 d) : Ans Try.prog fTx [.agg (elD x.1)] (.agg (elD x.1)) ⟨0, [], []⟩ := by
  obtain ⟨⟨i, e, y, s⟩, h1, h2, h3⟩ := x
  have h1 : depA s + 1 ≤ d + 1 := h1
  exact zflat_ok tab_ok mixed fun_ok (orK_ok cBc_ok hC) (tx1 (orK cBc (cTw d)) (by1 y) (elR s) i e) (.cons (orK_left (cBc_at _ y h2)) (.cons (orK_right (lift_oth (eqC_other (by kernel_rfl))) (cTw_at d _ s ⟨by omega, h3⟩)) .nil))
theorem tw_loop (d : Nat) (hC : ConOk Try.prog (cTx d)) (l : List El) (hl : depA l ≤ d + 1 ∧ SmL l) : ∀ (rest pre : List El), l = pre ++ rest → ∃ m, GoesR Try.prog tab kTw twL (m + 1) (twS (elR l) pre.length pre.length) (twH (celE pre)) (.exit 0) (twE l.length) (twH (celE l))
  | [], pre, e => by
    rw [List.append_nil] at e
    subst e
    have hn := elR_length l
    exact ⟨0, GoesR.last (zsee_ok tab_ok mixed fun_ok hC (twO (cTx d) (elR l) (celE l) l.length l.length) (.cons (decide_eq_false (by omega)) .nil)) (by intro h; cases h)⟩
  | .mk i x dt s :: rest, pre, e => by
    obtain ⟨hl1, hl2, hl3⟩ := hl
    have hn := elR_length l
    have hll : l.length = pre.length + (rest.length + 1) := by rw [e]; simp
    have hj : l[pre.length]? = some (.mk i x dt s) := by rw [e]; simp
    have hlt : decide ((pre.length : Int) < ((elR l).length : Int)) = true := decide_eq_true (by omega)
    have hi : idxOk (pre.length : Int) (elR l).length = true := idxOk_lt (by omega)
    have hs := dep_sub hj
    have ho : smE (.mk i x dt s) := smL_at hl3 hj
    have hw : DV.int .i64 (IntKind.i64.wrap ((pre.length : Int) + 1)) = iN (pre.length + 1) := congrArg (DV.int .i64) (wrapI (n := pre.length + 1) (by omega))
    obtain ⟨m, g⟩ := tw_loop d hC l ⟨hl1, hl2, hl3⟩ rest (pre ++ [.mk i x dt s]) (by rw [e, List.append_assoc]; rfl)
    rw [List.length_append, celE_snoc] at g
    have z := zgm_ok tab_ok mixed fun_ok hC (tw1 (cTx d) (elR l) (by1 dt) (elR s) (celE pre) pre.length pre.length i x) (.cons ?_ (.cons hlt (.cons hi (.cons (elR_at hj) (.cons (cTx_at d _ (.mk i x dt s) ⟨Nat.succ_le_succ (by omega), ho⟩) (.cons ?_ (.cons hw .nil)))))))
    · exact ⟨m + 1, GoesR.step z g⟩
    · intro id o hid hg a ha
      obtain rfl : id = 3 := List.mem_singleton.1 hid
      cases hg
      rcases List.mem_append.1 ha with ha | ha
      · exact celE_flat pre a ha
      · exact elD_flat (.mk i x dt s) a ha
    · exact app_el (o := oEl 1 (celE pre)) (o2 := oEl 0 (elC i x (by1 dt) (elR s))) rfl rfl rfl rfl (celE_length pre) rfl rfl rfl (by omega) rfl
theorem tw_from {C : ConF} (hC : ConOk Try.prog C) (l : List El) (hl : SmL l) (g : Goes Try.prog tab kTw (.loop twL) (twS (elR l) 0 0) (twH []) (.exit 0) (twE l.length) (twH (celE l))) : Ans Try.prog fTw [elsD l] (elsD l) ⟨0, [], []⟩ := by
  have hn := elR_length l
  have z := zans_ok tab_ok mixed fun_ok hC (twG C (elR l) (celE l) l.length) (.cons ?_ (.cons rfl (.cons g .nil)))
  · exact z.frz rfl (frz_el rfl rfl (by decide) rfl)
  · rw [Bool.and_eq_true, Bool.and_eq_true]
    refine ⟨⟨rfl, decide_eq_true (by omega)⟩, ?_⟩
    rw [Int.toNat_natCast, hn]
    exact fitB_le56 (by have := hl.1; omega)
theorem tw_ans : ∀ (d : Nat) (x : ElD d), Ans Try.prog fTw [elsD x.1] (elsD x.1) ⟨0, [], []⟩
  | 0, ⟨l, h, hs⟩ => by
    obtain rfl := dep_zero h
    exact tw_from noC_ok [] hs (GoesR.last (zsee_ok tab_ok mixed fun_ok noC_ok (twO noC (elR []) [] 0 0) (.cons (decide_eq_false (by simp [elR])) .nil)) (by intro h; cases h)).goes
  | d + 1, ⟨l, h⟩ => by
    have hC : ConOk Try.prog (cTw d) := liftC_ok (eqC_ok (tw_ans d) fun _ => rfl)
    have hX : ConOk Try.prog (cTx d) := liftC_ok (eqC_ok (tx_ans d hC) fun _ => rfl)
    obtain ⟨m, g⟩ := tw_loop d hX l h l [] rfl
    exact tw_from hX l h.2 g.goes
theorem cTw_ok (d : Nat) : ConOk Try.prog (cTw d) := liftC_ok (eqC_ok (tw_ans d) fun _ => rfl)
theorem cTx_ok (d : Nat) : ConOk Try.prog (cTx d) := liftC_ok (eqC_ok (tx_ans d (cTw_ok d)) fun _ => rfl)
end
end Go.Proofs.Ytkcldejfmmeoaaa
