/- ElementJoins over data. -/
import Derived.Test.YtkcldejfmmeoaaaFi
namespace Go.Proofs.Ytkcldejfmmeoaaa
open Go.RowKit

noncomputable section
/-! ### Rows that grow -/
theorem fitB_gen {n b : Nat} (h : n ≤ 2 ^ 30) (hb : b ≤ 64) : fitB n b = true := by
  have h1 : Nat.ble n mxL = true := bleT (Nat.le_trans h (by decide))
  have h2 : Nat.ble (n * b) mxB = true := bleT (Nat.le_trans (Nat.mul_le_mul h hb) (by decide))
  simp only [fitB, h1, h2, Bool.and_self]
def SbS (e : TypeId) (s : Nat) (hp : Hp) (d : DV) (cl : List DV) (n : Nat) : Prop := cl.length = n * s ∧ ∃ id o, d = .sl id 0 s n n ∧ hp.get id = some o ∧ (o.k = 0 ∨ o.k = 1 ∨ o.k = 3) ∧ o.t = e ∧ o.cs = cl
theorem appS {e : TypeId} {j : TI} {z : DV} {zs : List DV} {s : Nat} (hz : j.zero = z :: zs) (hs : j.size = s) (hs0 : s ≠ 0) (hby : j.bytes ≤ 64) {hp : Hp} {d : DV} {cl news : List DV} {n : Nat} (hd : SbS e s hp d cl n) {m : Nat} (hm : news.length = m * s) (hl : n + m ≤ 2 ^ 30) :
    ∃ d' hp' mm, appH hp e j d m news = some (d', hp', mm) ∧ SbS e s hp' d' (cl ++ news) (n + m) ∧ hp'.ls = hp.ls := by
  have q0 : Nat.beq s 0 = false := beqF hs0
  have q1 : Nat.beq s s = true := beqT rfl
  obtain ⟨hcl, id, o, rfl, h1, h2, h3, h4⟩ := hd
  have hlen : (cl ++ news).length = (n + m) * s := by rw [List.length_append, hcl, hm, Nat.add_mul]
  cases m with
  | zero =>
    obtain rfl : news = [] := List.eq_nil_of_length_eq_zero (by simpa using hm)
    rw [List.append_nil]
    exact ⟨.sl id 0 s n n, hp, none, by simp only [appH, hz, hs, q0], ⟨hcl, id, o, rfl, h1, h2, h3, h4⟩, rfl⟩
  | succ m =>
    have hf := fitB_gen (n := n + (m + 1)) hl hby
    have hb : Nat.ble (n + (m + 1)) n = false := bleF (by omega)
    have he : Nat.ble (0 + n * s) o.cs.length = true := bleT (by rw [h4, hcl]; omega)
    have ht : (o.cs.drop 0).take (n * s) = cl := by rw [h4, List.drop_zero, ← hcl, List.take_length]
    have hq : Nat.beq (0 + n * s) o.cs.length = true := beqT (by rw [h4, hcl]; omega)
    have hte : Nat.beq o.t e = true := beqT h3
    rcases h2 with h2 | h2 | h2
    · refine ⟨.sl hp.n 0 s (n + (m + 1)) (n + (m + 1)), pushH hp 1 e ((o.cs.drop 0).take (n * s) ++ news), none, ?_, ⟨hlen, hp.n, _, rfl, get_push_new _ _, .inr (.inl rfl), rfl, by rw [ht]⟩, rfl⟩
      simp only [appH, hz, hs, q0, q1, h1, hb, he, hf, h2]
    · refine ⟨.sl hp.n 0 s (n + (m + 1)) (n + (m + 1)), (hp.put id ⟨2, o.r, o.t, o.cs⟩).push ⟨3, rootOf 1 o.r id, o.t, o.cs.drop 0 ++ news⟩, mmin (some (rootOf 1 o.r id)) (some id), ?_, ⟨hlen, hp.n, _, rfl, get_push_new (hp.put id _) _, .inr (.inr rfl), h3, by simp [h4]⟩, rfl⟩
      simp only [appH, hz, hs, q0, q1, h1, hb, he, hf, h2, hq, hte]
    · refine ⟨.sl hp.n 0 s (n + (m + 1)) (n + (m + 1)), (hp.put id ⟨2, o.r, o.t, o.cs⟩).push ⟨3, rootOf 3 o.r id, o.t, o.cs.drop 0 ++ news⟩, mmin (some (rootOf 3 o.r id)) (some id), ?_, ⟨hlen, hp.n, _, rfl, get_push_new (hp.put id _) _, .inr (.inr rfl), h3, by simp [h4]⟩, rfl⟩
      simp only [appH, hz, hs, q0, q1, h1, hb, he, hf, h2, hq, hte]
theorem k_ne {o : Ob} (h : o.k = 0 ∨ o.k = 1 ∨ o.k = 3) : o.k ≠ 2 := by omega
/-- elements behind a row -/
theorem appE {hp : Hp} {d : DV} {l : List El} (hd : SbS 34 4 hp d (celE l) l.length) (m : List El) (hl : l.length + m.length ≤ 2 ^ 30) :
    ∃ d' hp' mm, builtinD tab hp .append [d, elsD m] tyEE = some (d', hp', mm) ∧ SbS 34 4 hp' d' (celE (l ++ m)) (l ++ m).length ∧ hp'.ls = hp.ls := by
  obtain ⟨e1, e2, z, zs, e3⟩ := eTI_ok
  obtain ⟨d', hp', mm, h1, h2, h3⟩ := appS (j := eTI) e3 e1 (by decide) (by rw [e2]; decide) hd (celE_length m) hl
  refine ⟨d', hp', mm, ?_, ?_, h3⟩
  · rw [app_tabE]
    show (match (some ((elR m).length, (elR m).flatten) : Option (Nat × List DV)) with
      | some (m, news) => appH hp 34 eTI d m news
      | none => none) = _
    rw [elR_length]
    exact h1
  · have : celE (l ++ m) = celE l ++ celE m := by
      induction l with
      | nil => rfl
      | cons x l ih =>
        simp only [celE, List.cons_append, elR, List.flatten_cons, List.append_assoc] at ih ⊢
        rw [show (elR (l ++ m)).flatten = (elR l).flatten ++ (elR m).flatten from by
          clear ih h1 h2 h3 hd hl
          induction l with
          | nil => rfl
          | cons y l ih => simp only [List.cons_append, elR, List.flatten_cons, List.append_assoc, ih]]
    rw [this, List.length_append]
    exact h2
/-- bytes behind a row -/
theorem appU {hp : Hp} {d : DV} {a : List UInt8} (hd : SbS 5 1 hp d (celB a) a.length) (b : List UInt8) (hl : a.length + b.length ≤ 2 ^ 30) :
    ∃ d' hp' mm, builtinD tab hp .append [d, byL b] tyBB = some (d', hp', mm) ∧ SbS 5 1 hp' d' (celB (a ++ b)) (a ++ b).length ∧ hp'.ls = hp.ls := by
  obtain ⟨d', hp', mm, h1, h2, h3⟩ := appS (j := u8TI) (z := .int .u8 0) (zs := []) rfl rfl (by decide) (by decide) hd (m := b.length) (by rw [celB_length, Nat.mul_one]) hl
  refine ⟨d', hp', mm, ?_, ?_, h3⟩
  · rw [app_tab, contD_list]
    exact h1
  · rw [celB_append, List.length_append]
    exact h2
theorem SbS.frzE {hp : Hp} {d : DV} {l : List El} (h : SbS 34 4 hp d (celE l) l.length) : FrzD [] hp d (elsD l) := by
  obtain ⟨_, id, o, rfl, h1, h2, h3, h4⟩ := h
  exact FrzD.slice (o := o) rfl h1 (k_ne h2) (elR_length l) fun i cs hi => by rw [h4]; exact el_frz l i cs hi
theorem SbS.frzB {hp : Hp} {d : DV} {a : List UInt8} (h : SbS 5 1 hp d (celB a) a.length) : FrzD [] hp d (byL a) := by
  obtain ⟨_, id, o, rfl, h1, h2, h3, h4⟩ := h
  exact frzD_bytes (o := o) rfl h1 (k_ne h2) fun i b hb => by rw [h4]; simp [celB, hb]
/-- the callee sees lists -/
theorem AnsH.frz1 {P : Program} {f : FuncId} {a a0 : DV} {hp : Hp} {d : DV} (h : Ans P f [a0] d h00) (hl : hp.ls = []) (ha : FrzD [] hp a a0) : AnsH P f [a] hp d h00 := by
  have hm := melt_nil hl
  refine ⟨h.1, fun W0 S0 E w vs hs hv => ?_⟩
  obtain ⟨v, vs', rfl, k1, k2⟩ := hv.uncons
  rw [k2.unnil]
  refine (h.2 W0 S0 (meltE E [] hp) w [v] (hs_melt hs hm) (.cons (mlt_ok hs (.frz _ _ ha) k1) (.nil _ _))).mono ?_
  rintro e w' ⟨E', v', rfl, hg, hh, hvr⟩
  exact ⟨E', v', rfl, (gon_melt hm E w).trans hg, hh, hvr⟩
/-! ### The law's paths -/
def cJs : ConF := orK cBk cCnt
theorem cJs_ok : ConOk Try.prog cJs := orK_ok cBk_ok cCnt_ok
theorem cBk_cn {args : List DV} {hp : Hp} : cBk fCn args hp = none := by
  have h1 : cAl fCn args hp = none := rfl
  have h2 : cGr fCn args hp = none := lift_oth (eqC_other (by kernel_rfl))
  have h3 : cEn fCn args hp = none := lift_oth (eqC_other (by kernel_rfl))
  have h4 : cDe fCn args hp = none := lift_oth (eqC_other (by kernel_rfl))
  have h5 : cSz fCn args hp = none := conC_other (by kernel_rfl)
  unfold cBk orK
  rw [h1]
  dsimp only
  rw [h2]
  dsimp only
  rw [h3]
  dsimp only
  rw [h4]
  exact h5
abbrev fJs : FuncId := 6
abbrev oL4 : Hp := ⟨1, [oEl 0 []], []⟩
abbrev oL1 : Hp := ⟨1, [oB8 0 0 []], []⟩
abbrev jsS (us bs ws : List (List DV)) : Slots := mkT 99 [(5, .bool true), (6, .list 1 us), (8, .list 1 bs), (10, .list 4 ws)]
section
variable (C : ConF) (xs ys : List (List DV))
set_option maxRecDepth 1000000 in
theorem js1 : zflat (zans Try.prog tab ftab C fJs [.list 4 xs, .list 4 ys] [(15, .q (.bool true)), (17, .q (.bool true))]) = some (.bool true, aQ C fAl [] (.bool true) :: aQ C fGr [.list 4 xs] (.bool true) :: []) := by kernel_rfl
set_option maxRecDepth 1000000 in
theorem js2 : zflat (zans Try.prog tab ftab C fJs [.list 4 xs, .list 4 ys] [(15, .q (.bool true)), (17, .q (.bool false)), (20, .q (.bool true))]) = some (.bool true, aQ C fAl [] (.bool true) :: aQ C fGr [.list 4 xs] (.bool false) :: aQ C fGr [.list 4 ys] (.bool true) :: []) := by kernel_rfl
abbrev jsN (t : List Prop) : List Prop := aQ C fAl [] (.bool true) :: aQ C fGr [.list 4 xs] (.bool false) :: aQ C fGr [.list 4 ys] (.bool false) :: t
abbrev jsY (t : Yath) : Yath := (15, .q (.bool true)) :: (17, .q (.bool false)) :: (20, .q (.bool false)) :: t
set_option maxRecDepth 1000000 in
theorem js3 (e f : Nat) (bs : List (List DV)) : zflat (zans Try.prog tab ftab C fJs [.list 4 xs, .list 4 ys] (jsY [(29, .q (.tuple [.list 1 [], iN (e + 1)])), (34, .q (.tuple [.list 1 bs, iN f])), (38, .b true)])) = some (.bool true, jsN C xs ys (aQ C fEn [.list 4 xs] (.tuple [.list 1 [], iN (e + 1)]) :: aQ C fEn [.list 4 ys] (.tuple [.list 1 bs, iN f]) :: ((((e + 1 : Nat) : Int) != 0) = true) :: [])) := by kernel_rfl
set_option maxRecDepth 1000000 in
theorem js4 (f : Nat) (us : List (List DV)) : zflat (zans Try.prog tab ftab C fJs [.list 4 xs, .list 4 ys] (jsY [(29, .q (.tuple [.list 1 us, iN 0])), (34, .q (.tuple [.list 1 [], iN (f + 1)])), (41, .b true)])) = some (.bool true, jsN C xs ys (aQ C fEn [.list 4 xs] (.tuple [.list 1 us, iN 0]) :: aQ C fEn [.list 4 ys] (.tuple [.list 1 [], iN (f + 1)]) :: ((((f + 1 : Nat) : Int) != 0) = true) :: [])) := by kernel_rfl
section
variable (us bs ws cs ns : List (List DV)) (d1 d2 d3 d4 : DV) (h1 h2 h3 h4 : Hp) (m1 m2 m3 m4 : Mut) (g h : Nat) (c : Int)
abbrev jsM (t : Yath) : Yath := jsY ((29, .q (.tuple [.list 1 us, iN 0])) :: (34, .q (.tuple [.list 1 bs, iN 0])) :: (46, .h d1 h1 m1) :: (48, .h d2 h2 m2) :: (9, .s [5, 6, 8, 10] (jsS us bs ws) h00) :: (51, .q (.tuple [.list 1 cs, iN g])) :: (60010, .t 5 [5, 6, 8, 10, 11, 12] (.tuple [.list 4 ns, iN h]) h00) :: (57, .h d3 h3 m3) :: (59, .h d4 h4 m4) :: (64, .q (.int .i64 c)) :: t)
abbrev jsP (v : Bool) (t : List Prop) : List Prop := jsN C xs ys (aQ C fEn [.list 4 xs] (.tuple [.list 1 us, iN 0]) :: aQ C fEn [.list 4 ys] (.tuple [.list 1 bs, iN 0]) :: (builtinD tab oL4 .append [sl4 0 0, .list 4 xs] tyEE = some (d1, h1, m1)) :: (builtinD tab h1 .append [d1, .list 4 ys] tyEE = some (d2, h2, m2)) :: Seen (mkT 99 [(5, .bool true), (6, .list 1 us), (8, .list 1 bs), (10, d2)]) h2 (jsS us bs ws) h00 ::
  aQ C fEn [.list 4 ws] (.tuple [.list 1 cs, iN g]) :: (builtinD tab oL1 .append [slN 0 0, .list 1 us] tyBB = some (d3, h3, m3)) :: (builtinD tab h3 .append [d3, .list 1 bs] tyBB = some (d4, h4, m4)) :: AnsH Try.prog fDe [d4] h4 (.tuple [.list 4 ns, iN h]) h00 :: aQ C fCn [.list 4 ws] (.int .i64 c) :: (decide (c > 64) = v) :: t)
set_option maxRecDepth 1000000 in
theorem js5 : zflat (zans Try.prog tab ftab C fJs [.list 4 xs, .list 4 ys] (jsM us bs ws cs ns d1 d2 d3 d4 h1 h2 h3 h4 m1 m2 m3 m4 4 4 c [(65, .b true)])) = some (.bool true, jsP C xs ys us bs ws cs ns d1 d2 d3 d4 h1 h2 h3 h4 m1 m2 m3 m4 4 4 c true []) := by kernel_rfl
set_option maxRecDepth 1000000 in
theorem js6 (s1 s2 s3 : ByteArray) : zflat (zans Try.prog tab ftab C fJs [.list 4 xs, .list 4 ys] (jsM us bs ws cs ns d1 d2 d3 d4 h1 h2 h3 h4 m1 m2 m3 m4 0 0 c [(65, .b false), (82, .h (.str s1) h00 none), (84, .h (.str s2) h00 none), (86, .h (.str s3) h00 none), (87, .n (.str s1)), (88, .b true), (97, .q (.bool true))])) =
    some (.bool true, jsP C xs ys us bs ws cs ns d1 d2 d3 d4 h1 h2 h3 h4 m1 m2 m3 m4 0 0 c false ((convD tab h00 25 9 (.list 1 cs) = some (.str s1, h00, none)) :: (convD tab h00 25 9 (.list 1 us) = some (.str s2, h00, none)) :: (convD tab h00 25 9 (.list 1 bs) = some (.str s3, h00, none)) :: (binD tab .add 9 (.str s2) (.str s3) = some (.str s1)) :: (eqBytes s1.data.toList s1.data.toList = true) :: aQ C fSa [.list 4 ns, .list 4 ws] (.bool true) :: [])) := by kernel_rfl
end
end
end
end Go.Proofs.Ytkcldejfmmeoaaa
