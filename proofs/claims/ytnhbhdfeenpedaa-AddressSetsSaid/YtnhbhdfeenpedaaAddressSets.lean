/- AddressSets: adding, removing, searching, union and intersection answer as the reference does, for lists of at most 300 addresses, and the results are new: the statement returns true. No conditions. -/
import Derived.Test.YtnhbhdfeenpedaaTe
import Derived.WalkKit
import Derived.ProofKit
import Derived.OpenShut
import Derived.ShutString
import Derived.ChangeOld
import Derived.Below
namespace Go.Proofs.Ytnhbhdfeenpedaa.addressSets
open Go.ChangeShapes Go.WideShapes Go.ChangeAt Go.RowKit

theorem own : ownKnob Try.prog.godebug = none := by kernel_rfl
theorem laidOut : laidOutB Try.prog = true := by kernel_rfl

noncomputable section
theorem lift_other {C : CallF} {f : FuncId} {args : List DV} {hp : Hp} (h : C f args ⟨0, []⟩ = none) : liftC C f args hp = none := by
  unfold liftC
  rw [h]
  split <;> rfl
def cAS : CallF := orK cCk (orK cSt (orK cSa (orK cU1 (orK cRe (orK cU3 (orK cR2 (orK cPa (orK cRa (orK cRr (orK cPh (orK cRh (orK cRn2 (orK cPt cRt)))))))))))))
theorem cAS_ok : CallOk Try.prog cAS := orK_ok cCk_ok (orK_ok cSt_ok (orK_ok cSa_ok (orK_ok cU1_ok (orK_ok cRe_ok (orK_ok cU3_ok (orK_ok cR2_ok (orK_ok cPa_ok (orK_ok cRa_ok (orK_ok cRr_ok (orK_ok cPh_ok (orK_ok cRh_ok (orK_ok cRn2_ok (orK_ok cPt_ok (cRt_ok))))))))))))))
set_option maxRecDepth 1000000 in
theorem long1 (xs ys : List (List DV)) (a : Nat) : zflat (zans Try.prog tab ftab cAS 9 [.list 6 xs, .list 6 ys, aD a] [(33, .b true)]) = some (.bool true, [decide ((xs.length : Int) > 300) = true]) := by
  kernel_rfl
set_option maxRecDepth 1000000 in
theorem long2 (xs ys : List (List DV)) (a : Nat) : zflat (zans Try.prog tab ftab cAS 9 [.list 6 xs, .list 6 ys, aD a] [(33, .b false), (37, .b true)]) = some (.bool true, [decide ((xs.length : Int) > 300) = false, decide ((ys.length : Int) > 300) = true]) := by
  kernel_rfl
set_option maxRecDepth 1000000 in
theorem main (xs ys r8 r14 r22 r24 : List (List DV)) (a : Nat) (d7 d12 d20 : DV) (h7 h12 h20 g1 g2 : Hp) (e9 e13 e17 e21 e25 c : Int) (b16 g : Bool) : zflat (zans Try.prog tab ftab cAS 9 [.list 6 xs, .list 6 ys, aD a] [(33, .b false), (37, .b false), (41, .h d7 h7 none), (4, .s [0, 1, 5, 7] (mkT 184 [(0, .list 6 xs), (1, .list 6 ys), (5, .fptr (aC a)), (7, .list 6 xs)]) ⟨0, []⟩), (45, .q (.tuple [.list 6 r8, .int .i64 e9])), (51, .q (.tuple [.list 6 r8, .int .i64 e9])), (57, .r (.tuple [d12, .int .i64 e13]) h12), (63, .q (.tuple [.list 6 r14, .int .i64 e13])), (69, .q (.tuple [.bool b16, .int .i64 e17])), (75, .q (.tuple [.bool b16, .int .i64 e17])), (81, .r (.tuple [d20, .int .i64 e21]) h20), (87, .q (.tuple [.list 6 r22, .int .i64 e21])), (93, .q (.tuple [.list 6 r24, .int .i64 e25])), (99, .q (.tuple [.list 6 r24, .int .i64 e25])), (104, .q (.bool true)), (108, .b true), (113, .q (.bool true)), (118, .b true), (123, .b true), (128, .b true), (133, .q (.bool true)), (138, .b true), (143, .q (.bool true)), (148, .b true), (0, .l [0, 5, 7, 12, 20, 28, 29] (.exit 0) (mkT 184 [(0, .list 6 xs), (5, .fptr (aC a)), (7, .list 6 xs), (12, d12), (28, .bool true)]) g1), (0, .l [0, 5, 7, 12, 28, 30] (.exit 2) (mkT 184 [(0, .list 6 xs), (7, .list 6 xs), (28, .bool true)]) g2), (174, .q (.bool true)), (178, .q (.int .i64 c)), (179, .b g), (181, .q (.bool g)), (182, .b true)]) =
    some (.bool true, [decide ((xs.length : Int) > 300) = false, decide ((ys.length : Int) > 300) = false, builtinD tab ⟨2, [⟨0, 0, 77, []⟩, ⟨0, 0, 77, aC a⟩]⟩ .append [.sl 1 0 6 0 0, .list 6 xs] [82, 82] = some (d7, h7, none), Seen (mkT 184 [(0, .list 6 xs), (1, .list 6 ys), (5, .ptr 0 0), (7, d7)]) h7 (mkT 184 [(0, .list 6 xs), (1, .list 6 ys), (5, .fptr (aC a)), (7, .list 6 xs)]) ⟨0, []⟩, cAS 49 [.list 6 xs, aD a] ⟨0, []⟩ = some (.tuple [.list 6 r8, .int .i64 e9], ⟨0, []⟩, none), cAS 68 [.list 6 xs, aD a] ⟨0, []⟩ = some (.tuple [.list 6 r8, .int .i64 e9], ⟨0, []⟩, none), cAS 50 [.list 6 xs, aD a] ⟨0, []⟩ = some (.tuple [d12, .int .i64 e13], h12, none), cAS 69 [.list 6 xs, aD a] h12 = some (.tuple [.list 6 r14, .int .i64 e13], h12, none), cAS 70 [.list 6 xs, aD a] h12 = some (.tuple [.bool b16, .int .i64 e17], h12, none), cAS 71 [.list 6 xs, aD a] h12 = some (.tuple [.bool b16, .int .i64 e17], h12, none), cAS 72 [.list 6 xs, .list 6 ys] h12 = some (.tuple [d20, .int .i64 e21], h20, none), cAS 73 [.list 6 xs, .list 6 ys] h20 = some (.tuple [.list 6 r22, .int .i64 e21], h20, none), cAS 74 [.list 6 xs, .list 6 ys] h20 = some (.tuple [.list 6 r24, .int .i64 e25], h20, none), cAS 75 [.list 6 xs, .list 6 ys] h20 = some (.tuple [.list 6 r24, .int .i64 e25], h20, none), cAS 53 [.list 6 r8, .list 6 r8] h20 = some (.bool true, h20, none), (e9 == e9) = true, cAS 53 [d12, .list 6 r14] h20 = some (.bool true, h20, none), (e13 == e13) = true, (b16 == b16) = true, (e17 == e17) = true, cAS 53 [d20, .list 6 r22] h20 = some (.bool true, h20, none), (e21 == e21) = true, cAS 53 [.list 6 r24, .list 6 r24] h20 = some (.bool true, h20, none), (e25 == e25) = true, Goes Try.prog tab (ksF ftab 9) (.loop (loopAt (bodyOf ftab 9) 0)) (mkT 184 [(0, .list 6 xs), (5, .fptr (aC a)), (7, .list 6 xs), (12, d12), (20, d20), (28, .bool true), (29, iN 0)]) h20 (.exit 0) (mkT 184 [(0, .list 6 xs), (5, .fptr (aC a)), (7, .list 6 xs), (12, d12), (28, .bool true)]) g1, Goes Try.prog tab (ksF ftab 9) (.loop (loopAt (bodyOf ftab 9) 1)) (mkT 184 [(0, .list 6 xs), (5, .fptr (aC a)), (7, .list 6 xs), (12, d12), (28, .bool true), (30, iN 0)]) g1 (.exit 2) (mkT 184 [(0, .list 6 xs), (7, .list 6 xs), (28, .bool true)]) g2, cAS 53 [.list 6 xs, .list 6 xs] g2 = some (.bool true, g2, none), cAS 76 [.list 6 xs] g2 = some (.int .i64 c, g2, none), (c == 0) = g, cAS 77 [.list 6 xs] g2 = some (.bool g, g2, none), (g == g) = true]) := by
  kernel_rfl
/-- slices of one's own, to be written to -/
def Own (hp : Hp) (d : DV) (ns : List Nat) : Prop := (d = .list 6 [] ∧ ns = []) ∨ ∃ id N, d = .sl id 0 6 ns.length N ∧ ∃ o, hp.get id = some o ∧ o.k = 0 ∧ o.cs = room ns N ∧ ns.length ≤ N
theorem Own.frz {hp : Hp} {d : DV} {ns : List Nat} (h : Own hp d ns) : frz1 hp d (adL ns) := by
  rcases h with ⟨rfl, rfl⟩ | ⟨id, N, rfl, o, h1, _, h2, _⟩
  · exact ⟨rfl, rfl⟩
  · exact ShA.frz (.inr ⟨id, o, N, N, rfl, h1, h2⟩)
theorem Own.keep {hp hp' : Hp} {d : DV} {ns : List Nat} (h : Own hp d ns) (hk : ∀ j n c, d = .sl j 0 6 n c → hp'.get j = hp.get j) : Own hp' d ns := by
  rcases h with h | ⟨id, N, rfl, o, h1, h2⟩
  · exact .inl h
  · exact .inr ⟨id, N, rfl, o, by rw [hk id _ _ rfl]; exact h1, h2⟩
set_option maxRecDepth 1000000 in
theorem st1Go (xs : List (List DV)) (a id n N k : Nat) (d12 : DV) (h h2 : Hp) (m : Mut) : zsee Try.prog tab ftab cAS (ksF ftab 9) [0, 5, 7, 12, 20, 28, 29] (loopAt (bodyOf ftab 9) 0) (mkT 184 [(0, .list 6 xs), (5, .fptr (aC a)), (7, .list 6 xs), (12, d12), (20, (.sl id 0 6 n N)), (28, .bool true), (29, iN k)]) h [(153, .b true), (159, .n (.ptr id (k * 6))), (65535, .h (.tuple []) h2 m), (155, .w (iN (k + 1)))] =
    some (.normal, (mkT 184 [(0, .list 6 xs), (5, .fptr (aC a)), (7, .list 6 xs), (12, d12), (20, (.sl id 0 6 n N)), (28, .bool true), (29, iN (k + 1))]), h2, [decide ((k : Int) < (n : Int)) = true, idxOk (k : Int) n = true, DV.ptr id (0 + (k : Int).toNat * 6) = .ptr id (k * 6), storeH h id (k * 6) (aC a) = some (h2, m), DV.int .i64 (IntKind.i64.wrap ((k : Int) + 1)) = iN (k + 1)]) := by
  kernel_rfl
set_option maxRecDepth 1000000 in
theorem st1Out (xs : List (List DV)) (a id n N k : Nat) (d12 : DV) (h : Hp) : zsee Try.prog tab ftab cAS (ksF ftab 9) [0, 5, 7, 12, 28] (loopAt (bodyOf ftab 9) 0) (mkT 184 [(0, .list 6 xs), (5, .fptr (aC a)), (7, .list 6 xs), (12, d12), (20, (.sl id 0 6 n N)), (28, .bool true), (29, iN k)]) h [(153, .b false)] =
    some (.exit 0, (mkT 184 [(0, .list 6 xs), (5, .fptr (aC a)), (7, .list 6 xs), (12, d12), (28, .bool true)]), h, [decide ((k : Int) < (n : Int)) = false]) := by
  kernel_rfl
set_option maxRecDepth 1000000 in
theorem st1Nil (xs : List (List DV)) (a : Nat) (d12 : DV) (h : Hp) : zsee Try.prog tab ftab cAS (ksF ftab 9) [0, 5, 7, 12, 28] (loopAt (bodyOf ftab 9) 0) (mkT 184 [(0, .list 6 xs), (5, .fptr (aC a)), (7, .list 6 xs), (12, d12), (20, (.list 6 [])), (28, .bool true), (29, iN 0)]) h [] =
    some (.exit 0, (mkT 184 [(0, .list 6 xs), (5, .fptr (aC a)), (7, .list 6 xs), (12, d12), (28, .bool true)]), h, []) := by
  kernel_rfl
theorem st1_loop {xs : List (List DV)} {a : Nat} {d12 : DV} {h0 : Hp} {d : DV} {ns : List Nat} (own : Own h0 d ns) (hn : ns.length < 2 ^ 30) : ∃ h', (Goes Try.prog tab (ksF ftab 9) (.loop (loopAt (bodyOf ftab 9) 0)) (mkT 184 [(0, .list 6 xs), (5, .fptr (aC a)), (7, .list 6 xs), (12, d12), (20, d), (28, .bool true), (29, iN 0)]) h0 (.exit 0) (mkT 184 [(0, .list 6 xs), (5, .fptr (aC a)), (7, .list 6 xs), (12, d12), (28, .bool true)]) h') ∧ ∀ j, (∀ off s n c, d ≠ .sl j off s n c) → h'.get j = h0.get j := by
  rcases own with ⟨rfl, rfl⟩ | ⟨id, N, rfl, o, hg, hk, hc, hN⟩
  · exact ⟨h0, Goes.loop 0 (fun _ => (mkT 184 [(0, .list 6 xs), (5, .fptr (aC a)), (7, .list 6 xs), (12, d12), (20, (.list 6 [])), (28, .bool true), (29, iN 0)])) (fun _ => h0) (fun k hk => absurd hk (by omega)) (zsee_ok tab_ok mixed fun_ok cAS_ok (st1Nil xs a d12 h0) .nil) (by intro h; cases h), fun _ _ => rfl⟩
  · generalize hn' : ns.length = n at *
    have hlen : o.cs.length = N * 6 := by
      rw [hc]
      exact room_length (by omega)
    have loop := Goes.loopI (P := Try.prog) (T := tab) (ks := (ksF ftab 9)) (x := (loopAt (bodyOf ftab 9) 0)) (e := .exit 0) n
      (fun k sl h => sl = (mkT 184 [(0, .list 6 xs), (5, .fptr (aC a)), (7, .list 6 xs), (12, d12), (20, (.sl id 0 6 n N)), (28, .bool true), (29, iN k)]) ∧ (∃ o, h.get id = some o ∧ o.k = 0 ∧ o.cs.length = N * 6) ∧ ∀ j, j ≠ id → h.get j = h0.get j)
      (fun sl h => sl = (mkT 184 [(0, .list 6 xs), (5, .fptr (aC a)), (7, .list 6 xs), (12, d12), (28, .bool true)]) ∧ ∀ j, j ≠ id → h.get j = h0.get j) (by intro h; cases h) ?_ ?_ (sl := (mkT 184 [(0, .list 6 xs), (5, .fptr (aC a)), (7, .list 6 xs), (12, d12), (20, (.sl id 0 6 n N)), (28, .bool true), (29, iN 0)])) (hp := h0) ⟨rfl, ⟨o, hg, hk, hlen⟩, fun _ _ => rfl⟩
    · obtain ⟨s1, h1, g, rfl, hj⟩ := loop
      exact ⟨h1, g, fun j hd => hj j fun e => by
        subst e
        exact hd _ _ _ _ rfl⟩
    · rintro k sl h hkn ⟨rfl, ⟨o, hg, hk, hlen⟩, hj⟩
      have hst : storeH h id (k * 6) (aC a) = some (h.put id ⟨0, o.r, o.t, layD o.cs (k * 6) (aC a)⟩, some id) := by
        have hb : Nat.ble (k * 6 + (aC a).length) o.cs.length = true := bleT (by rw [hlen]; show k * 6 + 6 ≤ _; omega)
        simp only [storeH, hg, hb, hk]
      refine ⟨_, _, zsee_ok tab_ok mixed fun_ok cAS_ok (st1Go xs a id n N k d12 h _ _) (.cons (decide_eq_true (by omega)) (.cons (idxOk_lt hkn) (.cons (by rw [Int.toNat_natCast, Nat.zero_add]) (.cons hst (.cons (inc (by omega)) .nil))))), rfl, ⟨_, by rw [Hp.get_put _ _ _ _ hg, if_pos rfl], rfl, ?_⟩, fun j hne => ?_⟩
      · show (layD o.cs (k * 6) (aC a)).length = N * 6
        rw [layD_length (by rw [hlen]; show k * 6 + 6 ≤ _; omega), hlen]
      · rw [Hp.get_put _ _ _ _ hg, if_neg hne]
        exact hj j hne
    · rintro sl h ⟨rfl, _, hj⟩
      exact ⟨_, _, zsee_ok tab_ok mixed fun_ok cAS_ok (st1Out xs a id n N n d12 h) (.cons (decide_eq_false (by omega)) .nil), rfl, hj⟩
set_option maxRecDepth 1000000 in
theorem st2Go (xs : List (List DV)) (a id n N k : Nat) (h h2 : Hp) (m : Mut) : zsee Try.prog tab ftab cAS (ksF ftab 9) [0, 5, 7, 12, 28, 30] (loopAt (bodyOf ftab 9) 1) (mkT 184 [(0, .list 6 xs), (5, .fptr (aC a)), (7, .list 6 xs), (12, (.sl id 0 6 n N)), (28, .bool true), (30, iN k)]) h [(163, .b true), (169, .n (.ptr id (k * 6))), (65535, .h (.tuple []) h2 m), (165, .w (iN (k + 1)))] =
    some (.normal, (mkT 184 [(0, .list 6 xs), (5, .fptr (aC a)), (7, .list 6 xs), (12, (.sl id 0 6 n N)), (28, .bool true), (30, iN (k + 1))]), h2, [decide ((k : Int) < (n : Int)) = true, idxOk (k : Int) n = true, DV.ptr id (0 + (k : Int).toNat * 6) = .ptr id (k * 6), storeH h id (k * 6) (aC a) = some (h2, m), DV.int .i64 (IntKind.i64.wrap ((k : Int) + 1)) = iN (k + 1)]) := by
  kernel_rfl
set_option maxRecDepth 1000000 in
theorem st2Out (xs : List (List DV)) (a id n N k : Nat) (h : Hp) : zsee Try.prog tab ftab cAS (ksF ftab 9) [0, 7, 28] (loopAt (bodyOf ftab 9) 1) (mkT 184 [(0, .list 6 xs), (5, .fptr (aC a)), (7, .list 6 xs), (12, (.sl id 0 6 n N)), (28, .bool true), (30, iN k)]) h [(163, .b false)] =
    some (.exit 2, (mkT 184 [(0, .list 6 xs), (7, .list 6 xs), (28, .bool true)]), h, [decide ((k : Int) < (n : Int)) = false]) := by
  kernel_rfl
set_option maxRecDepth 1000000 in
theorem st2Nil (xs : List (List DV)) (a : Nat) (h : Hp) : zsee Try.prog tab ftab cAS (ksF ftab 9) [0, 7, 28] (loopAt (bodyOf ftab 9) 1) (mkT 184 [(0, .list 6 xs), (5, .fptr (aC a)), (7, .list 6 xs), (12, (.list 6 [])), (28, .bool true), (30, iN 0)]) h [] =
    some (.exit 2, (mkT 184 [(0, .list 6 xs), (7, .list 6 xs), (28, .bool true)]), h, []) := by
  kernel_rfl
theorem st2_loop {xs : List (List DV)} {a : Nat} {h0 : Hp} {d : DV} {ns : List Nat} (own : Own h0 d ns) (hn : ns.length < 2 ^ 30) : ∃ h', (Goes Try.prog tab (ksF ftab 9) (.loop (loopAt (bodyOf ftab 9) 1)) (mkT 184 [(0, .list 6 xs), (5, .fptr (aC a)), (7, .list 6 xs), (12, d), (28, .bool true), (30, iN 0)]) h0 (.exit 2) (mkT 184 [(0, .list 6 xs), (7, .list 6 xs), (28, .bool true)]) h') ∧ ∀ j, (∀ off s n c, d ≠ .sl j off s n c) → h'.get j = h0.get j := by
  rcases own with ⟨rfl, rfl⟩ | ⟨id, N, rfl, o, hg, hk, hc, hN⟩
  · exact ⟨h0, Goes.loop 0 (fun _ => (mkT 184 [(0, .list 6 xs), (5, .fptr (aC a)), (7, .list 6 xs), (12, (.list 6 [])), (28, .bool true), (30, iN 0)])) (fun _ => h0) (fun k hk => absurd hk (by omega)) (zsee_ok tab_ok mixed fun_ok cAS_ok (st2Nil xs a h0) .nil) (by intro h; cases h), fun _ _ => rfl⟩
  · generalize hn' : ns.length = n at *
    have hlen : o.cs.length = N * 6 := by
      rw [hc]
      exact room_length (by omega)
    have loop := Goes.loopI (P := Try.prog) (T := tab) (ks := (ksF ftab 9)) (x := (loopAt (bodyOf ftab 9) 1)) (e := .exit 2) n
      (fun k sl h => sl = (mkT 184 [(0, .list 6 xs), (5, .fptr (aC a)), (7, .list 6 xs), (12, (.sl id 0 6 n N)), (28, .bool true), (30, iN k)]) ∧ (∃ o, h.get id = some o ∧ o.k = 0 ∧ o.cs.length = N * 6) ∧ ∀ j, j ≠ id → h.get j = h0.get j)
      (fun sl h => sl = (mkT 184 [(0, .list 6 xs), (7, .list 6 xs), (28, .bool true)]) ∧ ∀ j, j ≠ id → h.get j = h0.get j) (by intro h; cases h) ?_ ?_ (sl := (mkT 184 [(0, .list 6 xs), (5, .fptr (aC a)), (7, .list 6 xs), (12, (.sl id 0 6 n N)), (28, .bool true), (30, iN 0)])) (hp := h0) ⟨rfl, ⟨o, hg, hk, hlen⟩, fun _ _ => rfl⟩
    · obtain ⟨s1, h1, g, rfl, hj⟩ := loop
      exact ⟨h1, g, fun j hd => hj j fun e => by
        subst e
        exact hd _ _ _ _ rfl⟩
    · rintro k sl h hkn ⟨rfl, ⟨o, hg, hk, hlen⟩, hj⟩
      have hst : storeH h id (k * 6) (aC a) = some (h.put id ⟨0, o.r, o.t, layD o.cs (k * 6) (aC a)⟩, some id) := by
        have hb : Nat.ble (k * 6 + (aC a).length) o.cs.length = true := bleT (by rw [hlen]; show k * 6 + 6 ≤ _; omega)
        simp only [storeH, hg, hb, hk]
      refine ⟨_, _, zsee_ok tab_ok mixed fun_ok cAS_ok (st2Go xs a id n N k h _ _) (.cons (decide_eq_true (by omega)) (.cons (idxOk_lt hkn) (.cons (by rw [Int.toNat_natCast, Nat.zero_add]) (.cons hst (.cons (inc (by omega)) .nil))))), rfl, ⟨_, by rw [Hp.get_put _ _ _ _ hg, if_pos rfl], rfl, ?_⟩, fun j hne => ?_⟩
      · show (layD o.cs (k * 6) (aC a)).length = N * 6
        rw [layD_length (by rw [hlen]; show k * 6 + 6 ≤ _; omega), hlen]
      · rw [Hp.get_put _ _ _ _ hg, if_neg hne]
        exact hj j hne
    · rintro sl h ⟨rfl, _, hj⟩
      exact ⟨_, _, zsee_ok tab_ok mixed fun_ok cAS_ok (st2Out xs a id n N n h) (.cons (decide_eq_false (by omega)) .nil), rfl, hj⟩
theorem vr_fbox {W0 : World} {S0 : Nat → Prop} {E : Env} {hp : Hp} {w : World} (hs : HS W0 0 S0 E hp w) {id a : Nat} (hg : hp.get id = some ⟨0, 0, 77, aC a⟩) {v : Value} (hv : VR w E (.ptr id 0) v) : VR w (ro (roS E)) (.fptr (aC a)) v := by
  obtain ⟨rfl, hd⟩ := hv.of_ptr
  obtain ⟨ob, hg', hok⟩ := hs.ob id hd
  obtain rfl : ob = ⟨0, 0, 77, aC a⟩ := by
    rw [hg] at hg'
    exact (Option.some.inj hg').symm
  obtain ⟨k0, k1, vs, k2, k3, k4, k5⟩ := hok
  have hcell : ∀ (j : Nat) (d : DV), (aC a)[j]? = some d → ∃ v, vs[E.base id + (0 + j)]? = some v ∧ VR w E d v := fun j d hj => by
    obtain ⟨v, hv1, hv2⟩ := k5.get hj
    refine ⟨v, ?_, hv2⟩
    rw [List.getElem?_take] at hv1
    split at hv1
    · simpa using hv1
    · cases hv1
  refine .fptr _ _ (E.b id) (E.base id + 0) (fun j => (vs[E.base id + (0 + j)]?).getD undef) (.inr ⟨id, hd, rfl⟩) (fun j d hj => ?_) (fun j d hj => ?_)
  · obtain ⟨v, hv1, _⟩ := hcell j d hj
    rw [k2.cell, Nat.add_assoc, hv1]
    rfl
  · obtain ⟨v, hv1, hv2⟩ := hcell j d hj
    simp only [hv1, Option.getD_some]
    exact plain_ok hv2 (aC_plain a d (List.mem_of_getElem? hj))
theorem was_at {ns : List Nat} (hl : ns.length ≤ 300) (a : Nat) : ∃ d7 h7, builtinD tab ⟨2, [⟨0, 0, 77, []⟩, ⟨0, 0, 77, aC a⟩]⟩ .append [.sl 1 0 6 0 0, adL ns] [82, 82] = some (d7, h7, none) ∧ h7.get 0 = some ⟨0, 0, 77, aC a⟩ ∧ frz1 h7 d7 (adL ns) := by
  have hc : contD ⟨2, [⟨0, 0, 77, []⟩, ⟨0, 0, 77, aC a⟩]⟩ 6 (adL ns) = some (ns.length, flat ns) := by
    rw [← rows_length]
    rfl
  rw [app_tabA, hc]
  simp only
  rcases Nat.eq_zero_or_pos ns.length with h0 | hpos
  · have hn : ns = [] := List.eq_nil_of_length_eq_zero h0
    subst hn
    exact ⟨_, _, rfl, rfl, ShA.frz (.inr ⟨1, _, 0, 0, rfl, rfl, rfl⟩)⟩
  · obtain ⟨m, hm⟩ : ∃ m, ns.length = m + 1 := ⟨ns.length - 1, by omega⟩
    refine ⟨.sl 2 0 6 ns.length ns.length, ⟨3, [⟨1, 0, 77, flat ns⟩, ⟨0, 0, 77, []⟩, ⟨0, 0, 77, aC a⟩]⟩, ?_, rfl, ShA.frz (.inr ⟨2, _, ns.length, _, rfl, rfl, ?_⟩)⟩
    · have hg : (⟨2, [⟨0, 0, 77, []⟩, ⟨0, 0, 77, aC a⟩]⟩ : Hp).get 1 = some ⟨0, 0, 77, []⟩ := rfl
      have hb : Nat.ble (0 + (m + 1)) 0 = false := bleF (by omega)
      have he : Nat.ble (0 + 0 * 6) ([] : List DV).length = true := rfl
      have hf := fitB_le2 (n := 0 + (m + 1)) (b := 6) (by omega) (by decide)
      rw [hm]
      simp only [appH, hg, hb, he, hf, show Nat.beq 6 6 = true from rfl]
      rw [Nat.zero_add]
      rfl
    · rw [room, Nat.sub_self]
      simp [nlist]
theorem see_was {xs ys : List (List DV)} {a : Nat} {ns : List Nat} {d7 : DV} {h7 : Hp} (hx : xs = rows ns) (h1 : h7.get 0 = some ⟨0, 0, 77, aC a⟩) (h2 : frz1 h7 d7 (adL ns)) : Seen (mkT 184 [(0, .list 6 xs), (1, .list 6 ys), (5, .ptr 0 0), (7, d7)]) h7 (mkT 184 [(0, .list 6 xs), (1, .list 6 ys), (5, .fptr (aC a)), (7, .list 6 xs)]) ⟨0, []⟩ :=
  seen_slots fun W0 S0 E w hs => ⟨ro (roS E), fun b hb => .inl hb, hs_freeze hs, fun t d hm => by
    subst hx
    simp only [List.mem_cons, Prod.mk.injEq, List.not_mem_nil, or_false] at hm
    rcases hm with ⟨rfl, rfl⟩ | ⟨rfl, rfl⟩ | ⟨rfl, rfl⟩ | ⟨rfl, rfl⟩
    · exact ⟨.list 6 (rows ns), by kernel_rfl, fun v hv => frz1_ok hs hv ⟨rfl, rfl⟩⟩
    · exact ⟨.list 6 ys, by kernel_rfl, fun v hv => frz1_ok hs hv ⟨rfl, rfl⟩⟩
    · exact ⟨.ptr 0 0, by kernel_rfl, fun v hv => vr_fbox hs h1 hv⟩
    · exact ⟨d7, by kernel_rfl, fun v hv => frz1_ok hs hv h2⟩⟩
theorem all {s t : List Nat} {a : Nat} (hs : ∀ n ∈ s, n < 2 ^ 48) (ht : ∀ n ∈ t, n < 2 ^ 48) (ha : a < 2 ^ 48) : Ans Try.prog 9 [adL s, adL t, aD a] (.bool true) ⟨0, []⟩ := by
  have rs := rows_length s
  have rt := rows_length t
  by_cases g1 : s.length > 300
  · exact zflat_ok tab_ok mixed fun_ok cAS_ok (long1 (rows s) (rows t) a) (.cons (decide_eq_true (by omega)) .nil)
  have n1 : decide (((rows s).length : Int) > 300) = false := decide_eq_false (by omega)
  by_cases g2 : t.length > 300
  · exact zflat_ok tab_ok mixed fun_ok cAS_ok (long2 (rows s) (rows t) a) (.cons n1 (.cons (decide_eq_true (by omega)) .nil))
  have n2 : decide (((rows t).length : Int) > 300) = false := decide_eq_false (by omega)
  obtain ⟨d7, h7, e7, w1, w2⟩ := was_at (ns := s) (by omega) a
  have see7 := see_was (xs := rows s) (ys := rows t) (a := a) rfl w1 w2
  let S : Ads := ⟨s, hs, by omega⟩
  let T : Ads := ⟨t, ht, by omega⟩
  let B : Adr := ⟨a, ha⟩
  let SA : InW := ⟨(S, B), by show s.length < 2 ^ 29; omega⟩
  let SV : InV := ⟨SA, by show s.length < 2 ^ 20; omega⟩
  let ST : Pr2 := ⟨(S, T), by show s.length < 2 ^ 20; omega, by show t.length < 2 ^ 20; omega⟩
  have p8 : ∀ hp, cAS 49 [adL s, aD a] hp = some (lsD (addR s a), hp, none) := fun hp => (orK_right (conC_other (by kernel_rfl)) (orK_right (conC_other (by kernel_rfl)) (orK_right (conC_other (by kernel_rfl)) (orK_right (conC_other (by kernel_rfl)) (orK_right (conC_other (by kernel_rfl)) (orK_right (lift_other (by kernel_rfl)) (orK_right (lift_other (by kernel_rfl)) (orK_left (cPa_at hp SV)))))))))
  have q8 : ∀ hp, cAS 68 [adL s, aD a] hp = some (lsD (addR s a), hp, none) := fun hp => (orK_right (conC_other (by kernel_rfl)) (orK_right (conC_other (by kernel_rfl)) (orK_right (conC_other (by kernel_rfl)) (orK_right (conC_other (by kernel_rfl)) (orK_right (conC_other (by kernel_rfl)) (orK_right (lift_other (by kernel_rfl)) (orK_right (lift_other (by kernel_rfl)) (orK_right (lift_other (by kernel_rfl)) (orK_left (cRa_at hp SA))))))))))
  have q12 : ∀ hp, cAS 69 [adL s, aD a] hp = some (lsD (remR s a), hp, none) := fun hp => (orK_right (conC_other (by kernel_rfl)) (orK_right (conC_other (by kernel_rfl)) (orK_right (conC_other (by kernel_rfl)) (orK_right (conC_other (by kernel_rfl)) (orK_right (conC_other (by kernel_rfl)) (orK_right (lift_other (by kernel_rfl)) (orK_right (lift_other (by kernel_rfl)) (orK_right (lift_other (by kernel_rfl)) (orK_right (lift_other (by kernel_rfl)) (orK_left (cRr_at hp SA)))))))))))
  have p16 : ∀ hp, cAS 70 [adL s, aD a] hp = some (.tuple [.bool (hasR s a).1, .int .i64 (hasR s a).2], hp, none) := fun hp => (orK_right (conC_other (by kernel_rfl)) (orK_right (conC_other (by kernel_rfl)) (orK_right (conC_other (by kernel_rfl)) (orK_right (conC_other (by kernel_rfl)) (orK_right (conC_other (by kernel_rfl)) (orK_right (lift_other (by kernel_rfl)) (orK_right (lift_other (by kernel_rfl)) (orK_right (lift_other (by kernel_rfl)) (orK_right (lift_other (by kernel_rfl)) (orK_right (lift_other (by kernel_rfl)) (orK_left (cPh_at hp SA))))))))))))
  have q16 : ∀ hp, cAS 71 [adL s, aD a] hp = some (.tuple [.bool (hasR s a).1, .int .i64 (hasR s a).2], hp, none) := fun hp => (orK_right (conC_other (by kernel_rfl)) (orK_right (conC_other (by kernel_rfl)) (orK_right (conC_other (by kernel_rfl)) (orK_right (conC_other (by kernel_rfl)) (orK_right (conC_other (by kernel_rfl)) (orK_right (lift_other (by kernel_rfl)) (orK_right (lift_other (by kernel_rfl)) (orK_right (lift_other (by kernel_rfl)) (orK_right (lift_other (by kernel_rfl)) (orK_right (lift_other (by kernel_rfl)) (orK_right (lift_other (by kernel_rfl)) (orK_left (cRh_at hp SA)))))))))))))
  have q20 : ∀ hp, cAS 73 [adL s, adL t] hp = some (lsD (uniR s t), hp, none) := fun hp => (orK_right (conC_other (by kernel_rfl)) (orK_right (conC_other (by kernel_rfl)) (orK_right (conC_other (by kernel_rfl)) (orK_right (conC_other (by kernel_rfl)) (orK_right (conC_other (by kernel_rfl)) (orK_right (lift_other (by kernel_rfl)) (orK_right (lift_other (by kernel_rfl)) (orK_right (lift_other (by kernel_rfl)) (orK_right (lift_other (by kernel_rfl)) (orK_right (lift_other (by kernel_rfl)) (orK_right (lift_other (by kernel_rfl)) (orK_right (lift_other (by kernel_rfl)) (orK_left (cRn2_at hp ST))))))))))))))
  have p24 : ∀ hp, cAS 74 [adL s, adL t] hp = some (lsD (meeR s t), hp, none) := fun hp => (orK_right (conC_other (by kernel_rfl)) (orK_right (conC_other (by kernel_rfl)) (orK_right (conC_other (by kernel_rfl)) (orK_right (conC_other (by kernel_rfl)) (orK_right (conC_other (by kernel_rfl)) (orK_right (lift_other (by kernel_rfl)) (orK_right (lift_other (by kernel_rfl)) (orK_right (lift_other (by kernel_rfl)) (orK_right (lift_other (by kernel_rfl)) (orK_right (lift_other (by kernel_rfl)) (orK_right (lift_other (by kernel_rfl)) (orK_right (lift_other (by kernel_rfl)) (orK_right (lift_other (by kernel_rfl)) (orK_left (cPt_at hp ST)))))))))))))))
  have q24 : ∀ hp, cAS 75 [adL s, adL t] hp = some (lsD (meeR s t), hp, none) := fun hp => (orK_right (conC_other (by kernel_rfl)) (orK_right (conC_other (by kernel_rfl)) (orK_right (conC_other (by kernel_rfl)) (orK_right (conC_other (by kernel_rfl)) (orK_right (conC_other (by kernel_rfl)) (orK_right (lift_other (by kernel_rfl)) (orK_right (lift_other (by kernel_rfl)) (orK_right (lift_other (by kernel_rfl)) (orK_right (lift_other (by kernel_rfl)) (orK_right (lift_other (by kernel_rfl)) (orK_right (lift_other (by kernel_rfl)) (orK_right (lift_other (by kernel_rfl)) (orK_right (lift_other (by kernel_rfl)) (orK_right (lift_other (by kernel_rfl)) (cRt_at hp ST)))))))))))))))
  have sm : ∀ hp d e (x y : Ads), frz1 hp d (adL x.1) → frz1 hp e (adL y.1) → x = y → cAS 53 [d, e] hp = some (.bool true, hp, none) := fun hp d e x y h k hxy => by
    have q := cSa_at (hp := hp) x y h k
    rw [decide_eq_true (congrArg Subtype.val hxy)] at q
    exact (orK_right (conC_other (by kernel_rfl)) (orK_right (conC_other (by kernel_rfl)) (orK_left q)))
  have k1 : ∀ hp, cAS 76 [adL s] hp = some (.int .i64 (chk s), hp, none) := fun hp => orK_left (cCk_at S ⟨rfl, rfl⟩)
  have k3 : ∀ hp, cAS 77 [adL s] hp = some (.bool (decide (chk s = 0)), hp, none) := fun hp => (orK_right (conC_other (by kernel_rfl)) (orK_left (cSt_at hp S)))
  have k2 : ((chk s == 0) : Bool) = decide (chk s = 0) := by
    rw [Bool.eq_iff_iff, beq_iff_eq, decide_eq_true_eq]
  obtain ⟨d12, h12, p12, own12⟩ : ∃ d12 h12, cAS 50 [adL s, aD a] ⟨0, []⟩ = some (.tuple [d12, .int .i64 (remR s a).2], h12, none) ∧ Own h12 d12 (remR s a).1 := by
    by_cases hc : (remR s a).2 = 0
    · obtain ⟨c1, c2, c3⟩ := remR_ok hc
      have q := cRe_at (hp := ⟨0, []⟩) (d := adL s) hs (by omega) ha c1 c2 (.inl rfl)
      rw [hc, c3]
      exact ⟨_, _, (orK_right (conC_other (by kernel_rfl)) (orK_right (conC_other (by kernel_rfl)) (orK_right (conC_other (by kernel_rfl)) (orK_right (conC_other (by kernel_rfl)) (orK_left q))))), .inr ⟨_, _, rfl, ⟨0, 0, 77, room (dif s [a]) (s.length + 1)⟩, rfl, rfl, rfl, by have := len_dif s [a]; omega⟩⟩
    · have q := cR2_at ⟨0, []⟩ ⟨SA, hc⟩
      rw [remR_no hc]
      refine ⟨_, _, (orK_right (conC_other (by kernel_rfl)) (orK_right (conC_other (by kernel_rfl)) (orK_right (conC_other (by kernel_rfl)) (orK_right (conC_other (by kernel_rfl)) (orK_right (conC_other' ?_) (orK_right (lift_other (by kernel_rfl)) (orK_left q))))))), .inl ⟨rfl, rfl⟩⟩
      rintro ⟨⟨⟨x1, x2⟩, hx1, hx2⟩, hf⟩
      have hf : frz1 ⟨0, []⟩ (adL s) (adL x1.1) ∧ frz1 ⟨0, []⟩ (aD a) (aD x2.1) ∧ True := hf
      have e1 : S = x1 := adL_inj (frz1_fun (adL_frz ⟨0, []⟩ s) hf.1)
      have e2 : B = x2 := aD_inj (frz1_fun (frz_aD ⟨0, []⟩ a) hf.2.1)
      subst e1 e2
      refine hc ?_
      unfold remR
      rw [if_pos (show chk s = 0 from hx1), if_pos (show a ∈ s from hx2)]
  have hlu : (uniR s t).1.length ≤ s.length + t.length := by
    unfold uniR
    split
    · split
      · have := len_both s t
        show (uni s t).length ≤ _
        omega
      · exact Nat.zero_le _
    · exact Nat.zero_le _
  have hlr : (remR s a).1.length ≤ s.length := by
    unfold remR
    split
    · split
      · exact len_dif s [a]
      · exact Nat.zero_le _
    · exact Nat.zero_le _
  obtain ⟨d20, h20, p20, own20, keep20, new20⟩ : ∃ d20 h20, cAS 72 [adL s, adL t] h12 = some (.tuple [d20, .int .i64 (uniR s t).2], h20, none) ∧ Own h20 d20 (uniR s t).1 ∧ (∀ j, j < h12.n → h20.get j = h12.get j) ∧ ∀ j off s n c, d20 = .sl j off s n c → h12.n ≤ j := by
    by_cases hc : (uniR s t).2 = 0
    · have q := cU1_at (hp := h12) (d := adL s) (e := adL t) ⟨ST, hc⟩ ⟨rfl, rfl⟩ ⟨rfl, rfl⟩
      rw [hc]
      refine ⟨_, _, (orK_right (conC_other (by kernel_rfl)) (orK_right (conC_other (by kernel_rfl)) (orK_right (conC_other (by kernel_rfl)) (orK_left q)))), .inr ⟨_, _, rfl, ⟨0, 0, 77, room (uniR s t).1 (s.length + t.length)⟩, ?_, rfl, rfl, hlu⟩, fun j hj => ?_, fun j off s' n c h => ?_⟩
      · rw [layH_get rfl, if_neg (by omega)]
        simp
        rfl
      · rw [layH_get rfl, if_pos hj]
      · cases h
        omega
    · have q := cU3_at h12 ⟨ST, hc⟩
      rw [uniR_no hc]
      refine ⟨_, _, (orK_right (conC_other (by kernel_rfl)) (orK_right (conC_other (by kernel_rfl)) (orK_right (conC_other (by kernel_rfl)) (orK_right (conC_other' ?_) (orK_right (conC_other (by kernel_rfl)) (orK_left q)))))), .inl ⟨rfl, rfl⟩, fun _ _ => rfl, fun j off s' n c h => by cases h⟩
      rintro ⟨⟨x, hx⟩, hf⟩
      have hf : frz1 h12 (adL s) (adL x.1.1.1) ∧ frz1 h12 (adL t) (adL x.1.2.1) ∧ True := hf
      have e1 : adL s = adL x.1.1.1 := frz1_fun (adL_frz h12 s) hf.1
      have e2 : adL t = adL x.1.2.1 := frz1_fun (adL_frz h12 t) hf.2.1
      have := pr2_inj (x := ST) (y := x) e1 e2
      subst this
      exact hc hx
  have lt12 : ∀ j n c, d12 = .sl j 0 6 n c → j < h12.n := fun j n c e => by
    rcases own12 with ⟨h, _⟩ | ⟨id, N, h, o, h1, _⟩
    · rw [h] at e
      cases e
    · rw [h] at e
      cases e
      exact Hp.get_lt h1
  have own12' : Own h20 d12 (remR s a).1 := own12.keep fun j n c e => keep20 j (lt12 j n c e)
  obtain ⟨g1, l1, kg1⟩ := st1_loop (xs := rows s) (a := a) (d12 := d12) own20 (by omega)
  have own12'' : Own g1 d12 (remR s a).1 := own12'.keep fun j n c e => kg1 j fun off s' n' c' h => by
    have h1 := lt12 j n c e
    have h2 := new20 j off s' n' c' h
    omega
  obtain ⟨g2, l2, _⟩ := st2_loop (xs := rows s) (a := a) own12'' (by omega)
  have bnd : ∀ (l : List Nat), (∀ n ∈ l, n < 2 ^ 48) → l.length ≤ 1000 → ∃ x : Ads, x.1 = l := fun l h1 h2 => ⟨⟨l, h1, by omega⟩, rfl⟩
  have badd : ∀ n ∈ (addR s a).1, n < 2 ^ 48 := fun n hn => by
    unfold addR at hn
    split at hn
    · split at hn
      · rcases (mem_uni n _ _).1 hn with h | h
        · exact hs n h
        · simp at h
          subst h
          exact ha
      · cases hn
    · cases hn
  have ladd : (addR s a).1.length ≤ 1000 := by
    unfold addR
    split
    · split
      · rename_i h
        show (uni s [a]).length ≤ _
        omega
      · exact Nat.zero_le _
    · exact Nat.zero_le _
  have brem : ∀ n ∈ (remR s a).1, n < 2 ^ 48 := fun n hn => by
    unfold remR at hn
    split at hn
    · rename_i hc
      split at hn
      · exact hs n ((mem_dif n (chk_ok hc).2 (List.pairwise_singleton _ _)).1 hn).1
      · cases hn
    · cases hn
  have buni : ∀ n ∈ (uniR s t).1, n < 2 ^ 48 := fun n hn => by
    unfold uniR at hn
    split at hn
    · split at hn
      · rcases (mem_uni n _ _).1 hn with h | h
        · exact hs n h
        · exact ht n h
      · cases hn
    · cases hn
  have bmee : ∀ n ∈ (meeR s t).1, n < 2 ^ 48 := fun n hn => by
    unfold meeR at hn
    split at hn
    · rename_i hc
      exact hs n ((mem_mee n (chk_ok hc.1).2 (chk_ok hc.2).2).1 hn).1
    · cases hn
  have lmee : (meeR s t).1.length ≤ 1000 := by
    unfold meeR
    split
    · have := len_both s t
      show (mee s t).length ≤ _
      omega
    · exact Nat.zero_le _
  obtain ⟨x1, hx1⟩ := bnd _ badd ladd
  obtain ⟨x2, hx2⟩ := bnd _ brem (by omega)
  obtain ⟨x3, hx3⟩ := bnd _ buni (by omega)
  obtain ⟨x4, hx4⟩ := bnd _ bmee lmee
  have s1 := sm h20 (adL (addR s a).1) (adL (addR s a).1) x1 x1 (by rw [hx1]; exact adL_frz _ _) (by rw [hx1]; exact adL_frz _ _) rfl
  have s2 := sm h20 d12 (adL (remR s a).1) x2 x2 (by rw [hx2]; exact own12'.frz) (by rw [hx2]; exact adL_frz _ _) rfl
  have s3 := sm h20 d20 (adL (uniR s t).1) x3 x3 (by rw [hx3]; exact own20.frz) (by rw [hx3]; exact adL_frz _ _) rfl
  have s4 := sm h20 (adL (meeR s t).1) (adL (meeR s t).1) x4 x4 (by rw [hx4]; exact adL_frz _ _) (by rw [hx4]; exact adL_frz _ _) rfl
  have s5 := sm g2 (adL s) (adL s) S S (adL_frz _ _) (adL_frz _ _) rfl
  have k1 := k1 g2
  have k3 := k3 g2
  exact zflat_ok tab_ok mixed fun_ok cAS_ok (main (rows s) (rows t) (rows (addR s a).1) (rows (remR s a).1) (rows (uniR s t).1) (rows (meeR s t).1) a d7 d12 d20 h7 h12 h20 g1 g2 _ _ _ _ _ _ _ _) (.cons n1 (.cons n2 (.cons e7 (.cons see7 (.cons (p8 _) (.cons (q8 _) (.cons p12 (.cons (q12 _) (.cons (p16 _) (.cons (q16 _) (.cons p20 (.cons (q20 _) (.cons (p24 _) (.cons (q24 _) (.cons s1 (.cons (beq_self_eq_true _) (.cons s2 (.cons (beq_self_eq_true _) (.cons (beq_self_eq_true _) (.cons (beq_self_eq_true _) (.cons s3 (.cons (beq_self_eq_true _) (.cons s4 (.cons (beq_self_eq_true _) (.cons l1 (.cons l2 (.cons s5 (.cons k1 (.cons k2 (.cons k3 (.cons (beq_self_eq_true _) .nil)))))))))))))))))))))))))))))))
end

set_option maxRecDepth 100000 in
set_option maxHeartbeats 8000000 in
theorem walk (w : World) (A0 : Option Addr) (n0 c0 : Nat) (a0 : _) (r0 : (Ty.slice adrTy).rep w (· < w.heap.size) a0 [.slice A0 n0 c0]) (A1 : Option Addr) (n1 c1 : Nat) (a1 : _) (r1 : (Ty.slice adrTy).rep w (· < w.heap.size) a1 [.slice A1 n1 c1]) (x2 : List Int) (l2 : x2.length = 6) (w2 : ∀ a ∈ x2, (Lit.int .u8 a).wf = true) :
    Calls Try.prog 9 #[.slice A0 n0 c0, .slice A1 n1 c1, intsV .u8 x2] w fun e w' => e = .returned (.bool true) ∧ Below w.heap.size w w' := by
  obtain ⟨va, ha⟩ := vr_adrs r0
  obtain ⟨vb, hb⟩ := vr_adrs r1
  obtain ⟨c, lc, vc⟩ := vr_adr (w := w) (E := ro fun b => b < w.heap.size) l2 w2
  exact law_ok (all ha hb lc) (.cons va (.cons vb (.cons vc (.nil _ _))))

set_option maxRecDepth 100000 in
theorem lifted (os : Os) (started : os.Started) (H : Type) (enc : TypeId × Value → H) :
    ReturnsInHanded {} Try.checked os 9 .any (Rows.addressSetsSpec.pre6 enc Try.prog Try.f9 Rows.addressSetsRow.domain false) (Rows.addressSetsSpec.post enc Try.prog Try.f9 false true false false) := by
  refine returnsInHanded_of_change (C := Try.checked) own started (by kernel_rfl) Try.func9
    (ChangeSpec.witness6 (enc := enc) (C := Try.checked) false ⟨#[], #[.slice none 0 0, .slice none 0 0, .agg #[.int .u8 0, .int .u8 0, .int .u8 0, .int .u8 0, .int .u8 0, .int .u8 0]], []⟩ 8 (by kernel_rfl) (by kernel_rfl) (by kernel_rfl) (by kernel_rfl)) ?_
  intro W base args ds gs before hval0 hW hcnd _
  have hval : ∀ (j : Nat) t v, Try.f9.params[j]? = some t → args[j]? = some v → Value.okWide Try.prog W .any base t v := hval0
  have hW' := hW
  obtain ⟨p, q, hA0, hV, rfl, hfz, hnd⟩ := hW
  have hA : DataW.TrodAll enc Try.prog W 0 (fun _ => true) true Try.f9.params.toList args.toList ds p := hA0
  rw [Try.params9] at hA hval
  obtain ⟨v0, vs0, d0, ds0, p0, q0, hargs, rfl, rfl, h0, r0'⟩ := trodAll_cons hA
  obtain ⟨v1, vs1, d1, ds1, p1, q1, rfl, rfl, rfl, h1, r1'⟩ := trodAll_cons r0'
  obtain ⟨v2, vs2, d2, ds2, p2, q2, rfl, rfl, rfl, h2, r2'⟩ := trodAll_cons r1'
  obtain ⟨rfl, rfl, rfl⟩ := trodAll_nil r2'
  obtain rfl : args = #[v0, v1, v2] := by cases args; simp_all
  obtain ⟨rfl, rfl⟩ := trodVars_none hV
  have k0 := h0
  have lt0 : ∀ x ∈ p0, x.block < W.heap.size := by obtain ⟨m, hm⟩ := k0; exact DataW.trod_lt m _ _ _ hm
  obtain ⟨A0, n0, c0, rfl⟩ := okWide_slice Try.underlying82 (hval 0 82 v0 rfl rfl)
  obtain ⟨fu0, hf0⟩ := h0
  obtain ⟨a0, ra0⟩ := (opensAds).2 hf0
  have k1 := h1
  have lt1 : ∀ x ∈ p1, x.block < W.heap.size := by obtain ⟨m, hm⟩ := k1; exact DataW.trod_lt m _ _ _ hm
  obtain ⟨A1, n1, c1, rfl⟩ := okWide_slice Try.underlying82 (hval 1 82 v1 rfl rfl)
  obtain ⟨fu1, hf1⟩ := h1
  obtain ⟨a1, ra1⟩ := (opensAds).2 hf1
  have k2 := h2
  have lt2 : ∀ x ∈ p2, x.block < W.heap.size := by obtain ⟨m, hm⟩ := k2; exact DataW.trod_lt m _ _ _ hm
  obtain ⟨s2, rfl, _⟩ := okWide_array Try.underlying77 (hval 2 77 v2 rfl rfl)
  obtain ⟨fu2, hf2⟩ := h2
  obtain ⟨x2, l2, e2, w2⟩ := open_ints Try.underlying77 Try.underlying5 (by kernel_rfl) (by kernel_rfl) hf2
  obtain rfl : s2 = (x2.map fun a => Value.int .u8 a).toArray := by simpa [intsV, Value.cells] using e2
  clear hA0 hval0
  refine (walk W A0 n0 c0 a0 (by simpa [Value.cells] using ra0) A1 n1 c1 a1 (by simpa [Value.cells] using ra1) x2 l2 w2).mono fun e W' ⟨he, bel⟩ => ?_
  subst he
  exact ⟨_, rfl, _, _, _, [], _, [], hW', trodAll_mk1 (shut_bool Try.underlying4 _), (trodAll_cons_mk (Below.trod laidOut (by kernel_rfl) (of_decide_eq_true (by kernel_rfl)) k0 bel lt0) (trodAll_cons_mk (Below.trod laidOut (by kernel_rfl) (of_decide_eq_true (by kernel_rfl)) k1 bel lt1) (trodAll_cons_mk (Below.trod laidOut (by kernel_rfl) (of_decide_eq_true (by kernel_rfl)) k2 bel lt2) trodAll_mk0))), rfl, bel.frame _, fun h => by cases h⟩

theorem over : Rows.addressSetsRow.holds Try.pinned (OpenSpec.ofChange Rows.addressSetsSpec) :=
  OpenClaim.holds_of_wide 9 Try.f9 rfl rfl rfl rfl rfl rfl rfl ⟨rfl, rfl, rfl, rfl, rfl⟩ rfl rfl rfl rfl rfl (by kernel_rfl) Try.func9 (by kernel_rfl)
    (of_decide_eq_true (by kernel_rfl)) (by unfold Func.isWrapper; first | (rw [if_pos (by decide +kernel)]; kernel_rfl) | (rw [if_neg (by decide +kernel)]; exact ⟨rfl, rfl⟩))
    (fun os started H enc _ => lifted os started H enc)

theorem proved : Rows.AddressSetsSaid :=
  over
end Go.Proofs.Ytnhbhdfeenpedaa.addressSets
