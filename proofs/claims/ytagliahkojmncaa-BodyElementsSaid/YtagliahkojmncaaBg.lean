/- BodyElements: the loop that turns a list round. -/
import Derived.Test.YtagliahkojmncaaBf
namespace Go.Proofs.Ytagliahkojmncaa
open Go.RowKit

noncomputable section
abbrev fBe : FuncId := 8
abbrev kBe : List (Nat × Nat) := ksF ftab fBe
abbrev beL : Code := loopAt (bodyOf ftab fBe) 0
abbrev beS (xs : List (List DV)) (c : Nat) (d : DV) (z : Int) : Slots := mkT 113 [(0, .list 4 xs), (1, w16 c), (5, .bool true), (6, d), (7, .int .i64 z)]
abbrev beF (xs : List (List DV)) (c : Nat) (d : DV) : Slots := mkT 113 [(0, .list 4 xs), (1, w16 c), (5, .bool true), (6, d)]
abbrev beH (cl : List DV) : Hp := ⟨1, [oEl 1 cl], []⟩
abbrev beH1 (new : List DV) : Hp := ⟨2, [oEl 1 new, oEl 0 new], []⟩
abbrev beH2 (cl new : List DV) : Hp := ⟨3, [oEl 3 (cl ++ new), oEl 0 new, oEl 2 cl], []⟩
abbrev beA (xs : List (List DV)) (j : Nat) (x : List DV) (t : List Prop) : List Prop := (decide ((j : Int) ≥ 0) = true) :: (idxOk (j : Int) xs.length = true) :: (nth xs ((j : Int).toNat) = some x) :: t
section
variable (C : ConF)
set_option maxRecDepth 1000000 in
theorem be0 (xs ys ss : List (List DV)) (c j : Nat) (z : Int) (i e : UInt8) : zgm [1] [1] (zsee Try.prog tab ftab C kBe [0, 1, 5, 6, 7] beL (beS xs c .nil j) h00 [(30, .b true), (36, .n (.fptr (elC i e ys ss))), (39, .h (.sl 1 0 4 1 1) (beH1 (elC i e ys ss)) none), (32, .w (.int .i64 z))]) =
    some (.normal, beS xs c (.sl 0 0 4 1 1) z, beH (elC i e ys ss), FlatIn [1] (beH1 (elC i e ys ss)) :: beA xs j (elC i e ys ss) ((builtinD tab ⟨1, [oEl 0 (elC i e ys ss)], []⟩ .append [.nil, .sl 0 0 4 1 1] tyEE = some (.sl 1 0 4 1 1, beH1 (elC i e ys ss), none)) :: (DV.int .i64 (IntKind.i64.wrap ((j : Int) - 1)) = .int .i64 z) :: [])) := by kernel_rfl
set_option maxRecDepth 1000000 in
theorem be1 (xs ys ss : List (List DV)) (c n j : Nat) (z : Int) (cl : List DV) (i e : UInt8) : zgm [2] [2] (zsee Try.prog tab ftab C kBe [0, 1, 5, 6, 7] beL (beS xs c (.sl 0 0 4 n n) j) (beH cl) [(30, .b true), (36, .n (.fptr (elC i e ys ss))), (39, .h (.sl 2 0 4 (n + 1) (n + 1)) (beH2 cl (elC i e ys ss)) (some 0)), (32, .w (.int .i64 z))]) =
    some (.normal, beS xs c (.sl 0 0 4 (n + 1) (n + 1)) z, beH (cl ++ elC i e ys ss), FlatIn [2] (beH2 cl (elC i e ys ss)) :: beA xs j (elC i e ys ss) ((builtinD tab ⟨2, [oEl 0 (elC i e ys ss), oEl 1 cl], []⟩ .append [.sl 0 0 4 n n, .sl 1 0 4 1 1] tyEE = some (.sl 2 0 4 (n + 1) (n + 1), beH2 cl (elC i e ys ss), some 0)) :: (DV.int .i64 (IntKind.i64.wrap ((j : Int) - 1)) = .int .i64 z) :: [])) := by kernel_rfl
set_option maxRecDepth 1000000 in
theorem beO0 (xs : List (List DV)) (c : Nat) : zsee Try.prog tab ftab C kBe [0, 1, 5, 6] beL (beS xs c .nil (-1)) h00 [] = some (.exit 0, beF xs c .nil, h00, []) := by kernel_rfl
set_option maxRecDepth 1000000 in
theorem beO1 (xs : List (List DV)) (c n : Nat) (cl : List DV) : zsee Try.prog tab ftab C kBe [0, 1, 5, 6] beL (beS xs c (.sl 0 0 4 n n) (-1)) (beH cl) [] = some (.exit 0, beF xs c (.sl 0 0 4 n n), beH cl, []) := by kernel_rfl
end
def bD (a : List El) : DV := match a with
  | [] => .nil
  | x :: l => .sl 0 0 4 (x :: l).length (x :: l).length
def bH (a : List El) : Hp := match a with
  | [] => h00
  | x :: l => beH (celE (x :: l))
theorem be_loop (l : List El) (c : Nat) (hl : SmL l) : ∀ (r acc : List El), l = r.reverse ++ acc.reverse → ∃ m, GoesR Try.prog tab kBe beL (m + 1) (beS (elR l) c (bD acc) ((r.length : Int) - 1)) (bH acc) (.exit 0) (beF (elR l) c (bD l.reverse)) (bH l.reverse)
  | [], acc, e => by
    have ha : l.reverse = acc := by rw [e]; simp
    rw [ha]
    cases acc with
    | nil => exact ⟨0, GoesR.last (zsee_ok tab_ok mixed fun_ok noC_ok (beO0 noC (elR l) c) .nil) (by intro h; cases h)⟩
    | cons x a => exact ⟨0, GoesR.last (zsee_ok tab_ok mixed fun_ok noC_ok (beO1 noC (elR l) c (x :: a).length (celE (x :: a))) .nil) (by intro h; cases h)⟩
  | .mk i x dt s :: r, acc, e => by
    have hn := elR_length l
    have hlen : l.length = r.length + (1 + acc.length) := by rw [e]; simp; omega
    have hj : l[r.length]? = some (.mk i x dt s) := by rw [e]; simp
    have hge : decide ((r.length : Int) ≥ 0) = true := decide_eq_true (by omega)
    have hi : idxOk (r.length : Int) (elR l).length = true := idxOk_lt (by omega)
    have hw : DV.int .i64 (IntKind.i64.wrap ((r.length : Int) - 1)) = .int .i64 ((r.length : Int) - 1) := congrArg (DV.int .i64) (wrapZ (by omega) (by have := hl.1; omega))
    have hz : (((El.mk i x dt s :: r).length : Int) - 1) = (r.length : Int) := by simp
    obtain ⟨m, g⟩ := be_loop l c hl r (acc ++ [.mk i x dt s]) (by rw [e]; simp)
    rw [hz]
    cases acc with
    | nil =>
      have z := zgm_ok tab_ok mixed fun_ok noC_ok (be0 noC (elR l) (by1 dt) (elR s) c r.length ((r.length : Int) - 1) i x) (.cons ?_ (.cons hge (.cons hi (.cons (elR_at hj) (.cons ?_ (.cons hw .nil))))))
      · exact ⟨m + 1, GoesR.step z g⟩
      · intro id o hid hg a ha
        obtain rfl : id = 1 := List.mem_singleton.1 hid
        cases hg
        exact elD_flat (.mk i x dt s) a ha
      · rfl
    | cons y a =>
      rw [bD.eq_def, bH.eq_def] at g
      simp only [List.cons_append] at g
      have hlc : ((y :: (a ++ [El.mk i x dt s])).length) = (y :: a).length + 1 := by simp
      have hce : celE (y :: (a ++ [El.mk i x dt s])) = celE (y :: a) ++ elC i x (by1 dt) (elR s) := celE_snoc (y :: a) (.mk i x dt s)
      rw [hlc, hce] at g
      have z := zgm_ok tab_ok mixed fun_ok noC_ok (be1 noC (elR l) (by1 dt) (elR s) c (y :: a).length r.length ((r.length : Int) - 1) (celE (y :: a)) i x) (.cons ?_ (.cons hge (.cons hi (.cons (elR_at hj) (.cons ?_ (.cons hw .nil))))))
      · exact ⟨m + 1, GoesR.step z g⟩
      · intro id o hid hg b hb
        obtain rfl : id = 2 := List.mem_singleton.1 hid
        cases hg
        rcases List.mem_append.1 hb with hb | hb
        · exact celE_flat (y :: a) b hb
        · exact elD_flat (.mk i x dt s) b hb
      · exact app_el (o := oEl 1 (celE (y :: a))) (o2 := oEl 0 (elC i x (by1 dt) (elR s))) rfl rfl rfl rfl (celE_length (y :: a)) rfl rfl rfl (by have := hl.1; simp at hlen ⊢; omega) rfl
end
end Go.Proofs.Ytagliahkojmncaa
