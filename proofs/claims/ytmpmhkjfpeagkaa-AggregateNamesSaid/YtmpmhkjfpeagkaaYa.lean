/- readZeros: a contract. -/
import Derived.Test.YtmpmhkjfpeagkaaKz
namespace Go.Proofs.Ytmpmhkjfpeagkaa
open Go.RowKit

noncomputable section
abbrev fIx : FuncId := 53
abbrev fCf : FuncId := 48
abbrev fRz : FuncId := 30
abbrev fRzc : FuncId := 49
abbrev fnZ : DV := .fn fRzc [] []
abbrev kIx : List (Nat × Nat) := ksF ftab fIx
abbrev ixL : Code := loopAt (bodyOf ftab fIx) 0
abbrev ixS (xs : List (List DV)) (N k : Nat) : Slots := mkT 19 [(0, .list 1 xs), (1, fnZ), (7, iN N), (8, iN k)]
abbrev ixA (xs : List (List DV)) (c : UInt8) (N k : Nat) (v : Bool) (t : List Prop) : List Prop := (decide ((k : Int) < (N : Int)) = true) :: (idxOk (k : Int) xs.length = true) :: (nth xs ((k : Int).toNat) = some [i8 c]) :: (((c.toNat : Int) != 0) = v) :: t
section
variable (xs : List (List DV)) (c : UInt8) (N k : Nat)
set_option maxRecDepth 1000000 in
theorem ix1 : zsee Try.prog tab ftab noC kIx [4] ixL (ixS xs N k) h00 [(9, .b true), (14, .n (.fptr [i8 c])), (16, .c [(4, .b true)])] = some (.ret, mkT 19 [(4, iN k)], h00, ixA xs c N k true []) := by kernel_rfl
set_option maxRecDepth 1000000 in
theorem ix2 : zsee Try.prog tab ftab noC kIx [0, 1, 7, 8] ixL (ixS xs N k) h00 [(9, .b true), (14, .n (.fptr [i8 c])), (16, .c [(4, .b false)]), (18, .w (iN (k + 1)))] = some (.normal, ixS xs N (k + 1), h00, ixA xs c N k false (wrK k :: [])) := by kernel_rfl
set_option maxRecDepth 1000000 in
theorem ixO : zsee Try.prog tab ftab noC kIx [] ixL (ixS xs N k) h00 [(9, .b false)] = some (.exit 0, mkT 19 [], h00, (decide ((k : Int) < (N : Int)) = false) :: []) := by kernel_rfl
set_option maxRecDepth 1000000 in
theorem ixF : zflat (zans Try.prog tab ftab noC fIx [.list 1 xs, fnZ] [(0, .l [0, 1, 7, 8] .ret (mkT 19 [(4, iN k)]) h00)]) = some (iN k, (Goes Try.prog tab kIx (.loop ixL) (ixS xs xs.length 0) h00 .ret (mkT 19 [(4, iN k)]) h00) :: []) := by kernel_rfl
set_option maxRecDepth 1000000 in
theorem ixN : zflat (zans Try.prog tab ftab noC fIx [.list 1 xs, fnZ] [(0, .l [0, 1, 7, 8] (.exit 0) (mkT 19 []) h00)]) = some (.int .i64 (-1), (Goes Try.prog tab kIx (.loop ixL) (ixS xs xs.length 0) h00 (.exit 0) (mkT 19 []) h00) :: []) := by kernel_rfl
end
/-- where the first byte is that is not zero -/
def ixV : List UInt8 → Nat → Int
  | [], _ => -1
  | c :: r, k => match Nat.beq c.toNat 0 with
    | true => ixV r (k + 1)
    | false => k
theorem ix_loop (l : List UInt8) (hl : l.length < 2 ^ 30) : ∀ (r pre : List UInt8), l = pre ++ r → ∃ m e sl, GoesR Try.prog tab kIx ixL (m + 1) (ixS (by1 l) (by1 l).length pre.length) h00 e sl h00 ∧ ((e = .exit 0 ∧ sl = mkT 19 [] ∧ ixV r pre.length = -1) ∨ ∃ k : Nat, e = .ret ∧ sl = mkT 19 [(4, iN k)] ∧ ixV r pre.length = k)
  | [], pre, e => by
    rw [List.append_nil] at e
    subst e
    have hn := by1_length l
    exact ⟨0, .exit 0, mkT 19 [], GoesR.last (zsee_ok tab_ok mixed fun_ok noC_ok (ixO (by1 l) (by1 l).length l.length) (.cons (decide_eq_false (by omega)) .nil)) (by intro h; cases h), .inl ⟨rfl, rfl, rfl⟩⟩
  | c :: r, pre, e => by
    have hn := by1_length l
    have hll : l.length = pre.length + (r.length + 1) := by rw [e]; simp
    have h1 : decide ((pre.length : Int) < ((by1 l).length : Int)) = true := decide_eq_true (by omega)
    have h2 : idxOk (pre.length : Int) (by1 l).length = true := idxOk_lt (by omega)
    have h3 : nth (by1 l) ((pre.length : Int).toNat) = some [i8 c] := by
      rw [nth_eq, Int.toNat_natCast]
      simp [by1, e]
    cases hc : Nat.beq c.toNat 0 with
    | false =>
      have hc' := Nat.ne_of_beq_eq_false hc
      refine ⟨0, .ret, mkT 19 [(4, iN pre.length)], GoesR.last (zsee_ok tab_ok mixed fun_ok noC_ok (ix1 (by1 l) c (by1 l).length pre.length) (.cons h1 (.cons h2 (.cons h3 (.cons (bne_iff_ne.2 (by omega)) .nil))))) (by intro h; cases h), .inr ⟨pre.length, rfl, rfl, ?_⟩⟩
      unfold ixV
      rw [hc]
    | true =>
      have hc' := Nat.eq_of_beq_eq_true hc
      obtain ⟨m, e', sl, g, hv⟩ := ix_loop l hl r (pre ++ [c]) (by rw [e]; simp)
      have z := zsee_ok tab_ok mixed fun_ok noC_ok (ix2 (by1 l) c (by1 l).length pre.length) (.cons h1 (.cons h2 (.cons h3 (.cons (by rw [show (c.toNat : Int) = 0 by omega]; rfl) (.cons (congrArg (DV.int .i64) (wrapI (n := pre.length + 1) (by omega))) .nil)))))
      rw [List.length_append, List.length_singleton] at g hv
      refine ⟨m + 1, e', sl, GoesR.step z g, ?_⟩
      unfold ixV
      rw [hc]
      exact hv
theorem ix_ans (x : Bs) : Ans Try.prog fIx [byL x.1, fnZ] (.int .i64 (ixV x.1 0)) ⟨0, [], []⟩ := by
  obtain ⟨l, hl⟩ := x
  show Ans _ _ _ (.int .i64 (ixV l 0)) _
  obtain ⟨m, e, sl, g, hv⟩ := ix_loop l hl l [] rfl
  rcases hv with ⟨rfl, rfl, hv⟩ | ⟨k, rfl, rfl, hv⟩
  · rw [show ixV l 0 = -1 from hv]
    exact zflat_ok tab_ok mixed fun_ok noC_ok (ixN (by1 l)) (.cons g.goes .nil)
  · rw [show ixV l 0 = (k : Int) from hv]
    exact zflat_ok tab_ok mixed fun_ok noC_ok (ixF (by1 l) k) (.cons g.goes .nil)
def cIx : ConF := eqC fIx (fun x : Bs => [byL x.1, fnZ]) fun x => (.int .i64 (ixV x.1 0), ⟨0, [], []⟩)
theorem cIx_ok : ConOk Try.prog cIx := eqC_ok ix_ans fun _ => rfl
theorem cIx_at (b : List UInt8) (h : b.length < 2 ^ 30) : cIx fIx [byL b, fnZ] ⟨0, [], []⟩ = some (.int .i64 (ixV b 0), ⟨0, [], []⟩, none) :=
  eqC_at (f0 := fIx) (A := fun x : Bs => [byL x.1, fnZ]) (B := fun x => (.int .i64 (ixV x.1 0), ⟨0, [], []⟩)) (fun x y hxy => by
    simp only [List.cons.injEq, and_true] at hxy
    rw [byL_inj' hxy]) ⟨b, h⟩
/-! ### readZeros -/
section
variable (xs ps qs : List (List DV)) (n : Nat) (i : Int)
set_option maxRecDepth 1000000 in
theorem rz10 : zflat (zans Try.prog tab ftab cIx fRz [.list 1 xs, iN n] [(10, .b true)]) = some (.tuple [.nil, iN 10], (decide ((xs.length : Int) < (n : Int)) = true) :: []) := by kernel_rfl
abbrev rzA (t : List Prop) : List Prop := (decide ((xs.length : Int) < (n : Int)) = false) :: (sliceD tab h00 bTI (.list 1 xs) none (some (iN n)) none = some (.list 1 ps)) :: (cIx fIx [.list 1 ps, fnZ] h00 = some (.int .i64 i, h00, none)) :: t
set_option maxRecDepth 1000000 in
theorem rz12 : zflat (zans Try.prog tab ftab cIx fRz [.list 1 xs, iN n] [(10, .b false), (13, .n (.list 1 ps)), (14, .c [(7, .q (.int .i64 i)), (8, .b true)])]) = some (.tuple [.nil, iN 12], rzA xs ps n i ((decide (i ≥ 0) = true) :: [])) := by kernel_rfl
set_option maxRecDepth 1000000 in
theorem rz12' : zflat (zans Try.prog tab ftab cIx fRz [.list 1 xs, iN n] [(10, .b false), (13, .n (.list 1 ps)), (14, .c [(7, .q (.int .i64 i)), (8, .b false)]), (20, .b true)]) = some (.tuple [.nil, iN 12], rzA xs ps n i ((decide (i ≥ 0) = false) :: (((xs.length : Int) == (n : Int)) = true) :: [])) := by kernel_rfl
set_option maxRecDepth 1000000 in
theorem rz0 : zflat (zans Try.prog tab ftab cIx fRz [.list 1 xs, iN n] [(10, .b false), (13, .n (.list 1 ps)), (14, .c [(7, .q (.int .i64 i)), (8, .b false)]), (20, .b false), (24, .n (.list 1 qs))]) = some (.tuple [.list 1 qs, iN 0], rzA xs ps n i ((decide (i ≥ 0) = false) :: (((xs.length : Int) == (n : Int)) = false) :: (sliceD tab h00 bTI (.list 1 xs) (some (iN n)) none none = some (.list 1 qs)) :: [])) := by kernel_rfl
end
end
end Go.Proofs.Ytmpmhkjfpeagkaa
