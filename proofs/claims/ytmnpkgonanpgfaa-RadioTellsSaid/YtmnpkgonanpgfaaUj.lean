/- Move, Tune: contracts. -/
import Derived.Test.YtmnpkgonanpgfaaUi
namespace Go.Proofs.Ytmnpkgonanpgfaa
open Go.RowKit

noncomputable section
theorem storeH_at {hp : Hp} {id off : Nat} {o : Ob} {new : List DV} (hg : hp.get id = some o) (hk : o.k = 1) (hl : off + new.length ≤ o.cs.length) : storeH hp id off new = some (hp.put id ⟨1, o.r, o.t, layD o.cs off new⟩, some id) := by
  unfold storeH
  rw [hg]
  simp only [bleT hl, hk]
theorem layD_at {P Q : List DV} {a b : DV} {off : Nat} (h : off = P.length) : layD (P ++ a :: Q) off [b] = P ++ b :: Q := by
  subst h
  unfold layD
  rw [List.take_left' rfl, List.length_singleton, ← List.drop_drop, List.drop_left' rfl, List.append_assoc]
  rfl
theorem partR_at {P Q : List DV} {a b c d : DV} {off : Nat} (h : off = P.length) : partD riT (P ++ a :: b :: c :: d :: Q) off = some (.agg [a, b, c, d]) := by
  subst h
  have h1 : Nat.ble (P.length + 4) (P ++ a :: b :: c :: d :: Q).length = true := bleT (by simp)
  unfold partD
  simp only [show isAggT riT = true from rfl, h1, List.drop_left' (rfl : P.length = P.length)]
  rfl
/-- a world with another radio -/
def setW (w : Wd) (i : Int) (r : Rw) : Wd := ⟨w.r.set i.toNat r, w.s⟩
def w0 : Wd := ⟨[], []⟩
def chW (w : Wd) (i : Int) (r : Rw) : Wd := match okA w i i with
  | true => match vr r with
    | true => setW w i r
    | false => w0
  | false => w0
def chE' (w : Wd) (i : Int) (r : Rw) : Int := match okA w i i with
  | true => match vr r with
    | true => 0
    | false => 2
  | false => asE w i i
def chD (w : Wd) (i : Int) (r : Rw) : DV := .tuple [wdD (chW w i r), iI (chE' w i r)]
def mvR (w : Wd) (i x y : Int) : Rw := ⟨x, y, (rI w i).p, (rI w i).c⟩
def tuR (w : Wd) (i c : Int) : Rw := ⟨(rI w i).x, (rI w i).y, (rI w i).p, c⟩
theorem split_at {w : Wd} {i : Int} (h : Nd w i) : ∃ pre post, w.r = pre ++ rI w i :: post ∧ pre.length = i.toNat ∧ ∀ r, (setW w i r).r = pre ++ r :: post := by
  have h1 := h.lo
  have h2 := h.hi
  have hlt : i.toNat < w.r.length := by omega
  have he : rI w i = w.r[i.toNat] := by
    have := get_in (⟨0, 0, 0, 0⟩ : Rw) hlt
    rw [List.getElem?_eq_getElem hlt, Option.some.injEq] at this
    exact this.symm
  refine ⟨w.r.take i.toNat, w.r.drop (i.toNat + 1), ?_, by rw [List.length_take]; omega, fun r => ?_⟩
  · rw [he, List.getElem_cons_drop, List.take_append_drop]
  · exact List.set_eq_take_append_cons_drop.trans (by rw [if_pos hlt])
theorem celR_app (a b : List Rw) : celR (a ++ b) = celR a ++ celR b := by
  unfold celR rsR
  rw [List.map_append, List.flatten_append]
theorem celR_cons (r : Rw) (b : List Rw) : celR (r :: b) = iI r.x :: iI r.y :: iI r.p :: iI r.c :: celR b := rfl
theorem Va.small {w : Wd} (va : Va w) : Small w := by
  have h1 := va.n1
  have h2 := va.n2
  refine ⟨by omega, by omega, ?_, fun r hr => ?_⟩
  · rcases va.s with h | ⟨h, _⟩ <;> omega
  · obtain ⟨k, hk⟩ := List.mem_iff_getElem?.1 hr
    have hlt := (List.getElem?_eq_some_iff.1 hk).1
    have h0 : w.s.length ≠ 0 := by omega
    have hl := va.slen h0
    have := (va.row h0 (k := k) (by omega)).1
    have e := get_in ([] : List Int) hlt
    rw [hk, Option.some.injEq] at e
    rw [← e] at this
    omega
theorem frz_w0 (e : Int) (hp : Hp) : FrzD [] hp (.tuple [.agg [.nil, .nil], iI e]) (.tuple [wdD w0, iI e]) :=
  FrzL.tuple ⟨FrzL.agg ⟨.nl _, .nl _, trivial⟩, .flat _ rfl, trivial⟩
abbrev fMv : FuncId := 18
set_option maxRecDepth 1000000 in
theorem mv0 (w : Wd) (i x y : Int) : zflat (zans Try.prog tab ftab (calC fCk [wdD w] (iI 8)) fMv [wdD w, iI i, iI x, iI y] [(13, .c [(12, .c [(9, .q (iI 8))])])]) = some (.tuple [.agg [.nil, .nil], iI 8], ((calC fCk [wdD w] (iI 8)) fCk [wdD w] ⟨8, [oW w, oI 0 [iI i], oA .nil .nil, oW w, oA .nil .nil, oI 0 [iI y], oI 0 [iI x], oW w], []⟩ = some (iI 8, ⟨8, [oW w, oI 0 [iI i], oA .nil .nil, oW w, oA .nil .nil, oI 0 [iI y], oI 0 [iI x], oW w], []⟩, none)) :: []) := by kernel_rfl
set_option maxRecDepth 1000000 in
theorem mv1 (w : Wd) (i x y : Int) : zflat (zans Try.prog tab ftab (calC fCk [wdD w] (iI 0)) fMv [wdD w, iI i, iI x, iI y] [(13, .c [(12, .c [(9, .q (iI 0)), (20, .b true)])])]) = some (.tuple [.agg [.nil, .nil], iI 2], ((calC fCk [wdD w] (iI 0)) fCk [wdD w] ⟨8, [oW w, oI 0 [iI i], oA .nil .nil, oW w, oA .nil .nil, oI 0 [iI y], oI 0 [iI x], oW w], []⟩ = some (iI 0, ⟨8, [oW w, oI 0 [iI i], oA .nil .nil, oW w, oA .nil .nil, oI 0 [iI y], oI 0 [iI x], oW w], []⟩, none)) :: ((decide (i < 0)) = true) :: []) := by kernel_rfl
set_option maxRecDepth 1000000 in
theorem mv2 (w : Wd) (i x y : Int) : zflat (zans Try.prog tab ftab (calC fCk [wdD w] (iI 0)) fMv [wdD w, iI i, iI x, iI y] [(13, .c [(12, .c [(9, .q (iI 0)), (20, .b false), (26, .b true)])])]) = some (.tuple [.agg [.nil, .nil], iI 2], ((calC fCk [wdD w] (iI 0)) fCk [wdD w] ⟨8, [oW w, oI 0 [iI i], oA .nil .nil, oW w, oA .nil .nil, oI 0 [iI y], oI 0 [iI x], oW w], []⟩ = some (iI 0, ⟨8, [oW w, oI 0 [iI i], oA .nil .nil, oW w, oA .nil .nil, oI 0 [iI y], oI 0 [iI x], oW w], []⟩, none)) :: ((decide (i < 0)) = false) :: ((decide (i ≥ ((rsR w.r).length : Int))) = true) :: []) := by kernel_rfl
set_option maxRecDepth 1000000 in
theorem mvOk (w : Wd) (i x y : Int) (n off : Nat) (c0 c1 c2 : List DV) (r : Rw) : zans Try.prog tab ftab (orK (calC fCk [wdD w] (iI 0)) (orK cCp cVr)) fMv [wdD w, iI i, iI x, iI y] [(13, .c [(12, .c [(9, .q (iI 0)), (20, .b false), (26, .b false)]), (18, .r (.agg [.sl 7 0 4 n n, .list 1 (ssR w.s)]) ⟨8, [oRs 1 c0, oI 0 [iI i], oA .nil .nil, oW w, oA .nil .nil, oI 0 [iI y], oI 0 [iI x], oW w], []⟩), (23, .n (.ptr 7 off)), (24, .c [(65535, .h (.tuple []) ⟨8, [oRs 1 c1, oI 0 [iI i], oA .nil .nil, oA (.sl 7 0 4 n n) (.list 1 (ssR w.s)), oA .nil .nil, oI 0 [iI y], oI 0 [iI x], oW w], []⟩ (some 7)), (65535, .h (.tuple []) ⟨8, [oRs 1 c2, oI 0 [iI i], oA .nil .nil, oA (.sl 7 0 4 n n) (.list 1 (ssR w.s)), oA .nil .nil, oI 0 [iI y], oI 0 [iI x], oW w], []⟩ (some 7))]), (28, .n (.ptr 7 off)), (29, .n (rD r)), (31, .b false)])] = some (.tuple [(.agg [.sl 7 0 4 n n, .list 1 (ssR w.s)]), iI 0], ⟨8, [oRs 1 c2, oI 0 [iI i], oA (.sl 7 0 4 n n) (.list 1 (ssR w.s)), oA (.sl 7 0 4 n n) (.list 1 (ssR w.s)), oA (.sl 7 0 4 n n) (.list 1 (ssR w.s)), oI 0 [iI y], oI 0 [iI x], oW w], []⟩, ((orK (calC fCk [wdD w] (iI 0)) (orK cCp cVr)) fCk [wdD w] ⟨8, [oW w, oI 0 [iI i], oA .nil .nil, oW w, oA .nil .nil, oI 0 [iI y], oI 0 [iI x], oW w], []⟩ = some (iI 0, ⟨8, [oW w, oI 0 [iI i], oA .nil .nil, oW w, oA .nil .nil, oI 0 [iI y], oI 0 [iI x], oW w], []⟩, none)) :: ((decide (i < 0)) = false) :: ((decide (i ≥ ((rsR w.r).length : Int))) = false) :: ((orK (calC fCk [wdD w] (iI 0)) (orK cCp cVr)) fCp [wdD w] ⟨7, [oI 0 [iI i], oA .nil .nil, oW w, oA .nil .nil, oI 0 [iI y], oI 0 [iI x], oW w], []⟩ = some ((.agg [.sl 7 0 4 n n, .list 1 (ssR w.s)]), ⟨8, [oRs 1 c0, oI 0 [iI i], oA .nil .nil, oW w, oA .nil .nil, oI 0 [iI y], oI 0 [iI x], oW w], []⟩, none)) :: ((idxOk i n) = true) :: (DV.ptr 7 (0 + i.toNat * 4) = .ptr 7 off) :: (storeH ⟨8, [oRs 1 c0, oI 0 [iI i], oA .nil .nil, oA (.sl 7 0 4 n n) (.list 1 (ssR w.s)), oA .nil .nil, oI 0 [iI y], oI 0 [iI x], oW w], []⟩ 7 (off) [iI x] = some (⟨8, [oRs 1 c1, oI 0 [iI i], oA .nil .nil, oA (.sl 7 0 4 n n) (.list 1 (ssR w.s)), oA .nil .nil, oI 0 [iI y], oI 0 [iI x], oW w], []⟩, some 7)) :: (storeH ⟨8, [oRs 1 c1, oI 0 [iI i], oA .nil .nil, oA (.sl 7 0 4 n n) (.list 1 (ssR w.s)), oA .nil .nil, oI 0 [iI y], oI 0 [iI x], oW w], []⟩ 7 (off + 1) [iI y] = some (⟨8, [oRs 1 c2, oI 0 [iI i], oA .nil .nil, oA (.sl 7 0 4 n n) (.list 1 (ssR w.s)), oA .nil .nil, oI 0 [iI y], oI 0 [iI x], oW w], []⟩, some 7)) :: ((idxOk i n) = true) :: (DV.ptr 7 (0 + i.toNat * 4) = .ptr 7 off) :: (partD riT c2 off = some (rD r)) :: (((!vr r)) = false) :: []) := by kernel_rfl
set_option maxRecDepth 1000000 in
theorem mvNo (w : Wd) (i x y : Int) (n off : Nat) (c0 c1 c2 : List DV) (r : Rw) : zflat (zans Try.prog tab ftab (orK (calC fCk [wdD w] (iI 0)) (orK cCp cVr)) fMv [wdD w, iI i, iI x, iI y] [(13, .c [(12, .c [(9, .q (iI 0)), (20, .b false), (26, .b false)]), (18, .r (.agg [.sl 7 0 4 n n, .list 1 (ssR w.s)]) ⟨8, [oRs 1 c0, oI 0 [iI i], oA .nil .nil, oW w, oA .nil .nil, oI 0 [iI y], oI 0 [iI x], oW w], []⟩), (23, .n (.ptr 7 off)), (24, .c [(65535, .h (.tuple []) ⟨8, [oRs 1 c1, oI 0 [iI i], oA .nil .nil, oA (.sl 7 0 4 n n) (.list 1 (ssR w.s)), oA .nil .nil, oI 0 [iI y], oI 0 [iI x], oW w], []⟩ (some 7)), (65535, .h (.tuple []) ⟨8, [oRs 1 c2, oI 0 [iI i], oA .nil .nil, oA (.sl 7 0 4 n n) (.list 1 (ssR w.s)), oA .nil .nil, oI 0 [iI y], oI 0 [iI x], oW w], []⟩ (some 7))]), (28, .n (.ptr 7 off)), (29, .n (rD r)), (31, .b true)])]) = some (.tuple [.agg [.nil, .nil], iI 2], ((orK (calC fCk [wdD w] (iI 0)) (orK cCp cVr)) fCk [wdD w] ⟨8, [oW w, oI 0 [iI i], oA .nil .nil, oW w, oA .nil .nil, oI 0 [iI y], oI 0 [iI x], oW w], []⟩ = some (iI 0, ⟨8, [oW w, oI 0 [iI i], oA .nil .nil, oW w, oA .nil .nil, oI 0 [iI y], oI 0 [iI x], oW w], []⟩, none)) :: ((decide (i < 0)) = false) :: ((decide (i ≥ ((rsR w.r).length : Int))) = false) :: ((orK (calC fCk [wdD w] (iI 0)) (orK cCp cVr)) fCp [wdD w] ⟨7, [oI 0 [iI i], oA .nil .nil, oW w, oA .nil .nil, oI 0 [iI y], oI 0 [iI x], oW w], []⟩ = some ((.agg [.sl 7 0 4 n n, .list 1 (ssR w.s)]), ⟨8, [oRs 1 c0, oI 0 [iI i], oA .nil .nil, oW w, oA .nil .nil, oI 0 [iI y], oI 0 [iI x], oW w], []⟩, none)) :: ((idxOk i n) = true) :: (DV.ptr 7 (0 + i.toNat * 4) = .ptr 7 off) :: (storeH ⟨8, [oRs 1 c0, oI 0 [iI i], oA .nil .nil, oA (.sl 7 0 4 n n) (.list 1 (ssR w.s)), oA .nil .nil, oI 0 [iI y], oI 0 [iI x], oW w], []⟩ 7 (off) [iI x] = some (⟨8, [oRs 1 c1, oI 0 [iI i], oA .nil .nil, oA (.sl 7 0 4 n n) (.list 1 (ssR w.s)), oA .nil .nil, oI 0 [iI y], oI 0 [iI x], oW w], []⟩, some 7)) :: (storeH ⟨8, [oRs 1 c1, oI 0 [iI i], oA .nil .nil, oA (.sl 7 0 4 n n) (.list 1 (ssR w.s)), oA .nil .nil, oI 0 [iI y], oI 0 [iI x], oW w], []⟩ 7 (off + 1) [iI y] = some (⟨8, [oRs 1 c2, oI 0 [iI i], oA .nil .nil, oA (.sl 7 0 4 n n) (.list 1 (ssR w.s)), oA .nil .nil, oI 0 [iI y], oI 0 [iI x], oW w], []⟩, some 7)) :: ((idxOk i n) = true) :: (DV.ptr 7 (0 + i.toNat * 4) = .ptr 7 off) :: (partD riT c2 off = some (rD r)) :: (((!vr r)) = true) :: []) := by kernel_rfl
theorem mv_ans (w : Wd) (ok : OkW w) (i x y : Int) : Ans Try.prog fMv [wdD w, iI i, iI x, iI y] (chD w i (mvR w i x y)) ⟨0, [], []⟩ := by
  have hk := ck_ans w ok
  unfold chD chW chE' okA asE
  cases hc : chk w with
  | false =>
    rw [chE_f hc] at hk
    exact (zflat_ok tab_ok mixed fun_ok (calC_ok hk) (mv0 w i x y) (.cons (calC_at _ rfl rfl) .nil)).frz rfl (frz_w0 8 _)
  | true =>
    rw [chE_t hc] at hk
    have va := (va_iff w).1 hc
    have c0 : ∀ hp, calC fCk [wdD w] (iI 0) fCk [wdD w] hp = some (iI 0, hp, none) := fun hp => calC_at hp rfl rfl
    cases h1 : inI w i with
    | false =>
      rcases inI_f h1 with q | ⟨q1, q2⟩
      · exact (zflat_ok tab_ok mixed fun_ok (calC_ok hk) (mv1 w i x y) (.cons (c0 _) (.cons q .nil))).frz rfl (frz_w0 2 _)
      · exact (zflat_ok tab_ok mixed fun_ok (calC_ok hk) (mv2 w i x y) (.cons (c0 _) (.cons q1 (.cons q2 .nil)))).frz rfl (frz_w0 2 _)
    | true =>
      obtain ⟨p1, p2⟩ := inI_t h1
      have hn := (nd_iff w i).1 h1
      have lo := hn.lo
      have hi := hn.hi
      obtain ⟨pre, post, e1, e2, e3⟩ := split_at hn
      have hC := orK_ok (calC_ok hk) (orK_ok cCp_ok cVr_ok)
      have hp1 := cCp_at ⟨7, [oI 0 [iI i], oA .nil .nil, oW w, oA .nil .nil, oI 0 [iI y], oI 0 [iI x], oW w], []⟩ w va.small
      have hp2 : orK (calC fCk [wdD w] (iI 0)) (orK cCp cVr) fCp [wdD w] ⟨7, [oI 0 [iI i], oA .nil .nil, oW w, oA .nil .nil, oI 0 [iI y], oI 0 [iI x], oW w], []⟩ = _ := orK_right (calC_oth (by kernel_rfl)) (orK_left hp1)
      have hlen : w.r.length = pre.length + (1 + post.length) := by rw [e1]; simp; omega
      have hoff : (celR pre).length = i.toNat * 4 := by rw [celR_length, e2]
      have hx : idxOk i w.r.length = true := idxOk_in lo hi
      have hptr : DV.ptr 7 (0 + i.toNat * 4) = .ptr 7 (i.toNat * 4) := by rw [Nat.zero_add]
      have hc0 : celR w.r = celR pre ++ iI (rI w i).x :: iI (rI w i).y :: iI (rI w i).p :: iI (rI w i).c :: celR post := by
        conv => lhs; rw [e1]
        rw [celR_app, celR_cons]
      have s1 : storeH ⟨8, [oRs 1 (celR w.r), oI 0 [iI i], oA .nil .nil, oA (.sl 7 0 4 w.r.length w.r.length) (.list 1 (ssR w.s)), oA .nil .nil, oI 0 [iI y], oI 0 [iI x], oW w], []⟩ 7 (i.toNat * 4) [iI x] = some (⟨8, [oRs 1 (celR pre ++ iI x :: iI (rI w i).y :: iI (rI w i).p :: iI (rI w i).c :: celR post), oI 0 [iI i], oA .nil .nil, oA (.sl 7 0 4 w.r.length w.r.length) (.list 1 (ssR w.s)), oA .nil .nil, oI 0 [iI y], oI 0 [iI x], oW w], []⟩, some 7) := by
        refine (storeH_at (o := oRs 1 (celR w.r)) rfl rfl (by rw [celR_length]; simp; omega)).trans ?_
        show some (_, _) = _
        dsimp only
        rw [hc0, layD_at hoff.symm]
        rfl
      have s2 : storeH ⟨8, [oRs 1 (celR pre ++ iI x :: iI (rI w i).y :: iI (rI w i).p :: iI (rI w i).c :: celR post), oI 0 [iI i], oA .nil .nil, oA (.sl 7 0 4 w.r.length w.r.length) (.list 1 (ssR w.s)), oA .nil .nil, oI 0 [iI y], oI 0 [iI x], oW w], []⟩ 7 (i.toNat * 4 + 1) [iI y] = some (⟨8, [oRs 1 (celR pre ++ iI x :: iI y :: iI (rI w i).p :: iI (rI w i).c :: celR post), oI 0 [iI i], oA .nil .nil, oA (.sl 7 0 4 w.r.length w.r.length) (.list 1 (ssR w.s)), oA .nil .nil, oI 0 [iI y], oI 0 [iI x], oW w], []⟩, some 7) := by
        refine (storeH_at (o := oRs 1 (celR pre ++ iI x :: iI (rI w i).y :: iI (rI w i).p :: iI (rI w i).c :: celR post)) rfl rfl (by simp; omega)).trans ?_
        have q := layD_at (P := celR pre ++ [iI x]) (Q := iI (rI w i).p :: iI (rI w i).c :: celR post) (a := iI (rI w i).y) (b := iI y) (off := i.toNat * 4 + 1) (by simp; omega)
        simp only [List.append_assoc, List.cons_append, List.nil_append] at q
        dsimp only
        rw [q]
        rfl
      cases hv : vr (mvR w i x y) with
      | false => exact (zflat_ok tab_ok mixed fun_ok hC (mvNo w i x y w.r.length (i.toNat * 4) (celR w.r) (celR pre ++ iI x :: iI (rI w i).y :: iI (rI w i).p :: iI (rI w i).c :: celR post) (celR pre ++ iI x :: iI y :: iI (rI w i).p :: iI (rI w i).c :: celR post) (mvR w i x y)) (.cons (orK_left (c0 _)) (.cons p1 (.cons p2 (.cons hp2 (.cons hx (.cons hptr (.cons s1 (.cons s2 (.cons hx (.cons hptr (.cons (partR_at hoff.symm) (.cons (by rw [hv]; rfl) .nil))))))))))))).frz rfl (frz_w0 2 _)
      | true =>
        have a := zans_ok tab_ok mixed fun_ok hC (mvOk w i x y w.r.length (i.toNat * 4) (celR w.r) (celR pre ++ iI x :: iI (rI w i).y :: iI (rI w i).p :: iI (rI w i).c :: celR post) (celR pre ++ iI x :: iI y :: iI (rI w i).p :: iI (rI w i).c :: celR post) (mvR w i x y)) (.cons (orK_left (c0 _)) (.cons p1 (.cons p2 (.cons hp2 (.cons hx (.cons hptr (.cons s1 (.cons s2 (.cons hx (.cons hptr (.cons (partR_at hoff.symm) (.cons (by rw [hv]; rfl) .nil))))))))))))
        have e4 := e3 (mvR w i x y)
        refine a.frz rfl (FrzL.tuple ⟨FrzL.agg ⟨frz_rows rfl rfl (by show (1 : Nat) ≠ 2; decide) ?_ ?_ (rsR_len4 _) (rsR_flat _), .flat _ rfl, trivial⟩, .flat _ rfl, trivial⟩)
        · show _ = celR (setW w i (mvR w i x y)).r
          rw [e4, celR_app, celR_cons]
          rfl
        · rw [rsR_length]
          show (setW w i (mvR w i x y)).r.length = _
          rw [e4, hlen]
          simp
          omega
abbrev fTu : FuncId := 19
set_option maxRecDepth 1000000 in
theorem tu0 (w : Wd) (i c : Int) : zflat (zans Try.prog tab ftab (calC fCk [wdD w] (iI 8)) fTu [wdD w, iI i, iI c] [(11, .c [(12, .c [(9, .q (iI 8))])])]) = some (.tuple [.agg [.nil, .nil], iI 8], ((calC fCk [wdD w] (iI 8)) fCk [wdD w] ⟨7, [oW w, oI 0 [iI i], oA .nil .nil, oW w, oA .nil .nil, oI 0 [iI c], oW w], []⟩ = some (iI 8, ⟨7, [oW w, oI 0 [iI i], oA .nil .nil, oW w, oA .nil .nil, oI 0 [iI c], oW w], []⟩, none)) :: []) := by kernel_rfl
set_option maxRecDepth 1000000 in
theorem tu1 (w : Wd) (i c : Int) : zflat (zans Try.prog tab ftab (calC fCk [wdD w] (iI 0)) fTu [wdD w, iI i, iI c] [(11, .c [(12, .c [(9, .q (iI 0)), (20, .b true)])])]) = some (.tuple [.agg [.nil, .nil], iI 2], ((calC fCk [wdD w] (iI 0)) fCk [wdD w] ⟨7, [oW w, oI 0 [iI i], oA .nil .nil, oW w, oA .nil .nil, oI 0 [iI c], oW w], []⟩ = some (iI 0, ⟨7, [oW w, oI 0 [iI i], oA .nil .nil, oW w, oA .nil .nil, oI 0 [iI c], oW w], []⟩, none)) :: ((decide (i < 0)) = true) :: []) := by kernel_rfl
set_option maxRecDepth 1000000 in
theorem tu2 (w : Wd) (i c : Int) : zflat (zans Try.prog tab ftab (calC fCk [wdD w] (iI 0)) fTu [wdD w, iI i, iI c] [(11, .c [(12, .c [(9, .q (iI 0)), (20, .b false), (26, .b true)])])]) = some (.tuple [.agg [.nil, .nil], iI 2], ((calC fCk [wdD w] (iI 0)) fCk [wdD w] ⟨7, [oW w, oI 0 [iI i], oA .nil .nil, oW w, oA .nil .nil, oI 0 [iI c], oW w], []⟩ = some (iI 0, ⟨7, [oW w, oI 0 [iI i], oA .nil .nil, oW w, oA .nil .nil, oI 0 [iI c], oW w], []⟩, none)) :: ((decide (i < 0)) = false) :: ((decide (i ≥ ((rsR w.r).length : Int))) = true) :: []) := by kernel_rfl
set_option maxRecDepth 1000000 in
theorem tuOk (w : Wd) (i c : Int) (n off : Nat) (c0 c2 : List DV) (r : Rw) : zans Try.prog tab ftab (orK (calC fCk [wdD w] (iI 0)) (orK cCp cVr)) fTu [wdD w, iI i, iI c] [(11, .c [(12, .c [(9, .q (iI 0)), (20, .b false), (26, .b false)]), (18, .r (.agg [.sl 6 0 4 n n, .list 1 (ssR w.s)]) ⟨7, [oRs 1 c0, oI 0 [iI i], oA .nil .nil, oW w, oA .nil .nil, oI 0 [iI c], oW w], []⟩), (23, .n (.ptr 6 off)), (24, .c [(65535, .h (.tuple []) ⟨7, [oRs 1 c2, oI 0 [iI i], oA .nil .nil, oA (.sl 6 0 4 n n) (.list 1 (ssR w.s)), oA .nil .nil, oI 0 [iI c], oW w], []⟩ (some 6))]), (28, .n (.ptr 6 off)), (29, .n (rD r)), (31, .b false)])] = some (.tuple [(.agg [.sl 6 0 4 n n, .list 1 (ssR w.s)]), iI 0], ⟨7, [oRs 1 c2, oI 0 [iI i], oA (.sl 6 0 4 n n) (.list 1 (ssR w.s)), oA (.sl 6 0 4 n n) (.list 1 (ssR w.s)), oA (.sl 6 0 4 n n) (.list 1 (ssR w.s)), oI 0 [iI c], oW w], []⟩, ((orK (calC fCk [wdD w] (iI 0)) (orK cCp cVr)) fCk [wdD w] ⟨7, [oW w, oI 0 [iI i], oA .nil .nil, oW w, oA .nil .nil, oI 0 [iI c], oW w], []⟩ = some (iI 0, ⟨7, [oW w, oI 0 [iI i], oA .nil .nil, oW w, oA .nil .nil, oI 0 [iI c], oW w], []⟩, none)) :: ((decide (i < 0)) = false) :: ((decide (i ≥ ((rsR w.r).length : Int))) = false) :: ((orK (calC fCk [wdD w] (iI 0)) (orK cCp cVr)) fCp [wdD w] ⟨6, [oI 0 [iI i], oA .nil .nil, oW w, oA .nil .nil, oI 0 [iI c], oW w], []⟩ = some ((.agg [.sl 6 0 4 n n, .list 1 (ssR w.s)]), ⟨7, [oRs 1 c0, oI 0 [iI i], oA .nil .nil, oW w, oA .nil .nil, oI 0 [iI c], oW w], []⟩, none)) :: ((idxOk i n) = true) :: (DV.ptr 6 (0 + i.toNat * 4) = .ptr 6 off) :: (storeH ⟨7, [oRs 1 c0, oI 0 [iI i], oA .nil .nil, oA (.sl 6 0 4 n n) (.list 1 (ssR w.s)), oA .nil .nil, oI 0 [iI c], oW w], []⟩ 6 (off + 3) [iI c] = some (⟨7, [oRs 1 c2, oI 0 [iI i], oA .nil .nil, oA (.sl 6 0 4 n n) (.list 1 (ssR w.s)), oA .nil .nil, oI 0 [iI c], oW w], []⟩, some 6)) :: ((idxOk i n) = true) :: (DV.ptr 6 (0 + i.toNat * 4) = .ptr 6 off) :: (partD riT c2 off = some (rD r)) :: (((!vr r)) = false) :: []) := by kernel_rfl
set_option maxRecDepth 1000000 in
theorem tuNo (w : Wd) (i c : Int) (n off : Nat) (c0 c2 : List DV) (r : Rw) : zflat (zans Try.prog tab ftab (orK (calC fCk [wdD w] (iI 0)) (orK cCp cVr)) fTu [wdD w, iI i, iI c] [(11, .c [(12, .c [(9, .q (iI 0)), (20, .b false), (26, .b false)]), (18, .r (.agg [.sl 6 0 4 n n, .list 1 (ssR w.s)]) ⟨7, [oRs 1 c0, oI 0 [iI i], oA .nil .nil, oW w, oA .nil .nil, oI 0 [iI c], oW w], []⟩), (23, .n (.ptr 6 off)), (24, .c [(65535, .h (.tuple []) ⟨7, [oRs 1 c2, oI 0 [iI i], oA .nil .nil, oA (.sl 6 0 4 n n) (.list 1 (ssR w.s)), oA .nil .nil, oI 0 [iI c], oW w], []⟩ (some 6))]), (28, .n (.ptr 6 off)), (29, .n (rD r)), (31, .b true)])]) = some (.tuple [.agg [.nil, .nil], iI 2], ((orK (calC fCk [wdD w] (iI 0)) (orK cCp cVr)) fCk [wdD w] ⟨7, [oW w, oI 0 [iI i], oA .nil .nil, oW w, oA .nil .nil, oI 0 [iI c], oW w], []⟩ = some (iI 0, ⟨7, [oW w, oI 0 [iI i], oA .nil .nil, oW w, oA .nil .nil, oI 0 [iI c], oW w], []⟩, none)) :: ((decide (i < 0)) = false) :: ((decide (i ≥ ((rsR w.r).length : Int))) = false) :: ((orK (calC fCk [wdD w] (iI 0)) (orK cCp cVr)) fCp [wdD w] ⟨6, [oI 0 [iI i], oA .nil .nil, oW w, oA .nil .nil, oI 0 [iI c], oW w], []⟩ = some ((.agg [.sl 6 0 4 n n, .list 1 (ssR w.s)]), ⟨7, [oRs 1 c0, oI 0 [iI i], oA .nil .nil, oW w, oA .nil .nil, oI 0 [iI c], oW w], []⟩, none)) :: ((idxOk i n) = true) :: (DV.ptr 6 (0 + i.toNat * 4) = .ptr 6 off) :: (storeH ⟨7, [oRs 1 c0, oI 0 [iI i], oA .nil .nil, oA (.sl 6 0 4 n n) (.list 1 (ssR w.s)), oA .nil .nil, oI 0 [iI c], oW w], []⟩ 6 (off + 3) [iI c] = some (⟨7, [oRs 1 c2, oI 0 [iI i], oA .nil .nil, oA (.sl 6 0 4 n n) (.list 1 (ssR w.s)), oA .nil .nil, oI 0 [iI c], oW w], []⟩, some 6)) :: ((idxOk i n) = true) :: (DV.ptr 6 (0 + i.toNat * 4) = .ptr 6 off) :: (partD riT c2 off = some (rD r)) :: (((!vr r)) = true) :: []) := by kernel_rfl
theorem tu_ans (w : Wd) (ok : OkW w) (i c : Int) : Ans Try.prog fTu [wdD w, iI i, iI c] (chD w i (tuR w i c)) ⟨0, [], []⟩ := by
  have hk := ck_ans w ok
  unfold chD chW chE' okA asE
  cases hc : chk w with
  | false =>
    rw [chE_f hc] at hk
    exact (zflat_ok tab_ok mixed fun_ok (calC_ok hk) (tu0 w i c) (.cons (calC_at _ rfl rfl) .nil)).frz rfl (frz_w0 8 _)
  | true =>
    rw [chE_t hc] at hk
    have va := (va_iff w).1 hc
    have c0 : ∀ hp, calC fCk [wdD w] (iI 0) fCk [wdD w] hp = some (iI 0, hp, none) := fun hp => calC_at hp rfl rfl
    cases h1 : inI w i with
    | false =>
      rcases inI_f h1 with q | ⟨q1, q2⟩
      · exact (zflat_ok tab_ok mixed fun_ok (calC_ok hk) (tu1 w i c) (.cons (c0 _) (.cons q .nil))).frz rfl (frz_w0 2 _)
      · exact (zflat_ok tab_ok mixed fun_ok (calC_ok hk) (tu2 w i c) (.cons (c0 _) (.cons q1 (.cons q2 .nil)))).frz rfl (frz_w0 2 _)
    | true =>
      obtain ⟨p1, p2⟩ := inI_t h1
      have hn := (nd_iff w i).1 h1
      have lo := hn.lo
      have hi := hn.hi
      obtain ⟨pre, post, e1, e2, e3⟩ := split_at hn
      have hC := orK_ok (calC_ok hk) (orK_ok cCp_ok cVr_ok)
      have hp1 := cCp_at ⟨6, [oI 0 [iI i], oA .nil .nil, oW w, oA .nil .nil, oI 0 [iI c], oW w], []⟩ w va.small
      have hp2 : orK (calC fCk [wdD w] (iI 0)) (orK cCp cVr) fCp [wdD w] ⟨6, [oI 0 [iI i], oA .nil .nil, oW w, oA .nil .nil, oI 0 [iI c], oW w], []⟩ = _ := orK_right (calC_oth (by kernel_rfl)) (orK_left hp1)
      have hlen : w.r.length = pre.length + (1 + post.length) := by rw [e1]; simp; omega
      have hoff : (celR pre).length = i.toNat * 4 := by rw [celR_length, e2]
      have hx : idxOk i w.r.length = true := idxOk_in lo hi
      have hptr : DV.ptr 6 (0 + i.toNat * 4) = .ptr 6 (i.toNat * 4) := by rw [Nat.zero_add]
      have hc0 : celR w.r = celR pre ++ iI (rI w i).x :: iI (rI w i).y :: iI (rI w i).p :: iI (rI w i).c :: celR post := by
        conv => lhs; rw [e1]
        rw [celR_app, celR_cons]
      have s1 : storeH ⟨7, [oRs 1 (celR w.r), oI 0 [iI i], oA .nil .nil, oA (.sl 6 0 4 w.r.length w.r.length) (.list 1 (ssR w.s)), oA .nil .nil, oI 0 [iI c], oW w], []⟩ 6 (i.toNat * 4 + 3) [iI c] = some (⟨7, [oRs 1 (celR pre ++ iI (rI w i).x :: iI (rI w i).y :: iI (rI w i).p :: iI c :: celR post), oI 0 [iI i], oA .nil .nil, oA (.sl 6 0 4 w.r.length w.r.length) (.list 1 (ssR w.s)), oA .nil .nil, oI 0 [iI c], oW w], []⟩, some 6) := by
        refine (storeH_at (o := oRs 1 (celR w.r)) rfl rfl (by rw [celR_length]; simp; omega)).trans ?_
        have q := layD_at (P := celR pre ++ [iI (rI w i).x, iI (rI w i).y, iI (rI w i).p]) (Q := celR post) (a := iI (rI w i).c) (b := iI c) (off := i.toNat * 4 + 3) (by simp; omega)
        simp only [List.append_assoc, List.cons_append, List.nil_append] at q
        dsimp only
        rw [hc0, q]
        rfl
      cases hv : vr (tuR w i c) with
      | false => exact (zflat_ok tab_ok mixed fun_ok hC (tuNo w i c w.r.length (i.toNat * 4) (celR w.r) (celR pre ++ iI (rI w i).x :: iI (rI w i).y :: iI (rI w i).p :: iI c :: celR post) (tuR w i c)) (.cons (orK_left (c0 _)) (.cons p1 (.cons p2 (.cons hp2 (.cons hx (.cons hptr (.cons s1 (.cons hx (.cons hptr (.cons (partR_at hoff.symm) (.cons (by rw [hv]; rfl) .nil)))))))))))).frz rfl (frz_w0 2 _)
      | true =>
        have a := zans_ok tab_ok mixed fun_ok hC (tuOk w i c w.r.length (i.toNat * 4) (celR w.r) (celR pre ++ iI (rI w i).x :: iI (rI w i).y :: iI (rI w i).p :: iI c :: celR post) (tuR w i c)) (.cons (orK_left (c0 _)) (.cons p1 (.cons p2 (.cons hp2 (.cons hx (.cons hptr (.cons s1 (.cons hx (.cons hptr (.cons (partR_at hoff.symm) (.cons (by rw [hv]; rfl) .nil)))))))))))
        have e4 := e3 (tuR w i c)
        refine a.frz rfl (FrzL.tuple ⟨FrzL.agg ⟨frz_rows rfl rfl (by show (1 : Nat) ≠ 2; decide) ?_ ?_ (rsR_len4 _) (rsR_flat _), .flat _ rfl, trivial⟩, .flat _ rfl, trivial⟩)
        · show _ = celR (setW w i (tuR w i c)).r
          rw [e4, celR_app, celR_cons]
          rfl
        · rw [rsR_length]
          show (setW w i (tuR w i c)).r.length = _
          rw [e4, hlen]
          simp
          omega
end
end Go.Proofs.Ytmnpkgonanpgfaa
