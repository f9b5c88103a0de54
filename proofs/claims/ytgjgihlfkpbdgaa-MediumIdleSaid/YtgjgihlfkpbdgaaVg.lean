/- Drop, noticed, IndexFunc and ContainsFunc of closures; Busy: contracts. -/
import Derived.Test.YtgjgihlfkpbdgaaVd
namespace Go.Proofs.Ytgjgihlfkpbdgaa
open Go.RowKit

noncomputable section
abbrev fIf : FuncId := 40
abbrev kIf : List (Nat × Nat) := ksF ftab fIf
abbrev ifL : Code := loopAt (bodyOf ftab fIf) 0
abbrev fCf : FuncId := 37
abbrev fBs : FuncId := 13
abbrev fBc : FuncId := 39
abbrev fIc : FuncId := 41
abbrev ifS (fn : DV) (l : List Sn) (k : Nat) : Slots := mkT 19 [(0, snL l), (1, fn), (7, .int .i64 ((snR l).length : Int)), (8, iN k)]
def ifV (f : Sn → Bool) (l : List Sn) : Int := match fst (fun k => !f (l.getD k sn0)) l.length with
  | some k => (k : Int)
  | none => -1
abbrev oLs (l : List DV) : Ob := ⟨0, 0, 3, l⟩
abbrev hBu (w : Wd) (t : Int) : Hp := ⟨3, [oLs [iI t], oIn t, oW w], []⟩
set_option maxRecDepth 1000000 in
theorem drA (l : List Sn) (t : Int) (d : DV) (hp : Hp) : zans Try.prog tab ftab noC fDr [snL l, iI t] [(60001, .t 2 [] d hp)] = some ((one [(d)]), (hp), (AnsH (Try.prog) 45 [(snL l), (DV.fn 46 [] [(DV.ptr 0 0)])] (hD0 t) (d) (hp)) :: []) := by kernel_rfl
set_option maxRecDepth 1000000 in
theorem noA (C : ConF) (w : Wd) (l : List Sn) (j e : Int) (nb : List Int) (d : DV) (hp : Hp) : zans Try.prog tab ftab C fNt [wdD w, snL l, iI j] [(12, .q (.tuple [.list 1 (i1 nb), iI e])), (60002, .t 2 [] d hp)] = some ((one [(d)]), (hp), ((C 32 [(DV.agg (List.take 2 (List.drop 0 (wdC w)))), (iI j)] (Hp.mk 2 [(Ob.mk 0 0 3 [(iI j)]), (Ob.mk 0 0 25 (wdC w))] [])) = (Option.some ((DV.tuple [DV.list 1 (i1 nb), iI e]), (Hp.mk 2 [(Ob.mk 0 0 3 [(iI j)]), (Ob.mk 0 0 25 (wdC w))] []), Option.none))) :: (AnsH (Try.prog) 45 [(snL l), (DV.fn 59 [] [(DV.ptr 1 0), (DV.ptr 2 0)])] (hN0 w j nb) (d) (hp)) :: []) := by kernel_rfl
theorem fil_mem (f : Sn → Bool) (l : List Sn) (s : Sn) : ∀ n, s ∈ filN f l n ↔ ∃ k, k < n ∧ l.getD k sn0 = s ∧ f s = true
  | 0 => ⟨fun h => (by cases h), fun ⟨_, h, _⟩ => (by omega)⟩
  | n + 1 => by
    have ih := fil_mem f l s n
    unfold filN
    cases h : f (l.getD n sn0) with
    | true =>
      dsimp only
      rw [List.mem_append, ih, List.mem_singleton]
      constructor
      · rintro (⟨k, h1, h2⟩ | rfl)
        · exact ⟨k, by omega, h2⟩
        · exact ⟨n, by omega, rfl, h⟩
      · rintro ⟨k, h1, h2, h3⟩
        rcases Nat.lt_or_ge k n with h4 | h4
        · exact .inl ⟨k, h4, h2, h3⟩
        · rw [show k = n by omega] at h2
          exact .inr h2.symm
    | false =>
      dsimp only
      rw [ih]
      constructor
      · rintro ⟨k, h1, h2⟩
        exact ⟨k, by omega, h2⟩
      · rintro ⟨k, h1, h2, h3⟩
        rcases Nat.lt_or_ge k n with h4 | h4
        · exact ⟨k, h4, h2, h3⟩
        · rw [show k = n by omega] at h2
          rw [h2, h3] at h
          cases h
theorem ifV_iff (f : Sn → Bool) (l : List Sn) : decide (ifV f l ≥ 0) = true ↔ ∃ s, s ∈ l ∧ f s = true := by
  unfold ifV
  cases hf : fst (fun k => !f (l.getD k sn0)) l.length with
  | some k =>
    obtain ⟨a, b, _⟩ := fst_some hf
    refine ⟨fun _ => ⟨l.getD k sn0, ?_, by simpa using b⟩, fun _ => decide_eq_true (show ((k : Nat) : Int) ≥ 0 by omega)⟩
    rw [List.getD_eq_getElem?_getD, List.getElem?_eq_getElem a]
    exact List.getElem_mem a
  | none =>
    have h := allB_t.1 (fst_none hf)
    refine ⟨fun q => by simp at q, fun ⟨s, q, g⟩ => ?_⟩
    obtain ⟨k, hk, e⟩ := List.mem_iff_getElem.1 q
    have := h k hk
    rw [List.getD_eq_getElem?_getD, List.getElem?_eq_getElem hk] at this
    simp [e, g] at this
def drL (l : List Sn) (t : Int) : List Sn := filN (fun s : Sn => decide (s.b > t)) l l.length
theorem dr_ans (l : List Sn) (t : Int) (hl : l.length ≤ 1000000) : Ans Try.prog fDr [snL l, iI t] (snL (drL l t)) ⟨0, [], []⟩ := by
  have z := zans_ok tab_ok mixed fun_ok noC_ok (drA l t (dS 1 (drL l t)) (hS 1 [oIn t] (drL l t))) (.cons (xd_fil t l hl) .nil)
  exact AnsH.frz z (by cases drL l t <;> rfl) (dS_frz (L := []) rfl (fun _ => rfl) _)
def noL (w : Wd) (j : Int) (l : List Sn) : List Sn := filN (ntB j (nbV w j)) l l.length
theorem nbV_lt (w : Wd) (j : Int) (ok : OkW w) : (nbV w j).length < 2 ^ 63 := by
  have := nbL_len w j w.r.length
  have := ok.r
  unfold nbV
  split
  · omega
  · simp
theorem no_ans (w : Wd) (ok : OkW w) (l : List Sn) (j : Int) (hl : l.length ≤ 1000000) : Ans Try.prog fNt [wdD w, snL l, iI j] (snL (noL w j l)) ⟨0, [], []⟩ := by
  have a := nb_ans w ok j
  have z := zans_ok tab_ok mixed fun_ok (calC_ok a) (noA _ w l j (asE w j j) (nbV w j) (dS 3 (noL w j l)) (hS 3 [oLi (nbV w j), oIn j, oW w] (noL w j l))) (.cons (calC_at _ rfl rfl) (.cons (xn_fil w j (nbV w j) (nbV_lt w j ok) l hl) .nil))
  exact AnsH.frz z (by cases noL w j l <;> rfl) (dS_frz (L := []) rfl (fun _ => rfl) _)
set_option maxRecDepth 1000000 in
theorem xum0 (w : Wd) (t : Int) (l : List Sn) (k : Nat) (s : Sn) : zgm [0, 1, 2] [] (zsee Try.prog tab ftab noC kIf [0, 1, 7, 8] ifL (ifS (.fn fBc [] [.ptr 1 0]) l k) (hBu w t) [(9, .b true), (14, .n (.fptr (snC s))), (16, .c [(7, .b false)]), (18, .w (iN (k + 1)))]) = some (Ex.normal, (ifS (.fn fBc [] [.ptr 1 0]) l (k + 1)), ((hBu w t)), (FlatIn [] ((hBu w t))) :: ((decide ((↑k : Int) < (↑(List.length (snR l)) : Int))) = true) :: ((idxOk (↑k : Int) (List.length (snR l))) = true) :: ((nth (snR l) (Int.toNat (↑k : Int))) = (Option.some (snC s))) :: ((decide (s.a ≤ t)) = false) :: ((ar IntKind.i64 ((↑k : Int) + 1)) = (iN (k + 1))) :: []) := by kernel_rfl
set_option maxRecDepth 1000000 in
theorem xum1 (w : Wd) (t : Int) (l : List Sn) (k : Nat) (s : Sn) : zgm [0, 1, 2] [] (zsee Try.prog tab ftab noC kIf [0, 1, 7, 8] ifL (ifS (.fn fBc [] [.ptr 1 0]) l k) (hBu w t) [(9, .b true), (14, .n (.fptr (snC s))), (16, .c [(7, .b true), (12, .b false)]), (18, .w (iN (k + 1)))]) = some (Ex.normal, (ifS (.fn fBc [] [.ptr 1 0]) l (k + 1)), ((hBu w t)), (FlatIn [] ((hBu w t))) :: ((decide ((↑k : Int) < (↑(List.length (snR l)) : Int))) = true) :: ((idxOk (↑k : Int) (List.length (snR l))) = true) :: ((nth (snR l) (Int.toNat (↑k : Int))) = (Option.some (snC s))) :: ((decide (s.a ≤ t)) = true) :: ((decide (t < s.b)) = false) :: ((ar IntKind.i64 ((↑k : Int) + 1)) = (iN (k + 1))) :: []) := by kernel_rfl
set_option maxRecDepth 1000000 in
theorem xuh0 (w : Wd) (t : Int) (l : List Sn) (k : Nat) (s : Sn) : zgm [0, 1, 2] [] (zsee Try.prog tab ftab noC kIf [4] ifL (ifS (.fn fBc [] [.ptr 1 0]) l k) (hBu w t) [(9, .b true), (14, .n (.fptr (snC s))), (16, .c [(7, .b true), (12, .b true)])]) = some (Ex.ret, (mkT 19 [(4, (DV.int IntKind.i64 (↑k : Int)))]), ((hBu w t)), (FlatIn [] ((hBu w t))) :: ((decide ((↑k : Int) < (↑(List.length (snR l)) : Int))) = true) :: ((idxOk (↑k : Int) (List.length (snR l))) = true) :: ((nth (snR l) (Int.toNat (↑k : Int))) = (Option.some (snC s))) :: ((decide (s.a ≤ t)) = true) :: ((decide (t < s.b)) = true) :: []) := by kernel_rfl
set_option maxRecDepth 1000000 in
theorem xuO (w : Wd) (t : Int) (l : List Sn) (k : Nat) : zsee Try.prog tab ftab noC kIf [] ifL (ifS (.fn fBc [] [.ptr 1 0]) l k) (hBu w t) [(9, .b false)] = some ((Ex.exit 0), (mkT 19 []), ((hBu w t)), ((decide ((↑k : Int) < (↑(List.length (snR l)) : Int))) = false) :: []) := by kernel_rfl
set_option maxRecDepth 1000000 in
theorem xua (w : Wd) (t : Int) (l : List Sn) (k : Nat) : zansH Try.prog tab ftab noC fIf [snL l, (.fn fBc [] [.ptr 1 0])] (hBu w t) [(0, .l [0, 1, 7, 8] .ret (mkT 19 [(4, iN k)]) (hBu w t))] = some ((DV.int (IntKind.i64) ((↑k : Int))), ((hBu w t)), (Goes (Try.prog) tab (kIf) (Go.Code.loop (ifL)) (ifS (.fn fBc [] [.ptr 1 0]) l 0) ((hBu w t)) (Ex.ret) (mkT 19 [(4, (DV.int (IntKind.i64) ((↑k : Int))))]) ((hBu w t))) :: []) := by kernel_rfl
set_option maxRecDepth 1000000 in
theorem xub (w : Wd) (t : Int) (l : List Sn) : zansH Try.prog tab ftab noC fIf [snL l, (.fn fBc [] [.ptr 1 0])] (hBu w t) [(0, .l [0, 1, 7, 8] (.exit 0) (mkT 19 []) (hBu w t))] = some ((DV.int (IntKind.i64) (-1)), ((hBu w t)), (Goes (Try.prog) tab (kIf) (Go.Code.loop (ifL)) (ifS (.fn fBc [] [.ptr 1 0]) l 0) ((hBu w t)) (Ex.exit 0) (mkT 19 []) ((hBu w t))) :: []) := by kernel_rfl
set_option maxRecDepth 1000000 in
theorem xuc (w : Wd) (t : Int) (l : List Sn) (vv : Int) : zansH Try.prog tab ftab noC fCf [snL l, (.fn fBc [] [.ptr 1 0])] (hBu w t) [(60001, .t 2 [] (iI vv) (hBu w t))] = some ((DV.bool (decide (vv ≥ 0))), ((hBu w t)), (AnsH (Try.prog) 40 [(snL l), (DV.fn fBc [] [DV.ptr 1 0])] ((hBu w t)) (iI vv) ((hBu w t))) :: []) := by kernel_rfl

def atB (t : Int) (s : Sn) : Bool := match decide (s.a ≤ t) with
  | true => decide (t < s.b)
  | false => false
theorem xu_go (w : Wd) (t : Int) (l : List Sn) (hl : l.length < 2 ^ 62) (k : Nat) (hk : k < l.length) (hh : (!(atB t) (l.getD k sn0)) = true) : Goes Try.prog tab kIf ifL (ifS (.fn fBc [] [.ptr 1 0]) l k) (hBu w t) .normal (ifS (.fn fBc [] [.ptr 1 0]) l (k + 1)) (hBu w t) := by
  have e := snR_length l
  have hh : (atB t) (l.getD k sn0) = false := by simpa using hh
  unfold atB at hh
  cases h1 : decide ((l.getD k sn0).a ≤ t) with
  | false => exact zgm_ok tab_ok mixed fun_ok noC_ok (xum0 w t l k (l.getD k sn0)) (.cons (flatIn_nil _) (.cons (decide_eq_true (by omega)) (.cons (idxOk_lt (by omega)) (.cons (snR_get (by omega)) (.cons h1 (.cons (wrK_at (by omega)) .nil))))))
  | true =>
    rw [h1] at hh
    exact zgm_ok tab_ok mixed fun_ok noC_ok (xum1 w t l k (l.getD k sn0)) (.cons (flatIn_nil _) (.cons (decide_eq_true (by omega)) (.cons (idxOk_lt (by omega)) (.cons (snR_get (by omega)) (.cons h1 (.cons hh (.cons (wrK_at (by omega)) .nil)))))))
theorem xu_hit (w : Wd) (t : Int) (l : List Sn) (k : Nat) (hk : k < l.length) (hh : (!(atB t) (l.getD k sn0)) = false) : Goes Try.prog tab kIf ifL (ifS (.fn fBc [] [.ptr 1 0]) l k) (hBu w t) .ret (mkT 19 [(4, iN k)]) (hBu w t) := by
  have e := snR_length l
  have hh : (atB t) (l.getD k sn0) = true := by simpa using hh
  unfold atB at hh
  cases h1 : decide ((l.getD k sn0).a ≤ t) with
  | false => rw [h1] at hh; cases hh
  | true =>
    rw [h1] at hh
    exact zgm_ok tab_ok mixed fun_ok noC_ok (xuh0 w t l k (l.getD k sn0)) (.cons (flatIn_nil _) (.cons (decide_eq_true (by omega)) (.cons (idxOk_lt (by omega)) (.cons (snR_get (by omega)) (.cons h1 (.cons hh .nil))))))
theorem xu_if (w : Wd) (t : Int) (l : List Sn) (hl : l.length < 2 ^ 62) : AnsH Try.prog fIf [snL l, (.fn fBc [] [.ptr 1 0])] (hBu w t) (iI (ifV (atB t) l)) (hBu w t) := by
  have e := snR_length l
  unfold ifV
  cases hf : fst (fun k => !(atB t) (l.getD k sn0)) l.length with
  | some k =>
    have hk := (fst_some hf).1
    exact zansH_ok tab_ok mixed fun_ok noC_ok (xua w t l k) (.cons (scan_s (S := ifS (.fn fBc [] [.ptr 1 0]) l) (by intro h; cases h) hf (xu_go w t l hl) fun hh => xu_hit w t l k hk hh) .nil)
  | none => exact zansH_ok tab_ok mixed fun_ok noC_ok (xub w t l) (.cons (scan_t (S := ifS (.fn fBc [] [.ptr 1 0]) l) (by intro h; cases h) (xu_go w t l hl) (zsee_ok tab_ok mixed fun_ok noC_ok (xuO w t l l.length) (.cons (decide_eq_false (by omega)) .nil)) (fst_none hf)) .nil)
theorem xu_cf (w : Wd) (t : Int) (l : List Sn) (hl : l.length < 2 ^ 62) : AnsH Try.prog fCf [snL l, (.fn fBc [] [.ptr 1 0])] (hBu w t) (.bool (decide (ifV (atB t) l ≥ 0))) (hBu w t) :=
  zansH_ok tab_ok mixed fun_ok noC_ok (xuc w t l (ifV (atB t) l)) (.cons (xu_if w t l hl) .nil)
end
end Go.Proofs.Ytgjgihlfkpbdgaa
