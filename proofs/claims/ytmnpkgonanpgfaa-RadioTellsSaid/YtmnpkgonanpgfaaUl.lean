/- Neighbours, the reference's Symmetric, Twin: contracts; the law RadioTells over data. -/
import Derived.Test.YtmnpkgonanpgfaaUk
namespace Go.Proofs.Ytmnpkgonanpgfaa
open Go.RowKit

noncomputable section
/-! ### Neighbours -/
def nbL (w : Wd) (j : Int) : Nat → List Int
  | 0 => []
  | n + 1 => match hr w j n with
    | true => nbL w j n ++ [(n : Int)]
    | false => nbL w j n
def nbV (w : Wd) (j : Int) : List Int := match okA w j j with
  | true => nbL w j w.r.length
  | false => []
def nbD (w : Wd) (j : Int) : DV := .tuple [.list 1 (i1 (nbV w j)), iI (asE w j j)]
abbrev oJ (k : Nat) (l : List DV) : Ob := ⟨k, 0, 3, l⟩
theorem celI_snoc (l : List Int) (n : Int) : celI (l ++ [n]) = celI l ++ [iI n] := by
  unfold celI i1
  rw [List.map_append, List.flatten_append]
  rfl
theorem celI_length (l : List Int) : (celI l).length = l.length := by
  unfold celI
  rw [len_flat (i1_len1 l), i1_length, Nat.mul_one]
theorem nbL_len (w : Wd) (j : Int) : ∀ n, (nbL w j n).length ≤ n
  | 0 => Nat.le_refl _
  | n + 1 => by
    have := nbL_len w j n
    unfold nbL
    split
    · simp; omega
    · omega
abbrev fNb : FuncId := 20
abbrev kNb : List (Nat × Nat) := ksF ftab fNb
abbrev nbLp : Code := loopAt (bodyOf ftab fNb) 0
abbrev nbS (w : Wd) (j : Int) (d : DV) (k : Nat) : Slots := mkT 32 [(1, iI j), (2, .ptr 0 0), (7, d), (18, .int .i64 ((rsR w.r).length : Int)), (19, iN k)]
abbrev nbH0 (w : Wd) (j : Int) : Hp := ⟨2, [oJ 0 [iI j], oW w], []⟩
abbrev nbH (w : Wd) (j : Int) (cl : List DV) : Hp := ⟨3, [oJ 1 cl, oJ 0 [iI j], oW w], []⟩
abbrev nbE (d : DV) : Slots := mkT 32 [(7, d)]
set_option maxRecDepth 1000000 in
theorem nb0f (w : Wd) (j : Int) (k : Nat) : zgm [0, 1] [] (zsee Try.prog tab ftab (calC fHe [wdD w, iI j, iN k] (.bool false)) kNb [1, 2, 7, 18, 19] nbLp (nbS w j .nil k) (nbH0 w j) [(20, .b true), (25, .q (.bool false)), (30, .w (iN (k + 1)))]) = some (.normal, nbS w j .nil (k + 1), (nbH0 w j), FlatIn [] (nbH0 w j) :: ((decide ((k : Int) < ((rsR w.r).length : Int))) = true) :: ((calC fHe [wdD w, iI j, iN k] (.bool false)) fHe [wdD w, iI j, iN k] (nbH0 w j) = some (.bool false, (nbH0 w j), none)) :: wrK k :: []) := by kernel_rfl
set_option maxRecDepth 1000000 in
theorem nb1f (w : Wd) (j : Int) (k n : Nat) (cl : List DV) : zgm [0, 1, 2] [2] (zsee Try.prog tab ftab (calC fHe [wdD w, iI j, iN k] (.bool false)) kNb [1, 2, 7, 18, 19] nbLp (nbS w j (.sl 2 0 1 n n) k) (nbH w j cl) [(20, .b true), (25, .q (.bool false)), (30, .w (iN (k + 1)))]) = some (.normal, nbS w j (.sl 2 0 1 n n) (k + 1), (nbH w j cl), FlatIn [2] (nbH w j cl) :: ((decide ((k : Int) < ((rsR w.r).length : Int))) = true) :: ((calC fHe [wdD w, iI j, iN k] (.bool false)) fHe [wdD w, iI j, iN k] (nbH w j cl) = some (.bool false, (nbH w j cl), none)) :: wrK k :: []) := by kernel_rfl
set_option maxRecDepth 1000000 in
theorem nb0t (w : Wd) (j : Int) (k : Nat) : zgm [0, 1, 3] [3] (zsee Try.prog tab ftab (calC fHe [wdD w, iI j, iN k] (.bool true)) kNb [1, 2, 7, 18, 19] nbLp (nbS w j .nil k) (nbH0 w j) [(20, .b true), (25, .q (.bool true)), (30, .w (iN (k + 1)))]) = some (.normal, nbS w j (.sl 2 0 1 1 1) (k + 1), (nbH w j [iN k]), FlatIn [3] ⟨4, [oJ 1 [iN k], oJ 0 [iN k], oJ 0 [iI j], oW w], []⟩ :: ((decide ((k : Int) < ((rsR w.r).length : Int))) = true) :: ((calC fHe [wdD w, iI j, iN k] (.bool true)) fHe [wdD w, iI j, iN k] (nbH0 w j) = some (.bool true, (nbH0 w j), none)) :: wrK k :: []) := by kernel_rfl
set_option maxRecDepth 1000000 in
theorem nb1t (w : Wd) (j : Int) (k n : Nat) (cl : List DV) : zgm [0, 1, 4] [4] (zsee Try.prog tab ftab (calC fHe [wdD w, iI j, iN k] (.bool true)) kNb [1, 2, 7, 18, 19] nbLp (nbS w j (.sl 2 0 1 n n) k) (nbH w j cl) [(20, .b true), (25, .q (.bool true)), (29, .h (.sl 4 0 1 (n + 1) (n + 1)) ⟨5, [⟨3, 2, 3, cl ++ [iN k]⟩, oJ 0 [iN k], ⟨2, 0, 3, cl⟩, oJ 0 [iI j], oW w], []⟩ (some 2)), (30, .w (iN (k + 1)))]) = some (.normal, nbS w j (.sl 2 0 1 (n + 1) (n + 1)) (k + 1), (nbH w j (cl ++ [iN k])), FlatIn [4] ⟨5, [⟨3, 2, 3, cl ++ [iN k]⟩, oJ 0 [iN k], ⟨2, 0, 3, cl⟩, oJ 0 [iI j], oW w], []⟩ :: ((decide ((k : Int) < ((rsR w.r).length : Int))) = true) :: ((calC fHe [wdD w, iI j, iN k] (.bool true)) fHe [wdD w, iI j, iN k] (nbH w j cl) = some (.bool true, (nbH w j cl), none)) :: (builtinD tab ⟨4, [oJ 0 [iN k], oJ 1 cl, oJ 0 [iI j], oW w], []⟩ .append [(.sl 2 0 1 n n), .sl 3 0 1 1 1] tyI = some (.sl 4 0 1 (n + 1) (n + 1), ⟨5, [⟨3, 2, 3, cl ++ [iN k]⟩, oJ 0 [iN k], ⟨2, 0, 3, cl⟩, oJ 0 [iI j], oW w], []⟩, some 2)) :: wrK k :: []) := by kernel_rfl
set_option maxRecDepth 1000000 in
theorem nbO0 (w : Wd) (j : Int) (k : Nat) : zsee Try.prog tab ftab noC kNb [7] nbLp (nbS w j .nil k) (nbH0 w j) [(20, .b false)] = some (.exit 0, nbE .nil, (nbH0 w j), ((decide ((k : Int) < ((rsR w.r).length : Int))) = false) :: []) := by kernel_rfl
set_option maxRecDepth 1000000 in
theorem nbO1 (w : Wd) (j : Int) (k n : Nat) (cl : List DV) : zsee Try.prog tab ftab noC kNb [7] nbLp (nbS w j (.sl 2 0 1 n n) k) (nbH w j cl) [(20, .b false)] = some (.exit 0, nbE (.sl 2 0 1 n n), (nbH w j cl), ((decide ((k : Int) < ((rsR w.r).length : Int))) = false) :: []) := by kernel_rfl
set_option maxRecDepth 1000000 in
theorem nbX0 (w : Wd) (j : Int) : zflat (zans Try.prog tab ftab (calC fCk [wdD w] (iI 8)) fNb [wdD w, iI j] [(12, .c [(9, .q (iI 8))])]) = some (.tuple [.nil, iI 8], ((calC fCk [wdD w] (iI 8)) fCk [wdD w] ⟨3, [oW w, oJ 0 [iI j], oW w], []⟩ = some (iI 8, ⟨3, [oW w, oJ 0 [iI j], oW w], []⟩, none)) :: []) := by kernel_rfl
set_option maxRecDepth 1000000 in
theorem nbX1 (w : Wd) (j : Int) : zflat (zans Try.prog tab ftab (calC fCk [wdD w] (iI 0)) fNb [wdD w, iI j] [(12, .c [(9, .q (iI 0)), (20, .b true)])]) = some (.tuple [.nil, iI 2], ((calC fCk [wdD w] (iI 0)) fCk [wdD w] ⟨3, [oW w, oJ 0 [iI j], oW w], []⟩ = some (iI 0, ⟨3, [oW w, oJ 0 [iI j], oW w], []⟩, none)) :: ((decide (j < 0)) = true) :: []) := by kernel_rfl
set_option maxRecDepth 1000000 in
theorem nbX2 (w : Wd) (j : Int) : zflat (zans Try.prog tab ftab (calC fCk [wdD w] (iI 0)) fNb [wdD w, iI j] [(12, .c [(9, .q (iI 0)), (20, .b false), (26, .b true)])]) = some (.tuple [.nil, iI 2], ((calC fCk [wdD w] (iI 0)) fCk [wdD w] ⟨3, [oW w, oJ 0 [iI j], oW w], []⟩ = some (iI 0, ⟨3, [oW w, oJ 0 [iI j], oW w], []⟩, none)) :: ((decide (j < 0)) = false) :: ((decide (j ≥ ((rsR w.r).length : Int))) = true) :: []) := by kernel_rfl
set_option maxRecDepth 1000000 in
theorem nbF0 (w : Wd) (j : Int) : zans Try.prog tab ftab (calC fCk [wdD w] (iI 0)) fNb [wdD w, iI j] [(12, .c [(9, .q (iI 0)), (20, .b false), (26, .b false)]), (0, .l [1, 2, 7, 18, 19] (.exit 0) (nbE .nil) (nbH0 w j))] = some (.tuple [.nil, iI 0], (nbH0 w j), ((calC fCk [wdD w] (iI 0)) fCk [wdD w] ⟨3, [oW w, oJ 0 [iI j], oW w], []⟩ = some (iI 0, ⟨3, [oW w, oJ 0 [iI j], oW w], []⟩, none)) :: ((decide (j < 0)) = false) :: ((decide (j ≥ ((rsR w.r).length : Int))) = false) :: (Goes Try.prog tab kNb (.loop nbLp) (nbS w j .nil 0) (nbH0 w j) (.exit 0) (nbE .nil) (nbH0 w j)) :: []) := by kernel_rfl
set_option maxRecDepth 1000000 in
theorem nbF1 (w : Wd) (j : Int) (n : Nat) (cl : List DV) : zans Try.prog tab ftab (calC fCk [wdD w] (iI 0)) fNb [wdD w, iI j] [(12, .c [(9, .q (iI 0)), (20, .b false), (26, .b false)]), (0, .l [1, 2, 7, 18, 19] (.exit 0) (nbE (.sl 2 0 1 n n)) (nbH w j cl))] = some (.tuple [(.sl 2 0 1 n n), iI 0], (nbH w j cl), ((calC fCk [wdD w] (iI 0)) fCk [wdD w] ⟨3, [oW w, oJ 0 [iI j], oW w], []⟩ = some (iI 0, ⟨3, [oW w, oJ 0 [iI j], oW w], []⟩, none)) :: ((decide (j < 0)) = false) :: ((decide (j ≥ ((rsR w.r).length : Int))) = false) :: (Goes Try.prog tab kNb (.loop nbLp) (nbS w j .nil 0) (nbH0 w j) (.exit 0) (nbE (.sl 2 0 1 n n)) (nbH w j cl)) :: []) := by kernel_rfl
def nbDs : List Int → DV
  | [] => .nil
  | x :: l => .sl 2 0 1 (x :: l).length (x :: l).length
def nbHs (w : Wd) (j : Int) : List Int → Hp
  | [] => nbH0 w j
  | x :: l => nbH w j (celI (x :: l))
theorem nb_loop (w : Wd) (va : Va w) (j : Int) (hj : Nd w j) : ∀ (m k : Nat), k + m = w.r.length → ∃ q, GoesR Try.prog tab kNb nbLp (q + 1) (nbS w j (nbDs (nbL w j k)) k) (nbHs w j (nbL w j k)) (.exit 0) (nbE (nbDs (nbL w j w.r.length))) (nbHs w j (nbL w j w.r.length))
  | 0, k, e => by
    have hn := rsR_length w.r
    have hd : decide ((k : Int) < ((rsR w.r).length : Int)) = false := decide_eq_false (by omega)
    obtain rfl : k = w.r.length := e
    refine ⟨0, GoesR.last ?_ (by intro h; cases h)⟩
    cases hl : nbL w j w.r.length with
    | nil => exact zsee_ok tab_ok mixed fun_ok noC_ok (nbO0 w j w.r.length) (.cons hd .nil)
    | cons x l => exact zsee_ok tab_ok mixed fun_ok noC_ok (nbO1 w j w.r.length (x :: l).length (celI (x :: l))) (.cons hd .nil)
  | m + 1, k, e => by
    have hn := rsR_length w.r
    have h2 := va.n2
    have hd : decide ((k : Int) < ((rsR w.r).length : Int)) = true := decide_eq_true (by omega)
    obtain ⟨q, g⟩ := nb_loop w va j hj m (k + 1) (by omega)
    have hk : Nd w (k : Int) := ⟨by omega, by omega⟩
    have hC := calC_ok (he_ans w va j (k : Int) hj hk)
    have hlen := nbL_len w j k
    have wr : wrK k := wrK_at (by omega)
    have en : nbL w j (k + 1) = match hr w j k with
      | true => nbL w j k ++ [(k : Int)]
      | false => nbL w j k := rfl
    refine ⟨q + 1, GoesR.step ?_ g⟩
    rw [en]
    cases hh : hr w j k with
    | false =>
      rw [hh] at hC
      cases hl : nbL w j k with
      | nil => exact zgm_ok tab_ok mixed fun_ok hC (nb0f w j k) (.cons (flatIn_nil _) (.cons hd (.cons (calC_at _ rfl rfl) (.cons wr .nil))))
      | cons x l => exact zgm_ok tab_ok mixed fun_ok hC (nb1f w j k (x :: l).length (celI (x :: l))) (.cons (fun id o hid hg d hd => by
          obtain rfl := List.mem_singleton.1 hid
          cases hg
          exact flatten_flat (i1_flat _) d hd) (.cons hd (.cons (calC_at _ rfl rfl) (.cons wr .nil))))
    | true =>
      rw [hh] at hC
      cases hl : nbL w j k with
      | nil => exact zgm_ok tab_ok mixed fun_ok hC (nb0t w j k) (.cons (fun id o hid hg d hd => by
          obtain rfl := List.mem_singleton.1 hid
          cases hg
          obtain rfl := List.mem_singleton.1 hd
          rfl) (.cons hd (.cons (calC_at _ rfl rfl) (.cons wr .nil))))
      | cons x l =>
        rw [hl] at hlen
        have e1 : nbDs (x :: l ++ [(k : Int)]) = .sl 2 0 1 ((x :: l).length + 1) ((x :: l).length + 1) := by
          show DV.sl 2 0 1 (x :: (l ++ [(k : Int)])).length _ = _
          simp
        have e2 : nbHs w j (x :: l ++ [(k : Int)]) = nbH w j (celI (x :: l) ++ [iN k]) := by
          show nbH w j (celI (x :: (l ++ [(k : Int)]))) = _
          have := celI_snoc (x :: l) (k : Int)
          rw [List.cons_append] at this
          rw [this]
        show Goes _ _ _ _ _ _ _ (nbS w j (nbDs (x :: l ++ [(k : Int)])) (k + 1)) (nbHs w j (x :: l ++ [(k : Int)]))
        rw [e1, e2]
        refine zgm_ok tab_ok mixed fun_ok hC (nb1t w j k (x :: l).length (celI (x :: l))) (.cons (fun id o hid hg d hd => ?_) (.cons hd (.cons (calC_at _ rfl rfl) (.cons ?_ (.cons wr .nil)))))
        · obtain rfl := List.mem_singleton.1 hid
          cases hg
          rcases List.mem_append.1 hd with hd | hd
          · exact flatten_flat (i1_flat _) d hd
          · obtain rfl := List.mem_singleton.1 hd
            rfl
        · rw [app_tabI]
          exact appH_grow (id := 2) (n := (x :: l).length) (m := 0) (e := 3) (j := inT) (o := oJ 1 (celI (x :: l))) (news := [iN k]) rfl rfl rfl (.inl rfl) rfl (by rw [celI_length, Nat.mul_one]) (fit_at (by show (_ + (0 + 1)) * 8 ≤ _; omega) (by omega))
theorem nb_good (w : Wd) (va : Va w) (j : Int) (hj : Nd w j) (hk : Ans Try.prog fCk [wdD w] (iI 0) ⟨0, [], []⟩) (p1 : decide (j < 0) = false) (p2 : decide (j ≥ ((rsR w.r).length : Int)) = false) : Ans Try.prog fNb [wdD w, iI j] (.tuple [.list 1 (i1 (nbL w j w.r.length)), iI 0]) ⟨0, [], []⟩ := by
  obtain ⟨q, g⟩ := nb_loop w va j hj w.r.length 0 (by omega)
  have g := g.goes
  have g0 : Goes Try.prog tab kNb (.loop nbLp) (nbS w j .nil 0) (nbH0 w j) (.exit 0) (nbE (nbDs (nbL w j w.r.length))) (nbHs w j (nbL w j w.r.length)) := g
  cases hl : nbL w j w.r.length with
  | nil =>
    rw [hl] at g0
    exact (zans_ok tab_ok mixed fun_ok (calC_ok hk) (nbF0 w j) (.cons (calC_at _ rfl rfl) (.cons p1 (.cons p2 (.cons g0 .nil))))).frz rfl (FrzL.tuple ⟨.nl _, .flat _ rfl, trivial⟩)
  | cons x l =>
    rw [hl] at g0
    exact (zans_ok tab_ok mixed fun_ok (calC_ok hk) (nbF1 w j (x :: l).length (celI (x :: l))) (.cons (calC_at _ rfl rfl) (.cons p1 (.cons p2 (.cons g0 .nil))))).frz rfl (FrzL.tuple ⟨frz_rows rfl rfl (by show (1 : Nat) ≠ 2; decide) rfl (i1_length _) (i1_len1 _) (i1_flat _), .flat _ rfl, trivial⟩)
abbrev fRn : FuncId := 28
abbrev kRn : List (Nat × Nat) := ksF ftab fRn
abbrev rnLp : Code := loopAt (bodyOf ftab fRn) 0
abbrev rnS (_w : Wd) (j : Int) (d : DV) (k : Nat) : Slots := mkT 32 [(1, iI j), (2, .ptr 0 0), (7, d), (8, iN k)]
abbrev rnH0 (w : Wd) (_j : Int) : Hp := ⟨1, [oW w], []⟩
abbrev rnH (w : Wd) (_j : Int) (cl : List DV) : Hp := ⟨2, [oJ 1 cl, oW w], []⟩
abbrev rnE (d : DV) : Slots := mkT 32 [(7, d)]
set_option maxRecDepth 1000000 in
theorem rn0f (w : Wd) (j : Int) (k : Nat) : zgm [0] [] (zsee Try.prog tab ftab (calC fRh [wdD w, iI j, iN k] (.bool false)) kRn [1, 2, 7, 8] rnLp (rnS w j .nil k) (rnH0 w j) [(20, .b true), (26, .q (.bool false)), (22, .w (iN (k + 1)))]) = some (.normal, rnS w j .nil (k + 1), (rnH0 w j), FlatIn [] (rnH0 w j) :: ((decide ((k : Int) < ((rsR w.r).length : Int))) = true) :: ((calC fRh [wdD w, iI j, iN k] (.bool false)) fRh [wdD w, iI j, iN k] (rnH0 w j) = some (.bool false, (rnH0 w j), none)) :: wrK k :: []) := by kernel_rfl
set_option maxRecDepth 1000000 in
theorem rn1f (w : Wd) (j : Int) (k n : Nat) (cl : List DV) : zgm [0, 1] [1] (zsee Try.prog tab ftab (calC fRh [wdD w, iI j, iN k] (.bool false)) kRn [1, 2, 7, 8] rnLp (rnS w j (.sl 1 0 1 n n) k) (rnH w j cl) [(20, .b true), (26, .q (.bool false)), (22, .w (iN (k + 1)))]) = some (.normal, rnS w j (.sl 1 0 1 n n) (k + 1), (rnH w j cl), FlatIn [1] (rnH w j cl) :: ((decide ((k : Int) < ((rsR w.r).length : Int))) = true) :: ((calC fRh [wdD w, iI j, iN k] (.bool false)) fRh [wdD w, iI j, iN k] (rnH w j cl) = some (.bool false, (rnH w j cl), none)) :: wrK k :: []) := by kernel_rfl
set_option maxRecDepth 1000000 in
theorem rn0t (w : Wd) (j : Int) (k : Nat) : zgm [0, 2] [2] (zsee Try.prog tab ftab (calC fRh [wdD w, iI j, iN k] (.bool true)) kRn [1, 2, 7, 8] rnLp (rnS w j .nil k) (rnH0 w j) [(20, .b true), (26, .q (.bool true)), (22, .w (iN (k + 1)))]) = some (.normal, rnS w j (.sl 1 0 1 1 1) (k + 1), (rnH w j [iN k]), FlatIn [2] ⟨3, [oJ 1 [iN k], oJ 0 [iN k], oW w], []⟩ :: ((decide ((k : Int) < ((rsR w.r).length : Int))) = true) :: ((calC fRh [wdD w, iI j, iN k] (.bool true)) fRh [wdD w, iI j, iN k] (rnH0 w j) = some (.bool true, (rnH0 w j), none)) :: wrK k :: []) := by kernel_rfl
set_option maxRecDepth 1000000 in
theorem rn1t (w : Wd) (j : Int) (k n : Nat) (cl : List DV) : zgm [0, 3] [3] (zsee Try.prog tab ftab (calC fRh [wdD w, iI j, iN k] (.bool true)) kRn [1, 2, 7, 8] rnLp (rnS w j (.sl 1 0 1 n n) k) (rnH w j cl) [(20, .b true), (26, .q (.bool true)), (30, .h (.sl 3 0 1 (n + 1) (n + 1)) ⟨4, [⟨3, 1, 3, cl ++ [iN k]⟩, oJ 0 [iN k], ⟨2, 0, 3, cl⟩, oW w], []⟩ (some 1)), (22, .w (iN (k + 1)))]) = some (.normal, rnS w j (.sl 1 0 1 (n + 1) (n + 1)) (k + 1), (rnH w j (cl ++ [iN k])), FlatIn [3] ⟨4, [⟨3, 1, 3, cl ++ [iN k]⟩, oJ 0 [iN k], ⟨2, 0, 3, cl⟩, oW w], []⟩ :: ((decide ((k : Int) < ((rsR w.r).length : Int))) = true) :: ((calC fRh [wdD w, iI j, iN k] (.bool true)) fRh [wdD w, iI j, iN k] (rnH w j cl) = some (.bool true, (rnH w j cl), none)) :: (builtinD tab ⟨3, [oJ 0 [iN k], oJ 1 cl, oW w], []⟩ .append [(.sl 1 0 1 n n), .sl 2 0 1 1 1] tyI = some (.sl 3 0 1 (n + 1) (n + 1), ⟨4, [⟨3, 1, 3, cl ++ [iN k]⟩, oJ 0 [iN k], ⟨2, 0, 3, cl⟩, oW w], []⟩, some 1)) :: wrK k :: []) := by kernel_rfl
set_option maxRecDepth 1000000 in
theorem rnO0 (w : Wd) (j : Int) (k : Nat) : zsee Try.prog tab ftab noC kRn [7] rnLp (rnS w j .nil k) (rnH0 w j) [(20, .b false)] = some (.exit 0, rnE .nil, (rnH0 w j), ((decide ((k : Int) < ((rsR w.r).length : Int))) = false) :: []) := by kernel_rfl
set_option maxRecDepth 1000000 in
theorem rnO1 (w : Wd) (j : Int) (k n : Nat) (cl : List DV) : zsee Try.prog tab ftab noC kRn [7] rnLp (rnS w j (.sl 1 0 1 n n) k) (rnH w j cl) [(20, .b false)] = some (.exit 0, rnE (.sl 1 0 1 n n), (rnH w j cl), ((decide ((k : Int) < ((rsR w.r).length : Int))) = false) :: []) := by kernel_rfl
set_option maxRecDepth 1000000 in
theorem rnX2 (w : Wd) (j : Int) : zflat (zans Try.prog tab ftab (calC fAs [wdD w, iI j, iI j] (iI 2)) fRn [wdD w, iI j] [(12, .q (iI 2))]) = some (.tuple [.nil, iI 2], ((calC fAs [wdD w, iI j, iI j] (iI 2)) fAs [wdD w, iI j, iI j] (hW w) = some (iI 2, hW w, none)) :: []) := by kernel_rfl
set_option maxRecDepth 1000000 in
theorem rnX8 (w : Wd) (j : Int) : zflat (zans Try.prog tab ftab (calC fAs [wdD w, iI j, iI j] (iI 8)) fRn [wdD w, iI j] [(12, .q (iI 8))]) = some (.tuple [.nil, iI 8], ((calC fAs [wdD w, iI j, iI j] (iI 8)) fAs [wdD w, iI j, iI j] (hW w) = some (iI 8, hW w, none)) :: []) := by kernel_rfl
set_option maxRecDepth 1000000 in
theorem rnF0 (w : Wd) (j : Int) : zans Try.prog tab ftab (calC fAs [wdD w, iI j, iI j] (iI 0)) fRn [wdD w, iI j] [(12, .q (iI 0)), (0, .l [1, 2, 7, 8] (.exit 0) (rnE .nil) (rnH0 w j))] = some (.tuple [.nil, iI 0], (rnH0 w j), ((calC fAs [wdD w, iI j, iI j] (iI 0)) fAs [wdD w, iI j, iI j] (hW w) = some (iI 0, hW w, none)) :: (Goes Try.prog tab kRn (.loop rnLp) (rnS w j .nil 0) (rnH0 w j) (.exit 0) (rnE .nil) (rnH0 w j)) :: []) := by kernel_rfl
set_option maxRecDepth 1000000 in
theorem rnF1 (w : Wd) (j : Int) (n : Nat) (cl : List DV) : zans Try.prog tab ftab (calC fAs [wdD w, iI j, iI j] (iI 0)) fRn [wdD w, iI j] [(12, .q (iI 0)), (0, .l [1, 2, 7, 8] (.exit 0) (rnE (.sl 1 0 1 n n)) (rnH w j cl))] = some (.tuple [(.sl 1 0 1 n n), iI 0], (rnH w j cl), ((calC fAs [wdD w, iI j, iI j] (iI 0)) fAs [wdD w, iI j, iI j] (hW w) = some (iI 0, hW w, none)) :: (Goes Try.prog tab kRn (.loop rnLp) (rnS w j .nil 0) (rnH0 w j) (.exit 0) (rnE (.sl 1 0 1 n n)) (rnH w j cl)) :: []) := by kernel_rfl
def rnDs : List Int → DV
  | [] => .nil
  | x :: l => .sl 1 0 1 (x :: l).length (x :: l).length
def rnHs (w : Wd) (j : Int) : List Int → Hp
  | [] => rnH0 w j
  | x :: l => rnH w j (celI (x :: l))
theorem rn_loop (w : Wd) (va : Va w) (j : Int) (hj : Nd w j) : ∀ (m k : Nat), k + m = w.r.length → ∃ q, GoesR Try.prog tab kRn rnLp (q + 1) (rnS w j (rnDs (nbL w j k)) k) (rnHs w j (nbL w j k)) (.exit 0) (rnE (rnDs (nbL w j w.r.length))) (rnHs w j (nbL w j w.r.length))
  | 0, k, e => by
    have hn := rsR_length w.r
    have hd : decide ((k : Int) < ((rsR w.r).length : Int)) = false := decide_eq_false (by omega)
    obtain rfl : k = w.r.length := e
    refine ⟨0, GoesR.last ?_ (by intro h; cases h)⟩
    cases hl : nbL w j w.r.length with
    | nil => exact zsee_ok tab_ok mixed fun_ok noC_ok (rnO0 w j w.r.length) (.cons hd .nil)
    | cons x l => exact zsee_ok tab_ok mixed fun_ok noC_ok (rnO1 w j w.r.length (x :: l).length (celI (x :: l))) (.cons hd .nil)
  | m + 1, k, e => by
    have hn := rsR_length w.r
    have h2 := va.n2
    have hd : decide ((k : Int) < ((rsR w.r).length : Int)) = true := decide_eq_true (by omega)
    obtain ⟨q, g⟩ := rn_loop w va j hj m (k + 1) (by omega)
    have hk : Nd w (k : Int) := ⟨by omega, by omega⟩
    have hC := calC_ok (rh_ans w va j (k : Int) hj hk)
    have hlen := nbL_len w j k
    have wr : wrK k := wrK_at (by omega)
    have en : nbL w j (k + 1) = match hr w j k with
      | true => nbL w j k ++ [(k : Int)]
      | false => nbL w j k := rfl
    refine ⟨q + 1, GoesR.step ?_ g⟩
    rw [en]
    cases hh : hr w j k with
    | false =>
      rw [hh] at hC
      cases hl : nbL w j k with
      | nil => exact zgm_ok tab_ok mixed fun_ok hC (rn0f w j k) (.cons (flatIn_nil _) (.cons hd (.cons (calC_at _ rfl rfl) (.cons wr .nil))))
      | cons x l => exact zgm_ok tab_ok mixed fun_ok hC (rn1f w j k (x :: l).length (celI (x :: l))) (.cons (fun id o hid hg d hd => by
          obtain rfl := List.mem_singleton.1 hid
          cases hg
          exact flatten_flat (i1_flat _) d hd) (.cons hd (.cons (calC_at _ rfl rfl) (.cons wr .nil))))
    | true =>
      rw [hh] at hC
      cases hl : nbL w j k with
      | nil => exact zgm_ok tab_ok mixed fun_ok hC (rn0t w j k) (.cons (fun id o hid hg d hd => by
          obtain rfl := List.mem_singleton.1 hid
          cases hg
          obtain rfl := List.mem_singleton.1 hd
          rfl) (.cons hd (.cons (calC_at _ rfl rfl) (.cons wr .nil))))
      | cons x l =>
        rw [hl] at hlen
        have e1 : rnDs (x :: l ++ [(k : Int)]) = .sl 1 0 1 ((x :: l).length + 1) ((x :: l).length + 1) := by
          show DV.sl 1 0 1 (x :: (l ++ [(k : Int)])).length _ = _
          simp
        have e2 : rnHs w j (x :: l ++ [(k : Int)]) = rnH w j (celI (x :: l) ++ [iN k]) := by
          show rnH w j (celI (x :: (l ++ [(k : Int)]))) = _
          have := celI_snoc (x :: l) (k : Int)
          rw [List.cons_append] at this
          rw [this]
        show Goes _ _ _ _ _ _ _ (rnS w j (rnDs (x :: l ++ [(k : Int)])) (k + 1)) (rnHs w j (x :: l ++ [(k : Int)]))
        rw [e1, e2]
        refine zgm_ok tab_ok mixed fun_ok hC (rn1t w j k (x :: l).length (celI (x :: l))) (.cons (fun id o hid hg d hd => ?_) (.cons hd (.cons (calC_at _ rfl rfl) (.cons ?_ (.cons wr .nil)))))
        · obtain rfl := List.mem_singleton.1 hid
          cases hg
          rcases List.mem_append.1 hd with hd | hd
          · exact flatten_flat (i1_flat _) d hd
          · obtain rfl := List.mem_singleton.1 hd
            rfl
        · rw [app_tabI]
          exact appH_grow (id := 1) (n := (x :: l).length) (m := 0) (e := 3) (j := inT) (o := oJ 1 (celI (x :: l))) (news := [iN k]) rfl rfl rfl (.inl rfl) rfl (by rw [celI_length, Nat.mul_one]) (fit_at (by show (_ + (0 + 1)) * 8 ≤ _; omega) (by omega))
theorem rn_good (w : Wd) (va : Va w) (j : Int) (hj : Nd w j) (hk : Ans Try.prog fAs [wdD w, iI j, iI j] (iI 0) ⟨0, [], []⟩) : Ans Try.prog fRn [wdD w, iI j] (.tuple [.list 1 (i1 (nbL w j w.r.length)), iI 0]) ⟨0, [], []⟩ := by
  obtain ⟨q, g⟩ := rn_loop w va j hj w.r.length 0 (by omega)
  have g := g.goes
  have g0 : Goes Try.prog tab kRn (.loop rnLp) (rnS w j .nil 0) (rnH0 w j) (.exit 0) (rnE (rnDs (nbL w j w.r.length))) (rnHs w j (nbL w j w.r.length)) := g
  cases hl : nbL w j w.r.length with
  | nil =>
    rw [hl] at g0
    exact (zans_ok tab_ok mixed fun_ok (calC_ok hk) (rnF0 w j) (.cons (calC_at _ rfl rfl) (.cons g0 .nil))).frz rfl (FrzL.tuple ⟨.nl _, .flat _ rfl, trivial⟩)
  | cons x l =>
    rw [hl] at g0
    exact (zans_ok tab_ok mixed fun_ok (calC_ok hk) (rnF1 w j (x :: l).length (celI (x :: l))) (.cons (calC_at _ rfl rfl) (.cons g0 .nil))).frz rfl (FrzL.tuple ⟨frz_rows rfl rfl (by show (1 : Nat) ≠ 2; decide) rfl (i1_length _) (i1_len1 _) (i1_flat _), .flat _ rfl, trivial⟩)
theorem nl_t (e : Int) (hp : Hp) : FrzD [] hp (.tuple [.nil, iI e]) (.tuple [.list 1 (i1 []), iI e]) := FrzL.tuple ⟨.nl _, .flat _ rfl, trivial⟩
theorem nb_ans (w : Wd) (ok : OkW w) (j : Int) : Ans Try.prog fNb [wdD w, iI j] (nbD w j) ⟨0, [], []⟩ := by
  have hk := ck_ans w ok
  unfold nbD nbV okA asE
  cases hc : chk w with
  | false =>
    rw [chE_f hc] at hk
    exact (zflat_ok tab_ok mixed fun_ok (calC_ok hk) (nbX0 w j) (.cons (calC_at _ rfl rfl) .nil)).frz rfl (nl_t 8 _)
  | true =>
    rw [chE_t hc] at hk
    have va := (va_iff w).1 hc
    cases h1 : inI w j with
    | false =>
      rcases inI_f h1 with q | ⟨q1, q2⟩
      · exact (zflat_ok tab_ok mixed fun_ok (calC_ok hk) (nbX1 w j) (.cons (calC_at _ rfl rfl) (.cons q .nil))).frz rfl (nl_t 2 _)
      · exact (zflat_ok tab_ok mixed fun_ok (calC_ok hk) (nbX2 w j) (.cons (calC_at _ rfl rfl) (.cons q1 (.cons q2 .nil)))).frz rfl (nl_t 2 _)
    | true =>
      obtain ⟨p1, p2⟩ := inI_t h1
      exact nb_good w va j ((nd_iff w j).1 h1) hk p1 p2
theorem rn_ans (w : Wd) (ok : OkW w) (j : Int) : Ans Try.prog fRn [wdD w, iI j] (nbD w j) ⟨0, [], []⟩ := by
  have hk := as_ans w ok j j
  unfold nbD nbV okA
  unfold asE at hk ⊢
  cases hc : chk w with
  | false =>
    rw [hc] at hk
    exact (zflat_ok tab_ok mixed fun_ok (calC_ok hk) (rnX8 w j) (.cons (calC_at _ rfl rfl) .nil)).frz rfl (nl_t 8 _)
  | true =>
    rw [hc] at hk
    have va := (va_iff w).1 hc
    cases h1 : inI w j with
    | false =>
      rw [h1] at hk
      exact (zflat_ok tab_ok mixed fun_ok (calC_ok hk) (rnX2 w j) (.cons (calC_at _ rfl rfl) .nil)).frz rfl (nl_t 2 _)
    | true =>
      rw [h1] at hk
      exact rn_good w va j ((nd_iff w j).1 h1) hk
/-! ### the reference's Symmetric -/
abbrev fRs : FuncId := 30
abbrev kRs : List (Nat × Nat) := ksF ftab fRs
abbrev rsL : Code := loopAt (bodyOf ftab fRs) 0
abbrev rsI : Code := loopAt rsL 0
abbrev rsS (i : Nat) : Slots := mkT 39 [(1, .ptr 0 0), (3, iN i)]
abbrev rsJ (i j : Nat) : Slots := mkT 39 [(1, .ptr 0 0), (3, iN i), (4, iN j)]
abbrev rsE : Slots := mkT 39 [(2, .bool false)]
set_option maxRecDepth 1000000 in
theorem rj1 (w : Wd) (ys zs : List (List DV)) (i j : Nat) (u v : Int) : zsee Try.prog tab ftab noC kRs [1, 3, 4] rsI (rsJ i j) (hW w) [(19, .b true), (25, .n (.fptr [.list 1 ys])), (28, .n (.fptr [iI u])), (33, .n (.fptr [.list 1 zs])), (36, .n (.fptr [iI v])), (38, .b false), (21, .w (iN (j + 1)))] = some (.normal, rsJ i (j + 1), hW w, ((decide ((j : Int) < ((ssR w.s).length : Int))) = true) :: ((idxOk (i : Int) (ssR w.s).length) = true) :: (nth (ssR w.s) ((i : Int).toNat) = some [.list 1 ys]) :: ((idxOk (j : Int) ys.length) = true) :: (nth ys ((j : Int).toNat) = some [iI u]) :: ((idxOk (j : Int) (ssR w.s).length) = true) :: (nth (ssR w.s) ((j : Int).toNat) = some [.list 1 zs]) :: ((idxOk (i : Int) zs.length) = true) :: (nth zs ((i : Int).toNat) = some [iI v]) :: ((u != v) = false) :: wrK j :: []) := by kernel_rfl
set_option maxRecDepth 1000000 in
theorem rj2 (w : Wd) (ys zs : List (List DV)) (i j : Nat) (u v : Int) : zsee Try.prog tab ftab noC kRs [2] rsI (rsJ i j) (hW w) [(19, .b true), (25, .n (.fptr [.list 1 ys])), (28, .n (.fptr [iI u])), (33, .n (.fptr [.list 1 zs])), (36, .n (.fptr [iI v])), (38, .b true)] = some (.ret, rsE, hW w, ((decide ((j : Int) < ((ssR w.s).length : Int))) = true) :: ((idxOk (i : Int) (ssR w.s).length) = true) :: (nth (ssR w.s) ((i : Int).toNat) = some [.list 1 ys]) :: ((idxOk (j : Int) ys.length) = true) :: (nth ys ((j : Int).toNat) = some [iI u]) :: ((idxOk (j : Int) (ssR w.s).length) = true) :: (nth (ssR w.s) ((j : Int).toNat) = some [.list 1 zs]) :: ((idxOk (i : Int) zs.length) = true) :: (nth zs ((i : Int).toNat) = some [iI v]) :: ((u != v) = true) :: []) := by kernel_rfl
set_option maxRecDepth 1000000 in
theorem rjO (w : Wd) (i j : Nat) : zsee Try.prog tab ftab noC kRs [1, 3] rsI (rsJ i j) (hW w) [(19, .b false)] = some (.exit 2, rsS i, hW w, ((decide ((j : Int) < ((ssR w.s).length : Int))) = false) :: []) := by kernel_rfl
set_option maxRecDepth 1000000 in
theorem rs1 (w : Wd) (i : Nat) : zsee Try.prog tab ftab noC kRs [1, 3] rsL (rsS i) (hW w) [(12, .b true), (0, .l [1, 3, 4] (.exit 2) (rsS i) (hW w)), (14, .w (iN (i + 1)))] = some (.normal, rsS (i + 1), hW w, ((decide ((i : Int) < ((ssR w.s).length : Int))) = true) :: (Goes Try.prog tab kRs (.loop rsI) (rsJ i 0) (hW w) (.exit 2) (rsS i) (hW w)) :: wrK i :: []) := by kernel_rfl
set_option maxRecDepth 1000000 in
theorem rs2 (w : Wd) (i : Nat) : zsee Try.prog tab ftab noC kRs [2] rsL (rsS i) (hW w) [(12, .b true), (0, .l [1, 3, 4] .ret rsE (hW w))] = some (.ret, rsE, hW w, ((decide ((i : Int) < ((ssR w.s).length : Int))) = true) :: (Goes Try.prog tab kRs (.loop rsI) (rsJ i 0) (hW w) .ret rsE (hW w)) :: []) := by kernel_rfl
set_option maxRecDepth 1000000 in
theorem rsO (w : Wd) (i : Nat) : zsee Try.prog tab ftab noC kRs [] rsL (rsS i) (hW w) [(12, .b false)] = some (.exit 0, mkT 39 [], hW w, ((decide ((i : Int) < ((ssR w.s).length : Int))) = false) :: []) := by kernel_rfl
set_option maxRecDepth 1000000 in
theorem rsA (C : ConF) (w : Wd) : zflat (zans Try.prog tab ftab C fRs [wdD w] [(6, .q (iI 8))]) = some (.bool false, (C fRk [wdD w] (hW w) = some (iI 8, hW w, none)) :: []) := by kernel_rfl
set_option maxRecDepth 1000000 in
theorem rsB (C : ConF) (w : Wd) : zflat (zans Try.prog tab ftab C fRs [wdD w] [(6, .q (iI 0)), (0, .l [1, 3] .ret rsE (hW w))]) = some (.bool false, (C fRk [wdD w] (hW w) = some (iI 0, hW w, none)) :: (Goes Try.prog tab kRs (.loop rsL) (rsS 0) (hW w) .ret rsE (hW w)) :: []) := by kernel_rfl
set_option maxRecDepth 1000000 in
theorem rsC (C : ConF) (w : Wd) : zflat (zans Try.prog tab ftab C fRs [wdD w] [(6, .q (iI 0)), (0, .l [1, 3] (.exit 0) (mkT 39 []) (hW w))]) = some (.bool true, (C fRk [wdD w] (hW w) = some (iI 0, hW w, none)) :: (Goes Try.prog tab kRs (.loop rsL) (rsS 0) (hW w) (.exit 0) (mkT 39 []) (hW w)) :: []) := by kernel_rfl
def syA2 (w : Wd) : Bool := allB w.s.length fun i => allB w.s.length fun j => sAt w i j == sAt w j i
theorem syA2_eq (w : Wd) : syA2 w = allB w.s.length fun i => allB i fun j => sAt w i j == sAt w j i := by
  cases h : allB w.s.length fun i => allB i fun j => sAt w i j == sAt w j i with
  | true =>
    have h2 := allB_t.1 h
    refine allB_t.2 fun i hi => allB_t.2 fun j hj => ?_
    rcases Nat.lt_trichotomy i j with q | rfl | q
    · rw [beq_iff_eq.1 (allB_t.1 (h2 j hj) i q)]
      exact ieq _
    · exact ieq _
    · exact allB_t.1 (h2 i hi) j q
  | false =>
    obtain ⟨i, hi, h1, _⟩ := allB_f h
    obtain ⟨j, hj, h2, _⟩ := allB_f h1
    cases hq : syA2 w with
    | false => rfl
    | true =>
      have := allB_t.1 (allB_t.1 hq i hi) j (by omega)
      rw [this] at h2
      cases h2
section
variable {w : Wd} (va : Va w) (ok : OkW w)
include va ok
theorem rj_args {i j : Nat} (hi : i < w.s.length) (hj : j < w.s.length) : decide ((j : Int) < ((ssR w.s).length : Int)) = true ∧ idxOk (i : Int) (ssR w.s).length = true ∧ nth (ssR w.s) ((i : Int).toNat) = some [.list 1 (i1 (w.s.getD i []))] ∧ idxOk (j : Int) (i1 (w.s.getD i [])).length = true ∧ nth (i1 (w.s.getD i [])) ((j : Int).toNat) = some [iI (sAt w i j)] ∧ idxOk (j : Int) (ssR w.s).length = true ∧ nth (ssR w.s) ((j : Int).toNat) = some [.list 1 (i1 (w.s.getD j []))] ∧ idxOk (i : Int) (i1 (w.s.getD j [])).length = true ∧ nth (i1 (w.s.getD j [])) ((i : Int).toNat) = some [iI (sAt w j i)] := by
  have r1 := va.rows ok hi
  have r2 := va.rows ok hj
  have e1 := i1_length (w.s.getD i [])
  have e2 := i1_length (w.s.getD j [])
  have e3 := ssR_length w.s
  exact ⟨decide_eq_true (by omega), idxOk_lt (by omega), ssR_at (get_in _ (by omega)), idxOk_lt (by omega), i1_at (get_in _ (by omega)), idxOk_lt (by omega), ssR_at (get_in _ (by omega)), idxOk_lt (by omega), i1_at (get_in _ (by omega))⟩
theorem rj_go {i : Nat} (hi : i < w.s.length) (j : Nat) (hj : j < w.s.length) (h : (sAt w i j == sAt w j i) = true) : Goes Try.prog tab kRs rsI (rsJ i j) (hW w) .normal (rsJ i (j + 1)) (hW w) := by
  obtain ⟨a1, a2, a3, a4, a5, a6, a7, a8, a9⟩ := rj_args va ok hi hj
  have := ok.s
  have e : (sAt w i j != sAt w j i) = false := by simp only [bne, h]; rfl
  exact zsee_ok tab_ok mixed fun_ok noC_ok (rj1 w _ _ i j _ _) (.cons a1 (.cons a2 (.cons a3 (.cons a4 (.cons a5 (.cons a6 (.cons a7 (.cons a8 (.cons a9 (.cons e (.cons (wrK_at (by omega)) .nil)))))))))))
theorem rj_bad {i : Nat} (hi : i < w.s.length) (j : Nat) (hj : j < w.s.length) (h : (sAt w i j == sAt w j i) = false) : Goes Try.prog tab kRs rsI (rsJ i j) (hW w) .ret rsE (hW w) := by
  obtain ⟨a1, a2, a3, a4, a5, a6, a7, a8, a9⟩ := rj_args va ok hi hj
  have e : (sAt w i j != sAt w j i) = true := by simp only [bne, h]; rfl
  exact zsee_ok tab_ok mixed fun_ok noC_ok (rj2 w _ _ i j _ _) (.cons a1 (.cons a2 (.cons a3 (.cons a4 (.cons a5 (.cons a6 (.cons a7 (.cons a8 (.cons a9 (.cons e .nil))))))))))
theorem rs_go (i : Nat) (hi : i < w.s.length) (h : (allB w.s.length fun j => sAt w i j == sAt w j i) = true) : Goes Try.prog tab kRs rsL (rsS i) (hW w) .normal (rsS (i + 1)) (hW w) := by
  have e3 := ssR_length w.s
  have := ok.s
  exact zsee_ok tab_ok mixed fun_ok noC_ok (rs1 w i) (.cons (decide_eq_true (by omega)) (.cons (scan_t (S := rsJ i) (by intro h; cases h) (fun j hj hh => rj_go va ok hi j hj hh) (zsee_ok tab_ok mixed fun_ok noC_ok (rjO w i w.s.length) (.cons (decide_eq_false (by omega)) .nil)) h) (.cons (wrK_at (by omega)) .nil)))
theorem rs_bad (i : Nat) (hi : i < w.s.length) (h : (allB w.s.length fun j => sAt w i j == sAt w j i) = false) : Goes Try.prog tab kRs rsL (rsS i) (hW w) .ret rsE (hW w) := by
  have e3 := ssR_length w.s
  exact zsee_ok tab_ok mixed fun_ok noC_ok (rs2 w i) (.cons (decide_eq_true (by omega)) (.cons (scan_f (S := rsJ i) (by intro h; cases h) (fun j hj hh => rj_go va ok hi j hj hh) (fun j hj hh => rj_bad va ok hi j hj hh) h) .nil))
end
theorem rs_ans (w : Wd) (ok : OkW w) : Ans Try.prog fRs [wdD w] (.bool (syB w)) ⟨0, [], []⟩ := by
  have hk := rk_ans w ok
  have e3 := ssR_length w.s
  unfold syB
  rw [← syA2_eq]
  cases hc : chk w with
  | false =>
    rw [chE_f hc] at hk
    exact zflat_ok tab_ok mixed fun_ok (calC_ok hk) (rsA _ w) (.cons (calC_at _ rfl rfl) .nil)
  | true =>
    rw [chE_t hc] at hk
    have va := (va_iff w).1 hc
    dsimp only
    cases hb : syA2 w with
    | true => exact zflat_ok tab_ok mixed fun_ok (calC_ok hk) (rsC _ w) (.cons (calC_at _ rfl rfl) (.cons (scan_t (S := rsS) (by intro h; cases h) (fun i hi hh => rs_go va ok i hi hh) (zsee_ok tab_ok mixed fun_ok noC_ok (rsO w w.s.length) (.cons (decide_eq_false (by omega)) .nil)) hb) .nil))
    | false => exact zflat_ok tab_ok mixed fun_ok (calC_ok hk) (rsB _ w) (.cons (calC_at _ rfl rfl) (.cons (scan_f (S := rsS) (by intro h; cases h) (fun i hi hh => rs_go va ok i hi hh) (fun i hi hh => rs_bad va ok i hi hh) hb) .nil))
end
end Go.Proofs.Ytmnpkgonanpgfaa
