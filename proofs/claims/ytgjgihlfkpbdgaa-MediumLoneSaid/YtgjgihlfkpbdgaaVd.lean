/- slices.Index, slices.Contains; lists filtered by closures: Drop, noticed: contracts. -/
import Derived.Test.YtgjgihlfkpbdgaaVc
namespace Go.Proofs.Ytgjgihlfkpbdgaa
open Go.RowKit

noncomputable section
/-! ### The first that is not right -/
def fst (ok : Nat → Bool) : Nat → Option Nat
  | 0 => none
  | n + 1 => match fst ok n with
    | some k => some k
    | none => match ok n with
      | true => none
      | false => some n
theorem fst_none {ok : Nat → Bool} : ∀ {n : Nat}, fst ok n = none → allB n ok = true
  | 0, _ => rfl
  | n + 1, h => by
    rw [fst] at h
    split at h
    · cases h
    · rename_i h1
      split at h
      · rename_i h2
        rw [allB, fst_none h1, h2]
        rfl
      · cases h
theorem fst_some {ok : Nat → Bool} : ∀ {n k : Nat}, fst ok n = some k → k < n ∧ ok k = false ∧ ∀ j, j < k → ok j = true
  | 0, _, h => by cases h
  | n + 1, k, h => by
    rw [fst] at h
    split at h
    · rename_i h1
      obtain ⟨a, b⟩ := fst_some h1
      cases h
      exact ⟨by omega, b⟩
    · rename_i h1
      split at h
      · cases h
      · rename_i h2
        cases h
        exact ⟨by omega, h2, allB_t.1 (fst_none h1)⟩
/-- is there one: by the first -/
def anyB (n : Nat) (f : Nat → Bool) : Bool := !allB n fun k => !f k
theorem anyB_iff {n : Nat} {f : Nat → Bool} : anyB n f = true ↔ ∃ k, k < n ∧ f k = true := by
  unfold anyB
  constructor
  · intro h
    have h1 : allB n (fun k => !f k) = false := by simpa using h
    obtain ⟨k, a, b, _⟩ := allB_f h1
    exact ⟨k, a, by simpa using b⟩
  · rintro ⟨k, a, b⟩
    cases h : allB n fun k => !f k with
    | false => rfl
    | true =>
      have := allB_t.1 h k a
      rw [b] at this
      cases this
section
variable {P : Program} {T : Tab}
theorem scan_s {ks : List (Nat × Nat)} {x : Code} {n k : Nat} {ok : Nat → Bool} {S : Nat → Slots} {H : Hp} {e2 : Ex} {s2 : Slots} {h2 : Hp} (hne : e2 ≠ .normal) (h : fst ok n = some k) (hgo : ∀ k, k < n → ok k = true → Goes P T ks x (S k) H .normal (S (k + 1)) H)
    (hbad : ok k = false → Goes P T ks x (S k) H e2 s2 h2) : Goes P T ks (.loop x) (S 0) H e2 s2 h2 := by
  obtain ⟨h1, h3, h4⟩ := fst_some h
  exact Goes.loop k S (fun _ => H) (fun j hj => hgo j (by omega) (h4 j hj)) (hbad h3) hne
end
/-! ### slices.Index, slices.Contains -/
abbrev fIx : FuncId := 72
abbrev kIx : List (Nat × Nat) := ksF ftab fIx
abbrev ixL : Code := loopAt (bodyOf ftab fIx) 0
abbrev fCt : FuncId := 60
abbrev ixS (l : List Int) (v : Int) (k : Nat) : Slots := mkT 19 [(0, .list 1 (i1 l)), (1, iI v), (7, .int .i64 ((i1 l).length : Int)), (8, iN k)]
def ixV (l : List Int) (v : Int) : Int := match fst (fun k => !(v == l.getD k 0)) l.length with
  | some k => (k : Int)
  | none => -1
def hasI (l : List Int) (v : Int) : Bool := decide (ixV l v ≥ 0)
set_option maxRecDepth 1000000 in
theorem ix1 (l : List Int) (v : Int) (k : Nat) (x : Int) : zsee Try.prog tab ftab noC kIx [0, 1, 7, 8] ixL (ixS l v k) h00 [(9, .b true), (14, .n (.fptr [iI x])), (16, .b false), (18, .w (iN (k + 1)))] = some (Ex.normal, (ixS l v (k + 1)), (h00), ((decide ((↑k : Int) < (↑(List.length (i1 l)) : Int))) = true) :: ((idxOk (↑k : Int) (List.length (i1 l))) = true) :: ((nth (i1 l) (Int.toNat (↑k : Int))) = (Option.some [(iI x)])) :: ((v == x) = false) :: ((ar IntKind.i64 ((↑k : Int) + 1)) = (iN (k + 1))) :: []) := by kernel_rfl
set_option maxRecDepth 1000000 in
theorem ix2 (l : List Int) (v : Int) (k : Nat) (x : Int) : zsee Try.prog tab ftab noC kIx [4] ixL (ixS l v k) h00 [(9, .b true), (14, .n (.fptr [iI x])), (16, .b true)] = some (Ex.ret, (mkT 19 [(4, (DV.int (IntKind.i64) ((↑k : Int))))]), (h00), ((decide ((↑k : Int) < (↑(List.length (i1 l)) : Int))) = true) :: ((idxOk (↑k : Int) (List.length (i1 l))) = true) :: ((nth (i1 l) (Int.toNat (↑k : Int))) = (Option.some [(iI x)])) :: ((v == x) = true) :: []) := by kernel_rfl
set_option maxRecDepth 1000000 in
theorem ixO (l : List Int) (v : Int) (k : Nat) : zsee Try.prog tab ftab noC kIx [] ixL (ixS l v k) h00 [(9, .b false)] = some ((Ex.exit 0), (mkT 19 []), (h00), ((decide ((↑k : Int) < (↑(List.length (i1 l)) : Int))) = false) :: []) := by kernel_rfl
set_option maxRecDepth 1000000 in
theorem ixa (l : List Int) (v : Int) (k : Nat) : zflat (zans Try.prog tab ftab noC fIx [.list 1 (i1 l), iI v] [(0, .l [0, 1, 7, 8] .ret (mkT 19 [(4, iN k)]) h00)]) = some ((DV.int (IntKind.i64) ((↑k : Int))), (Goes Try.prog tab (kIx) (Go.Code.loop (ixL)) (ixS l v 0) (h00) (Ex.ret) (mkT 19 [(4, (DV.int (IntKind.i64) ((↑k : Int))))]) (h00)) :: []) := by kernel_rfl
set_option maxRecDepth 1000000 in
theorem ixb (l : List Int) (v : Int) : zflat (zans Try.prog tab ftab noC fIx [.list 1 (i1 l), iI v] [(0, .l [0, 1, 7, 8] (.exit 0) (mkT 19 []) h00)]) = some ((DV.int (IntKind.i64) (-1)), (Goes Try.prog tab (kIx) (Go.Code.loop (ixL)) (ixS l v 0) (h00) (Ex.exit 0) (mkT 19 []) (h00)) :: []) := by kernel_rfl
set_option maxRecDepth 1000000 in
theorem ctA (C : ConF) (l : List Int) (v q : Int) : zflat (zans Try.prog tab ftab C fCt [.list 1 (i1 l), iI v] [(7, .q (iI q))]) = some ((DV.bool (decide (q ≥ 0))), ((C 72 [(DV.list 1 (i1 l)), (iI v)] (h00)) = (Option.some ((iI q), (h00), Option.none))) :: []) := by kernel_rfl
theorem ix_ans (l : List Int) (v : Int) (hl : l.length < 2 ^ 63) : Ans Try.prog fIx [.list 1 (i1 l), iI v] (iI (ixV l v)) ⟨0, [], []⟩ := by
  have e := i1_length l
  have go : ∀ k, k < l.length → (!(v == l.getD k 0)) = true → Goes Try.prog tab kIx ixL (ixS l v k) h00 .normal (ixS l v (k + 1)) h00 := fun k hk hh =>
    zsee_ok tab_ok mixed fun_ok noC_ok (ix1 l v k (l.getD k 0)) (.cons (decide_eq_true (by omega)) (.cons (idxOk_lt (by omega)) (.cons (i1_at (get_in _ hk)) (.cons (by simpa using hh) (.cons (wrK_at (by omega)) .nil)))))
  unfold ixV
  cases hf : fst (fun k => !(v == l.getD k 0)) l.length with
  | some k =>
    have hk := (fst_some hf).1
    exact zflat_ok tab_ok mixed fun_ok noC_ok (ixa l v k) (.cons (scan_s (S := ixS l v) (by intro h; cases h) hf go fun hh => zsee_ok tab_ok mixed fun_ok noC_ok (ix2 l v k (l.getD k 0)) (.cons (decide_eq_true (by omega)) (.cons (idxOk_lt (by omega)) (.cons (i1_at (get_in _ hk)) (.cons (by simpa using hh) .nil))))) .nil)
  | none =>
    exact zflat_ok tab_ok mixed fun_ok noC_ok (ixb l v) (.cons (scan_t (S := ixS l v) (by intro h; cases h) go (zsee_ok tab_ok mixed fun_ok noC_ok (ixO l v l.length) (.cons (decide_eq_false (by omega)) .nil)) (fst_none hf)) .nil)
theorem ct_ans (l : List Int) (v : Int) (hl : l.length < 2 ^ 63) : Ans Try.prog fCt [.list 1 (i1 l), iI v] (.bool (hasI l v)) ⟨0, [], []⟩ :=
  zflat_ok tab_ok mixed fun_ok (calC_ok (ix_ans l v hl)) (ctA _ l v (ixV l v)) (.cons (calC_at _ rfl rfl) .nil)
theorem hasI_iff (l : List Int) (v : Int) : hasI l v = true ↔ v ∈ l := by
  unfold hasI ixV
  cases hf : fst (fun k => !(v == l.getD k 0)) l.length with
  | some k =>
    obtain ⟨a, b, _⟩ := fst_some hf
    have b : v = l.getD k 0 := by simpa using b
    refine ⟨fun _ => ?_, fun _ => decide_eq_true (show ((k : Nat) : Int) ≥ 0 by omega)⟩
    rw [b, List.getD_eq_getElem?_getD, List.getElem?_eq_getElem a]
    exact List.getElem_mem a
  | none =>
    have h := allB_t.1 (fst_none hf)
    refine ⟨fun q => by simp at q, fun q => ?_⟩
    obtain ⟨k, hk, e⟩ := List.mem_iff_getElem.1 q
    have := h k hk
    rw [List.getD_eq_getElem?_getD, List.getElem?_eq_getElem hk] at this
    simp [e] at this
/-! ### Lists filtered by a closure -/
abbrev fFd : FuncId := 45
abbrev kFd : List (Nat × Nat) := ksF ftab fFd
abbrev fdL : Code := loopAt (bodyOf ftab fFd) 0
abbrev fDc : FuncId := 46
abbrev fNc : FuncId := 59
abbrev fDr : FuncId := 19
abbrev fNt : FuncId := 38
abbrev tSn : TypeId := 32
def celN (l : List Sn) : List DV := (snR l).flatten
theorem celN_snoc (l : List Sn) (s : Sn) : celN (l ++ [s]) = celN l ++ snC s := by
  unfold celN snR
  rw [List.map_append, List.flatten_append]
  show _ ++ (snC s ++ []) = _
  rw [List.append_nil]
theorem snR_len4 (l : List Sn) : ∀ cs ∈ snR l, cs.length = 4 := fun cs h => by
  obtain ⟨r, _, rfl⟩ := List.mem_map.1 h
  rfl
theorem snR_flat (l : List Sn) : ∀ cs ∈ snR l, ∀ d ∈ cs, flat0 d = true := fun cs h d hd => by
  obtain ⟨r, _, rfl⟩ := List.mem_map.1 h
  simp only [snC, List.mem_cons, List.not_mem_nil, or_false] at hd
  rcases hd with rfl | rfl | rfl | rfl <;> rfl
theorem celN_length (l : List Sn) : (celN l).length = l.length * 4 := by
  unfold celN
  rw [len_flat (snR_len4 l), snR_length]
def filN (f : Sn → Bool) (l : List Sn) : Nat → List Sn
  | 0 => []
  | n + 1 => match f (l.getD n sn0) with
    | true => filN f l n ++ [l.getD n sn0]
    | false => filN f l n
theorem filN_len (f : Sn → Bool) (l : List Sn) : ∀ n, (filN f l n).length ≤ n
  | 0 => Nat.le_refl _
  | n + 1 => by
    have := filN_len f l n
    unfold filN
    split
    · simp; omega
    · omega
abbrev fdS (fn : DV) (l : List Sn) (d : DV) (k : Nat) : Slots := mkT 23 [(1, fn), (5, d), (8, snL l), (9, .int .i64 ((snR l).length : Int)), (10, iN k)]
abbrev fdE (d : DV) : Slots := mkT 23 [(5, d)]
abbrev hD0 (t : Int) : Hp := ⟨1, [oIn t], []⟩
abbrev oLi (l : List Int) : Ob := ⟨0, 0, 55, [.list 1 (i1 l)]⟩
abbrev hN0 (w : Wd) (j : Int) (nb : List Int) : Hp := ⟨3, [oLi nb, oIn j, oW w], []⟩
set_option maxRecDepth 1000000 in
theorem xdd00 (t : Int) (l : List Sn) (k n : Nat) (cl : List DV) (s : Sn) : zgm [0] [] (zsee Try.prog tab ftab noC kFd [1, 5, 8, 9, 10] fdL (fdS (.fn fDc [] [.ptr 0 0]) l (.nil) k) (hD0 t) [(11, .b true), (12, .n (.fptr (snC s))), (16, .c [(7, .b false)]), (21, .w (iN (k + 1)))]) = some (Ex.normal, (fdS (.fn fDc [] [.ptr 0 0]) l (.nil) (k + 1)), ((hD0 t)), (FlatIn [] (Hp.mk 2 [(Ob.mk 0 0 32 (snC s)), (Ob.mk 0 0 3 [(DV.int (IntKind.i64) t)])] [])) :: ((decide ((↑k : Int) < (↑(List.length (snR l)) : Int))) = true) :: ((idxOk (↑k : Int) (List.length (snR l))) = true) :: ((nth (snR l) (Int.toNat (↑k : Int))) = (Option.some (snC s))) :: ((decide (s.b > t)) = false) :: ((ar IntKind.i64 ((↑k : Int) + 1)) = (iN (k + 1))) :: []) := by kernel_rfl
set_option maxRecDepth 1000000 in
theorem xdd01 (t : Int) (l : List Sn) (k n : Nat) (cl : List DV) (s : Sn) : zgm [0, 1] [1] (zsee Try.prog tab ftab noC kFd [1, 5, 8, 9, 10] fdL (fdS (.fn fDc [] [.ptr 0 0]) l (.sl 1 0 4 n n) k) (⟨2, ⟨1, 0, tSn, cl⟩ :: [oIn t], []⟩ : Hp) [(11, .b true), (12, .n (.fptr (snC s))), (16, .c [(7, .b false)]), (21, .w (iN (k + 1)))]) = some (Ex.normal, (fdS (.fn fDc [] [.ptr 0 0]) l (.sl 1 0 4 n n) (k + 1)), ((⟨2, ⟨1, 0, tSn, cl⟩ :: [oIn t], []⟩ : Hp)), (FlatIn [1] (Hp.mk 3 [(Ob.mk 0 0 32 (snC s)), (Ob.mk 1 0 32 (cl)), (oIn t)] [])) :: ((decide ((↑k : Int) < (↑(List.length (snR l)) : Int))) = true) :: ((idxOk (↑k : Int) (List.length (snR l))) = true) :: ((nth (snR l) (Int.toNat (↑k : Int))) = (Option.some (snC s))) :: ((decide (s.b > t)) = false) :: ((ar IntKind.i64 ((↑k : Int) + 1)) = (iN (k + 1))) :: []) := by kernel_rfl
set_option maxRecDepth 1000000 in
theorem xdk00 (t : Int) (l : List Sn) (k n : Nat) (cl : List DV) (s : Sn) : zgm [0, 3] [3] (zsee Try.prog tab ftab noC kFd [1, 5, 8, 9, 10] fdL (fdS (.fn fDc [] [.ptr 0 0]) l .nil k) (hD0 t) [(11, .b true), (12, .n (.fptr (snC s))), (16, .c [(7, .b true)]), (21, .w (iN (k + 1)))]) = some (Ex.normal, (fdS (.fn fDc [] [.ptr 0 0]) l (.sl 1 0 4 1 1) (k + 1)), ((⟨2, ⟨1, 0, tSn, (snC s)⟩ :: [oIn t], []⟩ : Hp)), (FlatIn [3] (Hp.mk 4 [(Ob.mk 1 0 32 (snC s)), (Ob.mk 0 0 32 (snC s)), (Ob.mk 0 0 32 (snC s)), (Ob.mk 0 0 3 [(DV.int (IntKind.i64) t)])] [])) :: ((decide ((↑k : Int) < (↑(List.length (snR l)) : Int))) = true) :: ((idxOk (↑k : Int) (List.length (snR l))) = true) :: ((nth (snR l) (Int.toNat (↑k : Int))) = (Option.some (snC s))) :: ((decide (s.b > t)) = true) :: ((ar IntKind.i64 ((↑k : Int) + 1)) = (iN (k + 1))) :: []) := by kernel_rfl
set_option maxRecDepth 1000000 in
theorem xdk01 (t : Int) (l : List Sn) (k n : Nat) (cl : List DV) (s : Sn) : zgm [0, 4] [4] (zsee Try.prog tab ftab noC kFd [1, 5, 8, 9, 10] fdL (fdS (.fn fDc [] [.ptr 0 0]) l (.sl 1 0 4 n n) k) (⟨2, ⟨1, 0, tSn, cl⟩ :: [oIn t], []⟩ : Hp) [(11, .b true), (12, .n (.fptr (snC s))), (16, .c [(7, .b true)]), (20, .h (.sl 4 0 4 (n + 1) (n + 1)) ⟨5, ⟨3, 1, tSn, cl ++ snC s⟩ :: ⟨0, 0, tSn, snC s⟩ :: ⟨0, 0, tSn, snC s⟩ :: ⟨2, 0, tSn, cl⟩ :: [oIn t], []⟩ (some 1)), (21, .w (iN (k + 1)))]) = some (Ex.normal, (fdS (.fn fDc [] [.ptr 0 0]) l (.sl 1 0 4 (n + 1) (n + 1)) (k + 1)), ((⟨2, ⟨1, 0, tSn, (cl ++ snC s)⟩ :: [oIn t], []⟩ : Hp)), (FlatIn [4] (Hp.mk 5 [(Ob.mk 3 1 32 (cl ++ snC s)), (Ob.mk 0 0 32 (snC s)), (Ob.mk 0 0 32 (snC s)), (Ob.mk 2 0 32 (cl)), (oIn t)] [])) :: ((decide ((↑k : Int) < (↑(List.length (snR l)) : Int))) = true) :: ((idxOk (↑k : Int) (List.length (snR l))) = true) :: ((nth (snR l) (Int.toNat (↑k : Int))) = (Option.some (snC s))) :: ((decide (s.b > t)) = true) :: ((builtinD tab (Hp.mk 4 [(Ob.mk 0 0 32 (snC s)), (Ob.mk 0 0 32 (snC s)), (Ob.mk 1 0 32 (cl)), (oIn t)] []) (Builtin.append) [(DV.sl 1 0 4 n n), (DV.sl (2 + 1) 0 4 1 1)] [27, 27]) = (Option.some ((DV.sl 4 0 4 (n + 1) (n + 1)), (Hp.mk 5 [(Ob.mk 3 1 32 (cl ++ snC s)), (Ob.mk 0 0 32 (snC s)), (Ob.mk 0 0 32 (snC s)), (Ob.mk 2 0 32 (cl)), (oIn t)] []), (Option.some 1)))) :: ((ar IntKind.i64 ((↑k : Int) + 1)) = (iN (k + 1))) :: []) := by kernel_rfl
set_option maxRecDepth 1000000 in
theorem xdO0 (t : Int) (l : List Sn) (k n : Nat) (cl : List DV) : zsee Try.prog tab ftab noC kFd [5] fdL (fdS (.fn fDc [] [.ptr 0 0]) l (.nil) k) (hD0 t) [(11, .b false)] = some ((Ex.exit 0), (mkT 23 [(5, DV.nil)]), ((hD0 t)), ((decide ((↑k : Int) < (↑(List.length (snR l)) : Int))) = false) :: []) := by kernel_rfl
set_option maxRecDepth 1000000 in
theorem xdF0 (t : Int) (l : List Sn) (n : Nat) (cl : List DV) : zansH Try.prog tab ftab noC fFd [snL l, (.fn fDc [] [.ptr 0 0])] (hD0 t) [(0, .l [1, 5, 8, 9, 10] (.exit 0) (fdE (.nil)) (hD0 t))] = some (DV.nil, ((hD0 t)), (Goes Try.prog tab (kFd) (Go.Code.loop (fdL)) (fdS (.fn fDc [] [.ptr 0 0]) l .nil 0) ((hD0 t)) (Ex.exit 0) (mkT 23 [(5, DV.nil)]) ((hD0 t))) :: []) := by kernel_rfl
set_option maxRecDepth 1000000 in
theorem xdO1 (t : Int) (l : List Sn) (k n : Nat) (cl : List DV) : zsee Try.prog tab ftab noC kFd [5] fdL (fdS (.fn fDc [] [.ptr 0 0]) l (.sl 1 0 4 n n) k) (⟨2, ⟨1, 0, tSn, cl⟩ :: [oIn t], []⟩ : Hp) [(11, .b false)] = some ((Ex.exit 0), (mkT 23 [(5, (DV.sl 1 0 4 n n))]), ((⟨2, ⟨1, 0, tSn, cl⟩ :: [oIn t], []⟩ : Hp)), ((decide ((↑k : Int) < (↑(List.length (snR l)) : Int))) = false) :: []) := by kernel_rfl
set_option maxRecDepth 1000000 in
theorem xdF1 (t : Int) (l : List Sn) (n : Nat) (cl : List DV) : zansH Try.prog tab ftab noC fFd [snL l, (.fn fDc [] [.ptr 0 0])] (hD0 t) [(0, .l [1, 5, 8, 9, 10] (.exit 0) (fdE (.sl 1 0 4 n n)) (⟨2, ⟨1, 0, tSn, cl⟩ :: [oIn t], []⟩ : Hp))] = some ((DV.sl 1 0 4 n n), ((⟨2, ⟨1, 0, tSn, cl⟩ :: [oIn t], []⟩ : Hp)), (Goes Try.prog tab (kFd) (Go.Code.loop (fdL)) (fdS (.fn fDc [] [.ptr 0 0]) l .nil 0) ((hD0 t)) (Ex.exit 0) (mkT 23 [(5, (DV.sl 1 0 4 n n))]) ((⟨2, ⟨1, 0, tSn, cl⟩ :: [oIn t], []⟩ : Hp))) :: []) := by kernel_rfl
set_option maxRecDepth 1000000 in
theorem xnd00 (w : Wd) (j : Int) (nb : List Int)  (l : List Sn) (k n : Nat) (cl : List DV) (s : Sn) : zgm [0, 1, 2] [] (zsee Try.prog tab ftab (calC fCt [.list 1 (i1 nb), iI s.n] (.bool false)) kFd [1, 5, 8, 9, 10] fdL (fdS (.fn fNc [] [.ptr 1 0, .ptr 2 0]) l (.nil) k) (hN0 w j nb) [(11, .b true), (12, .n (.fptr (snC s))), (16, .c [(8, .b false), (13, .q (.bool false))]), (21, .w (iN (k + 1)))]) = some (Ex.normal, (fdS (.fn fNc [] [.ptr 1 0, .ptr 2 0]) l (.nil) (k + 1)), ((hN0 w j nb)), (FlatIn [] (Hp.mk 4 [(Ob.mk 0 0 32 (snC s)), (Ob.mk 0 0 55 [(DV.list 1 (i1 nb))]), (Ob.mk 0 0 3 [(iI j)]), (Ob.mk 0 0 25 (wdC w))] [])) :: ((decide ((↑k : Int) < (↑(List.length (snR l)) : Int))) = true) :: ((idxOk (↑k : Int) (List.length (snR l))) = true) :: ((nth (snR l) (Int.toNat (↑k : Int))) = (Option.some (snC s))) :: ((s.n == j) = false) :: ((calC 60 [(DV.list 1 (i1 nb)), (iI s.n)] (DV.bool false) 60 [(DV.list 1 (i1 nb)), (iI s.n)] (Hp.mk 5 [(Ob.mk 0 0 32 (snC s)), (Ob.mk 0 0 32 (snC s)), (Ob.mk 0 0 55 [(DV.list 1 (i1 nb))]), (Ob.mk 0 0 3 [(iI j)]), (Ob.mk 0 0 25 (wdC w))] [])) = (Option.some ((DV.bool false), (Hp.mk 5 [(Ob.mk 0 0 32 (snC s)), (Ob.mk 0 0 32 (snC s)), (Ob.mk 0 0 55 [(DV.list 1 (i1 nb))]), (Ob.mk 0 0 3 [(iI j)]), (Ob.mk 0 0 25 (wdC w))] []), Option.none))) :: ((ar IntKind.i64 ((↑k : Int) + 1)) = (iN (k + 1))) :: []) := by kernel_rfl
set_option maxRecDepth 1000000 in
theorem xnd01 (w : Wd) (j : Int) (nb : List Int)  (l : List Sn) (k n : Nat) (cl : List DV) (s : Sn) : zgm [0, 1, 2, 3] [3] (zsee Try.prog tab ftab (calC fCt [.list 1 (i1 nb), iI s.n] (.bool false)) kFd [1, 5, 8, 9, 10] fdL (fdS (.fn fNc [] [.ptr 1 0, .ptr 2 0]) l (.sl 3 0 4 n n) k) (⟨4, ⟨1, 0, tSn, cl⟩ :: [oLi nb, oIn j, oW w], []⟩ : Hp) [(11, .b true), (12, .n (.fptr (snC s))), (16, .c [(8, .b false), (13, .q (.bool false))]), (21, .w (iN (k + 1)))]) = some (Ex.normal, (fdS (.fn fNc [] [.ptr 1 0, .ptr 2 0]) l (.sl 3 0 4 n n) (k + 1)), ((⟨4, ⟨1, 0, tSn, cl⟩ :: [oLi nb, oIn j, oW w], []⟩ : Hp)), (FlatIn [3] (Hp.mk 5 [(Ob.mk 0 0 32 (snC s)), (Ob.mk 1 0 32 (cl)), (oLi nb), (oIn j), (oW w)] [])) :: ((decide ((↑k : Int) < (↑(List.length (snR l)) : Int))) = true) :: ((idxOk (↑k : Int) (List.length (snR l))) = true) :: ((nth (snR l) (Int.toNat (↑k : Int))) = (Option.some (snC s))) :: ((s.n == j) = false) :: ((calC 60 [(DV.list 1 (i1 nb)), (iI s.n)] (DV.bool false) 60 [(DV.list 1 (i1 nb)), (iI s.n)] (Hp.mk 6 [(Ob.mk 0 0 32 (snC s)), (Ob.mk 0 0 32 (snC s)), (Ob.mk 1 0 32 (cl)), (oLi nb), (oIn j), (oW w)] [])) = (Option.some ((DV.bool false), (Hp.mk 6 [(Ob.mk 0 0 32 (snC s)), (Ob.mk 0 0 32 (snC s)), (Ob.mk 1 0 32 (cl)), (oLi nb), (oIn j), (oW w)] []), Option.none))) :: ((ar IntKind.i64 ((↑k : Int) + 1)) = (iN (k + 1))) :: []) := by kernel_rfl
set_option maxRecDepth 1000000 in
theorem xnk00 (w : Wd) (j : Int) (nb : List Int)  (l : List Sn) (k n : Nat) (cl : List DV) (s : Sn) : zgm [0, 1, 2, 5] [5] (zsee Try.prog tab ftab noC kFd [1, 5, 8, 9, 10] fdL (fdS (.fn fNc [] [.ptr 1 0, .ptr 2 0]) l .nil k) (hN0 w j nb) [(11, .b true), (12, .n (.fptr (snC s))), (16, .c [(8, .b true)]), (21, .w (iN (k + 1)))]) = some (Ex.normal, (fdS (.fn fNc [] [.ptr 1 0, .ptr 2 0]) l (.sl 3 0 4 1 1) (k + 1)), ((⟨4, ⟨1, 0, tSn, (snC s)⟩ :: [oLi nb, oIn j, oW w], []⟩ : Hp)), (FlatIn [5] (Hp.mk 6 [(Ob.mk 1 0 32 (snC s)), (Ob.mk 0 0 32 (snC s)), (Ob.mk 0 0 32 (snC s)), (Ob.mk 0 0 55 [(DV.list 1 (i1 nb))]), (Ob.mk 0 0 3 [(DV.int (IntKind.i64) j)]), (Ob.mk 0 0 25 (wdC w))] [])) :: ((decide ((↑k : Int) < (↑(List.length (snR l)) : Int))) = true) :: ((idxOk (↑k : Int) (List.length (snR l))) = true) :: ((nth (snR l) (Int.toNat (↑k : Int))) = (Option.some (snC s))) :: ((s.n == j) = true) :: ((ar IntKind.i64 ((↑k : Int) + 1)) = (iN (k + 1))) :: []) := by kernel_rfl
set_option maxRecDepth 1000000 in
theorem xnk01 (w : Wd) (j : Int) (nb : List Int)  (l : List Sn) (k n : Nat) (cl : List DV) (s : Sn) : zgm [0, 1, 2, 6] [6] (zsee Try.prog tab ftab noC kFd [1, 5, 8, 9, 10] fdL (fdS (.fn fNc [] [.ptr 1 0, .ptr 2 0]) l (.sl 3 0 4 n n) k) (⟨4, ⟨1, 0, tSn, cl⟩ :: [oLi nb, oIn j, oW w], []⟩ : Hp) [(11, .b true), (12, .n (.fptr (snC s))), (16, .c [(8, .b true)]), (20, .h (.sl 6 0 4 (n + 1) (n + 1)) ⟨7, ⟨3, 3, tSn, cl ++ snC s⟩ :: ⟨0, 0, tSn, snC s⟩ :: ⟨0, 0, tSn, snC s⟩ :: ⟨2, 0, tSn, cl⟩ :: [oLi nb, oIn j, oW w], []⟩ (some 3)), (21, .w (iN (k + 1)))]) = some (Ex.normal, (fdS (.fn fNc [] [.ptr 1 0, .ptr 2 0]) l (.sl 3 0 4 (n + 1) (n + 1)) (k + 1)), ((⟨4, ⟨1, 0, tSn, (cl ++ snC s)⟩ :: [oLi nb, oIn j, oW w], []⟩ : Hp)), (FlatIn [6] (Hp.mk 7 [(Ob.mk 3 3 32 (cl ++ snC s)), (Ob.mk 0 0 32 (snC s)), (Ob.mk 0 0 32 (snC s)), (Ob.mk 2 0 32 (cl)), (oLi nb), (oIn j), (oW w)] [])) :: ((decide ((↑k : Int) < (↑(List.length (snR l)) : Int))) = true) :: ((idxOk (↑k : Int) (List.length (snR l))) = true) :: ((nth (snR l) (Int.toNat (↑k : Int))) = (Option.some (snC s))) :: ((s.n == j) = true) :: ((builtinD tab (Hp.mk 6 [(Ob.mk 0 0 32 (snC s)), (Ob.mk 0 0 32 (snC s)), (Ob.mk 1 0 32 (cl)), (oLi nb), (oIn j), (oW w)] []) (Builtin.append) [(DV.sl 3 0 4 n n), (DV.sl (4 + 1) 0 4 1 1)] [27, 27]) = (Option.some ((DV.sl 6 0 4 (n + 1) (n + 1)), (Hp.mk 7 [(Ob.mk 3 3 32 (cl ++ snC s)), (Ob.mk 0 0 32 (snC s)), (Ob.mk 0 0 32 (snC s)), (Ob.mk 2 0 32 (cl)), (oLi nb), (oIn j), (oW w)] []), (Option.some 3)))) :: ((ar IntKind.i64 ((↑k : Int) + 1)) = (iN (k + 1))) :: []) := by kernel_rfl
set_option maxRecDepth 1000000 in
theorem xnk10 (w : Wd) (j : Int) (nb : List Int)  (l : List Sn) (k n : Nat) (cl : List DV) (s : Sn) : zgm [0, 1, 2, 5] [5] (zsee Try.prog tab ftab (calC fCt [.list 1 (i1 nb), iI s.n] (.bool true)) kFd [1, 5, 8, 9, 10] fdL (fdS (.fn fNc [] [.ptr 1 0, .ptr 2 0]) l .nil k) (hN0 w j nb) [(11, .b true), (12, .n (.fptr (snC s))), (16, .c [(8, .b false), (13, .q (.bool true))]), (21, .w (iN (k + 1)))]) = some (Ex.normal, (fdS (.fn fNc [] [.ptr 1 0, .ptr 2 0]) l (.sl 3 0 4 1 1) (k + 1)), ((⟨4, ⟨1, 0, tSn, (snC s)⟩ :: [oLi nb, oIn j, oW w], []⟩ : Hp)), (FlatIn [5] (Hp.mk 6 [(Ob.mk 1 0 32 (snC s)), (Ob.mk 0 0 32 (snC s)), (Ob.mk 0 0 32 (snC s)), (Ob.mk 0 0 55 [(DV.list 1 (i1 nb))]), (Ob.mk 0 0 3 [(iI j)]), (Ob.mk 0 0 25 (wdC w))] [])) :: ((decide ((↑k : Int) < (↑(List.length (snR l)) : Int))) = true) :: ((idxOk (↑k : Int) (List.length (snR l))) = true) :: ((nth (snR l) (Int.toNat (↑k : Int))) = (Option.some (snC s))) :: ((s.n == j) = false) :: ((calC 60 [(DV.list 1 (i1 nb)), (iI s.n)] (DV.bool true) 60 [(DV.list 1 (i1 nb)), (iI s.n)] (Hp.mk 5 [(Ob.mk 0 0 32 (snC s)), (Ob.mk 0 0 32 (snC s)), (Ob.mk 0 0 55 [(DV.list 1 (i1 nb))]), (Ob.mk 0 0 3 [(iI j)]), (Ob.mk 0 0 25 (wdC w))] [])) = (Option.some ((DV.bool true), (Hp.mk 5 [(Ob.mk 0 0 32 (snC s)), (Ob.mk 0 0 32 (snC s)), (Ob.mk 0 0 55 [(DV.list 1 (i1 nb))]), (Ob.mk 0 0 3 [(iI j)]), (Ob.mk 0 0 25 (wdC w))] []), Option.none))) :: ((ar IntKind.i64 ((↑k : Int) + 1)) = (iN (k + 1))) :: []) := by kernel_rfl
set_option maxRecDepth 1000000 in
theorem xnk11 (w : Wd) (j : Int) (nb : List Int)  (l : List Sn) (k n : Nat) (cl : List DV) (s : Sn) : zgm [0, 1, 2, 6] [6] (zsee Try.prog tab ftab (calC fCt [.list 1 (i1 nb), iI s.n] (.bool true)) kFd [1, 5, 8, 9, 10] fdL (fdS (.fn fNc [] [.ptr 1 0, .ptr 2 0]) l (.sl 3 0 4 n n) k) (⟨4, ⟨1, 0, tSn, cl⟩ :: [oLi nb, oIn j, oW w], []⟩ : Hp) [(11, .b true), (12, .n (.fptr (snC s))), (16, .c [(8, .b false), (13, .q (.bool true))]), (20, .h (.sl 6 0 4 (n + 1) (n + 1)) ⟨7, ⟨3, 3, tSn, cl ++ snC s⟩ :: ⟨0, 0, tSn, snC s⟩ :: ⟨0, 0, tSn, snC s⟩ :: ⟨2, 0, tSn, cl⟩ :: [oLi nb, oIn j, oW w], []⟩ (some 3)), (21, .w (iN (k + 1)))]) = some (Ex.normal, (fdS (.fn fNc [] [.ptr 1 0, .ptr 2 0]) l (.sl 3 0 4 (n + 1) (n + 1)) (k + 1)), ((⟨4, ⟨1, 0, tSn, (cl ++ snC s)⟩ :: [oLi nb, oIn j, oW w], []⟩ : Hp)), (FlatIn [6] (Hp.mk 7 [(Ob.mk 3 3 32 (cl ++ snC s)), (Ob.mk 0 0 32 (snC s)), (Ob.mk 0 0 32 (snC s)), (Ob.mk 2 0 32 (cl)), (oLi nb), (oIn j), (oW w)] [])) :: ((decide ((↑k : Int) < (↑(List.length (snR l)) : Int))) = true) :: ((idxOk (↑k : Int) (List.length (snR l))) = true) :: ((nth (snR l) (Int.toNat (↑k : Int))) = (Option.some (snC s))) :: ((s.n == j) = false) :: ((calC 60 [(DV.list 1 (i1 nb)), (iI s.n)] (DV.bool true) 60 [(DV.list 1 (i1 nb)), (iI s.n)] (Hp.mk 6 [(Ob.mk 0 0 32 (snC s)), (Ob.mk 0 0 32 (snC s)), (Ob.mk 1 0 32 (cl)), (oLi nb), (oIn j), (oW w)] [])) = (Option.some ((DV.bool true), (Hp.mk 6 [(Ob.mk 0 0 32 (snC s)), (Ob.mk 0 0 32 (snC s)), (Ob.mk 1 0 32 (cl)), (oLi nb), (oIn j), (oW w)] []), Option.none))) :: ((builtinD tab (Hp.mk 6 [(Ob.mk 0 0 32 (snC s)), (Ob.mk 0 0 32 (snC s)), (Ob.mk 1 0 32 (cl)), (oLi nb), (oIn j), (oW w)] []) (Builtin.append) [(DV.sl 3 0 4 n n), (DV.sl (4 + 1) 0 4 1 1)] [27, 27]) = (Option.some ((DV.sl 6 0 4 (n + 1) (n + 1)), (Hp.mk 7 [(Ob.mk 3 3 32 (cl ++ snC s)), (Ob.mk 0 0 32 (snC s)), (Ob.mk 0 0 32 (snC s)), (Ob.mk 2 0 32 (cl)), (oLi nb), (oIn j), (oW w)] []), (Option.some 3)))) :: ((ar IntKind.i64 ((↑k : Int) + 1)) = (iN (k + 1))) :: []) := by kernel_rfl
set_option maxRecDepth 1000000 in
theorem xnO0 (w : Wd) (j : Int) (nb : List Int)  (l : List Sn) (k n : Nat) (cl : List DV) : zsee Try.prog tab ftab noC kFd [5] fdL (fdS (.fn fNc [] [.ptr 1 0, .ptr 2 0]) l (.nil) k) (hN0 w j nb) [(11, .b false)] = some ((Ex.exit 0), (mkT 23 [(5, DV.nil)]), ((hN0 w j nb)), ((decide ((↑k : Int) < (↑(List.length (snR l)) : Int))) = false) :: []) := by kernel_rfl
set_option maxRecDepth 1000000 in
theorem xnF0 (w : Wd) (j : Int) (nb : List Int)  (l : List Sn) (n : Nat) (cl : List DV) : zansH Try.prog tab ftab noC fFd [snL l, (.fn fNc [] [.ptr 1 0, .ptr 2 0])] (hN0 w j nb) [(0, .l [1, 5, 8, 9, 10] (.exit 0) (fdE (.nil)) (hN0 w j nb))] = some (DV.nil, ((hN0 w j nb)), (Goes Try.prog tab (kFd) (Go.Code.loop (fdL)) (fdS (.fn fNc [] [.ptr 1 0, .ptr 2 0]) l .nil 0) ((hN0 w j nb)) (Ex.exit 0) (mkT 23 [(5, DV.nil)]) ((hN0 w j nb))) :: []) := by kernel_rfl
set_option maxRecDepth 1000000 in
theorem xnO1 (w : Wd) (j : Int) (nb : List Int)  (l : List Sn) (k n : Nat) (cl : List DV) : zsee Try.prog tab ftab noC kFd [5] fdL (fdS (.fn fNc [] [.ptr 1 0, .ptr 2 0]) l (.sl 3 0 4 n n) k) (⟨4, ⟨1, 0, tSn, cl⟩ :: [oLi nb, oIn j, oW w], []⟩ : Hp) [(11, .b false)] = some ((Ex.exit 0), (mkT 23 [(5, (DV.sl 3 0 4 n n))]), ((⟨4, ⟨1, 0, tSn, cl⟩ :: [oLi nb, oIn j, oW w], []⟩ : Hp)), ((decide ((↑k : Int) < (↑(List.length (snR l)) : Int))) = false) :: []) := by kernel_rfl
set_option maxRecDepth 1000000 in
theorem xnF1 (w : Wd) (j : Int) (nb : List Int)  (l : List Sn) (n : Nat) (cl : List DV) : zansH Try.prog tab ftab noC fFd [snL l, (.fn fNc [] [.ptr 1 0, .ptr 2 0])] (hN0 w j nb) [(0, .l [1, 5, 8, 9, 10] (.exit 0) (fdE (.sl 3 0 4 n n)) (⟨4, ⟨1, 0, tSn, cl⟩ :: [oLi nb, oIn j, oW w], []⟩ : Hp))] = some ((DV.sl 3 0 4 n n), ((⟨4, ⟨1, 0, tSn, cl⟩ :: [oLi nb, oIn j, oW w], []⟩ : Hp)), (Goes Try.prog tab (kFd) (Go.Code.loop (fdL)) (fdS (.fn fNc [] [.ptr 1 0, .ptr 2 0]) l .nil 0) ((hN0 w j nb)) (Ex.exit 0) (mkT 23 [(5, (DV.sl 3 0 4 n n))]) ((⟨4, ⟨1, 0, tSn, cl⟩ :: [oLi nb, oIn j, oW w], []⟩ : Hp))) :: []) := by kernel_rfl
theorem flatOne {a : Nat} {hp : Hp} {oa : Ob} (h1 : hp.get a = some oa) (f1 : ∀ d ∈ oa.cs, flat0 d = true) : FlatIn [a] hp := fun id o hid hg d hd => by
  obtain rfl := List.mem_singleton.1 hid
  rw [h1] at hg; cases hg; exact f1 d hd
theorem snC_flat (s : Sn) : ∀ d ∈ snC s, flat0 d = true := fun d hd => by
  simp only [snC, List.mem_cons, List.not_mem_nil, or_false] at hd
  rcases hd with rfl | rfl | rfl | rfl <;> rfl
theorem celN_flat (l : List Sn) : ∀ d ∈ celN l, flat0 d = true := flatten_flat (snR_flat l)
theorem app_flat {a b : List DV} (ha : ∀ d ∈ a, flat0 d = true) (hb : ∀ d ∈ b, flat0 d = true) : ∀ d ∈ a ++ b, flat0 d = true := fun d hd => by
  rcases List.mem_append.1 hd with h | h
  · exact ha d h
  · exact hb d h
abbrev snT : TI := ⟨.struct [(3, 0, 1), (3, 1, 1), (3, 2, 1), (3, 3, 1)], 4, 32, [.int .i64 0, .int .i64 0, .int .i64 0, .int .i64 0], true⟩
abbrev tyN : List TypeId := [27, 27]
theorem app_tabN (hp : Hp) (d x : DV) : builtinD tab hp .append [d, x] tyN = match contD hp 4 x with
    | some (m, news) => appH hp tSn snT d m news
    | none => none := by kernel_rfl
/-- what a filtered list stands as, behind b objects -/
def dS (b : Nat) : List Sn → DV
  | [] => .nil
  | x :: l => .sl b 0 4 (x :: l).length (x :: l).length
def hS (b : Nat) (base : List Ob) : List Sn → Hp
  | [] => ⟨b, base, []⟩
  | x :: l => ⟨b + 1, ⟨1, 0, tSn, celN (x :: l)⟩ :: base, []⟩
theorem dS_snoc (b : Nat) (x : Sn) (r : List Sn) (s : Sn) : dS b (x :: r ++ [s]) = .sl b 0 4 ((x :: r).length + 1) ((x :: r).length + 1) := by
  show DV.sl b 0 4 (x :: (r ++ [s])).length _ = _
  simp
theorem hS_snoc (b : Nat) (base : List Ob) (x : Sn) (r : List Sn) (s : Sn) : hS b base (x :: r ++ [s]) = ⟨b + 1, ⟨1, 0, tSn, celN (x :: r) ++ snC s⟩ :: base, []⟩ := by
  show (⟨b + 1, ⟨1, 0, tSn, celN (x :: (r ++ [s]))⟩ :: base, []⟩ : Hp) = _
  rw [← List.cons_append, celN_snoc]
theorem dS_frz {b : Nat} {base : List Ob} {L : List Nat} (hL : posN b L = none) (hg : ∀ o : Ob, (⟨b + 1, o :: base, []⟩ : Hp).get b = some o) (l : List Sn) : FrzD L (hS b base l) (dS b l) (snL l) := by
  cases l with
  | nil => exact .nl _
  | cons x r => exact frz_rows hL (hg _) (by show (1 : Nat) ≠ 2; decide) rfl (snR_length _) (snR_len4 _) (snR_flat _)
theorem xd_go (t : Int) (l : List Sn) (hl : l.length ≤ 1000000) (k : Nat) (hk : k < l.length) : Goes Try.prog tab kFd fdL (fdS (.fn fDc [] [.ptr 0 0]) l (dS 1 (filN (fun s : Sn => decide (s.b > t)) l k)) k) (hS 1 [oIn t] (filN (fun s : Sn => decide (s.b > t)) l k)) .normal (fdS (.fn fDc [] [.ptr 0 0]) l (dS 1 (filN (fun s : Sn => decide (s.b > t)) l (k + 1))) (k + 1)) (hS 1 [oIn t] (filN (fun s : Sn => decide (s.b > t)) l (k + 1))) := by
  have e := snR_length l
  have hlen := filN_len (fun s : Sn => decide (s.b > t)) l k
  rw [show filN (fun s : Sn => decide (s.b > t)) l (k + 1) = match (fun s : Sn => decide (s.b > t)) (l.getD k sn0) with
    | true => filN (fun s : Sn => decide (s.b > t)) l k ++ [l.getD k sn0]
    | false => filN (fun s : Sn => decide (s.b > t)) l k from rfl]
  generalize filN (fun s : Sn => decide (s.b > t)) l k = r at *
  cases hh : (fun s : Sn => decide (s.b > t)) (l.getD k sn0) with
  | false =>
    cases r with
    | nil => exact zgm_ok tab_ok mixed fun_ok noC_ok (xdd00 t l k 0 [] (l.getD k sn0)) (.cons (flatIn_nil _) (.cons (decide_eq_true (by omega)) (.cons (idxOk_lt (by omega)) (.cons (snR_get (by omega)) (.cons hh (.cons (wrK_at (by omega)) .nil))))))
    | cons x r => exact zgm_ok tab_ok mixed fun_ok noC_ok (xdd01 t l k (x :: r).length (celN (x :: r)) (l.getD k sn0)) (.cons (flatOne rfl (celN_flat _)) (.cons (decide_eq_true (by omega)) (.cons (idxOk_lt (by omega)) (.cons (snR_get (by omega)) (.cons hh (.cons (wrK_at (by omega)) .nil))))))
  | true =>
    cases r with
    | nil => exact zgm_ok tab_ok mixed fun_ok noC_ok (xdk00 t l k 0 [] (l.getD k sn0)) (.cons (flatOne rfl (snC_flat _)) (.cons (decide_eq_true (by omega)) (.cons (idxOk_lt (by omega)) (.cons (snR_get (by omega)) (.cons hh (.cons (wrK_at (by omega)) .nil))))))
    | cons x r =>
      rw [dS_snoc, hS_snoc]
      exact zgm_ok tab_ok mixed fun_ok noC_ok (xdk01 t l k (x :: r).length (celN (x :: r)) (l.getD k sn0)) (.cons (flatOne rfl (app_flat (celN_flat _) (snC_flat _))) (.cons (decide_eq_true (by omega)) (.cons (idxOk_lt (by omega)) (.cons (snR_get (by omega)) (.cons hh (.cons (by rw [app_tabN]; exact appH_grow (id := 1) (n := (x :: r).length) (m := 0) (e := tSn) (j := snT) (o := ⟨1, 0, tSn, celN (x :: r)⟩) (news := snC (l.getD k sn0)) rfl rfl rfl (.inl rfl) rfl (celN_length _) (fit_at (by show (_ + (0 + 1)) * 32 ≤ _; omega) (by omega))) (.cons (wrK_at (by omega)) .nil)))))))
theorem xd_fil (t : Int) (l : List Sn) (hl : l.length ≤ 1000000) : AnsH Try.prog fFd [snL l, (.fn fDc [] [.ptr 0 0])] ⟨1, [oIn t], []⟩ (dS 1 (filN (fun s : Sn => decide (s.b > t)) l l.length)) (hS 1 [oIn t] (filN (fun s : Sn => decide (s.b > t)) l l.length)) := by
  have e := snR_length l
  have en : Goes Try.prog tab kFd fdL (fdS (.fn fDc [] [.ptr 0 0]) l (dS 1 (filN (fun s : Sn => decide (s.b > t)) l l.length)) l.length) (hS 1 [oIn t] (filN (fun s : Sn => decide (s.b > t)) l l.length)) (.exit 0) (fdE (dS 1 (filN (fun s : Sn => decide (s.b > t)) l l.length))) (hS 1 [oIn t] (filN (fun s : Sn => decide (s.b > t)) l l.length)) := by
    generalize filN (fun s : Sn => decide (s.b > t)) l l.length = r
    cases r with
    | nil => exact zsee_ok tab_ok mixed fun_ok noC_ok (xdO0 t l l.length 0 []) (.cons (decide_eq_false (by omega)) .nil)
    | cons x r => exact zsee_ok tab_ok mixed fun_ok noC_ok (xdO1 t l l.length (x :: r).length (celN (x :: r))) (.cons (decide_eq_false (by omega)) .nil)
  have g : Goes Try.prog tab kFd (.loop fdL) (fdS (.fn fDc [] [.ptr 0 0]) l .nil 0) ⟨1, [oIn t], []⟩ (.exit 0) (fdE (dS 1 (filN (fun s : Sn => decide (s.b > t)) l l.length))) (hS 1 [oIn t] (filN (fun s : Sn => decide (s.b > t)) l l.length)) :=
    Goes.loop l.length (fun k => fdS (.fn fDc [] [.ptr 0 0]) l (dS 1 (filN (fun s : Sn => decide (s.b > t)) l k)) k) (fun k => hS 1 [oIn t] (filN (fun s : Sn => decide (s.b > t)) l k)) (fun k hk => xd_go t l hl k hk) en (by intro h; cases h)
  generalize filN (fun s : Sn => decide (s.b > t)) l l.length = r at *
  cases r with
  | nil => exact zansH_ok tab_ok mixed fun_ok noC_ok (xdF0 t l 0 []) (.cons g .nil)
  | cons x r => exact zansH_ok tab_ok mixed fun_ok noC_ok (xdF1 t l (x :: r).length (celN (x :: r))) (.cons g .nil)
def ntB (j : Int) (nb : List Int) (s : Sn) : Bool := match s.n == j with
  | true => true
  | false => hasI nb s.n
theorem xn_go (w : Wd) (j : Int) (nb : List Int) (hb : nb.length < 2 ^ 63) (l : List Sn) (hl : l.length ≤ 1000000) (k : Nat) (hk : k < l.length) : Goes Try.prog tab kFd fdL (fdS (.fn fNc [] [.ptr 1 0, .ptr 2 0]) l (dS 3 (filN (ntB j nb) l k)) k) (hS 3 [oLi nb, oIn j, oW w] (filN (ntB j nb) l k)) .normal (fdS (.fn fNc [] [.ptr 1 0, .ptr 2 0]) l (dS 3 (filN (ntB j nb) l (k + 1))) (k + 1)) (hS 3 [oLi nb, oIn j, oW w] (filN (ntB j nb) l (k + 1))) := by
  have e := snR_length l
  have hlen := filN_len (ntB j nb) l k
  rw [show filN (ntB j nb) l (k + 1) = match (ntB j nb) (l.getD k sn0) with
    | true => filN (ntB j nb) l k ++ [l.getD k sn0]
    | false => filN (ntB j nb) l k from rfl]
  generalize filN (ntB j nb) l k = r at *
  have hc := ct_ans nb (l.getD k sn0).n hb
  have hn : ntB j nb (l.getD k sn0) = match (l.getD k sn0).n == j with
    | true => true
    | false => hasI nb (l.getD k sn0).n := rfl
  rw [hn]
  cases h1 : (l.getD k sn0).n == j with
  | true =>
    dsimp only
    cases r with
    | nil => exact zgm_ok tab_ok mixed fun_ok noC_ok (xnk00 w j nb l k 0 [] (l.getD k sn0)) (.cons (flatOne rfl (snC_flat _)) (.cons (decide_eq_true (by omega)) (.cons (idxOk_lt (by omega)) (.cons (snR_get (by omega)) (.cons h1 (.cons (wrK_at (by omega)) .nil))))))
    | cons x r =>
      rw [dS_snoc, hS_snoc]
      exact zgm_ok tab_ok mixed fun_ok noC_ok (xnk01 w j nb l k (x :: r).length (celN (x :: r)) (l.getD k sn0)) (.cons (flatOne rfl (app_flat (celN_flat _) (snC_flat _))) (.cons (decide_eq_true (by omega)) (.cons (idxOk_lt (by omega)) (.cons (snR_get (by omega)) (.cons h1 (.cons (by rw [app_tabN]; exact appH_grow (id := 3) (n := (x :: r).length) (m := 0) (e := tSn) (j := snT) (o := ⟨1, 0, tSn, celN (x :: r)⟩) (news := snC (l.getD k sn0)) rfl rfl rfl (.inl rfl) rfl (celN_length _) (fit_at (by show (_ + (0 + 1)) * 32 ≤ _; omega) (by omega))) (.cons (wrK_at (by omega)) .nil)))))))
  | false =>
    cases hh : hasI nb (l.getD k sn0).n with
    | true =>
      rw [hh] at hc
      cases r with
      | nil => exact zgm_ok tab_ok mixed fun_ok (calC_ok hc) (xnk10 w j nb l k 0 [] (l.getD k sn0)) (.cons (flatOne rfl (snC_flat _)) (.cons (decide_eq_true (by omega)) (.cons (idxOk_lt (by omega)) (.cons (snR_get (by omega)) (.cons h1 (.cons (calC_at _ rfl rfl) (.cons (wrK_at (by omega)) .nil)))))))
      | cons x r =>
        rw [dS_snoc, hS_snoc]
        exact zgm_ok tab_ok mixed fun_ok (calC_ok hc) (xnk11 w j nb l k (x :: r).length (celN (x :: r)) (l.getD k sn0)) (.cons (flatOne rfl (app_flat (celN_flat _) (snC_flat _))) (.cons (decide_eq_true (by omega)) (.cons (idxOk_lt (by omega)) (.cons (snR_get (by omega)) (.cons h1 (.cons (calC_at _ rfl rfl) (.cons (by rw [app_tabN]; exact appH_grow (id := 3) (n := (x :: r).length) (m := 0) (e := tSn) (j := snT) (o := ⟨1, 0, tSn, celN (x :: r)⟩) (news := snC (l.getD k sn0)) rfl rfl rfl (.inl rfl) rfl (celN_length _) (fit_at (by show (_ + (0 + 1)) * 32 ≤ _; omega) (by omega))) (.cons (wrK_at (by omega)) .nil))))))))
    | false =>
      rw [hh] at hc
      cases r with
      | nil => exact zgm_ok tab_ok mixed fun_ok (calC_ok hc) (xnd00 w j nb l k 0 [] (l.getD k sn0)) (.cons (flatIn_nil _) (.cons (decide_eq_true (by omega)) (.cons (idxOk_lt (by omega)) (.cons (snR_get (by omega)) (.cons h1 (.cons (calC_at _ rfl rfl) (.cons (wrK_at (by omega)) .nil)))))))
      | cons x r => exact zgm_ok tab_ok mixed fun_ok (calC_ok hc) (xnd01 w j nb l k (x :: r).length (celN (x :: r)) (l.getD k sn0)) (.cons (flatOne rfl (celN_flat _)) (.cons (decide_eq_true (by omega)) (.cons (idxOk_lt (by omega)) (.cons (snR_get (by omega)) (.cons h1 (.cons (calC_at _ rfl rfl) (.cons (wrK_at (by omega)) .nil)))))))
theorem xn_fil (w : Wd) (j : Int) (nb : List Int) (hb : nb.length < 2 ^ 63) (l : List Sn) (hl : l.length ≤ 1000000) : AnsH Try.prog fFd [snL l, (.fn fNc [] [.ptr 1 0, .ptr 2 0])] ⟨3, [oLi nb, oIn j, oW w], []⟩ (dS 3 (filN (ntB j nb) l l.length)) (hS 3 [oLi nb, oIn j, oW w] (filN (ntB j nb) l l.length)) := by
  have e := snR_length l
  have en : Goes Try.prog tab kFd fdL (fdS (.fn fNc [] [.ptr 1 0, .ptr 2 0]) l (dS 3 (filN (ntB j nb) l l.length)) l.length) (hS 3 [oLi nb, oIn j, oW w] (filN (ntB j nb) l l.length)) (.exit 0) (fdE (dS 3 (filN (ntB j nb) l l.length))) (hS 3 [oLi nb, oIn j, oW w] (filN (ntB j nb) l l.length)) := by
    generalize filN (ntB j nb) l l.length = r
    cases r with
    | nil => exact zsee_ok tab_ok mixed fun_ok noC_ok (xnO0 w j nb l l.length 0 []) (.cons (decide_eq_false (by omega)) .nil)
    | cons x r => exact zsee_ok tab_ok mixed fun_ok noC_ok (xnO1 w j nb l l.length (x :: r).length (celN (x :: r))) (.cons (decide_eq_false (by omega)) .nil)
  have g : Goes Try.prog tab kFd (.loop fdL) (fdS (.fn fNc [] [.ptr 1 0, .ptr 2 0]) l .nil 0) ⟨3, [oLi nb, oIn j, oW w], []⟩ (.exit 0) (fdE (dS 3 (filN (ntB j nb) l l.length))) (hS 3 [oLi nb, oIn j, oW w] (filN (ntB j nb) l l.length)) :=
    Goes.loop l.length (fun k => fdS (.fn fNc [] [.ptr 1 0, .ptr 2 0]) l (dS 3 (filN (ntB j nb) l k)) k) (fun k => hS 3 [oLi nb, oIn j, oW w] (filN (ntB j nb) l k)) (fun k hk => xn_go w j nb hb l hl k hk) en (by intro h; cases h)
  generalize filN (ntB j nb) l l.length = r at *
  cases r with
  | nil => exact zansH_ok tab_ok mixed fun_ok noC_ok (xnF0 w j nb l 0 []) (.cons g .nil)
  | cons x r => exact zansH_ok tab_ok mixed fun_ok noC_ok (xnF1 w j nb l (x :: r).length (celN (x :: r))) (.cons g .nil)
end
end Go.Proofs.Ytgjgihlfkpbdgaa
