/- ElementFinds, over data. -/
import Derived.Test.YtkcldejfmmeoaaaEf
namespace Go.Proofs.Ytkcldejfmmeoaaa
open Go.RowKit

noncomputable section
/-! ### The examples -/
abbrev fAl : FuncId := 25
set_option maxRecDepth 1000000 in
theorem al_run : zflat (zans Try.prog tab ftab noC fAl [] []) = some (.bool true, []) := by kernel_rfl
def cAl : ConF := fixC fAl (.bool true)
theorem cAl_ok : ConOk Try.prog cAl := fixC_ok (zflat_ok tab_ok mixed fun_ok noC_ok al_run .nil) rfl
/-! ### Same, also against the element of zeros -/
theorem AnsH.args {P : Program} {f : FuncId} {args args' : List DV} {hp hp' : Hp} {d : DV} (h : AnsH P f args hp d hp') (ha : ∀ E w vs, VRs E w args' vs → VRs E w args vs) : AnsH P f args' hp d hp' :=
  ⟨h.1, fun W0 S0 E w vs hs hv => h.2 W0 S0 E w vs hs (ha E w vs hv)⟩
theorem vr_zE {E : Env} {w : World} {v : Value} (h : VR w E (.list 4 [zE]) v) : VR w E (elsD [zEl]) v := by
  obtain ⟨A, c, b, off, g, rfl, h1, h2, h3, h4, h5, h6, h7, h8⟩ := h.of_list
  have key : ∀ (i : Nat) (cs : List DV) (j : Nat) (d : DV), [elD zEl][i]? = some cs → cs[j]? = some d → i = 0 ∧ ∃ d0, zE[j]? = some d0 ∧ ∀ (E : Env) (u : Value), VR w E d0 u → VR w E d u := fun i cs j d hi hj => by
    cases i with
    | succ i => simp at hi
    | zero =>
      cases hi
      refine ⟨rfl, ?_⟩
      match j with
      | 0 => cases hj; exact ⟨_, rfl, fun E u h => h⟩
      | 1 => cases hj; exact ⟨_, rfl, fun E u h => h⟩
      | 2 => cases hj; exact ⟨_, rfl, fun E u h => vr_nl h⟩
      | 3 => cases hj; exact ⟨_, rfl, fun E u h => vr_nl h⟩
      | j + 4 => cases hj
  refine .list _ 4 [elD zEl] A c b off g h1 h2 h3 (fun _ => h4 (by simp)) (fun i cs hi => ?_) (fun i cs j d hi hj => ?_) (fun i cs j d hi hj => ?_) (fun cs hcs => ?_)
  · obtain rfl := List.mem_singleton.1 (List.mem_of_getElem? hi)
    rfl
  · obtain ⟨rfl, d0, k1, k2⟩ := key i cs j d hi hj
    exact h6 0 zE j d0 rfl k1
  · obtain ⟨rfl, d0, k1, k2⟩ := key i cs j d hi hj
    exact k2 _ _ (h7 0 zE j d0 rfl k1)
  · obtain rfl := List.mem_singleton.1 hcs
    rfl
abbrev SmA : Type := (ElS × ElS) ⊕ Unit
def smA : SmA → List DV
  | .inl x => [elsD x.1.1, elsD x.2.1]
  | .inr _ => [elsD [zEl], .list 4 [zE]]
def smB : SmA → DV × Hp
  | .inl x => (.bool (eqB x.1.1 x.2.1), ⟨0, [], []⟩)
  | .inr _ => (.bool true, ⟨0, [], []⟩)
theorem zE_ne (l : List El) : elsD l ≠ .list 4 [zE] := by
  intro h
  unfold elsD at h
  injection h with _ h
  match l, h with
  | [.mk i e d s], h =>
    simp [elR, elD, byL] at h
  | [], h => simp [elR] at h
  | _ :: _ :: _, h => simp [elR] at h
def cSz : ConF := conC fSa smA smB
theorem smL_one {x : El} (h : smE x) : SmL [x] := ⟨by simp, h, trivial⟩
theorem smE_z : smE zEl := ⟨by simp, by simp, trivial⟩
theorem sz_ans : ∀ x : SmA, Ans Try.prog fSa (smA x) (smB x).1 (smB x).2
  | .inl x => sa_ans (depA x.1.1) (⟨x.1.1, Nat.le_refl _, x.1.2⟩, x.2)
  | .inr _ => by
    have h := sa_ans (depA [zEl]) (⟨[zEl], Nat.le_refl _, smL_one smE_z⟩, ⟨[zEl], smL_one smE_z⟩)
    dsimp only at h
    rw [eqB_t rfl] at h
    refine AnsH.args h fun E w vs hv => ?_
    obtain ⟨v1, vs1, rfl, k1, hv⟩ := VRs.uncons hv
    obtain ⟨v2, vs2, rfl, k2, hv⟩ := VRs.uncons hv
    exact .cons k1 (.cons (vr_zE k2) hv)
theorem cSz_ok : ConOk Try.prog cSz := conC_ok sz_ans fun x => by
  cases x <;> exact ⟨rfl, fun id o h => (by simp [smB, Hp.get_eq] at h), rfl⟩
theorem smA_inj : ∀ x y : SmA, smA x = smA y → smB x = smB y
  | .inl x, .inl y, h => by
    simp only [smA, List.cons.injEq, and_true] at h
    simp only [smB]
    rw [els_inj h.1, els_inj h.2]
  | .inr _, .inr _, _ => rfl
  | .inl x, .inr _, h => by
    simp only [smA, List.cons.injEq, and_true] at h
    exact absurd h.2 (zE_ne _)
  | .inr _, .inl y, h => by
    simp only [smA, List.cons.injEq, and_true] at h
    exact absurd h.2.symm (zE_ne _)
theorem lay0 (hp : Hp) : layH hp ⟨0, [], []⟩ = hp := rfl
theorem cSz_at {hp : Hp} {d1 d2 : DV} {l m : List El} (hl : SmL l) (hm : SmL m) (h1 : frz1 hp d1 (elsD l)) (h2 : frz1 hp d2 (elsD m)) : cSz fSa [d1, d2] hp = some (.bool (eqB l m), hp, none) :=
  conC_at (f0 := fSa) (A := smA) (B := smB) smA_inj (.inl (⟨l, hl⟩, ⟨m, hm⟩)) ⟨h1, h2, trivial⟩
theorem cSz_z {hp : Hp} {d1 d2 : DV} (h1 : frz1 hp d1 (elsD [zEl])) (h2 : frz1 hp d2 (.list 4 [zE])) : cSz fSa [d1, d2] hp = some (.bool true, hp, none) :=
  conC_at (f0 := fSa) (A := smA) (B := smB) smA_inj (.inr ()) ⟨h1, h2, trivial⟩
theorem frz_list (hp : Hp) (s : Nat) (xs : List (List DV)) : frz1 hp (.list s xs) (.list s xs) := ⟨rfl, rfl⟩
/-- an object of four cells, as a list of one -/
theorem frz_one {hp : Hp} {id k : Nat} {cs : List DV} (hg : hp.get id = some (oEl k cs)) (h4 : cs.length = 4) (hf : flats1 cs = true) : frz1 hp (.sl id 0 4 1 1) (.list 4 [cs]) := by
  refine ⟨oEl k cs, [cs], hg, rfl, rfl, fun i c hi => ?_⟩
  cases i with
  | succ i => simp at hi
  | zero =>
    cases hi
    refine ⟨h4, hf, fun j d hd => ?_⟩
    rw [Nat.zero_mul, Nat.zero_add, Nat.zero_add]
    exact hd
theorem elD_flat1 (x : El) : flats1 (elD x) = true := by
  obtain ⟨i, e, d, s⟩ := x
  rfl
/-! ### The law's paths -/
def cFd : ConF := orK cAl (orK cGr (orK cFi (orK cRm cSz)))
theorem cFd_ok : ConOk Try.prog cFd := orK_ok cAl_ok (orK_ok cGr_ok (orK_ok cFi_ok (orK_ok cRm_ok cSz_ok)))
abbrev fFd : FuncId := 7
abbrev kFd : List (Nat × Nat) := ksF ftab fFd
abbrev fdL : Code := loopAt (bodyOf ftab fFd) 0
abbrev fdV : List Nat := [0, 1, 2, 7, 8, 9, 10, 11, 12, 13]
abbrev fdS (xs rs : List (List DV)) (a b : UInt8) (is : Bool) (f : Int) (n j : Nat) : Slots := mkT 118 [(0, .list 4 xs), (1, i8 a), (2, i8 b), (7, .bool true), (8, .ptr 0 0), (9, .bool is), (10, .list 4 rs), (11, iN n), (12, .int .i64 f), (13, iN j)]
abbrev fdE (xs rs : List (List DV)) (is : Bool) (f : Int) (n : Nat) : Slots := mkT 118 [(0, .list 4 xs), (7, .bool true), (8, .ptr 0 0), (9, .bool is), (10, .list 4 rs), (11, iN n), (12, .int .i64 f)]
abbrev eeTI : TI := ⟨.slice 34, 1, 24, [.nil], true⟩
section
variable (C : ConF)
abbrev fdT (xs rs : List (List DV)) (x c : List DV) (n j : Nat) : List Prop := (decide ((n : Int) ≥ (rs.length : Int)) = false) :: (DV.int .i64 (IntKind.i64.wrap ((n : Int) + 1)) = iN (n + 1)) :: (sliceD tab (fiH x) eeTI (.list 4 rs) (some (iN n)) (some (iN (n + 1))) none = some (.list 4 [c])) :: (DV.int .i64 (IntKind.i64.wrap ((j : Int) + 1)) = iN (j + 1)) :: (sliceD tab (fiH x) eeTI (.list 4 xs) (some (iN j)) (some (iN (j + 1))) none = some (.list 4 [c])) ::
  (C fSa [.list 4 [c], .list 4 [c]] (fiH x) = some (.bool true, fiH x, none)) :: (DV.int .i64 (IntKind.i64.wrap ((n : Int) + 1)) = iN (n + 1)) :: (DV.int .i64 (IntKind.i64.wrap ((j : Int) + 1)) = iN (j + 1)) :: []
abbrev fdP (c : List DV) (n j : Nat) : Yath := [(61, .b false), (66, .w (iN (n + 1))), (67, .n (.list 4 [c])), (71, .w (iN (j + 1))), (72, .n (.list 4 [c])), (73, .q (.bool true)), (77, .w (iN (n + 1))), (38, .w (iN (j + 1)))]
set_option maxRecDepth 1000000 in
theorem fd1 (xs rs ys ss : List (List DV)) (x : List DV) (is : Bool) (f : Int) (n j : Nat) (i e a b : UInt8) : zsee Try.prog tab ftab C kFd fdV fdL (fdS xs rs a b is f n j) (fiH x) ((36, .b true) :: (41, .n (.fptr (elC i e ys ss))) :: (45, .b false) :: fdP (elC i e ys ss) n j) =
    some (.normal, fdS xs rs a b is f (n + 1) (j + 1), fiH x, (decide ((j : Int) < (xs.length : Int)) = true) :: weA xs j i e ys ss (((nx i == nx a) = false) :: fdT C xs rs x (elC i e ys ss) n j)) := by kernel_rfl
set_option maxRecDepth 1000000 in
theorem fd2 (xs rs ys ss : List (List DV)) (x : List DV) (is : Bool) (f : Int) (n j : Nat) (i e a b : UInt8) : zsee Try.prog tab ftab C kFd fdV fdL (fdS xs rs a b is f n j) (fiH x) ((36, .b true) :: (41, .n (.fptr (elC i e ys ss))) :: (45, .b true) :: (49, .n (.fptr (elC i e ys ss))) :: (53, .b false) :: fdP (elC i e ys ss) n j) =
    some (.normal, fdS xs rs a b is f (n + 1) (j + 1), fiH x, (decide ((j : Int) < (xs.length : Int)) = true) :: weA xs j i e ys ss (((nx i == nx a) = true) :: weA xs j i e ys ss (((nx e == nx b) = false) :: fdT C xs rs x (elC i e ys ss) n j))) := by kernel_rfl
set_option maxRecDepth 1000000 in
theorem fd3 (xs rs ys ss : List (List DV)) (x : List DV) (is : Bool) (f : Int) (n j : Nat) (i e a b : UInt8) : zsee Try.prog tab ftab C kFd fdV fdL (fdS xs rs a b is f n j) (fiH x) [(36, .b true), (41, .n (.fptr (elC i e ys ss))), (45, .b true), (49, .n (.fptr (elC i e ys ss))), (53, .b true), (56, .b true), (38, .w (iN (j + 1)))] =
    some (.normal, fdS xs rs a b is (j : Int) n (j + 1), fiH x, (decide ((j : Int) < (xs.length : Int)) = true) :: weA xs j i e ys ss (((nx i == nx a) = true) :: weA xs j i e ys ss (((nx e == nx b) = true) :: (decide (f < 0) = true) :: (DV.int .i64 (IntKind.i64.wrap ((j : Int) + 1)) = iN (j + 1)) :: []))) := by kernel_rfl
set_option maxRecDepth 1000000 in
theorem fd4 (xs rs ys ss : List (List DV)) (x : List DV) (is : Bool) (f : Int) (n j : Nat) (i e a b : UInt8) : zsee Try.prog tab ftab C kFd fdV fdL (fdS xs rs a b is f n j) (fiH x) [(36, .b true), (41, .n (.fptr (elC i e ys ss))), (45, .b true), (49, .n (.fptr (elC i e ys ss))), (53, .b true), (56, .b false), (38, .w (iN (j + 1)))] =
    some (.normal, fdS xs rs a b is f n (j + 1), fiH x, (decide ((j : Int) < (xs.length : Int)) = true) :: weA xs j i e ys ss (((nx i == nx a) = true) :: weA xs j i e ys ss (((nx e == nx b) = true) :: (decide (f < 0) = false) :: (DV.int .i64 (IntKind.i64.wrap ((j : Int) + 1)) = iN (j + 1)) :: []))) := by kernel_rfl
set_option maxRecDepth 1000000 in
theorem fdO (xs rs : List (List DV)) (x : List DV) (is : Bool) (f : Int) (n j : Nat) (a b : UInt8) : zsee Try.prog tab ftab C kFd [0, 7, 8, 9, 10, 11, 12] fdL (fdS xs rs a b is f n j) (fiH x) [(36, .b false)] =
    some (.exit 0, fdE xs rs is f n, fiH x, (decide ((j : Int) < (xs.length : Int)) = false) :: []) := by kernel_rfl
abbrev fdA (xs rs : List (List DV)) (a b : UInt8) (d : DV) (x : List DV) (t : List Prop) : List Prop := (C fAl [] h00 = some (.bool true, h00, none)) :: (C 9 [.list 4 xs] h00 = some (.bool false, h00, none)) :: (C fFi [.list 4 xs, i8 a, i8 b] h00 = some (d, h00, none)) :: (C fRm [.list 4 xs, i8 a, i8 b] (fiH x) = some (.list 4 rs, fiH x, none)) :: t
set_option maxRecDepth 1000000 in
theorem fdG (xs : List (List DV)) (a b : UInt8) : zflat (zans Try.prog tab ftab C fFd [.list 4 xs, i8 a, i8 b] [(14, .q (.bool true)), (16, .q (.bool true))]) = some (.bool true, (C fAl [] h00 = some (.bool true, h00, none)) :: (C 9 [.list 4 xs] h00 = some (.bool true, h00, none)) :: []) := by kernel_rfl
abbrev zC : List DV := elC 0 0 [] []
set_option maxRecDepth 1000000 in
theorem fdN (xs rs : List (List DV)) (a b : UInt8) (n : Nat) (f : Int) : zflat (zans Try.prog tab ftab C fFd [.list 4 xs, i8 a, i8 b] [(14, .q (.bool true)), (16, .q (.bool false)), (26, .q (.tuple [.agg zC, .bool false])), (32, .q (.list 4 rs)), (0, .l fdV (.exit 0) (fdE xs rs false f n) (fiH zC)), (79, .b true), (89, .b true), (96, .q (.bool true))]) =
    some (.bool true, fdA C xs rs a b (.tuple [.agg zC, .bool false]) zC ((Goes Try.prog tab kFd (.loop fdL) (fdS xs rs a b false (-1) 0 0) (fiH zC) (.exit 0) (fdE xs rs false f n) (fiH zC)) :: (decide (f < 0) = true) :: (((n : Int) == (rs.length : Int)) = true) :: (C fSa [.sl 1 0 4 1 1, .sl 2 0 4 1 1] ⟨3, [oEl 0 zE, oEl 0 zC, oEl 0 zC], []⟩ = some (.bool true, ⟨3, [oEl 0 zE, oEl 0 zC, oEl 0 zC], []⟩, none)) :: [])) := by kernel_rfl
set_option maxRecDepth 1000000 in
theorem fdF (xs rs ys ss : List (List DV)) (a b i e : UInt8) (n k : Nat) : zflat (zans Try.prog tab ftab C fFd [.list 4 xs, i8 a, i8 b] [(14, .q (.bool true)), (16, .q (.bool false)), (26, .q (.tuple [.agg (elC i e ys ss), .bool true])), (32, .q (.list 4 rs)), (0, .l fdV (.exit 0) (fdE xs rs true (k : Int) n) (fiH (elC i e ys ss))), (79, .b false), (106, .b true), (114, .w (iN (k + 1))), (115, .n (.list 4 [elC i e ys ss])), (116, .q (.bool true))]) =
    some (.bool true, fdA C xs rs a b (.tuple [.agg (elC i e ys ss), .bool true]) (elC i e ys ss) ((Goes Try.prog tab kFd (.loop fdL) (fdS xs rs a b true (-1) 0 0) (fiH (elC i e ys ss)) (.exit 0) (fdE xs rs true (k : Int) n) (fiH (elC i e ys ss))) :: (decide ((k : Int) < 0) = false) :: (((n : Int) == (rs.length : Int)) = true) ::
      (DV.int .i64 (IntKind.i64.wrap ((k : Int) + 1)) = iN (k + 1)) :: (sliceD tab ⟨2, [oEl 0 (elC i e ys ss), oEl 0 (elC i e ys ss)], []⟩ eeTI (.list 4 xs) (some (iN k)) (some (iN (k + 1))) none = some (.list 4 [elC i e ys ss])) :: (C fSa [.sl 1 0 4 1 1, .list 4 [elC i e ys ss]] ⟨2, [oEl 0 (elC i e ys ss), oEl 0 (elC i e ys ss)], []⟩ = some (.bool true, ⟨2, [oEl 0 (elC i e ys ss), oEl 0 (elC i e ys ss)], []⟩, none)) :: [])) := by kernel_rfl
end
end
end Go.Proofs.Ytkcldejfmmeoaaa
