/- Whether lists of elements are the same: the reference's Same, a contract for every nesting. -/
import Derived.Test.YtejlbkhddehaiaaEb
namespace Go.Proofs.Ytejlbkhddehaiaa
open Go.RowKit

noncomputable section
abbrev fSa : FuncId := 99
abbrev kSa : List (Nat × Nat) := ksF ftab fSa
abbrev saL : Code := loopAt (bodyOf ftab fSa) 0
abbrev saS (xs zs : List (List DV)) (j : Nat) : Slots := mkT 70 [(0, .list 4 xs), (1, .list 4 zs), (5, iN j)]
def saE (v : Bool) : Slots := match v with
  | true => mkT 70 []
  | false => mkT 70 [(4, .bool false)]
abbrev saA (xs zs : List (List DV)) (j : Nat) (x y : List DV) (t : List Prop) : List Prop := (idxOk (j : Int) xs.length = true) :: (nth xs ((j : Int).toNat) = some x) :: (idxOk (j : Int) zs.length = true) :: (nth zs ((j : Int).toNat) = some y) :: t
abbrev saC (ys ys' : List (List DV)) (s s' : ByteArray) (xs zs : List (List DV)) (j : Nat) (x y : List DV) (t : List Prop) : List Prop := (idxOk (j : Int) xs.length = true) :: (nth xs ((j : Int).toNat) = some x) :: (convD tab h00 37 9 (.list 1 ys) = some (.str s, h00, none)) :: (idxOk (j : Int) zs.length = true) :: (nth zs ((j : Int).toNat) = some y) :: (convD tab h00 37 9 (.list 1 ys') = some (.str s', h00, none)) :: t
section
variable (C : ConF)
set_option maxRecDepth 1000000 in
theorem sa1 (xs zs ys ss ys' ss' : List (List DV)) (j : Nat) (i e i' e' : UInt8) : zsee Try.prog tab ftab C kSa [4] saL (saS xs zs j) h00 [(14, .b true), (19, .n (.fptr (elC i e ys ss))), (24, .n (.fptr (elC i' e' ys' ss'))), (27, .b true)] =
    some (.ret, saE false, h00, (decide ((j : Int) < (xs.length : Int)) = true) :: saA xs zs j (elC i e ys ss) (elC i' e' ys' ss') (((nx i != nx i') = true) :: [])) := by kernel_rfl
set_option maxRecDepth 1000000 in
theorem sa2 (xs zs ys ss ys' ss' : List (List DV)) (j : Nat) (i e i' e' : UInt8) : zsee Try.prog tab ftab C kSa [4] saL (saS xs zs j) h00 [(14, .b true), (19, .n (.fptr (elC i e ys ss))), (24, .n (.fptr (elC i' e' ys' ss'))), (27, .b false), (31, .n (.fptr (elC i e ys ss))), (36, .n (.fptr (elC i' e' ys' ss'))), (39, .b true)] =
    some (.ret, saE false, h00, (decide ((j : Int) < (xs.length : Int)) = true) :: saA xs zs j (elC i e ys ss) (elC i' e' ys' ss') (((nx i != nx i') = false) :: saA xs zs j (elC i e ys ss) (elC i' e' ys' ss') (((nx e != nx e') = true) :: []))) := by kernel_rfl
set_option maxRecDepth 1000000 in
theorem sa3 (xs zs ys ss ys' ss' : List (List DV)) (s s' : ByteArray) (j : Nat) (i e i' e' : UInt8) : zsee Try.prog tab ftab C kSa [4] saL (saS xs zs j) h00 [(14, .b true), (19, .n (.fptr (elC i e ys ss))), (24, .n (.fptr (elC i' e' ys' ss'))), (27, .b false), (31, .n (.fptr (elC i e ys ss))), (36, .n (.fptr (elC i' e' ys' ss'))), (39, .b false), (44, .n (.fptr (elC i e ys ss))), (47, .h (.str s) h00 none), (50, .n (.fptr (elC i' e' ys' ss'))), (53, .h (.str s') h00 none), (54, .b true)] =
    some (.ret, saE false, h00, (decide ((j : Int) < (xs.length : Int)) = true) :: saA xs zs j (elC i e ys ss) (elC i' e' ys' ss') (((nx i != nx i') = false) :: saA xs zs j (elC i e ys ss) (elC i' e' ys' ss') (((nx e != nx e') = false) :: saC ys ys' s s' xs zs j (elC i e ys ss) (elC i' e' ys' ss') (((!(eqBytes s.data.toList s'.data.toList)) = true) :: [])))) := by kernel_rfl
abbrev saP (ys ss ys' ss' : List (List DV)) (s s' : ByteArray) (i e i' e' : UInt8) (v : Bool) (t : Yath) : Yath := (14, .b true) :: (19, .n (.fptr (elC i e ys ss))) :: (24, .n (.fptr (elC i' e' ys' ss'))) :: (27, .b false) :: (31, .n (.fptr (elC i e ys ss))) :: (36, .n (.fptr (elC i' e' ys' ss'))) :: (39, .b false) :: (44, .n (.fptr (elC i e ys ss))) :: (47, .h (.str s) h00 none) :: (50, .n (.fptr (elC i' e' ys' ss'))) :: (53, .h (.str s') h00 none) :: (54, .b false) :: (59, .n (.fptr (elC i e ys ss))) :: (64, .n (.fptr (elC i' e' ys' ss'))) :: (67, .q (.bool v)) :: t
abbrev saQ (xs zs ys ss ys' ss' : List (List DV)) (s s' : ByteArray) (j : Nat) (i e i' e' : UInt8) (v : Bool) (t : List Prop) : List Prop := (decide ((j : Int) < (xs.length : Int)) = true) :: saA xs zs j (elC i e ys ss) (elC i' e' ys' ss') (((nx i != nx i') = false) :: saA xs zs j (elC i e ys ss) (elC i' e' ys' ss') (((nx e != nx e') = false) :: saC ys ys' s s' xs zs j (elC i e ys ss) (elC i' e' ys' ss') (((!(eqBytes s.data.toList s'.data.toList)) = false) :: saA xs zs j (elC i e ys ss) (elC i' e' ys' ss') ((C fSa [.list 4 ss, .list 4 ss'] h00 = some (.bool v, h00, none)) :: t))))
set_option maxRecDepth 1000000 in
theorem sa4 (xs zs ys ss ys' ss' : List (List DV)) (s s' : ByteArray) (j : Nat) (i e i' e' : UInt8) : zsee Try.prog tab ftab C kSa [4] saL (saS xs zs j) h00 (saP ys ss ys' ss' s s' i e i' e' false []) =
    some (.ret, saE false, h00, saQ C xs zs ys ss ys' ss' s s' j i e i' e' false []) := by kernel_rfl
set_option maxRecDepth 1000000 in
theorem sa5 (xs zs ys ss ys' ss' : List (List DV)) (s s' : ByteArray) (j : Nat) (i e i' e' : UInt8) : zsee Try.prog tab ftab C kSa [0, 1, 5] saL (saS xs zs j) h00 (saP ys ss ys' ss' s s' i e i' e' true [(16, .w (iN (j + 1)))]) =
    some (.normal, saS xs zs (j + 1), h00, saQ C xs zs ys ss ys' ss' s s' j i e i' e' true ((DV.int .i64 (IntKind.i64.wrap ((j : Int) + 1)) = iN (j + 1)) :: [])) := by kernel_rfl
set_option maxRecDepth 1000000 in
theorem saO (xs zs : List (List DV)) (j : Nat) : zsee Try.prog tab ftab C kSa [] saL (saS xs zs j) h00 [(14, .b false)] = some (.exit 0, saE true, h00, (decide ((j : Int) < (xs.length : Int)) = false) :: []) := by kernel_rfl
set_option maxRecDepth 1000000 in
theorem saN (xs zs : List (List DV)) : zflat (zans Try.prog tab ftab C fSa [.list 4 xs, .list 4 zs] [(10, .b true)]) = some (.bool false, (((xs.length : Int) != (zs.length : Int)) = true) :: []) := by kernel_rfl
def saR (v : Bool) : Ex := match v with
  | true => .exit 0
  | false => .ret
set_option maxRecDepth 1000000 in
theorem saG (xs zs : List (List DV)) (v : Bool) : zflat (zans Try.prog tab ftab C fSa [.list 4 xs, .list 4 zs] [(10, .b false), (0, .l [0, 1, 5] (saR v) (saE v) h00)]) = some (.bool v, (((xs.length : Int) != (zs.length : Int)) = false) :: (Goes Try.prog tab kSa (.loop saL) (saS xs zs 0) h00 (saR v) (saE v) h00) :: []) := by cases v <;> kernel_rfl
end
/-! ### The contract -/
/-- the same elements -/
def eqB (l m : List El) : Bool := @decide (l = m) (Classical.propDecidable _)
theorem eqB_t {l m : List El} (h : l = m) : eqB l m = true := @decide_eq_true _ (Classical.propDecidable _) h
theorem eqB_f {l m : List El} (h : l ≠ m) : eqB l m = false := @decide_eq_false _ (Classical.propDecidable _) h
theorem eqB_iff {l m : List El} : eqB l m = true ↔ l = m := ⟨fun h => Classical.byContradiction fun hn => (by rw [eqB_f hn] at h; cases h), eqB_t⟩
def cSa (d : Nat) : ConF := liftC (eqC fSa (fun x : ElD d × ElS => [elsD x.1.1, elsD x.2.1]) fun x => (.bool (eqB x.1.1 x.2.1), ⟨0, [], []⟩))
theorem cSa_at (d : Nat) (hp : Hp) (l m : List El) (h : depA l ≤ d ∧ SmL l) (hm : SmL m) : cSa d fSa [elsD l, elsD m] hp = some (.bool (eqB l m), hp, none) :=
  lift_at (A := fun x : ElD d × ElS => [elsD x.1.1, elsD x.2.1]) (D := fun x => .bool (eqB x.1.1 x.2.1)) (fun x y hxy => by
    simp only [List.cons.injEq, and_true] at hxy
    rw [els_inj hxy.1, els_inj hxy.2]) hp (⟨l, h⟩, ⟨m, hm⟩) rfl rfl
theorem sa_loop (d : Nat) (hC : ConOk Try.prog (cSa d)) (l m : List El) (hl : depA l ≤ d + 1 ∧ SmL l) (hm : SmL m) : ∀ (rest rest' pre pre' : List El), l = pre ++ rest → m = pre' ++ rest' → pre.length = pre'.length → rest.length = rest'.length →
    ∃ k, GoesR Try.prog tab kSa saL (k + 1) (saS (elR l) (elR m) pre.length) h00 (saR (eqB rest rest')) (saE (eqB rest rest')) h00
  | [], [], pre, pre', e, e', hp, hr => by
    have hn : (elR l).length = pre.length := by rw [elR_length, e, List.append_nil]
    rw [eqB_t rfl]
    exact ⟨0, GoesR.last (zsee_ok tab_ok mixed fun_ok hC (saO (cSa d) (elR l) (elR m) pre.length) (.cons (decide_eq_false (by omega)) .nil)) (by intro h; cases h)⟩
  | .mk i x dt s :: rest, .mk i' x' dt' s' :: rest', pre, pre', e, e', hp, hr => by
    obtain ⟨hl1, hl2, hl3⟩ := hl
    have hn := elR_length l
    have hn' := elR_length m
    have hll : l.length = pre.length + (rest.length + 1) := by rw [e]; simp
    have hmm : m.length = pre.length + (rest.length + 1) := by rw [e', hp]; simp at hr ⊢; omega
    have hj : l[pre.length]? = some (.mk i x dt s) := by rw [e]; simp
    have hj' : m[pre.length]? = some (.mk i' x' dt' s') := by rw [e', hp]; simp
    have hlt : decide ((pre.length : Int) < ((elR l).length : Int)) = true := decide_eq_true (by omega)
    have a1 : idxOk (pre.length : Int) (elR l).length = true := idxOk_lt (by omega)
    have a2 := elR_at hj
    have a3 : idxOk (pre.length : Int) (elR m).length = true := idxOk_lt (by omega)
    have a4 := elR_at hj'
    have hs := dep_sub hj
    have ho : smE (.mk i x dt s) := smL_at hl3 hj
    have ho' : smE (.mk i' x' dt' s') := smL_at hm.2 hj'
    have hw : DV.int .i64 (IntKind.i64.wrap ((pre.length : Int) + 1)) = iN (pre.length + 1) := congrArg (DV.int .i64) (wrapI (n := pre.length + 1) (by omega))
    have out : ∀ (hne : (El.mk i x dt s :: rest) ≠ .mk i' x' dt' s' :: rest'), Goes Try.prog tab kSa saL (saS (elR l) (elR m) pre.length) h00 .ret (saE false) h00 → ∃ k, GoesR Try.prog tab kSa saL (k + 1) (saS (elR l) (elR m) pre.length) h00 (saR (eqB (.mk i x dt s :: rest) (.mk i' x' dt' s' :: rest'))) (saE (eqB (.mk i x dt s :: rest) (.mk i' x' dt' s' :: rest'))) h00 := fun hne g => by
      rw [eqB_f hne]
      exact ⟨0, GoesR.last g (by intro h; cases h)⟩
    by_cases q1 : i = i'
    case neg => exact out (fun h => q1 (by injection h with h _; injection h)) (zsee_ok tab_ok mixed fun_ok hC (sa1 (cSa d) (elR l) (elR m) (by1 dt) (elR s) (by1 dt') (elR s') pre.length i x i' x') (.cons hlt (.cons a1 (.cons a2 (.cons a3 (.cons a4 (.cons (nx_ne q1) .nil)))))))
    subst q1
    by_cases q2 : x = x'
    case neg => exact out (fun h => q2 (by injection h with h _; injection h)) (zsee_ok tab_ok mixed fun_ok hC (sa2 (cSa d) (elR l) (elR m) (by1 dt) (elR s) (by1 dt') (elR s') pre.length i x i x') (.cons hlt (.cons a1 (.cons a2 (.cons a3 (.cons a4 (.cons (nx_eq i) (.cons a1 (.cons a2 (.cons a3 (.cons a4 (.cons (nx_ne q2) .nil))))))))))))
    subst q2
    by_cases q3 : dt = dt'
    case neg => exact out (fun h => q3 (by injection h with h _; injection h)) (zsee_ok tab_ok mixed fun_ok hC (sa3 (cSa d) (elR l) (elR m) (by1 dt) (elR s) (by1 dt') (elR s') ⟨dt.toArray⟩ ⟨dt'.toArray⟩ pre.length i x i x) (.cons hlt (.cons a1 (.cons a2 (.cons a3 (.cons a4 (.cons (nx_eq i) (.cons a1 (.cons a2 (.cons a3 (.cons a4 (.cons (nx_eq x) (.cons a1 (.cons a2 (.cons (conv_str (.inl rfl)) (.cons a3 (.cons a4 (.cons (conv_str (.inl rfl)) (.cons (by rw [eqBytes_iff, decide_eq_false q3]; rfl) .nil)))))))))))))))))))
    subst q3
    have same : (!(eqBytes dt dt)) = false := by rw [eqBytes_iff, decide_eq_true rfl]; rfl
    have hc := cSa_at d h00 s s' ⟨by omega, ho.2⟩ ho'.2
    by_cases q4 : s = s'
    case neg =>
      rw [eqB_f q4] at hc
      exact out (fun h => q4 (by injection h with h _; injection h)) (zsee_ok tab_ok mixed fun_ok hC (sa4 (cSa d) (elR l) (elR m) (by1 dt) (elR s) (by1 dt) (elR s') ⟨dt.toArray⟩ ⟨dt.toArray⟩ pre.length i x i x) (.cons hlt (.cons a1 (.cons a2 (.cons a3 (.cons a4 (.cons (nx_eq i) (.cons a1 (.cons a2 (.cons a3 (.cons a4 (.cons (nx_eq x) (.cons a1 (.cons a2 (.cons (conv_str (.inl rfl)) (.cons a3 (.cons a4 (.cons (conv_str (.inl rfl)) (.cons same (.cons a1 (.cons a2 (.cons a3 (.cons a4 (.cons hc .nil))))))))))))))))))))))))
    subst q4
    rw [eqB_t rfl] at hc
    have z := zsee_ok tab_ok mixed fun_ok hC (sa5 (cSa d) (elR l) (elR m) (by1 dt) (elR s) (by1 dt) (elR s) ⟨dt.toArray⟩ ⟨dt.toArray⟩ pre.length i x i x) (.cons hlt (.cons a1 (.cons a2 (.cons a3 (.cons a4 (.cons (nx_eq i) (.cons a1 (.cons a2 (.cons a3 (.cons a4 (.cons (nx_eq x) (.cons a1 (.cons a2 (.cons (conv_str (.inl rfl)) (.cons a3 (.cons a4 (.cons (conv_str (.inl rfl)) (.cons same (.cons a1 (.cons a2 (.cons a3 (.cons a4 (.cons hc (.cons hw .nil))))))))))))))))))))))))
    obtain ⟨k, g⟩ := sa_loop d hC l m ⟨hl1, hl2, hl3⟩ hm rest rest' (pre ++ [.mk i x dt s]) (pre' ++ [.mk i x dt s]) (by rw [e, List.append_assoc]; rfl) (by rw [e', List.append_assoc]; rfl) (by simp [hp]) (by simpa using hr)
    rw [List.length_append] at g
    have hb : eqB (.mk i x dt s :: rest) (.mk i x dt s :: rest') = eqB rest rest' := by
      by_cases h : rest = rest'
      · rw [h, eqB_t rfl, eqB_t rfl]
      · rw [eqB_f h, eqB_f fun h' => h (by injection h')]
    rw [hb]
    exact ⟨k + 1, GoesR.step z g⟩
  | [], _ :: _, _, _, _, _, _, h => by simp at h
  | _ :: _, [], _, _, _, _, _, h => by simp at h
theorem sa_len {l m : List El} (h : l.length ≠ m.length) : Ans Try.prog fSa [elsD l, elsD m] (.bool (eqB l m)) ⟨0, [], []⟩ := by
  rw [eqB_f fun e => h (by rw [e])]
  have h1 := elR_length l
  have h2 := elR_length m
  exact zflat_ok tab_ok mixed fun_ok noC_ok (saN noC (elR l) (elR m)) (.cons (bne_iff_ne.2 (by omega)) .nil)
theorem sa_ans : ∀ (d : Nat) (x : ElD d × ElS), Ans Try.prog fSa [elsD x.1.1, elsD x.2.1] (.bool (eqB x.1.1 x.2.1)) ⟨0, [], []⟩
  | 0, (⟨l, h, _⟩, ⟨m, hm⟩) => by
    obtain rfl := dep_zero h
    by_cases hz : m = []
    · subst hz
      have g := zsee_ok tab_ok mixed fun_ok noC_ok (saO noC (elR []) (elR []) 0) (.cons (decide_eq_false (by simp [elR])) .nil)
      have z := zflat_ok tab_ok mixed fun_ok noC_ok (saG noC (elR []) (elR []) true) (.cons (by simp) (.cons (GoesR.last g (by intro h; cases h)).goes .nil))
      dsimp only
      rw [eqB_t rfl]
      exact z
    · exact sa_len fun e => hz (List.eq_nil_of_length_eq_zero e.symm)
  | d + 1, (⟨l, h⟩, ⟨m, hm⟩) => by
    have hC : ConOk Try.prog (cSa d) := liftC_ok (eqC_ok (sa_ans d) fun _ => rfl)
    by_cases hlen : l.length = m.length
    · have h1 := elR_length l
      have h2 := elR_length m
      obtain ⟨k, g⟩ := sa_loop d hC l m h hm l m [] [] rfl rfl rfl hlen
      exact zflat_ok tab_ok mixed fun_ok hC (saG (cSa d) (elR l) (elR m) (eqB l m)) (.cons (by rw [h1, h2, hlen]; simp) (.cons g.goes .nil))
    · exact sa_len hlen
/-- Same, its arguments being read as lists -/
def cSm : ConF := conC fSa (fun x : ElS × ElS => [elsD x.1.1, elsD x.2.1]) fun x => (.bool (eqB x.1.1 x.2.1), ⟨0, [], []⟩)
theorem cSm_ok : ConOk Try.prog cSm := conC_ok (fun x => sa_ans (depA x.1.1) (⟨x.1.1, Nat.le_refl _, x.1.2⟩, x.2)) fun _ => ⟨rfl, fun id o h => (by simp [Hp.get_eq] at h), rfl⟩
end
end Go.Proofs.Ytejlbkhddehaiaa
