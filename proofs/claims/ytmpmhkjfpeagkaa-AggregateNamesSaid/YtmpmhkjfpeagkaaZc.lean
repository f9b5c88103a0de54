/- AggregateNames is true. -/
import Derived.Test.YtmpmhkjfpeagkaaZb
namespace Go.Proofs.Ytmpmhkjfpeagkaa
open Go.RowKit

noncomputable section
theorem fb_ok : ∀ {l : List (List UInt8)}, (∀ p ∈ l, okP p) → fb l = 0
  | [], _ => rfl
  | p :: r, h => by
    have hp := h p List.mem_cons_self
    unfold fb
    rw [beqF (show p.length ≠ 0 by have := hp.1; omega), bleT hp.2]
    exact fb_ok fun q hq => h q (List.mem_cons_of_mem _ hq)
theorem lM_ok (n : Nat) : ∀ p ∈ lM n, okP p := fun p hp => by
  rw [(List.mem_replicate.1 hp).2]
  unfold okP zM
  rw [zrs_length]
  omega
theorem lM_len : ∀ n, (jn (lM n)).length = n * 2404
  | 0 => rfl
  | n + 1 => by
    have ih := lM_len n
    have e : lM (n + 1) = lM n ++ [zM] := List.replicate_succ'
    have hz : zM.length = 2400 := zrs_length 2400
    rw [e, jn_len_snoc, ih, hz]
    unfold mis
    omega
theorem joD_28 : joD (lM 28) = .tuple [.list 1 [], iN 11] := by
  have h1 : (lM 28).length = 28 := List.length_replicate
  have h2 := fb_ok (lM_ok 28)
  have h3 : Nat.ble (jn (lM 28)).length 65535 = false := bleF (by rw [lM_len]; omega)
  have h4 : joE (lM 28) = 11 := by
    unfold joE
    rw [h1, h2, h3]
    generalize jn (lM 28) = J
    rfl
  unfold joD
  rw [h4]
  generalize jn (lM 28) = J
  rfl
theorem joD_27 : joD (lM 27) = .tuple [byL (jn (lM 27)), iN 0] := by
  have h1 : (lM 27).length = 27 := List.length_replicate
  have h2 := fb_ok (lM_ok 27)
  have h3 : Nat.ble (jn (lM 27)).length 65535 = true := bleT (by rw [lM_len]; omega)
  have h4 : joE (lM 27) = 0 := by
    unfold joE
    rw [h1, h2, h3]
    generalize jn (lM 27) = J
    rfl
  unfold joD
  rw [h4]
  generalize jn (lM 27) = J
  rfl
def fnN : FnT := (ftab fNm).get (by kernel_rfl)
theorem fnN_eq : ftab fNm = some fnN := (Option.some_get _).symm
set_option maxRecDepth 1000000 in
theorem nm_split : spine fnN.body = nmL.take 6 ++ ((nmL.drop 6).take 11 ++ ((nmL.drop 17).take 4 ++ ((nmL.drop 21).take 2 ++ ((nmL.drop 23).take 4 ++ [.ret])))) := by kernel_rfl
set_option maxRecDepth 1000000 in
theorem nm_init : initS fnN.nt [] = initS 230 [] := by kernel_rfl
set_option maxRecDepth 1000000 in
theorem nm_ks : fnN.ks = kNm := by kernel_rfl
set_option maxRecDepth 1000000 in
theorem nm_res : resD tab ⟨0, [], []⟩ (mkT 230 [(0, .bool true)]) fnN.res = some [.bool true] := by kernel_rfl
theorem nm_ret : Goes Try.prog tab kNm .ret (mkT 230 [(0, .bool true)]) h00 .ret (mkT 230 [(0, .bool true)]) h00 := zsee_ok tab_ok mixed fun_ok noC_ok (live := [0]) (p := []) (cs := []) (by kernel_rfl) .nil
theorem nm_all : Ans Try.prog fNm [] (.bool true) ⟨0, [], []⟩ := by
  refine ans_of_goes (ds := [.bool true]) tab_ok fun_ok fnN_eq (by kernel_rfl) (e := .ret) (sl' := mkT 230 [(0, .bool true)]) ?_ (by intro i h; cases h) nm_res
  refine goes_spine _ ?_
  rw [nm_split, nm_init, nm_ks]
  refine zl0_ok (nt := 230) tab_ok mixed fun_ok noC_ok nmA .nil ?_
  refine zl0_ok (nt := 230) tab_ok mixed fun_ok noC_ok nmB .nil ?_
  refine zl0_ok (nt := 230) tab_ok mixed fun_ok noC_ok nmC .nil ?_
  refine zl_ok tab_ok mixed fun_ok noC_ok _ rD_eq .nil (.pre (seen_melt (nt := 230) (l := [(23, iN 6), (25, iN 4), (27, iN 8), (29, iN 11), (30, fsD (lM 28))]) (melt_nil hD_ls) fun t d ht => ?_) ?_)
  · rcases List.mem_append.1 (show (t, d) ∈ nv2 ++ [(30, fsD (lM 28))] from ht) with h | h
    · obtain ⟨h1, h2⟩ := chkI_ok sD_c t d h
      exact ⟨d, h1, .frz _ _ (.flat _ h2)⟩
    · cases List.mem_singleton.1 h
      exact ⟨dM, sD_30, .frz _ _ frz_M⟩
  · have j1 := cNm_jo h00 (lM 28)
    have j2 := cNm_jo h00 (lM 27)
    rw [joD_28] at j1
    rw [joD_27] at j2
    have s1 : sliceD tab h00 rTI (.list 1 (fs1 (lM 28))) none (some (.int .i64 27)) none = some (.list 1 (fs1 (lM 27))) := by
      have := slice_toR (hp := h00) (xs := fs1 (lM 28)) (n := 27) (by rw [fs1_length, lM, List.length_replicate]; omega)
      rw [show (fs1 (lM 28)).take 27 = fs1 (lM 27) by rw [fs1_take]; simp [lM]] at this
      exact this
    exact zl0_ok (nt := 230) tab_ok mixed fun_ok cNm_ok (nmE (fs1 (lM 28)) (fs1 (lM 27)) (by1 (jn (lM 27)))) (.cons j1 (.cons s1 (.cons j2 (.cons (orK_left rfl) .nil)))) (.one _ _ _ _ _ _ nm_ret)
end
end Go.Proofs.Ytmpmhkjfpeagkaa
