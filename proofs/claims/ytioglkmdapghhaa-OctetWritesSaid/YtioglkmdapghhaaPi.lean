/- OctetWrites, over the data of its arguments: the path to the end. -/
import Derived.Test.YtioglkmdapghhaaPh
namespace Go.Proofs.Ytioglkmdapghhaa
open Go.RowKit

noncomputable section
set_option maxRecDepth 1000000 in
theorem wrR (xs ys rs ps js gs a8 a16 a32 a64 x1 x2 : List (List DV)) (v q8 q16 q32 n1 : Nat) (e e2 e3 : Int) (sp sj s8 s16 s32 s64 sx : ByteArray) : zflat (zans Try.prog tab ftab cW fWr (wArgs xs ys rs v) [(28, .c [(5, .b false)]), (31, .c [(5, .b false)]), (36, .b false), (0, .l [0, 1, 2, 3, 9] (.exit 0) (wrE xs ys rs v) h00),
      (50, .q (.list 1 xs)), (54, .q (pr ps e)), (60, .q (pr ps e)), (65, .q (pr js e2)), (70, .q (pr js e2)), (75, .q (pr gs e3)), (80, .q (pr gs e3)),
      (85, .w (u8n q8)), (86, .q (.list 1 a8)), (89, .q (.list 1 a8)), (90, sm s8), (94, .w (.int .u16 (q16 : Int))), (95, .q (.list 1 a16)), (98, .q (.list 1 a16)), (99, sm s16), (104, .w (.int .u32 (q32 : Int))), (105, .q (.list 1 a32)), (108, .q (.list 1 a32)), (109, sm s32), (114, .q (.list 1 a64)), (117, .q (.list 1 a64)), (118, sm s64),
      (121, .q (.list 1 x1)), (123, .q (.list 1 x2)), (128, .w (iN n1)), (129, .b true), (135, .w (iN n1)), (136, .b true), (142, .n (.fptr [.int .u8 1])), (150, .n (.fptr [.int .u8 2])), (161, sm sp), (166, .b true), (171, sm sj), (176, .b true), (181, .q (.bool true)), (186, .b true), (191, sm sx)]) =
    some (.bool true, wNear xs ys rs ((Goes Try.prog tab kWr (.loop wrL) (wrS xs ys rs v 0) h00 (.exit 0) (wrE xs ys rs v) h00) :: aC fCp [.list 1 xs] (.list 1 xs) :: aC fPt [.list 1 xs, .list 1 ys] (pr ps e) :: aC fRt [.list 1 xs, .list 1 ys] (pr ps e) :: aC fJo [.list 1 rs] (pr js e2) :: aC fRj [.list 1 rs] (pr js e2) ::
      aC fSp [.list 1 xs] (pr gs e3) :: aC fRs [.list 1 xs] (pr gs e3) :: (DV.int .u8 (IntKind.u8.wrap (v : Int)) = u8n q8) :: aC fP8 [.list 1 xs, u8n q8] (.list 1 a8) :: aC fRp [.list 1 xs, i64u v, iN 1] (.list 1 a8) :: aSm a8 s8 ((DV.int .u16 (IntKind.u16.wrap (v : Int)) = .int .u16 (q16 : Int)) :: aC fP16 [.list 1 xs, .int .u16 (q16 : Int)] (.list 1 a16) :: aC fRp [.list 1 xs, i64u v, iN 2] (.list 1 a16) ::
      aSm a16 s16 ((DV.int .u32 (IntKind.u32.wrap (v : Int)) = .int .u32 (q32 : Int)) :: aC fP32 [.list 1 xs, .int .u32 (q32 : Int)] (.list 1 a32) :: aC fRp [.list 1 xs, i64u v, iN 4] (.list 1 a32) :: aSm a32 s32 (aC fP64 [.list 1 xs, i64u v] (.list 1 a64) :: aC fRp [.list 1 xs, i64u v, iN 8] (.list 1 a64) :: aSm a64 s64 (
      aC fP8 [.list 1 xs, u8n 1] (.list 1 x1) :: aC fP8 [.list 1 xs, u8n 2] (.list 1 x2) :: (DV.int .i64 (IntKind.i64.wrap ((xs.length : Int) + 1)) = iN n1) :: (((x1.length : Int) == (n1 : Int)) = true) :: (DV.int .i64 (IntKind.i64.wrap ((xs.length : Int) + 1)) = iN n1) :: (((x2.length : Int) == (n1 : Int)) = true) ::
      (idxOk (xs.length : Int) x1.length = true) :: (nth x1 ((xs.length : Int).toNat) = some [.int .u8 1]) :: (idxOk (xs.length : Int) x2.length = true) :: (nth x2 ((xs.length : Int).toNat) = some [.int .u8 2]) ::
      aSm ps sp (((e == e) = true) :: aSm js sj (((e2 == e2) = true) :: aC fSa [.list 1 gs, .list 1 gs] (.bool true) :: ((e3 == e3) = true) :: aSm xs sx [])))))))) := by kernel_rfl
/-! ### What is asked -/
theorem w_cCp {l : List DV} {d : DV} (h : cCp fCp l h00 = some (d, h00, none)) : aC fCp l d := orK_left h
theorem w_cPt {l : List DV} {d : DV} (h : cPt fPt l h00 = some (d, h00, none)) : aC fPt l d := orK_right (lift_oth (eqC_other (by kernel_rfl))) (orK_left h)
theorem w_cRtx {l : List DV} {d : DV} (h : cRtx fRt l h00 = some (d, h00, none)) : aC fRt l d := orK_right (lift_oth (eqC_other (by kernel_rfl))) (orK_right (lift_oth (eqC_other (by kernel_rfl))) (orK_left h))
theorem w_cJo {l : List DV} {d : DV} (h : cJo fJo l h00 = some (d, h00, none)) : aC fJo l d := orK_right (lift_oth (eqC_other (by kernel_rfl))) (orK_right (lift_oth (eqC_other (by kernel_rfl))) (orK_right (lift_oth (eqC_other (by kernel_rfl))) (orK_left h)))
theorem w_cRj {l : List DV} {d : DV} (h : cRj fRj l h00 = some (d, h00, none)) : aC fRj l d := orK_right (lift_oth (eqC_other (by kernel_rfl))) (orK_right (lift_oth (eqC_other (by kernel_rfl))) (orK_right (lift_oth (eqC_other (by kernel_rfl))) (orK_right (lift_oth (eqC_other (by kernel_rfl))) (orK_left h))))
theorem w_cSp {l : List DV} {d : DV} (h : cSp fSp l h00 = some (d, h00, none)) : aC fSp l d := orK_right (lift_oth (eqC_other (by kernel_rfl))) (orK_right (lift_oth (eqC_other (by kernel_rfl))) (orK_right (lift_oth (eqC_other (by kernel_rfl))) (orK_right (lift_oth (eqC_other (by kernel_rfl))) (orK_right (lift_oth (eqC_other (by kernel_rfl))) (orK_left h)))))
theorem w_cRs {l : List DV} {d : DV} (h : cRs fRs l h00 = some (d, h00, none)) : aC fRs l d := orK_right (lift_oth (eqC_other (by kernel_rfl))) (orK_right (lift_oth (eqC_other (by kernel_rfl))) (orK_right (lift_oth (eqC_other (by kernel_rfl))) (orK_right (lift_oth (eqC_other (by kernel_rfl))) (orK_right (lift_oth (eqC_other (by kernel_rfl))) (orK_right (lift_oth (eqC_other (by kernel_rfl))) (orK_left h))))))
theorem w_cSa {l : List DV} {d : DV} (h : cSa fSa l h00 = some (d, h00, none)) : aC fSa l d := orK_right (lift_oth (eqC_other (by kernel_rfl))) (orK_right (lift_oth (eqC_other (by kernel_rfl))) (orK_right (lift_oth (eqC_other (by kernel_rfl))) (orK_right (lift_oth (eqC_other (by kernel_rfl))) (orK_right (lift_oth (eqC_other (by kernel_rfl))) (orK_right (lift_oth (eqC_other (by kernel_rfl))) (orK_right (lift_oth (eqC_other (by kernel_rfl))) (orK_left h)))))))
theorem w_cPu8 {l : List DV} {d : DV} (h : cPu8 fP8 l h00 = some (d, h00, none)) : aC fP8 l d := orK_right (lift_oth (eqC_other (by kernel_rfl))) (orK_right (lift_oth (eqC_other (by kernel_rfl))) (orK_right (lift_oth (eqC_other (by kernel_rfl))) (orK_right (lift_oth (eqC_other (by kernel_rfl))) (orK_right (lift_oth (eqC_other (by kernel_rfl))) (orK_right (lift_oth (eqC_other (by kernel_rfl))) (orK_right (lift_oth (eqC_other (by kernel_rfl))) (orK_right (lift_oth (eqC_other (by kernel_rfl))) (orK_left h))))))))
theorem w_cRpl {l : List DV} {d : DV} (h : cRpl fRp l h00 = some (d, h00, none)) : aC fRp l d := orK_right (lift_oth (eqC_other (by kernel_rfl))) (orK_right (lift_oth (eqC_other (by kernel_rfl))) (orK_right (lift_oth (eqC_other (by kernel_rfl))) (orK_right (lift_oth (eqC_other (by kernel_rfl))) (orK_right (lift_oth (eqC_other (by kernel_rfl))) (orK_right (lift_oth (eqC_other (by kernel_rfl))) (orK_right (lift_oth (eqC_other (by kernel_rfl))) (orK_right (lift_oth (eqC_other (by kernel_rfl))) (orK_right (lift_oth (eqC_other (by kernel_rfl))) (orK_left h)))))))))
theorem w_cPu16 {l : List DV} {d : DV} (h : cPu16 fP16 l h00 = some (d, h00, none)) : aC fP16 l d := orK_right (lift_oth (eqC_other (by kernel_rfl))) (orK_right (lift_oth (eqC_other (by kernel_rfl))) (orK_right (lift_oth (eqC_other (by kernel_rfl))) (orK_right (lift_oth (eqC_other (by kernel_rfl))) (orK_right (lift_oth (eqC_other (by kernel_rfl))) (orK_right (lift_oth (eqC_other (by kernel_rfl))) (orK_right (lift_oth (eqC_other (by kernel_rfl))) (orK_right (lift_oth (eqC_other (by kernel_rfl))) (orK_right (lift_oth (eqC_other (by kernel_rfl))) (orK_right (lift_oth (eqC_other (by kernel_rfl))) (orK_left h))))))))))
theorem w_cPu32 {l : List DV} {d : DV} (h : cPu32 fP32 l h00 = some (d, h00, none)) : aC fP32 l d := orK_right (lift_oth (eqC_other (by kernel_rfl))) (orK_right (lift_oth (eqC_other (by kernel_rfl))) (orK_right (lift_oth (eqC_other (by kernel_rfl))) (orK_right (lift_oth (eqC_other (by kernel_rfl))) (orK_right (lift_oth (eqC_other (by kernel_rfl))) (orK_right (lift_oth (eqC_other (by kernel_rfl))) (orK_right (lift_oth (eqC_other (by kernel_rfl))) (orK_right (lift_oth (eqC_other (by kernel_rfl))) (orK_right (lift_oth (eqC_other (by kernel_rfl))) (orK_right (lift_oth (eqC_other (by kernel_rfl))) (orK_right (lift_oth (eqC_other (by kernel_rfl))) (orK_left h)))))))))))
theorem w_cPu64 {l : List DV} {d : DV} (h : cPu64 fP64 l h00 = some (d, h00, none)) : aC fP64 l d := orK_right (lift_oth (eqC_other (by kernel_rfl))) (orK_right (lift_oth (eqC_other (by kernel_rfl))) (orK_right (lift_oth (eqC_other (by kernel_rfl))) (orK_right (lift_oth (eqC_other (by kernel_rfl))) (orK_right (lift_oth (eqC_other (by kernel_rfl))) (orK_right (lift_oth (eqC_other (by kernel_rfl))) (orK_right (lift_oth (eqC_other (by kernel_rfl))) (orK_right (lift_oth (eqC_other (by kernel_rfl))) (orK_right (lift_oth (eqC_other (by kernel_rfl))) (orK_right (lift_oth (eqC_other (by kernel_rfl))) (orK_right (lift_oth (eqC_other (by kernel_rfl))) (orK_right (lift_oth (eqC_other (by kernel_rfl))) (h))))))))))))
theorem first_big (N : Nat) : ∀ (fs : List (List UInt8)), (∀ f ∈ fs, f.length ≤ N) ∨ ∃ j f, fs[j]? = some f ∧ f.length > N ∧ ∀ g ∈ fs.take j, g.length ≤ N
  | [] => .inl fun f h => (by cases h)
  | f :: fs => by
    by_cases hf : f.length > N
    · exact .inr ⟨0, f, rfl, hf, fun g hg => by simp at hg⟩
    · rcases first_big N fs with h | ⟨j, g, h1, h2, h3⟩
      · refine .inl fun x hx => ?_
        rcases List.mem_cons.1 hx with rfl | hx
        · omega
        · exact h x hx
      · refine .inr ⟨j + 1, g, by simpa using h1, h2, fun x hx => ?_⟩
        rw [List.take_succ_cons] at hx
        rcases List.mem_cons.1 hx with rfl | hx
        · omega
        · exact h3 x hx
theorem ptD_is (b t : List UInt8) : ∃ p e, ptD b t = .tuple [byL p, .int .i64 e] := by
  unfold ptD
  split
  · exact ⟨[], 11, rfl⟩
  · exact ⟨_, 0, rfl⟩
theorem joD_is (fs : List (List UInt8)) : ∃ p e, joD fs = .tuple [byL p, .int .i64 e] := by
  unfold joD
  split
  · exact ⟨[], 4, rfl⟩
  · split
    · exact ⟨[], 11, rfl⟩
    · exact ⟨_, 0, rfl⟩
theorem spD_is (b : Bs) : ∃ gs e, spD b = .tuple [fsD gs, .int .i64 e] ∧ gs.length ≤ 256 := by
  obtain ⟨r, _, _, hn, _⟩ := spFs_spec b
  unfold spD
  split
  · exact ⟨_, 0, rfl, hn⟩
  · exact ⟨[], _, rfl, by simp⟩
theorem aSm_ok (p : List UInt8) {t : List Prop} (h : AskedP t) : AskedP (aSm (by1 p) ⟨p.toArray⟩ t) := .cons (conv_list _ _) (.cons (conv_list _ _) (.cons (eq_true _) h))
theorem wrapN {k : IntKind} {v m : Nat} (h : k.signed = false) (hm : m = 2 ^ k.bits) : DV.int k (k.wrap (v : Int)) = .int k ((v % m : Nat) : Int) := by
  rw [wrapU h, hm]
theorem wr_step {fs : List (List UInt8)} {k : Nat} {f : List UInt8} (xs ys : List (List DV)) (v : Nat) (hn : fs.length ≤ 300) (hf : fs[k]? = some f) (h : f.length ≤ 70000) : Goes Try.prog tab kWr wrL (wrS xs ys (fs1 fs) v k) h00 .normal (wrS xs ys (fs1 fs) v (k + 1)) h00 := by
  have hl := fs1_length fs
  have hk := (List.getElem?_eq_some_iff.1 hf).1
  exact zsee_ok tab_ok mixed fun_ok noC_ok (wr1 xs ys (fs1 fs) (by1 f) v k) (.cons (decide_eq_true (by omega)) (.cons (idxOk_lt (by omega)) (.cons (fs1_nth hf) (.cons (decide_eq_false (by rw [by1_length]; omega)) (.cons (congrArg (DV.int .i64) (wrapI (n := k + 1) (by omega))) .nil)))))
theorem wr_all (b t : List UInt8) (fs : List (List UInt8)) (v : Nat) (hv : v < 2 ^ 64) : Ans Try.prog fWr [byL b, byL t, fsD fs, i64u v] (.bool true) ⟨0, [], []⟩ := by
  have lb := by1_length b
  have lt := by1_length t
  have hl := fs1_length fs
  by_cases hb : b.length > 70000
  · exact zflat_ok tab_ok mixed fun_ok cW_ok (wf1 (by1 b) (by1 t) (fs1 fs) v) (.cons (decide_eq_true (by omega)) .nil)
  have n1 : decide (((by1 b).length : Int) > 70000) = false := decide_eq_false (by omega)
  by_cases ht : t.length > 70000
  · exact zflat_ok tab_ok mixed fun_ok cW_ok (wf2 (by1 b) (by1 t) (fs1 fs) v) (.cons n1 (.cons (decide_eq_true (by omega)) .nil))
  have n2 : decide (((by1 t).length : Int) > 70000) = false := decide_eq_false (by omega)
  by_cases hn : fs.length > 300
  · exact zflat_ok tab_ok mixed fun_ok cW_ok (wf3 (by1 b) (by1 t) (fs1 fs) v) (.cons n1 (.cons n2 (.cons (decide_eq_true (by omega)) .nil)))
  have n3 : decide (((fs1 fs).length : Int) > 300) = false := decide_eq_false (by omega)
  have hn' : fs.length ≤ 300 := by omega
  rcases first_big 70000 fs with hs | ⟨j, f, q1, q2, q3⟩
  · have hlp : Goes Try.prog tab kWr (.loop wrL) (wrS (by1 b) (by1 t) (fs1 fs) v 0) h00 (.exit 0) (wrE (by1 b) (by1 t) (fs1 fs) v) h00 := by
      refine Goes.loop (P := Try.prog) (T := tab) (ks := kWr) (x := wrL) fs.length (fun k => wrS (by1 b) (by1 t) (fs1 fs) v k) (fun _ => h00) (e := .exit 0) (s1 := wrE (by1 b) (by1 t) (fs1 fs) v) (h1 := h00) (fun k hk => ?_) ?_ (by intro h; cases h)
      · obtain ⟨g, hgk⟩ : ∃ g, fs[k]? = some g := ⟨_, List.getElem?_eq_getElem hk⟩
        exact wr_step _ _ v hn' hgk (hs g (List.mem_of_getElem? hgk))
      · exact zsee_ok tab_ok mixed fun_ok noC_ok (wrO (by1 b) (by1 t) (fs1 fs) v fs.length) (.cons (decide_eq_false (by omega)) .nil)
    have hbL : b.length < 2 ^ 30 := by omega
    have htL : t.length < 2 ^ 30 := by omega
    obtain ⟨p, e, hp⟩ := ptD_is b t
    obtain ⟨p2, e2, hp2⟩ := joD_is fs
    obtain ⟨gs, e3, hp3, hgs⟩ := spD_is ⟨b, hbL⟩
    have k1 := w_cCp (cCp_at h00 ⟨b, hbL⟩)
    have k2 := cPt_at h00 ⟨b, hbL⟩ ⟨t, htL⟩
    have k3 := cRtx_at h00 ⟨b, hbL⟩ ⟨t, htL⟩
    rw [hp] at k2 k3
    have k4 := cJo_at h00 fs
    have k5 := cRj_at h00 fs
    rw [hp2] at k4 k5
    have k6 := cSp_at h00 ⟨b, hbL⟩
    have k7 := cRs_at h00 ⟨b, hbL⟩
    rw [hp3] at k6 k7
    have k8 := w_cSa (cSa_at h00 gs hgs)
    have p8 := cPu8_at h00 ⟨b, hbL⟩ (v % 256) (Nat.mod_lt _ (by decide))
    have p16 := cPu16_at h00 ⟨b, hbL⟩ (v % 65536) (Nat.mod_lt _ (by decide))
    have p32 := cPu32_at h00 ⟨b, hbL⟩ (v % 4294967296) (Nat.mod_lt _ (by decide))
    have p64 := cPu64_at h00 ⟨b, hbL⟩ v hv
    rw [show leB (v % 256) 1 = leB v 1 from leB_mod v 1 1 (Nat.le_refl _)] at p8
    rw [show leB (v % 65536) 2 = leB v 2 from leB_mod v 2 2 (Nat.le_refl _)] at p16
    rw [show leB (v % 4294967296) 4 = leB v 4 from leB_mod v 4 4 (Nat.le_refl _)] at p32
    have r8 := w_cRpl (cRpl_at h00 ⟨b, hbL⟩ v 1 hv (by decide))
    have r16 := w_cRpl (cRpl_at h00 ⟨b, hbL⟩ v 2 hv (by decide))
    have r32 := w_cRpl (cRpl_at h00 ⟨b, hbL⟩ v 4 hv (by decide))
    have r64 := w_cRpl (cRpl_at h00 ⟨b, hbL⟩ v 8 hv (by decide))
    have y1 := w_cPu8 (cPu8_at h00 ⟨b, hbL⟩ 1 (by decide))
    have y2 := w_cPu8 (cPu8_at h00 ⟨b, hbL⟩ 2 (by decide))
    have l1 : (by1 (b ++ leB 1 1)).length = b.length + 1 := by rw [by1_length, List.length_append, leB_length]
    have l2 : (by1 (b ++ leB 2 1)).length = b.length + 1 := by rw [by1_length, List.length_append, leB_length]
    have hw : DV.int .i64 (IntKind.i64.wrap (((by1 b).length : Int) + 1)) = iN (b.length + 1) := by
      rw [lb]
      exact congrArg (DV.int .i64) (wrapI (n := b.length + 1) (by omega))
    have t1 : nth (by1 (b ++ leB 1 1)) (((by1 b).length : Int).toNat) = some [.int .u8 1] := by
      rw [lb]
      exact by1_nth (c := 1) (by simp [leB])
    have t2 : nth (by1 (b ++ leB 2 1)) (((by1 b).length : Int).toNat) = some [.int .u8 2] := by
      rw [lb]
      exact by1_nth (c := 2) (by simp [leB])
    refine zflat_ok tab_ok mixed fun_ok cW_ok (wrR (by1 b) (by1 t) (fs1 fs) (by1 p) (by1 p2) (fs1 gs) (by1 (b ++ leB v 1)) (by1 (b ++ leB v 2)) (by1 (b ++ leB v 4)) (by1 (b ++ leB v 8)) (by1 (b ++ leB 1 1)) (by1 (b ++ leB 2 1)) v (v % 256) (v % 65536) (v % 4294967296) (b.length + 1) e e2 e3 ⟨p.toArray⟩ ⟨p2.toArray⟩ ⟨(b ++ leB v 1).toArray⟩ ⟨(b ++ leB v 2).toArray⟩ ⟨(b ++ leB v 4).toArray⟩ ⟨(b ++ leB v 8).toArray⟩ ⟨b.toArray⟩) ?_
    refine .cons n1 (.cons n2 (.cons n3 (.cons hlp (.cons k1 (.cons (w_cPt k2) (.cons (w_cRtx k3) (.cons (w_cJo k4) (.cons (w_cRj k5) (.cons (w_cSp k6) (.cons (w_cRs k7) (.cons (wrapN rfl rfl) (.cons (w_cPu8 p8) (.cons r8 (aSm_ok _ ?_))))))))))))))
    refine .cons (wrapN rfl rfl) (.cons (w_cPu16 p16) (.cons r16 (aSm_ok _ ?_)))
    refine .cons (wrapN rfl rfl) (.cons (w_cPu32 p32) (.cons r32 (aSm_ok _ ?_)))
    refine .cons (w_cPu64 p64) (.cons r64 (aSm_ok _ ?_))
    refine .cons y1 (.cons y2 (.cons hw (.cons (by rw [l1]; simp) (.cons hw (.cons (by rw [l2]; simp) (.cons (idxOk_lt (by omega)) (.cons t1 (.cons (idxOk_lt (by omega)) (.cons t2 (aSm_ok _ ?_))))))))))
    exact .cons (by simp) (aSm_ok _ (.cons (by simp) (.cons k8 (.cons (by simp) (aSm_ok _ .nil)))))
  · have hj := (List.getElem?_eq_some_iff.1 q1).1
    refine zflat_ok tab_ok mixed fun_ok cW_ok (wf4 (by1 b) (by1 t) (fs1 fs) v) (.cons n1 (.cons n2 (.cons n3 (.cons ?_ .nil))))
    refine Goes.loop (P := Try.prog) (T := tab) (ks := kWr) (x := wrL) j (fun k => wrS (by1 b) (by1 t) (fs1 fs) v k) (fun _ => h00) (e := .ret) (s1 := wrT) (h1 := h00) (fun k hk => ?_) ?_ (by intro h; cases h)
    · obtain ⟨g, hgk⟩ : ∃ g, fs[k]? = some g := ⟨_, List.getElem?_eq_getElem (by omega)⟩
      refine wr_step _ _ v hn' hgk (q3 g ?_)
      exact List.mem_of_getElem? (i := k) (by rw [List.getElem?_take, if_pos hk]; exact hgk)
    · exact zsee_ok tab_ok mixed fun_ok noC_ok (wrX (by1 b) (by1 t) (fs1 fs) (by1 f) v j) (.cons (decide_eq_true (by omega)) (.cons (idxOk_lt (by omega)) (.cons (fs1_nth q1) (.cons (decide_eq_true (by rw [by1_length]; omega)) .nil))))
end
end Go.Proofs.Ytioglkmdapghhaa
