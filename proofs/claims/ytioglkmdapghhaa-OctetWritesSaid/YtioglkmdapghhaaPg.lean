/- The reference's Split: a contract. -/
import Derived.Test.YtioglkmdapghhaaPf
namespace Go.Proofs.Ytioglkmdapghhaa
open Go.RowKit

noncomputable section
theorem app_r0 (xs fs : List (List DV)) (x y z : Int) : builtinD tab (rh3 xs x y z fs) .append [.nil, .sl 3 0 1 1 1] tyFR = some (.sl 4 0 1 1 1, rh4 xs x y z fs, none) := by kernel_rfl
theorem app_r1 (xs fs : List (List DV)) (x y z : Int) (cl : List DV) (h : cl.length ≤ 1000) : builtinD tab (rh5 xs x y z fs cl) .append [.sl 1 0 1 cl.length cl.length, .sl 4 0 1 1 1] tyFR = some (.sl 5 0 1 (cl.length + 1) (cl.length + 1), rh6 xs x y z fs cl, some 1) := by
  rw [app_tabF, contD_one (id := 4) (o := oRw 0 0 [.list 1 fs]) (d := .list 1 fs) rfl rfl]
  have hg : (rh5 xs x y z fs cl).get 1 = some (oRw 1 0 cl) := rfl
  have hf : fitB (cl.length + (0 + 1)) 24 = true := by
    have h1 : Nat.ble (cl.length + (0 + 1)) mxL = true := bleT (Nat.le_trans (show _ ≤ 1001 by omega) (by decide))
    have h2 : Nat.ble ((cl.length + (0 + 1)) * 24) mxB = true := bleT (Nat.le_trans (show _ ≤ 24024 by omega) (by decide))
    simp only [fitB, h1, h2, Bool.and_self]
  have hb : Nat.ble (cl.length + (0 + 1)) cl.length = false := bleF (by omega)
  have he : Nat.ble (0 + cl.length * 1) cl.length = true := bleT (by omega)
  have hq : Nat.beq (0 + cl.length * 1) cl.length = true := beqT (by omega)
  show appH (rh5 xs x y z fs cl) 22 sTI (.sl 1 0 1 cl.length cl.length) (0 + 1) [.list 1 fs] = _
  simp only [appH, show Nat.beq 1 1 = true from rfl, hg, hb, he, hf, hq, show Nat.beq 22 22 = true from rfl, List.drop_zero]
  rfl
theorem flat_r6 (xs : List (List DV)) (y z : Int) (fs : List (List DV)) (cl : List DV) (h : ∀ d ∈ cl, flat0 d = true) : FlatIn [5] ⟨6, [oRw 3 1 (cl ++ [.list 1 fs]), oRw 0 0 [.list 1 fs], oRd xs z, oRd xs y, oRw 2 0 cl, oRd xs z], []⟩ := by
  intro id o hid hg d hd
  obtain rfl : id = 5 := List.mem_singleton.1 hid
  cases hg
  rcases List.mem_append.1 hd with hd | hd
  · exact h d hd
  · obtain rfl := List.mem_singleton.1 hd
    rfl
theorem flat_no (hp : Hp) : FlatIn [] hp := fun id o h _ => (by cases h)
/-! ### What is read at a field -/
theorem hd_ok (pre f post : List UInt8) (hf : f.length ≤ 65535) : nmD (pre ++ (jf f ++ post)) (pre.length : Int) = nmT f.length (by1 (pre ++ (jf f ++ post))) ((pre.length : Int) + 2) 0 ∧
    d3 (pre ++ (jf f ++ post)) ((pre.length : Int) + 2) (f.length : Int) = gsT (by1 f) (by1 (pre ++ (jf f ++ post))) ((pre.length + (f.length + 2) : Nat) : Int) 0 := by
  have e : pre ++ (jf f ++ post) = pre ++ ([lo8 f.length, hi8 f.length] ++ (f ++ post)) := by rw [jf, List.append_assoc]
  have e' : pre ++ (jf f ++ post) = (pre ++ [lo8 f.length, hi8 f.length]) ++ (f ++ post) := by rw [e]; simp
  have c1 : cutE (pre ++ (jf f ++ post)).length (pre.length : Int) 2 = 0 := cutE_ok (n := 2) (by simp [jf])
  have hv : vA (pre ++ (jf f ++ post)) (pre.length : Int) 2 = f.length := by
    unfold vA
    rw [e, show (2 : Int) = ((2 : Nat) : Int) from rfl, pcB_ok (n := 2) rfl, leN_lohi hf]
  have hx : (pre.length : Int) + 2 = ((pre ++ [lo8 f.length, hi8 f.length]).length : Nat) := by simp
  have c2 : cutE (pre ++ (jf f ++ post)).length ((pre.length : Int) + 2) (f.length : Int) = 0 := by
    rw [hx]
    exact cutE_ok (by simp [jf]; omega)
  have hp : pcB (pre ++ (jf f ++ post)) ((pre.length : Int) + 2) (f.length : Int) = f := by
    rw [hx, e']
    exact pcB_ok rfl
  refine ⟨?_, ?_⟩
  · unfold nmD
    rw [if_pos c1, hv]
    rfl
  · unfold d3 afB afX
    rw [hp, if_pos c2, if_pos c2, c2]
    show DV.tuple [byL f, .agg [.list 1 (by1 _), .int .i64 _], _] = _
    rw [show (pre.length : Int) + 2 + (f.length : Int) = ((pre.length + (f.length + 2) : Nat) : Int) by omega]
    rfl
theorem hd_bad (pre r : List UInt8) (hb : badR r) : nmD (pre ++ r) (pre.length : Int) = nmT 0 [] 0 10 ∨ (nmD (pre ++ r) (pre.length : Int) = nmT (leN (r.take 2)) (by1 (pre ++ r)) ((pre.length : Int) + 2) 0 ∧ d3 (pre ++ r) ((pre.length : Int) + 2) (leN (r.take 2) : Int) = gsT [] [] 0 10 ∧ leN (r.take 2) < 65536) := by
  by_cases h2 : r.length < 2
  · have c1 : cutE (pre ++ r).length (pre.length : Int) 2 = 10 := by
      unfold cutE
      rw [List.length_append, if_neg (by omega), if_neg (by omega), if_pos (by omega)]
    refine .inl ?_
    unfold nmD
    rw [if_neg (by rw [c1]; decide), c1]
  · have hb : r.length - 2 < leN (r.take 2) := hb.resolve_left h2
    have c1 : cutE (pre ++ r).length (pre.length : Int) 2 = 0 := cutE_ok (n := 2) (by rw [List.length_append]; omega)
    have hv : vA (pre ++ r) (pre.length : Int) 2 = leN (r.take 2) := by
      unfold vA
      have := pcB_ok (pre := pre) (mid := r.take 2) (post := r.drop 2) (n := 2) (by rw [List.length_take]; omega)
      rw [List.take_append_drop] at this
      rw [show (2 : Int) = ((2 : Nat) : Int) from rfl, this]
    have c2 : cutE (pre ++ r).length ((pre.length : Int) + 2) (leN (r.take 2) : Int) = 10 := by
      unfold cutE
      rw [List.length_append, if_neg (by omega), if_neg (by omega), if_pos (by omega)]
    refine .inr ⟨?_, ?_, by rw [← hv]; exact vA2_lt _ _⟩
    · unfold nmD
      rw [if_pos c1, hv]
      rfl
    · unfold d3 pcB afB afX
      rw [if_neg (by rw [c2]; decide), if_neg (by rw [c2]; decide), if_neg (by rw [c2]; decide), c2]
      rfl
theorem nm_at (b : List UInt8) (hb : b.length < 2 ^ 30) (x : Nat) (hp : Hp) {d : DV} (h : nmD b x = d) : aNm (by1 b) x hp d := by
  subst h
  exact cNs_nm hp (⟨b, hb⟩, (x : Int))
theorem ta_at (b : List UInt8) (hb : b.length < 2 ^ 30) (x : Int) (n : Nat) (hp : Hp) {d : DV} (h : d3 b x n = d) : aTa (by1 b) x n hp d := by
  subst h
  exact cNs_ta hp (⟨b, hb⟩, x, (n : Int))
/-! ### The loop -/
def RSs (xs : List (List DV)) : List (List UInt8) → Slots
  | [] => rsS xs .nil
  | _ :: fs => rsS xs (.sl 1 0 1 (fs.length + 1) (fs.length + 1))
def RSh (xs : List (List DV)) : List (List UInt8) → Hp
  | [] => RH0 xs 0
  | f :: fs => RH1 xs ((joinB (f :: fs)).length : Nat) (celF (f :: fs))
theorem RS_snoc (xs : List (List DV)) (fs : List (List UInt8)) (f : List UInt8) : RSs xs (fs ++ [f]) = rsS xs (.sl 1 0 1 (fs.length + 1) (fs.length + 1)) ∧ RSh xs (fs ++ [f]) = RH1 xs (((joinB fs).length + (f.length + 2) : Nat) : Int) (celF fs ++ [.list 1 (by1 f)]) := by
  have e : (joinB [f]).length = f.length + 2 := by simp [joinB, jf]
  have h1 : (joinB (fs ++ [f])).length = (joinB fs).length + (f.length + 2) := by rw [joinB_append, List.length_append, e]
  have h2 := celF_snoc fs f
  rw [← h1, ← h2]
  cases fs with
  | nil => exact ⟨rfl, rfl⟩
  | cons g fs => exact ⟨by simp [RSs], rfl⟩
theorem rs_step (fs : List (List UInt8)) (f r : List UInt8) (hL : (joinB fs ++ (jf f ++ r)).length < 2 ^ 30) (hf : f.length ≤ 65535) (hn : fs.length < 256) :
    Goes Try.prog tab kRs rsL (RSs (by1 (joinB fs ++ (jf f ++ r))) fs) (RSh (by1 (joinB fs ++ (jf f ++ r))) fs) .normal (RSs (by1 (joinB fs ++ (jf f ++ r))) (fs ++ [f])) (RSh (by1 (joinB fs ++ (jf f ++ r))) (fs ++ [f])) := by
  obtain ⟨s1, s2⟩ := RS_snoc (by1 (joinB fs ++ (jf f ++ r))) fs f
  rw [s1, s2]
  clear s1 s2
  obtain ⟨b, hb⟩ : ∃ b, b = joinB fs ++ (jf f ++ r) := ⟨_, rfl⟩
  obtain ⟨g1, g2⟩ := hd_ok (joinB fs) f r hf
  rw [← hb] at g1 g2 hL ⊢
  have hlt : decide (((joinB fs).length : Int) < ((by1 b).length : Int)) = true := decide_eq_true (by
    rw [by1_length, hb]
    simp [jf]
    omega)
  have hw : DV.int .i64 (IntKind.i64.wrap (f.length : Int)) = iN f.length := congrArg (DV.int .i64) (wrapI (n := f.length) (by omega))
  cases fs with
  | nil =>
    exact zgm_ok tab_ok mixed fun_ok cNs_ok (rs0 (by1 b) (by1 f) 0 (0 + 2) (((joinB []).length + (f.length + 2) : Nat) : Int) f.length) (.cons (flat_no _) (.cons hlt (.cons (nm_at b hL 0 _ g1) (.cons hw (.cons (ta_at b hL _ _ _ g2) (.cons (app_r0 _ _ _ _ _) .nil))))))
  | cons g fs =>
    have z := zgm_ok tab_ok mixed fun_ok cNs_ok (rs1 (by1 b) (by1 f) ((joinB (g :: fs)).length : Nat) (((joinB (g :: fs)).length : Nat) + 2) (((joinB (g :: fs)).length + (f.length + 2) : Nat) : Int) f.length (celF (g :: fs)).length (celF (g :: fs))) (.cons (flat_r6 _ _ _ _ _ (celF_flat _)) (.cons hlt (.cons ?_ (.cons (nm_at b hL _ _ g1) (.cons hw (.cons (ta_at b hL _ _ _ g2) (.cons (app_r1 _ _ _ _ _ _ (by rw [celF_length]; omega)) .nil)))))))
    · rw [celF_length] at z
      exact z
    · rw [celF_length]
      exact beq_false_of_ne (by omega)
theorem rs_iter (fs : List (List UInt8)) (r : List UInt8) (hL : (joinB fs ++ r).length < 2 ^ 30) (hf : ∀ f ∈ fs, f.length ≤ 65535) (hn : fs.length ≤ 256) {e : Ex} {s1 : Slots} {h1 : Hp} (hl : Goes Try.prog tab kRs rsL (RSs (by1 (joinB fs ++ r)) fs) (RSh (by1 (joinB fs ++ r)) fs) e s1 h1) (hne : e ≠ .normal) : rsG (by1 (joinB fs ++ r)) e s1 h1 := by
  refine Goes.loop (P := Try.prog) (T := tab) (ks := kRs) (x := rsL) fs.length (fun k => RSs (by1 (joinB fs ++ r)) (fs.take k)) (fun k => RSh (by1 (joinB fs ++ r)) (fs.take k)) (e := e) (s1 := s1) (h1 := h1) (fun k hk => ?_) ?_ hne
  · obtain ⟨f, hfk⟩ : ∃ f, fs[k]? = some f := ⟨_, List.getElem?_eq_getElem hk⟩
    have e1 : joinB fs ++ r = joinB (fs.take k) ++ (jf f ++ (joinB (fs.drop (k + 1)) ++ r)) := by
      have : fs = fs.take k ++ (f :: fs.drop (k + 1)) := by
        obtain ⟨h1, h2⟩ := List.getElem?_eq_some_iff.1 hfk
        rw [← h2, ← List.drop_eq_getElem_cons h1, List.take_append_drop]
      rw [show joinB fs = joinB (fs.take k ++ (f :: fs.drop (k + 1))) from congrArg joinB this, joinB_append, joinB_cons]
      simp [List.append_assoc]
    show Goes _ _ _ _ (RSs _ (fs.take k)) (RSh _ (fs.take k)) _ (RSs _ (fs.take (k + 1))) (RSh _ (fs.take (k + 1)))
    rw [e1] at hL
    rw [take_snoc hfk, e1]
    exact rs_step _ _ _ hL (hf f (List.mem_of_getElem? hfk)) (by rw [List.length_take]; omega)
  · show Goes _ _ _ _ (RSs _ (fs.take fs.length)) (RSh _ (fs.take fs.length)) _ _ _
    rw [List.take_length]
    exact hl
theorem rs_all (fs : List (List UInt8)) (hL : (joinB fs).length < 2 ^ 30) (hf : ∀ f ∈ fs, f.length ≤ 65535) (hn : fs.length ≤ 256) : Ans Try.prog fRs [byL (joinB fs)] (.tuple [fsD fs, .int .i64 0]) ⟨0, [], []⟩ := by
  have hlt : decide (((joinB fs).length : Int) < ((by1 (joinB fs)).length : Int)) = false := decide_eq_false (by rw [by1_length]; omega)
  have hit := fun {e s1 h1} => rs_iter fs [] (by simpa using hL) hf hn (e := e) (s1 := s1) (h1 := h1)
  rw [List.append_nil] at hit
  cases fs with
  | nil => exact Ans.nil1 (zflat_ok tab_ok mixed fun_ok cNs_ok (rsA0 (by1 (joinB [])) 0) (.cons (hit (zsee_ok tab_ok mixed fun_ok cNs_ok (rsO0 (by1 (joinB [])) 0) (.cons hlt .nil)) (by intro h; cases h)) .nil))
  | cons f fs =>
    have z := zans_ok tab_ok mixed fun_ok cNs_ok (rsA1 (by1 (joinB (f :: fs))) ((joinB (f :: fs)).length : Nat) (fs.length + 1) (celF (f :: fs))) (.cons (hit (zsee_ok tab_ok mixed fun_ok cNs_ok (rsO1 (by1 (joinB (f :: fs))) ((joinB (f :: fs)).length : Nat) (fs.length + 1) (celF (f :: fs))) (.cons hlt .nil)) (by intro h; cases h)) .nil)
    exact AnsH.frz z rfl (FrzL.tuple ⟨FrzD.slice (o := oRw 1 0 (celF (f :: fs))) rfl rfl (fun h => (by cases h)) (fs1_length (f :: fs)) (fs_frz (f :: fs)), FrzD.int' _ _, trivial⟩)
theorem rs_bad (fs : List (List UInt8)) (r : List UInt8) (hL : (joinB fs ++ r).length < 2 ^ 30) (hf : ∀ f ∈ fs, f.length ≤ 65535) (hn : fs.length ≤ 256) (hr : r ≠ []) (hb : fs.length = 256 ∨ (fs.length < 256 ∧ badR r)) :
    Ans Try.prog fRs [byL (joinB fs ++ r)] (.tuple [fsD [], .int .i64 (if fs.length = 256 then 4 else 10)]) ⟨0, [], []⟩ := by
  have hit := fun {e s1 h1} => rs_iter fs r hL hf hn (e := e) (s1 := s1) (h1 := h1)
  obtain ⟨b, hbe⟩ : ∃ b, b = joinB fs ++ r := ⟨_, rfl⟩
  have hrl : 0 < r.length := List.length_pos_iff.2 hr
  have hlt : decide (((joinB fs).length : Int) < ((by1 b).length : Int)) = true := decide_eq_true (by rw [by1_length, hbe, List.length_append]; omega)
  have hbad' := fun h => hd_bad (joinB fs) r h
  rw [← hbe] at hit hL hbad' ⊢
  suffices h : rsG (by1 b) .ret (rsE (if fs.length = 256 then 4 else 10)) h00 from Ans.nil1 (zflat_ok tab_ok mixed fun_ok cNs_ok (rsAE (by1 b) _) (.cons h .nil))
  refine hit ?_ (by intro h; cases h)
  by_cases h6 : fs.length = 256
  · rw [if_pos h6]
    cases fs with
    | nil => cases h6
    | cons f fs => exact zgm_ok tab_ok mixed fun_ok cNs_ok (rsM (by1 b) ((joinB (f :: fs)).length : Nat) (fs.length + 1) (celF (f :: fs))) (.cons (flat_no _) (.cons hlt (.cons (by have : fs.length + 1 = 256 := h6; rw [this]; rfl) .nil)))
  · rw [if_neg h6]
    have hbad := (hb.resolve_left h6).2
    cases fs with
    | nil =>
      rcases hbad' hbad with g1 | ⟨g1, g2, g3⟩
      · exact zgm_ok tab_ok mixed fun_ok cNs_ok (rsN0 (by1 b) [] 0 0 10 0) (.cons (flat_no _) (.cons hlt (.cons (nm_at b hL 0 _ g1) (.cons rfl .nil))))
      · exact zgm_ok tab_ok mixed fun_ok cNs_ok (rsT0 (by1 b) [] [] 0 (0 + 2) 0 10 (leN (r.take 2))) (.cons (flat_no _) (.cons hlt (.cons (nm_at b hL 0 _ g1) (.cons (congrArg (DV.int .i64) (wrapI (by omega))) (.cons (ta_at b hL _ _ _ g2) (.cons rfl .nil))))))
    | cons f fs =>
      have hne : (((fs.length + 1 : Nat) : Int) == 256) = false := beq_false_of_ne (by simp at h6; omega)
      rcases hbad' hbad with g1 | ⟨g1, g2, g3⟩
      · exact zgm_ok tab_ok mixed fun_ok cNs_ok (rsN1 (by1 b) [] ((joinB (f :: fs)).length : Nat) 0 10 0 (fs.length + 1) (celF (f :: fs))) (.cons (flat_no _) (.cons hlt (.cons hne (.cons (nm_at b hL _ _ g1) (.cons rfl .nil)))))
      · exact zgm_ok tab_ok mixed fun_ok cNs_ok (rsT1 (by1 b) [] [] ((joinB (f :: fs)).length : Nat) (((joinB (f :: fs)).length : Nat) + 2) 0 10 (leN (r.take 2)) (fs.length + 1) (celF (f :: fs))) (.cons (flat_no _) (.cons hlt (.cons hne (.cons (nm_at b hL _ _ g1) (.cons (congrArg (DV.int .i64) (wrapI (by omega))) (.cons (ta_at b hL _ _ _ g2) (.cons rfl .nil)))))))
theorem rs_ans (b : Bs) : Ans Try.prog fRs [byL b.1] (spD b) ⟨0, [], []⟩ := by
  obtain ⟨r, e, hf, hn, hr⟩ := spFs_spec b
  have hL := b.2
  unfold spD
  generalize spFs b = fs at *
  obtain ⟨b, hb⟩ := b
  dsimp only at e hL ⊢
  subst e
  rcases hr with rfl | ⟨hr, hbad⟩
  · rw [decide_eq_true (show joinB fs = joinB fs ++ [] by rw [List.append_nil]), List.append_nil]
    rw [List.append_nil] at hL
    exact rs_all fs hL hf hn
  · rw [decide_eq_false (fun h => hr (by
      have := congrArg List.length h
      rw [List.length_append] at this
      exact List.length_eq_zero_iff.1 (by omega)))]
    exact rs_bad fs r hL hf hn hr hbad
def cRs : ConF := liftC (eqC fRs (fun b : Bs => [byL b.1]) fun b => (spD b, ⟨0, [], []⟩))
theorem cRs_ok : ConOk Try.prog cRs := liftC_ok (eqC_ok rs_ans fun _ => rfl)
theorem cRs_at (hp : Hp) (b : Bs) : cRs fRs [byL b.1] hp = some (spD b, hp, none) :=
  lift_at (A := fun b : Bs => [byL b.1]) (D := spD) (fun x y hxy => by
    simp only [List.cons.injEq, and_true] at hxy
    rw [byL_inj hxy]) hp b rfl (spD_flat b)
end
end Go.Proofs.Ytioglkmdapghhaa
