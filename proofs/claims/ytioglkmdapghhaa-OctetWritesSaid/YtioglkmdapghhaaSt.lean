/- Split's contract. -/
import Derived.Test.YtioglkmdapghhaaSr
namespace Go.Proofs.Ytioglkmdapghhaa
open Go.RowKit

noncomputable section
/-- the iterator carried out, the range is -/
theorem sp_rng (b : List UInt8) (r : Bool) {hp : Hp} (h : Goes Try.prog tab kIt (.loop itL) itS (SH0 (by1 b) 0) (cond r .ret (.exit 0)) (mkT 31 []) hp) {R : LS} (hR : lfind 4 hp.ls = some R) (hsl : R.sl = spS) (hout : outOf R.st R.pe = some (cond r .ret .normal)) :
    spRng (by1 b) (cond r .ret .normal) (hp.wls []) := by
  have hg := zsee_ok tab_ok mixed fun_ok cGs_ok (it_run (by1 b) r hp) (.cons h .nil)
  have hA : AnsH Try.prog fIt [.yld 4, .ptr 3 0] ⟨5, [oPl, oBx (by1 b), oRs .nil, oEr 0, oRs .nil], [spR 0 none]⟩ (one []) hp :=
    by
    have hb : Nat.ble [DV.yld 4, .ptr 3 0].length 31 = true := rfl
    refine ansH_of_goes (fn := ⟨31, bodyOf ftab fIt, [], kIt⟩) (e := cond r .ret .normal) (sl' := mkT 31 []) (ds := []) tab_ok fun_ok it_tab hb ?_ (fun i => by cases r <;> (intro h; cases h)) rfl
    dsimp only
    exact hg
  have := Goes.range (P := Try.prog) (T := tab) (ks := ksF ftab fSp) (g := .tmp 8) (ps := #[9, 10]) (x := rngA (bodyOf ftab fSp)) (y := rngB (bodyOf ftab fSp)) (sl := spS) (hp := spB (by1 b)) (hp1 := hp) (f := fIt) (captured := [.ptr 3 0]) (d := one []) (nc := 22) (R := R) (e := cond r .ret .normal) rfl (by kernel_rfl) rfl (by rw [sp_beg]; exact hA) hR hout
  rw [hsl] at this
  exact this
/-- fields found, and no error; or an error -/
def spR2 (fs : List (List UInt8)) (e : Int) : DV × Hp := (.tuple [fsD fs, .int .i64 e], ⟨0, [], []⟩)
theorem Ans.nil1 {P : Program} {f : FuncId} {args : List DV} {e : Int} (h : Ans P f args (.tuple [.nil, .int .i64 e]) ⟨0, [], []⟩) : Ans P f args (.tuple [.list 1 [], .int .i64 e]) ⟨0, [], []⟩ :=
  h.seeH rfl fun _ _ E w _ hs hv => ⟨E, fun _ h => h, yb_none hs.ys rfl, rfl, hs, see_tuple (w := w) (E := E) (E' := E) (ds := [.nil, .int .i64 e]) (bs := [.list 1 [], .int .i64 e]) ⟨fun _ h => vr_nl h, fun _ h => h, trivial⟩ hv⟩
theorem fs_frz {L : List Nat} {hp : Hp} (fs : List (List UInt8)) (i : Nat) (cs : List DV) (h : (fs1 fs)[i]? = some cs) : cs.length = 1 ∧ scals cs = true ∧ ∀ (j : Nat) (d : DV), cs[j]? = some d → ∃ e, (celF fs)[0 + (i * 1 + j)]? = some e ∧ FrzD L hp e d := by
  unfold fs1 at h
  rw [List.getElem?_map, Option.map_eq_some_iff] at h
  obtain ⟨f, hf, rfl⟩ := h
  refine ⟨rfl, rfl, fun j d hd => ?_⟩
  cases j with
  | zero =>
    cases hd
    refine ⟨byL f, ?_, .flat _ rfl⟩
    rw [show 0 + (i * 1 + 0) = i by omega, celF, List.getElem?_map, hf]
    rfl
  | succ j => simp at hd
/-- the whole is read -/
theorem sp_all (fs : List (List UInt8)) (hL : (joinB fs).length < 2 ^ 30) (hf : ∀ f ∈ fs, f.length ≤ 65535) (hn : fs.length ≤ 256) : Ans Try.prog fSp [byL (joinB fs)] (spR2 fs 0).1 (spR2 fs 0).2 := by
  have hlt : decide (((joinB fs).length : Int) < ((by1 (joinB fs)).length : Int)) = false := decide_eq_false (by rw [by1_length]; omega)
  have hlast : ∃ hp, hp = SHk (by1 (joinB fs)) fs ∧ Goes Try.prog tab kIt itL itS hp (.exit 0) (mkT 31 []) hp := by
    refine ⟨_, rfl, ?_⟩
    cases fs with
    | nil => exact zsee_ok tab_ok mixed fun_ok cGs_ok (spO (by1 (joinB [])) 0 _ _ _ ⟨rfl, .inl rfl⟩) (.cons hlt .nil)
    | cons f fs => exact zsee_ok tab_ok mixed fun_ok cGs_ok (spO (by1 (joinB (f :: fs))) _ _ _ _ ⟨rfl, .inr ⟨_, _, rfl⟩⟩) (.cons hlt .nil)
  obtain ⟨_, rfl, hlast⟩ := hlast
  have hi := sp_iter fs [] (by simpa using hL) hf hn (by rw [List.append_nil]; exact hlast) (by intro h; cases h)
  rw [List.append_nil] at hi
  have hr := sp_rng (joinB fs) false (hp := SHk (by1 (joinB fs)) fs) hi (R := spR 0 none) (by cases fs <;> rfl) rfl rfl
  cases fs with
  | nil => exact Ans.nil1 (zflat_ok tab_ok mixed fun_ok cGs_ok (split0 (by1 (joinB [])) 0) (.cons hr .nil))
  | cons f fs =>
    have z := zans_ok tab_ok mixed fun_ok cGs_ok (split1 (by1 (joinB (f :: fs))) ((joinB (f :: fs)).length : Nat) (fs.length + 1) (celF (f :: fs))) (.cons hr .nil)
    exact AnsH.frz z rfl (FrzL.tuple ⟨FrzD.slice (o := oRw 1 0 (celF (f :: fs))) rfl rfl (fun h => (by cases h)) (fs1_length (f :: fs)) (fs_frz (f :: fs)), FrzD.int' _ _, trivial⟩)
theorem sp_bad (fs : List (List UInt8)) (r : List UInt8) (hL : (joinB fs ++ r).length < 2 ^ 30) (hf : ∀ f ∈ fs, f.length ≤ 65535) (hn : fs.length ≤ 256) (hr : r ≠ []) (hb : fs.length = 256 ∨ (fs.length < 256 ∧ badR r)) :
    Ans Try.prog fSp [byL (joinB fs ++ r)] (spR2 [] (if fs.length = 256 then 4 else 10)).1 (spR2 [] 0).2 := by
  obtain ⟨b, hbe⟩ : ∃ b, b = joinB fs ++ r := ⟨_, rfl⟩
  have hrl : 0 < r.length := List.length_pos_iff.2 hr
  have hlt : decide (((joinB fs).length : Int) < ((by1 b).length : Int)) = true := decide_eq_true (by rw [by1_length, hbe, List.length_append]; omega)
  by_cases h6 : fs.length = 256
  · rw [if_pos h6]
    have hne : fs ≠ [] := fun h => by rw [h] at h6; cases h6
    obtain ⟨ps, ys, y, e, hg⟩ := gs_any b ((joinB fs).length : Nat)
    have hlast := zsee_ok tab_ok mixed fun_ok cGs_ok (spM (by1 b) ps ys ((joinB fs).length : Nat) y e fs.length (celF fs)) (.cons hlt (.cons (gs_at b (by rw [hbe]; exact hL) _ _ hg) (.cons (by rw [h6]; rfl) .nil)))
    rw [← SHk_ne (by1 b) hne] at hlast
    have hi := sp_iter fs r hL hf hn (by rw [← hbe]; exact hlast) (by intro h; cases h)
    rw [← hbe] at hi ⊢
    have hr := sp_rng b true hi (R := spR 2 (some .ret)) rfl rfl rfl
    exact Ans.nil1 (zflat_ok tab_ok mixed fun_ok cGs_ok (splitE1 (by1 b) ys ((joinB fs).length : Nat) 4 y fs.length (celF fs)) (.cons hr .nil))
  · rw [if_neg h6]
    have hbad := (hb.resolve_left h6).2
    have hg := gs_bad (joinB fs) r hbad
    rw [← hbe] at hg
    cases fs with
    | nil =>
      have hlast := zsee_ok tab_ok mixed fun_ok cGs_ok (spE0 (by1 b) [] [] 0 0 10) (.cons hlt (.cons (gs_at b (by rw [hbe]; exact hL) 0 _ hg) (.cons rfl .nil)))
      have hi := sp_iter [] r hL hf hn (by rw [← hbe]; exact hlast) (by intro h; cases h)
      rw [← hbe] at hi ⊢
      have hr := sp_rng b true hi (R := spR 2 (some .ret)) rfl rfl rfl
      exact Ans.nil1 (zflat_ok tab_ok mixed fun_ok cGs_ok (splitE0 (by1 b) [] 0 10 0) (.cons hr .nil))
    | cons f fs =>
      have hlast := zsee_ok tab_ok mixed fun_ok cGs_ok (spE1 (by1 b) [] [] ((joinB (f :: fs)).length : Nat) 0 10 (fs.length + 1) (celF (f :: fs))) (.cons hlt (.cons (gs_at b (by rw [hbe]; exact hL) _ _ hg) (.cons (beq_false_of_ne (by simp at h6; omega)) (.cons rfl .nil))))
      have hi := sp_iter (f :: fs) r hL hf hn (by rw [← hbe]; exact hlast) (by intro h; cases h)
      rw [← hbe] at hi ⊢
      have hr := sp_rng b true hi (R := spR 2 (some .ret)) rfl rfl rfl
      exact Ans.nil1 (zflat_ok tab_ok mixed fun_ok cGs_ok (splitE1 (by1 b) [] ((joinB (f :: fs)).length : Nat) 10 0 (fs.length + 1) (celF (f :: fs))) (.cons hr .nil))
/-! ### The contract -/
def spFs (b : Bs) : List (List UInt8) := (split_exK 256 b.1).choose
/-- what Split answers -/
def spD (b : Bs) : DV := match decide (joinB (spFs b) = b.1) with
  | true => .tuple [fsD (spFs b), .int .i64 0]
  | false => .tuple [fsD [], .int .i64 (if (spFs b).length = 256 then 4 else 10)]
theorem spFs_spec (b : Bs) : ∃ r, b.1 = joinB (spFs b) ++ r ∧ (∀ f ∈ spFs b, f.length ≤ 65535) ∧ (spFs b).length ≤ 256 ∧ (r = [] ∨ (r ≠ [] ∧ ((spFs b).length = 256 ∨ ((spFs b).length < 256 ∧ badR r)))) := (split_exK 256 b.1).choose_spec
theorem sp_ans (b : Bs) : Ans Try.prog fSp [byL b.1] (spD b) ⟨0, [], []⟩ := by
  obtain ⟨r, e, hf, hn, hr⟩ := spFs_spec b
  have hL := b.2
  unfold spD
  generalize spFs b = fs at *
  obtain ⟨b, hb⟩ := b
  dsimp only at e hL ⊢
  subst e
  rcases hr with rfl | ⟨hr, hbad⟩
  · rw [decide_eq_true (show joinB fs = joinB fs ++ [] by rw [List.append_nil]), List.append_nil]
    rw [List.append_nil] at hL
    exact sp_all fs hL hf hn
  · rw [decide_eq_false (fun h => hr (by
      have := congrArg List.length h
      rw [List.length_append] at this
      exact List.length_eq_zero_iff.1 (by omega)))]
    exact sp_bad fs r hL hf hn hr hbad
def cSp : ConF := liftC (eqC fSp (fun b : Bs => [byL b.1]) fun b => (spD b, ⟨0, [], []⟩))
theorem cSp_ok : ConOk Try.prog cSp := liftC_ok (eqC_ok sp_ans fun _ => rfl)
theorem spD_flat (b : Bs) : flatD (spD b) = true := by
  unfold spD
  split <;> rfl
theorem cSp_at (hp : Hp) (b : Bs) : cSp fSp [byL b.1] hp = some (spD b, hp, none) :=
  lift_at (A := fun b : Bs => [byL b.1]) (D := spD) (fun x y hxy => by
    simp only [List.cons.injEq, and_true] at hxy
    rw [byL_inj hxy]) hp b rfl (spD_flat b)
/-- what was joined is split again -/
theorem spD_join (fs : List (List UInt8)) (hb : (joinB fs).length < 2 ^ 30) (hf : ∀ f ∈ fs, f.length ≤ 65535) (hn : fs.length ≤ 256) : spD ⟨joinB fs, hb⟩ = .tuple [fsD fs, .int .i64 0] := by
  obtain ⟨r, e, hf', hn', hr⟩ := spFs_spec ⟨joinB fs, hb⟩
  obtain ⟨e1, rfl⟩ := join_inj (r := r) e hf hf' (by
    rcases hr with h | ⟨_, h | ⟨_, h⟩⟩
    · exact .inl h
    · exact .inr (.inr (by omega))
    · exact .inr (.inl h))
  unfold spD
  rw [← e1, decide_eq_true rfl]
/-- what is split is joined again -/
theorem spD_ok {b : Bs} (h : joinB (spFs b) = b.1) : spD b = .tuple [fsD (spFs b), .int .i64 0] ∧ (∀ f ∈ spFs b, f.length ≤ 65535) ∧ (spFs b).length ≤ 256 := by
  obtain ⟨r, e, hf, hn, hr⟩ := spFs_spec b
  unfold spD
  rw [decide_eq_true h]
  exact ⟨rfl, hf, hn⟩
theorem spD_no {b : Bs} (h : ¬ joinB (spFs b) = b.1) : ∃ e : Int, (e == 0) = false ∧ spD b = .tuple [fsD [], .int .i64 e] := by
  unfold spD
  rw [decide_eq_false h]
  by_cases h6 : (spFs b).length = 256
  · rw [if_pos h6]; exact ⟨4, rfl, rfl⟩
  · rw [if_neg h6]; exact ⟨10, rfl, rfl⟩
end
end Go.Proofs.Ytioglkmdapghhaa
