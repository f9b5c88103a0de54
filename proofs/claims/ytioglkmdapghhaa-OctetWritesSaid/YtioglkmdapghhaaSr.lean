/- Split's contract, from its paths. -/
import Derived.Test.YtioglkmdapghhaaSq
namespace Go.Proofs.Ytioglkmdapghhaa
open Go.RowKit

noncomputable section
def celF (fs : List (List UInt8)) : List DV := fs.map byL
theorem celF_snoc (fs : List (List UInt8)) (f : List UInt8) : celF (fs ++ [f]) = celF fs ++ [.list 1 (by1 f)] := by simp [celF, byL]
theorem celF_length (fs : List (List UInt8)) : (celF fs).length = fs.length := by simp [celF]
theorem celF_flat (fs : List (List UInt8)) : ∀ d ∈ celF fs, flat0 d = true := by
  intro d hd
  obtain ⟨f, _, rfl⟩ := List.mem_map.1 hd
  rfl
/-- the heap when these fields are read -/
def SHk (xs : List (List DV)) : List (List UInt8) → Hp
  | [] => SH0 xs 0
  | f :: fs => SH1 xs ((joinB (f :: fs)).length : Nat) (fs.length + 1) (celF (f :: fs))
theorem SHk_ne (xs : List (List DV)) {fs : List (List UInt8)} (h : fs ≠ []) : SHk xs fs = SH1 xs ((joinB fs).length : Nat) fs.length (celF fs) := by
  cases fs with
  | nil => exact absurd rfl h
  | cons f fs => rfl
theorem joinB_nil : joinB [] = [] := rfl
theorem SHk_snoc (xs : List (List DV)) (fs : List (List UInt8)) (f : List UInt8) : SHk xs (fs ++ [f]) = SH1 xs (((joinB fs).length + (f.length + 2) : Nat) : Int) (fs.length + 1) (celF fs ++ [.list 1 (by1 f)]) := by
  rw [SHk_ne xs (by simp), celF_snoc, joinB_append, List.length_append, List.length_append]
  have e : (joinB [f]).length = f.length + 2 := by simp [joinB, jf]
  rw [e]
  rfl
theorem gs_at (b : List UInt8) (hb : b.length < 2 ^ 30) (x : Nat) (hp : Hp) {d : DV} (h : gsD b x = d) : aGs (by1 b) x hp d := by
  subst h
  exact cGs_at hp (⟨b, hb⟩, (x : Int))
/-- one field more -/
theorem sp_step (fs : List (List UInt8)) (f r : List UInt8) (hL : (joinB fs ++ (jf f ++ r)).length < 2 ^ 30) (hf : f.length ≤ 65535) (hn : fs.length < 256) : Goes Try.prog tab kIt itL itS (SHk (by1 (joinB fs ++ (jf f ++ r))) fs) .normal itS (SHk (by1 (joinB fs ++ (jf f ++ r))) (fs ++ [f])) := by
  rw [SHk_snoc]
  obtain ⟨b, hb⟩ : ∃ b, b = joinB fs ++ (jf f ++ r) := ⟨_, rfl⟩
  have hg := gs_ok (joinB fs) f r hf
  rw [← hb] at hg hL ⊢
  have hlt : decide (((joinB fs).length : Int) < ((by1 b).length : Int)) = true := decide_eq_true (by
    rw [by1_length, hb]
    simp [jf]
    omega)
  cases fs with
  | nil =>
    exact zgm_ok tab_ok mixed fun_ok cGs_ok (sp0 (by1 b) (by1 f) 0 (((joinB []).length + (f.length + 2) : Nat) : Int)) (.cons (fun id o h _ => (by cases h)) (.cons hlt (.cons (gs_at b hL 0 _ hg) (.cons (app_f0 _ _ _ _) .nil))))
  | cons g fs =>
    have z := zgm_ok tab_ok mixed fun_ok cGs_ok (sp1 (by1 b) (by1 f) ((joinB (g :: fs)).length : Nat) (((joinB (g :: fs)).length + (f.length + 2) : Nat) : Int) (celF (g :: fs)).length (celF (g :: fs))) (.cons (flat_12 _ _ _ _ _ (celF_flat _)) (.cons hlt (.cons (gs_at b hL _ _ hg) (.cons ?_ (.cons (app_f1 _ _ _ _ _ (by rw [celF_length]; omega)) .nil)))))
    · rw [celF_length] at z
      exact z
    · rw [celF_length]
      exact beq_false_of_ne (by omega)
theorem sp_iter (fs : List (List UInt8)) (r : List UInt8) (hL : (joinB fs ++ r).length < 2 ^ 30) (hf : ∀ f ∈ fs, f.length ≤ 65535) (hn : fs.length ≤ 256) {e : Ex} {s1 : Slots} {h1 : Hp} (hl : Goes Try.prog tab kIt itL itS (SHk (by1 (joinB fs ++ r)) fs) e s1 h1) (hne : e ≠ .normal) : Goes Try.prog tab kIt (.loop itL) itS (SH0 (by1 (joinB fs ++ r)) 0) e s1 h1 := by
  refine Goes.loop (P := Try.prog) (T := tab) (ks := kIt) (x := itL) fs.length (fun _ => itS) (fun k => SHk (by1 (joinB fs ++ r)) (fs.take k)) (e := e) (s1 := s1) (h1 := h1) (fun k hk => ?_) ?_ hne
  · obtain ⟨f, hfk⟩ : ∃ f, fs[k]? = some f := ⟨_, List.getElem?_eq_getElem hk⟩
    have e1 : joinB fs ++ r = joinB (fs.take k) ++ (jf f ++ (joinB (fs.drop (k + 1)) ++ r)) := by
      have : fs = fs.take k ++ (f :: fs.drop (k + 1)) := by
        obtain ⟨h1, h2⟩ := List.getElem?_eq_some_iff.1 hfk
        rw [← h2, ← List.drop_eq_getElem_cons h1, List.take_append_drop]
      rw [show joinB fs = joinB (fs.take k ++ (f :: fs.drop (k + 1))) from congrArg joinB this, joinB_append, joinB_cons]
      simp [List.append_assoc]
    show Goes _ _ _ _ _ (SHk _ (fs.take k)) _ _ (SHk _ (fs.take (k + 1)))
    rw [e1] at hL
    rw [take_snoc hfk, e1]
    exact sp_step _ _ _ hL (hf f (List.mem_of_getElem? hfk)) (by rw [List.length_take]; omega)
  · show Goes _ _ _ _ _ (SHk _ (fs.take fs.length)) _ _ _
    rw [List.take_length]
    exact hl
end
end Go.Proofs.Ytioglkmdapghhaa
