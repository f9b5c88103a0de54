/- Receivers: contract. -/
import Derived.Test.YtgjgihlfkpbdgaaVm
namespace Go.Proofs.Ytgjgihlfkpbdgaa
open Go.RowKit

noncomputable section
/-! ### The rows that stand as objects become lists -/
theorem reF_look {t : Nat} {d : DV} (h : look reF t = some d) : d = .ptr 0 0 ∨ d = .ptr 1 0 ∨ d = .ptr 2 0 ∨ d = .ptr 3 0 ∨ d = .ptr 5 0 ∨ d = .fn fPr [] [.ptr 6 0, .ptr 7 0] := by
  have := look_mkT h
  simp only [List.mem_cons, List.not_mem_nil, or_false, Prod.mk.injEq] at this
  rcases this with ⟨_, rfl⟩ | ⟨_, rfl⟩ | ⟨_, rfl⟩ | ⟨_, rfl⟩ | ⟨_, rfl⟩ | ⟨_, rfl⟩
  · exact .inl rfl
  · exact .inr (.inl rfl)
  · exact .inr (.inr (.inl rfl))
  · exact .inr (.inr (.inr (.inl rfl)))
  · exact .inr (.inr (.inr (.inr (.inl rfl))))
  · exact .inr (.inr (.inr (.inr (.inr rfl))))
theorem one_flat {d : DV} (h : flat0 d = true) : ∀ x ∈ [d], flat0 x = true := fun x hx => by
  obtain rfl := List.mem_singleton.1 hx
  exact h
theorem re_melt {w : Wd} {l : List Sn} {xs : List (List DV)} {X X' : List DV} {hp hp' : Hp} {L : List Nat} (tail : List Nat) (eL : L = [0, 1, 2, 3, 4, 5, 6, 7, 8] ++ tail) (hls : hp.ls = [reR 0 none]) (hls' : hp'.ls = [reR 0 none]) (hn9 : 8 < hp'.n) (hg : ∀ i, i < 9 → hp.get i = (reB w l xs 0 X)[8 - i]?)
    (hg' : ∀ i, i < 9 → hp'.get i = (reB w l xs 0 X')[8 - i]?) (hn : nodupN L = true) (hX : MltL L hp X X') (ht : ∀ i id, tail[i]? = some id → ∃ o o', hp.get id = some o ∧ o.k ≠ 2 ∧ hp'.get (9 + i) = some o' ∧ o'.k = (oldOb o).k ∧ o'.t = o.t ∧ MltL L hp o.cs o'.cs) : MeltH L hp hp' := by
  have hpos : ∀ i, i < 9 → posN i L = some i := fun i hi => by
    rw [eL]
    match i, hi with
    | 0, _ => rfl
    | 1, _ => rfl
    | 2, _ => rfl
    | 3, _ => rfl
    | 4, _ => rfl
    | 5, _ => rfl
    | 6, _ => rfl
    | 7, _ => rfl
    | 8, _ => rfl
    | n + 9, h => omega
  refine ⟨fun id R hR => ?_, fun i => (by rw [hls, hls']), fun i hi => ?_, nodupN_ok hn, fun i id hi => ?_⟩
  · rw [hls'] at hR
    refine ⟨R, by rw [hls]; exact hR, rfl, fun t d hd => ⟨d, hd, ?_⟩⟩
    have e : R = reR 0 none := by
      unfold lfind at hR
      split at hR
      · cases hR; rfl
      · cases hR
    rw [e] at hd
    rcases reF_look hd with rfl | rfl | rfl | rfl | rfl | rfl
    · exact .ptr _ _ _ (hpos 0 (by omega))
    · exact .ptr _ _ _ (hpos 1 (by omega))
    · exact .ptr _ _ _ (hpos 2 (by omega))
    · exact .ptr _ _ _ (hpos 3 (by omega))
    · exact .ptr _ _ _ (hpos 5 (by omega))
    · refine .fn _ _ _ _ _ rfl rfl (fun j d e h => by simp at h) (fun j d e h1 h2 => ?_)
      match j with
      | 0 => cases h1; cases h2; exact .ptr _ _ _ (hpos 6 (by omega))
      | 1 => cases h1; cases h2; exact .ptr _ _ _ (hpos 7 (by omega))
      | j + 2 => simp at h1
  · rw [hls] at hi
    unfold lfind at hi
    split at hi
    · rename_i h
      have h : Nat.beq 8 i = true := h
      have := Nat.eq_of_beq_eq_true h
      omega
    · cases hi
  · have fin : ∀ {o o' : Ob}, hp.get id = some o → o.k ≠ 2 → hp'.get i = some o' → o'.k = (oldOb o).k → o'.t = o.t → MltL L hp o.cs o'.cs → ∃ o o', hp.get id = some o ∧ o.k ≠ 2 ∧ hp'.get i = some o' ∧ o'.k = (oldOb o).k ∧ o'.t = o.t ∧ o'.cs.length = o.cs.length ∧ scals o'.cs = true ∧ ∀ (j : Nat) (d e : DV), o.cs[j]? = some d → o'.cs[j]? = some e → Mlt L hp d e :=
      fun a1 a2 a3 a4 a5 a6 => ⟨_, _, a1, a2, a3, a4, a5, a6.len, a6.sc, a6.at⟩
    rw [eL] at hi
    by_cases h9 : i < 9
    · rw [List.getElem?_append_left (by simpa using h9)] at hi
      have k0 := hg i h9
      have k1 := hg' i h9
      match i, h9 with
      | 0, _ => cases hi; exact fin k0 (by show (0 : Nat) ≠ 2; decide) k1 rfl rfl (MltL.flat (wdC_flat w))
      | 1, _ => cases hi; exact fin k0 (by show (0 : Nat) ≠ 2; decide) k1 rfl rfl (MltL.flat (one_flat rfl))
      | 2, _ => cases hi; exact fin k0 (by show (0 : Nat) ≠ 2; decide) k1 rfl rfl (MltL.flat (one_flat rfl))
      | 3, _ => cases hi; exact fin k0 (by show (0 : Nat) ≠ 2; decide) k1 rfl rfl (MltL.flat (one_flat rfl))
      | 4, _ => cases hi; exact fin k0 (by show (0 : Nat) ≠ 2; decide) k1 rfl rfl hX
      | 5, _ => cases hi; exact fin k0 (by show (0 : Nat) ≠ 2; decide) k1 rfl rfl ⟨⟨.sl _ _ _ _ _ _ (hpos 4 (by omega)), rfl⟩, trivial⟩
      | 6, _ => cases hi; exact fin k0 (by show (0 : Nat) ≠ 2; decide) k1 rfl rfl (MltL.flat (one_flat rfl))
      | 7, _ => cases hi; exact fin k0 (by show (0 : Nat) ≠ 2; decide) k1 rfl rfl (MltL.flat (one_flat rfl))
      | 8, _ => cases hi; exact fin k0 (by show (0 : Nat) ≠ 2; decide) k1 rfl rfl trivial
      | n + 9, h => omega
    · rw [List.getElem?_append_right (by simp; omega)] at hi
      obtain ⟨o, o', a1, a2, a3, a4, a5, a6⟩ := ht (i - 9) id (by simpa using hi)
      rw [show 9 + (i - 9) = i by omega] at a3
      exact fin a1 a2 a3 a4 a5 a6
theorem q_slots {n m i j : Nat} {L : List Nat} {hp : Hp} (hpos6 : posN 6 L = some 6) (hpos7 : posN 7 L = some 7) : ∀ t d, (t, d) ∈ [(0, .yld 8), (1, .ptr 6 0), (2, .ptr 7 0), (4, iN i), (6, iN n), (7, iN i), (10, iN m), (11, iN j)] → ∃ d0, look (qiS n m i j) t = some d0 ∧ Mlt L hp d0 d := fun t d h => by
  simp only [List.mem_cons, List.not_mem_nil, or_false, Prod.mk.injEq] at h
  rcases h with ⟨rfl, rfl⟩ | ⟨rfl, rfl⟩ | ⟨rfl, rfl⟩ | ⟨rfl, rfl⟩ | ⟨rfl, rfl⟩ | ⟨rfl, rfl⟩ | ⟨rfl, rfl⟩ | ⟨rfl, rfl⟩
  · exact ⟨.yld 8, by kernel_rfl, .yld _⟩
  · exact ⟨.ptr 6 0, by kernel_rfl, .ptr _ _ _ hpos6⟩
  · exact ⟨.ptr 7 0, by kernel_rfl, .ptr _ _ _ hpos7⟩
  · exact ⟨iN i, by kernel_rfl, .frz _ _ (.flat _ rfl)⟩
  · exact ⟨iN n, by kernel_rfl, .frz _ _ (.flat _ rfl)⟩
  · exact ⟨iN i, by kernel_rfl, .frz _ _ (.flat _ rfl)⟩
  · exact ⟨iN m, by kernel_rfl, .frz _ _ (.flat _ rfl)⟩
  · exact ⟨iN j, by kernel_rfl, .frz _ _ (.flat _ rfl)⟩
theorem qo_slots {n i : Nat} {L : List Nat} {hp : Hp} (hpos6 : posN 6 L = some 6) (hpos7 : posN 7 L = some 7) : ∀ t d, (t, d) ∈ [(0, .yld 8), (1, .ptr 6 0), (2, .ptr 7 0), (6, iN n), (7, iN i)] → ∃ d0, look (qoS n i) t = some d0 ∧ Mlt L hp d0 d := fun t d h => by
  simp only [List.mem_cons, List.not_mem_nil, or_false, Prod.mk.injEq] at h
  rcases h with ⟨rfl, rfl⟩ | ⟨rfl, rfl⟩ | ⟨rfl, rfl⟩ | ⟨rfl, rfl⟩ | ⟨rfl, rfl⟩
  · exact ⟨.yld 8, by kernel_rfl, .yld _⟩
  · exact ⟨.ptr 6 0, by kernel_rfl, .ptr _ _ _ hpos6⟩
  · exact ⟨.ptr 7 0, by kernel_rfl, .ptr _ _ _ hpos7⟩
  · exact ⟨iN n, by kernel_rfl, .frz _ _ (.flat _ rfl)⟩
  · exact ⟨iN i, by kernel_rfl, .frz _ _ (.flat _ rfl)⟩
/-- the rows before, the row under way, those that are to come -/
def rX (rs : List (List Int)) (c : DV) (m : Nat) : List DV := celS rs ++ c :: List.replicate m .nil
theorem nils_flat (m : Nat) : ∀ d ∈ List.replicate m DV.nil, flat0 d = true := fun d h => by
  rw [(List.mem_replicate.1 h).2]
  rfl
theorem celS_flat (rs : List (List Int)) : ∀ d ∈ celS rs, flat0 d = true := flatten_flat (ssR_flat rs)
theorem rX_mlt {L : List Nat} {hp : Hp} {rs : List (List Int)} {c c' : DV} {m : Nat} (h : Mlt L hp c c') (hs : scal c' = true) : MltL L hp (rX rs c m) (rX rs c' m) := MltL.app (MltL.flat (celS_flat rs)) ⟨⟨h, hs⟩, MltL.flat (nils_flat m)⟩
theorem rX_at (rs : List (List Int)) (c : DV) (m : Nat) : nth (rX rs c m) rs.length = some c := by
  rw [nth_eq]
  unfold rX
  rw [List.getElem?_append_right (by rw [celS_length]; omega), celS_length, Nat.sub_self]
  rfl
theorem rX_set (rs : List (List Int)) (c d : DV) (m : Nat) : (rX rs c m).set rs.length d = rX rs d m := by
  unfold rX
  rw [List.set_append_right _ _ (by rw [celS_length]; omega), celS_length, Nat.sub_self]
  rfl
theorem rX_len (rs : List (List Int)) (c : DV) (m : Nat) : (rX rs c m).length = rs.length + (m + 1) := by
  unfold rX
  rw [List.length_append, celS_length, List.length_cons, List.length_replicate]
theorem grow0 {w : Wd} {l : List Sn} {xs : List (List DV)} {n m i j q : Nat} {rs : List (List Int)} {mm : Nat} : Seen (qiS n m i j) ⟨11, oJ 1 [iN q] :: oJ 0 [iN q] :: reB w l xs 0 (rX rs (.sl 10 0 1 1 1) mm), [reR 0 none]⟩ (qiS n m i j) (reH1 w l xs (rX rs (.sl 9 0 1 1 1) mm) [iN q]) :=
  seen_melt (L := [0, 1, 2, 3, 4, 5, 6, 7, 8, 10]) (re_melt (w := w) (l := l) (xs := xs) [10] rfl rfl rfl (by show 8 < 10; omega) (fun i hi => by
    match i, hi with
    | 0, _ | 1, _ | 2, _ | 3, _ | 4, _ | 5, _ | 6, _ | 7, _ | 8, _ => rfl
    | n + 9, h => omega) (fun i hi => by
    match i, hi with
    | 0, _ | 1, _ | 2, _ | 3, _ | 4, _ | 5, _ | 6, _ | 7, _ | 8, _ => rfl
    | n + 9, h => omega) rfl (rX_mlt (.sl _ _ _ _ _ _ rfl) rfl) fun i id h => by
    match i with
    | 0 => cases h; exact ⟨oJ 1 [iN q], oJ 1 [iN q], rfl, by show (1 : Nat) ≠ 2; decide, rfl, rfl, rfl, MltL.flat (one_flat rfl)⟩
    | i + 1 => simp at h) (q_slots rfl rfl)
theorem grow1 {w : Wd} {l : List Sn} {xs : List (List DV)} {n m i j q k : Nat} {cl : List DV} (hc : ∀ d ∈ cl, flat0 d = true) {rs : List (List Int)} {mm : Nat} : Seen (qiS n m i j) ⟨12, ⟨3, 9, 3, cl ++ [iN q]⟩ :: oJ 0 [iN q] :: ⟨2, 0, 3, cl⟩ :: reB w l xs 0 (rX rs (.sl 11 0 1 k k) mm), [reR 0 none]⟩ (qiS n m i j) (reH1 w l xs (rX rs (.sl 9 0 1 k k) mm) (cl ++ [iN q])) :=
  seen_melt (L := [0, 1, 2, 3, 4, 5, 6, 7, 8, 11]) (re_melt (w := w) (l := l) (xs := xs) [11] rfl rfl rfl (by show 8 < 10; omega) (fun i hi => by
    match i, hi with
    | 0, _ | 1, _ | 2, _ | 3, _ | 4, _ | 5, _ | 6, _ | 7, _ | 8, _ => rfl
    | n + 9, h => omega) (fun i hi => by
    match i, hi with
    | 0, _ | 1, _ | 2, _ | 3, _ | 4, _ | 5, _ | 6, _ | 7, _ | 8, _ => rfl
    | n + 9, h => omega) rfl (rX_mlt (.sl _ _ _ _ _ _ rfl) rfl) fun i id h => by
    match i with
    | 0 => cases h; exact ⟨_, oJ 1 (cl ++ [iN q]), rfl, by show (3 : Nat) ≠ 2; decide, rfl, rfl, rfl, MltL.flat (app_flat hc (one_flat rfl))⟩
    | i + 1 => simp at h) (q_slots rfl rfl)
theorem endr0 {w : Wd} {l : List Sn} {xs : List (List DV)} {n i : Nat} {rs : List (List Int)} {mm : Nat} : Seen (qoS n i) (reH w l xs 0 (rX rs .nil mm)) (qoS n i) (reH w l xs 0 (rX rs (.list 1 (i1 [])) mm)) :=
  seen_melt (L := [0, 1, 2, 3, 4, 5, 6, 7, 8]) (re_melt (w := w) (l := l) (xs := xs) [] rfl rfl rfl (by show 8 < 9; omega) (fun i hi => by
    match i, hi with
    | 0, _ | 1, _ | 2, _ | 3, _ | 4, _ | 5, _ | 6, _ | 7, _ | 8, _ => rfl
    | n + 9, h => omega) (fun i hi => by
    match i, hi with
    | 0, _ | 1, _ | 2, _ | 3, _ | 4, _ | 5, _ | 6, _ | 7, _ | 8, _ => rfl
    | n + 9, h => omega) rfl (rX_mlt (.frz _ _ (.nl _)) rfl) fun i id h => by simp at h) (qo_slots rfl rfl)
theorem endr1 {w : Wd} {l : List Sn} {xs : List (List DV)} {n i : Nat} {rs : List (List Int)} {mm : Nat} (x : Int) (r : List Int) : Seen (qoS n i) (reH1 w l xs (rX rs (.sl 9 0 1 (x :: r).length (x :: r).length) mm) (celI (x :: r))) (qoS n i) (reH w l xs 0 (rX rs (.list 1 (i1 (x :: r))) mm)) :=
  seen_melt (L := [0, 1, 2, 3, 4, 5, 6, 7, 8]) (re_melt (w := w) (l := l) (xs := xs) [] rfl rfl rfl (by show 8 < 9; omega) (fun i hi => by
    match i, hi with
    | 0, _ | 1, _ | 2, _ | 3, _ | 4, _ | 5, _ | 6, _ | 7, _ | 8, _ => rfl
    | n + 9, h => omega) (fun i hi => by
    match i, hi with
    | 0, _ | 1, _ | 2, _ | 3, _ | 4, _ | 5, _ | 6, _ | 7, _ | 8, _ => rfl
    | n + 9, h => omega) rfl (rX_mlt (.frz _ _ (frz_rows rfl rfl (by show (1 : Nat) ≠ 2; decide) rfl (i1_length _) (i1_len1 _) (i1_flat _))) rfl) fun i id h => by simp at h) (qo_slots rfl rfl)
end
end Go.Proofs.Ytgjgihlfkpbdgaa
