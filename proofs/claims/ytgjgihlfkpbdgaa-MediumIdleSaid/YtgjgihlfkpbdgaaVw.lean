/- Arguments as data; the examples; the laws MediumTells and MediumSenses over data. -/
import Derived.Test.YtgjgihlfkpbdgaaVu
import Derived.Test.YtgjgihlfkpbdgaaUz
namespace Go.Proofs.Ytgjgihlfkpbdgaa
open Go.RowKit

noncomputable section
/-! ### Arguments -/
abbrev shS : Sp := .agg (.cons (.int .i64) (.cons (.int .i64) (.cons (.int .i64) (.cons (.int .i64) .nil))))
theorem shL_ok : spOk Try.prog (.sl shS) 27 = true := by kernel_rfl
theorem shB_ok : spOk Try.prog (.sl .bool) 42 = true := by kernel_rfl
def okN (l : List Sn) : Prop := l.length < 2 ^ 63
def okB (l : List Bool) : Prop := l.length < 2 ^ 63
abbrev bsL (l : List Bool) : DV := .list 1 (b1 l)
section
variable {H : Type} {enc : TypeId × Value → H} {w : World} {base : Nat} {spare : Nat → Bool} {held : Bool}
theorem vr_snl {n : Nat} {cs : List Value} {x : DataW H × List MemPlace} (h : DataW.trod enc Try.prog w base spare held n 27 cs = some x) : ∃ (l : List Sn) (v : Value), cs = [v] ∧ okN l ∧ VR w (ro (· < w.heap.size)) (snL l) v := by
  obtain ⟨ds, g, v, _, _⟩ := rd_ok (Gl := fun _ _ => False) (.sl shS) shL_ok (fun u hu => by
    simp only [isLf, isLfs, or_false] at hu) _ _ _ h
  obtain ⟨rows, rfl, hl, hr⟩ := g
  have hm := maxLen_lt
  obtain ⟨l, rfl, _⟩ := rows_of (f := snC) (Q := fun _ => True) fun r hq => by
    obtain ⟨_, _, rfl, ⟨x, rfl, _⟩, _, _, rfl, ⟨y, rfl, _⟩, _, _, rfl, ⟨p, rfl, _⟩, _, _, rfl, ⟨c, rfl, _⟩, rfl⟩ := hr r hq
    exact ⟨⟨x, y, p, c⟩, rfl, trivial⟩
  obtain ⟨u, s, rfl, p, q⟩ := v.uncons
  cases q.unnil
  exact ⟨l, u, rfl, by simp at hl; show l.length < _; omega, p⟩
theorem vr_bsl {n : Nat} {cs : List Value} {x : DataW H × List MemPlace} (h : DataW.trod enc Try.prog w base spare held n 42 cs = some x) : ∃ (l : List Bool) (v : Value), cs = [v] ∧ okB l ∧ VR w (ro (· < w.heap.size)) (bsL l) v := by
  obtain ⟨ds, g, v, _, _⟩ := rd_ok (Gl := fun _ _ => False) (.sl .bool) shB_ok (fun u hu => by
    simp only [isLf] at hu) _ _ _ h
  obtain ⟨rows, rfl, hl, hr⟩ := g
  have hm := maxLen_lt
  obtain ⟨l, rfl, _⟩ := rows_of (f := fun b : Bool => [DV.bool b]) (Q := fun _ => True) fun r hq => by
    obtain ⟨b, rfl⟩ := hr r hq
    exact ⟨b, rfl, trivial⟩
  obtain ⟨u, s, rfl, p, q⟩ := v.uncons
  cases q.unnil
  exact ⟨l, u, rfl, by simp at hl; show l.length < _; omega, p⟩
end
/-! ### MediumTells -/
abbrev fT : FuncId := 4
set_option maxRecDepth 1000000 in
theorem lt0 (C : ConF) (w : Wd) (l : List Sn) (ds : List Bool) : zflat (zans Try.prog tab ftab C fT [wdD w, snL l, .list 1 (b1 ds)] [(14, .q (.bool true))]) = some ((DV.bool true), ((C 20 [(DV.agg (List.take 2 (List.drop 0 (wdC w)))), (snL l)] (Hp.mk 1 [(Ob.mk 0 0 25 (wdC w))] [])) = (Option.some ((DV.bool true), (Hp.mk 1 [(Ob.mk 0 0 25 (wdC w))] []), Option.none))) :: []) := by kernel_rfl
set_option maxRecDepth 1000000 in
theorem lt1 (C : ConF) (w : Wd) (l : List Sn) (ds : List Bool) : zflat (zans Try.prog tab ftab C fT [wdD w, snL l, .list 1 (b1 ds)] [(14, .q (.bool false)), (18, .b true)]) = some ((DV.bool true), ((C 20 [(DV.agg (List.take 2 (List.drop 0 (wdC w)))), (snL l)] (Hp.mk 1 [(Ob.mk 0 0 25 (wdC w))] [])) = (Option.some ((DV.bool false), (Hp.mk 1 [(Ob.mk 0 0 25 (wdC w))] []), Option.none))) :: ((decide ((↑(List.length (b1 ds)) : Int) > 1000)) = true) :: []) := by kernel_rfl
set_option maxRecDepth 1000000 in
theorem lt2 (C : ConF) (w : Wd) (l : List Sn) (ds : List Bool) (n : Nat) (e : Int) (r : List (List Int)) : zflat (zans Try.prog tab ftab C fT [wdD w, snL l, .list 1 (b1 ds)] [(14, .q (.bool false)), (18, .b false), (22, .h (.sl 2 0 4 n n) ⟨3, [⟨1, 0, tSn, celN l⟩, ⟨0, 0, tSn, []⟩, oW w], []⟩ none), (4, .s [1, 2, 3, 7] (mkT 59 [(1, snL l), (2, .list 1 (b1 ds)), (3, .ptr 0 0), (7, snL l)]) (hW w)), (27, .q (.tuple [.list 1 (ssR r), iI e])), (34, .q (.tuple [.list 1 (ssR r), iI e])), (39, .q (iI e)), (42, .q (iI e)), (43, .b true), (47, .q (.bool true)), (52, .b true), (57, .q (.bool true))]) = some ((DV.bool true), ((C 20 [(DV.agg (List.take 2 (List.drop 0 (wdC w)))), (snL l)] (hW w)) = (Option.some ((DV.bool false), (hW w), Option.none))) :: ((decide ((↑(List.length (b1 ds)) : Int) > 1000)) = false) :: ((builtinD tab (Hp.mk 2 [(Ob.mk 0 0 32 []), (Ob.mk 0 0 25 (wdC w))] []) (Builtin.append) [(DV.sl (0 + 1) 0 4 0 0), (snL l)] [27, 27]) = (Option.some ((DV.sl 2 0 4 n n), (Hp.mk 3 [(Ob.mk 1 0 32 (celN l)), (Ob.mk 0 0 32 []), (oW w)] []), Option.none))) :: (Seen (mkT 59 [(1, (snL l)), (2, (DV.list 1 (b1 ds))), (3, (DV.ptr 0 0)), (7, (DV.sl 2 0 4 n n))]) (Hp.mk 3 [(Ob.mk 1 0 32 (celN l)), (Ob.mk 0 0 32 []), (oW w)] []) (mkT 59 [(1, (DV.list 4 (snR l))), (2, (DV.list 1 (b1 ds))), (3, (DV.ptr 0 0)), (7, (DV.list 4 (snR l)))]) (hW w)) :: ((C 16 [(DV.agg (List.take 2 (List.drop 0 (wdC w)))), (snL l), (DV.list 1 (b1 ds))] (hW w)) = (Option.some ((DV.tuple [DV.list 1 (ssR r), iI e]), (hW w), Option.none))) :: ((C 21 [(DV.agg (List.take 2 (List.drop 0 (wdC w)))), (snL l), (DV.list 1 (b1 ds))] (hW w)) = (Option.some ((DV.tuple [DV.list 1 (ssR r), iI e]), (hW w), Option.none))) :: ((C 12 [(DV.agg (List.take 2 (List.drop 0 (wdC w)))), (snL l)] (hW w)) = (Option.some ((iI e), (hW w), Option.none))) :: ((C 22 [(DV.agg (List.take 2 (List.drop 0 (wdC w)))), (snL l)] (hW w)) = (Option.some ((iI e), (hW w), Option.none))) :: ((e == e) = true) :: ((C 23 [(DV.list 1 (ssR r)), (DV.list 1 (ssR r))] (hW w)) = (Option.some ((DV.bool true), (hW w), Option.none))) :: ((e == e) = true) :: ((C 18 [(snL l), (snL l)] (hW w)) = (Option.some ((DV.bool true), (hW w), Option.none))) :: []) := by kernel_rfl
set_option maxRecDepth 1000000 in
theorem lt3 (C : ConF) (w : Wd) (ds : List Bool) (e : Int) (r : List (List Int)) : zflat (zans Try.prog tab ftab C fT [wdD w, snL [], .list 1 (b1 ds)] [(14, .q (.bool false)), (18, .b false), (4, .s [1, 2, 3, 7] (mkT 59 [(1, snL []), (2, .list 1 (b1 ds)), (3, .ptr 0 0), (7, snL [])]) (hW w)), (27, .q (.tuple [.list 1 (ssR r), iI e])), (34, .q (.tuple [.list 1 (ssR r), iI e])), (39, .q (iI e)), (42, .q (iI e)), (43, .b true), (47, .q (.bool true)), (52, .b true), (57, .q (.bool true))]) = some ((DV.bool true), ((C 20 [(DV.agg (List.take 2 (List.drop 0 (wdC w)))), (snL [])] (hW w)) = (Option.some ((DV.bool false), (hW w), Option.none))) :: ((decide ((↑(List.length (b1 ds)) : Int) > 1000)) = false) :: (Seen (mkT 59 [(1, (snL [])), (2, (DV.list 1 (b1 ds))), (3, (DV.ptr 0 0)), (7, (DV.sl 1 0 4 0 0))]) (Hp.mk 2 [(Ob.mk 0 0 32 []), (Ob.mk 0 0 25 (wdC w))] []) (mkT 59 [(1, (DV.list 4 (snR []))), (2, (DV.list 1 (b1 ds))), (3, (DV.ptr 0 0)), (7, (DV.list 4 (snR [])))]) (hW w)) :: ((C 16 [(DV.agg (List.take 2 (List.drop 0 (wdC w)))), (snL []), (DV.list 1 (b1 ds))] (hW w)) = (Option.some ((DV.tuple [DV.list 1 (ssR r), iI e]), (hW w), Option.none))) :: ((C 21 [(DV.agg (List.take 2 (List.drop 0 (wdC w)))), (snL []), (DV.list 1 (b1 ds))] (hW w)) = (Option.some ((DV.tuple [DV.list 1 (ssR r), iI e]), (hW w), Option.none))) :: ((C 12 [(DV.agg (List.take 2 (List.drop 0 (wdC w)))), (snL [])] (hW w)) = (Option.some ((iI e), (hW w), Option.none))) :: ((C 22 [(DV.agg (List.take 2 (List.drop 0 (wdC w)))), (snL [])] (hW w)) = (Option.some ((iI e), (hW w), Option.none))) :: ((e == e) = true) :: ((C 23 [(DV.list 1 (ssR r)), (DV.list 1 (ssR r))] (hW w)) = (Option.some ((DV.bool true), (hW w), Option.none))) :: ((e == e) = true) :: ((C 18 [(snL []), (snL [])] (hW w)) = (Option.some ((DV.bool true), (hW w), Option.none))) :: []) := by kernel_rfl
theorem se_own (w : Wd) (ds : List Bool) (l : List Sn) {d : DV} {hp : Hp} (hls : hp.ls = []) (g0 : hp.get 0 = some (oW w)) (hf : FrzD [0] hp d (snL l)) : Seen (mkT 59 [(1, snL l), (2, .list 1 (b1 ds)), (3, .ptr 0 0), (7, d)]) hp (mkT 59 [(1, snL l), (2, .list 1 (b1 ds)), (3, .ptr 0 0), (7, snL l)]) (hW w) :=
  seen_melt (L := [0]) (melt_objs hls rfl rfl fun a id h => by
    match a with
    | 0 => cases h; exact ⟨oW w, oW w, g0, by show (0 : Nat) ≠ 2; decide, rfl, rfl, rfl, MltL.flat (wdC_flat w)⟩
    | a + 1 => simp at h) fun t d0 h => by
    simp only [List.mem_cons, List.not_mem_nil, or_false, Prod.mk.injEq] at h
    rcases h with ⟨rfl, rfl⟩ | ⟨rfl, rfl⟩ | ⟨rfl, rfl⟩ | ⟨rfl, rfl⟩
    · exact ⟨snL l, by kernel_rfl, .frz _ _ (.flat _ rfl)⟩
    · exact ⟨.list 1 (b1 ds), by kernel_rfl, .frz _ _ (.flat _ rfl)⟩
    · exact ⟨.ptr 0 0, by kernel_rfl, .ptr _ _ _ rfl⟩
    · exact ⟨d, by kernel_rfl, .frz _ _ hf⟩
theorem grB_f {w : Wd} {l : List Sn} (h : grB w l = false) : gtB w = false ∧ l.length ≤ 80 := by
  unfold grB at h
  split at h
  · cases h
  · rename_i h1
    have := of_decide_eq_false h
    exact ⟨h1, by omega⟩
theorem reV_len (w : Wd) (l : List Sn) (ds : List Bool) : (reV w l ds).length ≤ l.length := by
  unfold reV
  split
  · exact Nat.le_of_eq (out_len _ _ _ _)
  · simp
theorem out_row (F : Nat → Nat → Bool) (m : Nat) (dr : List Bool) : ∀ i r, r ∈ (out F m dr i).1 → r.length ≤ m
  | 0, r, h => by cases h
  | i + 1, r, h => by
    have h : r ∈ (out F m dr i).1 ++ [(inn (F i) (out F m dr i).2 m).1] := h
    rcases List.mem_append.1 h with h | h
    · exact out_row F m dr i r h
    · rw [List.mem_singleton.1 h]
      exact inn_len _ _ _
theorem reV_row {w : Wd} {l : List Sn} {ds : List Bool} (k : Nat) (hk : k < (reV w l ds).length) : ((reV w l ds).getD k []).length ≤ 32 := by
  have hm : (reV w l ds).getD k [] ∈ reV w l ds := by
    rw [List.getD_eq_getElem?_getD, List.getElem?_eq_getElem hk]
    exact List.getElem_mem hk
  generalize (reV w l ds).getD k [] = r at *
  unfold reV at hm
  split at hm
  · rename_i hc
    have va := (va_iff w).1 (chB_ok hc).1
    have := out_row _ _ _ _ _ hm
    have := va.n2
    omega
  · cases hm
theorem tells_all (w : Wd) (ok : OkW w) (l : List Sn) (hl : okN l) (ds : List Bool) (hds : okB ds) : Ans Try.prog fT [wdD w, snL l, bsL ds] (.bool true) ⟨0, [], []⟩ := by
  have _ := hds
  have gr := gr_ans w ok l
  have eb := b1_length ds
  cases hg : grB w l with
  | true =>
    rw [hg] at gr
    exact zflat_ok tab_ok mixed fun_ok (calC_ok gr) (lt0 _ w l ds) (.cons (calC_at _ rfl rfl) .nil)
  | false =>
    rw [hg] at gr
    by_cases hd : ds.length > 1000
    · exact zflat_ok tab_ok mixed fun_ok (calC_ok gr) (lt1 _ w l ds) (.cons (calC_at _ rfl rfl) (.cons (decide_eq_true (by omega)) .nil))
    · obtain ⟨_, h80⟩ := grB_f hg
      have re := re_ans w ok l hl ds
      have rz := rZ_ans w ok l hl ds
      have mk := mk_ans w ok l hl
      have rm := rm_ans w ok l hl
      have sr := zr_ans (reV w l ds) (reV w l ds) (by have := reV_len w l ds; omega) (fun k hk => by have := reV_row k hk; omega)
      have sm := zs_ans l l hl
      have h1 : sameL eqR [] (reV w l ds) (reV w l ds) = true := (sameL_iff eqR_iff).2 rfl
      have h2 : sameL eqS sn0 l l = true := (sameL_iff eqS_iff).2 rfl
      rw [h1] at sr
      rw [h2] at sm
      cases l with
      | nil => exact zflat_ok tab_ok mixed fun_ok (orK_ok (calC_ok gr) (orK_ok (calC_ok re) (orK_ok (calC_ok rz) (orK_ok (calC_ok mk) (orK_ok (calC_ok rm) (orK_ok (calC_ok sr) (calC_ok sm))))))) (lt3 _ w ds (chM w []) (reV w [] ds)) (.cons (orK_left (calC_at _ rfl rfl)) (.cons (decide_eq_false (by omega)) (.cons (se_own w ds [] rfl rfl (.sl 1 0 4 0 0 ⟨0, 0, tSn, []⟩ [] (fun _ _ => .any) rfl rfl (by show (0 : Nat) ≠ 2; decide) rfl (fun i cs h => by simp at h) (fun i cs j d h => by simp at h) (fun i cs j d h => by simp at h) (fun cs h => by simp at h))) (.cons (orK_right (calC_oth (by kernel_rfl)) (orK_left (calC_at _ rfl rfl))) (.cons (orK_right (calC_oth (by kernel_rfl)) (orK_right (calC_oth (by kernel_rfl)) (orK_left (calC_at _ rfl rfl)))) (.cons (orK_right (calC_oth (by kernel_rfl)) (orK_right (calC_oth (by kernel_rfl)) (orK_right (calC_oth (by kernel_rfl)) (orK_left (calC_at _ rfl rfl))))) (.cons (orK_right (calC_oth (by kernel_rfl)) (orK_right (calC_oth (by kernel_rfl)) (orK_right (calC_oth (by kernel_rfl)) (orK_right (calC_oth (by kernel_rfl)) (orK_left (calC_at _ rfl rfl)))))) (.cons (by simp) (.cons (orK_right (calC_oth (by kernel_rfl)) (orK_right (calC_oth (by kernel_rfl)) (orK_right (calC_oth (by kernel_rfl)) (orK_right (calC_oth (by kernel_rfl)) (orK_right (calC_oth (by kernel_rfl)) (orK_left (calC_at _ rfl rfl))))))) (.cons (by simp) (.cons (orK_right (calC_oth (by kernel_rfl)) (orK_right (calC_oth (by kernel_rfl)) (orK_right (calC_oth (by kernel_rfl)) (orK_right (calC_oth (by kernel_rfl)) (orK_right (calC_oth (by kernel_rfl)) (orK_right (calC_oth (by kernel_rfl)) (calC_at _ rfl rfl))))))) .nil)))))))))))
      | cons x r =>
        have hn : (snR (x :: r)).length = (snR r).length + 1 := rfl
        have hr := snR_length r
        have hx : (x :: r).length = r.length + 1 := rfl
        exact zflat_ok tab_ok mixed fun_ok (orK_ok (calC_ok gr) (orK_ok (calC_ok re) (orK_ok (calC_ok rz) (orK_ok (calC_ok mk) (orK_ok (calC_ok rm) (orK_ok (calC_ok sr) (calC_ok sm))))))) (lt2 _ w (x :: r) ds ((snR r).length + 1) (chM w (x :: r)) (reV w (x :: r) ds)) (.cons (orK_left (calC_at _ rfl rfl)) (.cons (decide_eq_false (by omega)) (.cons (by rw [app_tabN]; exact appH_new (id := 1) (m := (snR r).length) (r := 0) (t := tSn) (z := iI 0) (zs := [iI 0, iI 0, iI 0]) (j := snT) (e := tSn) rfl rfl rfl (fit_at (by show _ * 32 ≤ _; omega) (by omega))) (.cons (se_own w ds (x :: r) rfl rfl (frz_rows rfl rfl (by show (1 : Nat) ≠ 2; decide) rfl hn (snR_len4 _) (snR_flat _))) (.cons (orK_right (calC_oth (by kernel_rfl)) (orK_left (calC_at _ rfl rfl))) (.cons (orK_right (calC_oth (by kernel_rfl)) (orK_right (calC_oth (by kernel_rfl)) (orK_left (calC_at _ rfl rfl)))) (.cons (orK_right (calC_oth (by kernel_rfl)) (orK_right (calC_oth (by kernel_rfl)) (orK_right (calC_oth (by kernel_rfl)) (orK_left (calC_at _ rfl rfl))))) (.cons (orK_right (calC_oth (by kernel_rfl)) (orK_right (calC_oth (by kernel_rfl)) (orK_right (calC_oth (by kernel_rfl)) (orK_right (calC_oth (by kernel_rfl)) (orK_left (calC_at _ rfl rfl)))))) (.cons (by simp) (.cons (orK_right (calC_oth (by kernel_rfl)) (orK_right (calC_oth (by kernel_rfl)) (orK_right (calC_oth (by kernel_rfl)) (orK_right (calC_oth (by kernel_rfl)) (orK_right (calC_oth (by kernel_rfl)) (orK_left (calC_at _ rfl rfl))))))) (.cons (by simp) (.cons (orK_right (calC_oth (by kernel_rfl)) (orK_right (calC_oth (by kernel_rfl)) (orK_right (calC_oth (by kernel_rfl)) (orK_right (calC_oth (by kernel_rfl)) (orK_right (calC_oth (by kernel_rfl)) (orK_right (calC_oth (by kernel_rfl)) (calC_at _ rfl rfl))))))) .nil))))))))))))
end
end Go.Proofs.Ytgjgihlfkpbdgaa
