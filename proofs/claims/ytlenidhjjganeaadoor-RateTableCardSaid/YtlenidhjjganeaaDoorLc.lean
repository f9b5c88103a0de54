/- The reference of layer 9: contracts. -/
import Derived.Test.YtlenidhjjganeaaDoorLb
namespace Go.Proofs.YtlenidhjjganeaaDoor
open Go.RowKit

noncomputable section
/-- a function without arguments that answers an object of its own -/
def fixO (f0 : FuncId) (d : DV) (h : Hp) : ConF := fun f args hp => match Nat.beq f f0, args with
  | true, [] => some (sh3 hp.n d, layH hp h, none)
  | _, _ => none
theorem fixO_ok {P : Program} {f0 : FuncId} {d : DV} {h : Hp} (ha : Ans P f0 [] d h) (hf : Fine d h) : ConOk P (fixO f0 d h) := by
  intro f args hp r hp' mu heq
  unfold fixO at heq
  split at heq
  · rename_i hb
    have hb := Nat.eq_of_beq_eq_true hb
    subst hb
    cases heq
    exact conC_ok (α := Unit) (A := fun _ => []) (B := fun _ => (d, h)) (fun _ => ha) (fun _ => hf) f [] hp _ _ _ (conC_at (fun _ _ _ => rfl) () trivial)
  · cases heq
/-- an answer of which the objects L are kept; the heap is looked through by the kernel -/
def keepB (L : List Nat) : Option (DV × Hp × List Prop) → Option (Option DV × Option Hp × Bool)
  | some (d, hp, []) => some (ren3 L d, renH L hp, hp.l.all fun o => o.cs.all plain)
  | _ => none
theorem plain_all {hp : Hp} (h : (hp.l.all fun o => o.cs.all plain) = true) : Plain hp := fun id o hg d hd => by
  have hm : o ∈ hp.l := by
    rw [Hp.get_eq] at hg
    split at hg
    · exact List.mem_of_getElem? hg
    · cases hg
  exact List.all_eq_true.1 (List.all_eq_true.1 h o hm) d hd
theorem keepB_ok {C : ConF} (hC : ConOk Tryd.prog C) {f : FuncId} {args : List DV} {p : Yath} {L : List Nat} {d : DV} {hp : Hp} (h : keepB L (zans Tryd.prog tab ftab C f args p) = some (some d, some hp, true)) : Ans Tryd.prog f args d hp := by
  cases hz : zans Tryd.prog tab ftab C f args p with
  | none => rw [hz] at h; cases h
  | some x =>
    obtain ⟨d0, hp0, cs⟩ := x
    rw [hz] at h
    cases cs with
    | cons _ _ => cases h
    | nil =>
      simp only [keepB, Option.some.injEq, Prod.mk.injEq] at h
      exact (zans_ok tab_ok mixed fun_ok hC hz .nil).see (seenV_ren (Plain.toL (plain_all h.2.2) L) h.2.1 h.1)
/-! ### Table -/
abbrev fTb : FuncId := 21
def tbC : List DV := [iI 24, iI (-820), .bool true, iI 36, iI (-808), .bool false, iI 48, iI (-788), .bool true, iI 72, iI (-768), .bool false, iI 100, iI (-738), .bool true, iI 148, iI (-702), .bool false, iI 196, iI (-664), .bool false, iI 220, iI (-652), .bool false, iI 264, iI (-640), .bool false, iI 316, iI (-590), .bool false, iI 396, iI (-568), .bool false, iI 476, iI (-538), .bool false]
def tbH : Hp := ⟨1, [⟨1, 0, 23, tbC⟩], []⟩
set_option maxRecDepth 1000000 in
theorem tb_run : keepB [25] (zans Tryd.prog tab ftab noC fTb [] []) = some (some (.sl 0 0 3 12 12), some tbH, true) := by kernel_rfl
def cTb : ConF := fixO fTb (.sl 0 0 3 12 12) tbH
set_option maxRecDepth 1000000 in
theorem cTb_ok : ConOk Tryd.prog cTb := fixO_ok (keepB_ok noC_ok tb_run) ⟨rfl, plain_all (by kernel_rfl), rfl⟩
/-! ### Get -/
abbrev fGr : FuncId := 18
set_option maxRecDepth 1000000 in
theorem gr1 (i : Int) : zflat (zans Tryd.prog tab ftab cTb fGr [iI i] [(5, .b true)]) = some (.tuple [ent0, iI 2], (decide (i < 0) = true) :: []) := by kernel_rfl
set_option maxRecDepth 1000000 in
theorem gr2 (i : Int) : zflat (zans Tryd.prog tab ftab cTb fGr [iI i] [(5, .b false), (10, .b true)]) = some (.tuple [ent0, iI 2], (decide (i < 0) = false) :: (decide (i ≥ 12) = true) :: []) := by kernel_rfl
set_option maxRecDepth 1000000 in
theorem gr_ans (i : Int) : Ans Tryd.prog fGr [iI i] (atD i) ⟨0, [], []⟩ := by
  cases h : inr i with
  | true => rcases inr_t h with rfl | rfl | rfl | rfl | rfl | rfl | rfl | rfl | rfl | rfl | rfl | rfl <;> exact zflat_ok (p := []) tab_ok mixed fun_ok cTb_ok (by kernel_rfl) .nil
  | false =>
    rw [atD, ent_f h, er_f h]
    rcases inr_f h with h1 | h1
    · exact zflat_ok tab_ok mixed fun_ok cTb_ok (gr1 i) (.cons (decide_eq_true h1) .nil)
    · exact zflat_ok tab_ok mixed fun_ok cTb_ok (gr2 i) (.cons (decide_eq_false (by omega)) (.cons (decide_eq_true h1) .nil))
def cGr : ConF := liftC (comC fGr (g1 atD))
theorem cGr_ok : ConOk Tryd.prog cGr := g1_ok gr_ans
/-- rate.Get -/
abbrev fGe : FuncId := 10
set_option maxRecDepth 1000000 in
theorem ge_run (i : Int) : zflat (zans Tryd.prog tab ftab cAt fGe [iI i] []) = some (atD i, []) := by kernel_rfl
theorem ge_ans (i : Int) : Ans Tryd.prog fGe [iI i] (atD i) ⟨0, [], []⟩ := zflat_ok tab_ok mixed fun_ok cAt_ok (ge_run i) .nil
def cGe : ConF := liftC (comC fGe (g1 atD))
theorem cGe_ok : ConOk Tryd.prog cGe := g1_ok ge_ans
/-! ### Best -/
abbrev fBr : FuncId := 19
set_option maxRecDepth 1000000 in
theorem br11 (l : Int) : zflat (zans Tryd.prog tab ftab cTb fBr [iI l] [(20, .b true)]) = some (.tuple [iI 11, .bool true], (decide ((-538 : Int) ≤ l) = true) :: []) := by kernel_rfl
set_option maxRecDepth 1000000 in
theorem br10 (l : Int) : zflat (zans Tryd.prog tab ftab cTb fBr [iI l] [(20, .b false), (20, .b true)]) = some (.tuple [iI 10, .bool true], (decide ((-538 : Int) ≤ l) = false) :: (decide ((-568 : Int) ≤ l) = true) :: []) := by kernel_rfl
set_option maxRecDepth 1000000 in
theorem br9 (l : Int) : zflat (zans Tryd.prog tab ftab cTb fBr [iI l] [(20, .b false), (20, .b false), (20, .b true)]) = some (.tuple [iI 9, .bool true], (decide ((-538 : Int) ≤ l) = false) :: (decide ((-568 : Int) ≤ l) = false) :: (decide ((-590 : Int) ≤ l) = true) :: []) := by kernel_rfl
set_option maxRecDepth 1000000 in
theorem br8 (l : Int) : zflat (zans Tryd.prog tab ftab cTb fBr [iI l] [(20, .b false), (20, .b false), (20, .b false), (20, .b true)]) = some (.tuple [iI 8, .bool true], (decide ((-538 : Int) ≤ l) = false) :: (decide ((-568 : Int) ≤ l) = false) :: (decide ((-590 : Int) ≤ l) = false) :: (decide ((-640 : Int) ≤ l) = true) :: []) := by kernel_rfl
set_option maxRecDepth 1000000 in
theorem br7 (l : Int) : zflat (zans Tryd.prog tab ftab cTb fBr [iI l] [(20, .b false), (20, .b false), (20, .b false), (20, .b false), (20, .b true)]) = some (.tuple [iI 7, .bool true], (decide ((-538 : Int) ≤ l) = false) :: (decide ((-568 : Int) ≤ l) = false) :: (decide ((-590 : Int) ≤ l) = false) :: (decide ((-640 : Int) ≤ l) = false) :: (decide ((-652 : Int) ≤ l) = true) :: []) := by kernel_rfl
set_option maxRecDepth 1000000 in
theorem br6 (l : Int) : zflat (zans Tryd.prog tab ftab cTb fBr [iI l] [(20, .b false), (20, .b false), (20, .b false), (20, .b false), (20, .b false), (20, .b true)]) = some (.tuple [iI 6, .bool true], (decide ((-538 : Int) ≤ l) = false) :: (decide ((-568 : Int) ≤ l) = false) :: (decide ((-590 : Int) ≤ l) = false) :: (decide ((-640 : Int) ≤ l) = false) :: (decide ((-652 : Int) ≤ l) = false) :: (decide ((-664 : Int) ≤ l) = true) :: []) := by kernel_rfl
set_option maxRecDepth 1000000 in
theorem br5 (l : Int) : zflat (zans Tryd.prog tab ftab cTb fBr [iI l] [(20, .b false), (20, .b false), (20, .b false), (20, .b false), (20, .b false), (20, .b false), (20, .b true)]) = some (.tuple [iI 5, .bool true], (decide ((-538 : Int) ≤ l) = false) :: (decide ((-568 : Int) ≤ l) = false) :: (decide ((-590 : Int) ≤ l) = false) :: (decide ((-640 : Int) ≤ l) = false) :: (decide ((-652 : Int) ≤ l) = false) :: (decide ((-664 : Int) ≤ l) = false) :: (decide ((-702 : Int) ≤ l) = true) :: []) := by kernel_rfl
set_option maxRecDepth 1000000 in
theorem br4 (l : Int) : zflat (zans Tryd.prog tab ftab cTb fBr [iI l] [(20, .b false), (20, .b false), (20, .b false), (20, .b false), (20, .b false), (20, .b false), (20, .b false), (20, .b true)]) = some (.tuple [iI 4, .bool true], (decide ((-538 : Int) ≤ l) = false) :: (decide ((-568 : Int) ≤ l) = false) :: (decide ((-590 : Int) ≤ l) = false) :: (decide ((-640 : Int) ≤ l) = false) :: (decide ((-652 : Int) ≤ l) = false) :: (decide ((-664 : Int) ≤ l) = false) :: (decide ((-702 : Int) ≤ l) = false) :: (decide ((-738 : Int) ≤ l) = true) :: []) := by kernel_rfl
set_option maxRecDepth 1000000 in
theorem br3 (l : Int) : zflat (zans Tryd.prog tab ftab cTb fBr [iI l] [(20, .b false), (20, .b false), (20, .b false), (20, .b false), (20, .b false), (20, .b false), (20, .b false), (20, .b false), (20, .b true)]) = some (.tuple [iI 3, .bool true], (decide ((-538 : Int) ≤ l) = false) :: (decide ((-568 : Int) ≤ l) = false) :: (decide ((-590 : Int) ≤ l) = false) :: (decide ((-640 : Int) ≤ l) = false) :: (decide ((-652 : Int) ≤ l) = false) :: (decide ((-664 : Int) ≤ l) = false) :: (decide ((-702 : Int) ≤ l) = false) :: (decide ((-738 : Int) ≤ l) = false) :: (decide ((-768 : Int) ≤ l) = true) :: []) := by kernel_rfl
set_option maxRecDepth 1000000 in
theorem br2 (l : Int) : zflat (zans Tryd.prog tab ftab cTb fBr [iI l] [(20, .b false), (20, .b false), (20, .b false), (20, .b false), (20, .b false), (20, .b false), (20, .b false), (20, .b false), (20, .b false), (20, .b true)]) = some (.tuple [iI 2, .bool true], (decide ((-538 : Int) ≤ l) = false) :: (decide ((-568 : Int) ≤ l) = false) :: (decide ((-590 : Int) ≤ l) = false) :: (decide ((-640 : Int) ≤ l) = false) :: (decide ((-652 : Int) ≤ l) = false) :: (decide ((-664 : Int) ≤ l) = false) :: (decide ((-702 : Int) ≤ l) = false) :: (decide ((-738 : Int) ≤ l) = false) :: (decide ((-768 : Int) ≤ l) = false) :: (decide ((-788 : Int) ≤ l) = true) :: []) := by kernel_rfl
set_option maxRecDepth 1000000 in
theorem br1 (l : Int) : zflat (zans Tryd.prog tab ftab cTb fBr [iI l] [(20, .b false), (20, .b false), (20, .b false), (20, .b false), (20, .b false), (20, .b false), (20, .b false), (20, .b false), (20, .b false), (20, .b false), (20, .b true)]) = some (.tuple [iI 1, .bool true], (decide ((-538 : Int) ≤ l) = false) :: (decide ((-568 : Int) ≤ l) = false) :: (decide ((-590 : Int) ≤ l) = false) :: (decide ((-640 : Int) ≤ l) = false) :: (decide ((-652 : Int) ≤ l) = false) :: (decide ((-664 : Int) ≤ l) = false) :: (decide ((-702 : Int) ≤ l) = false) :: (decide ((-738 : Int) ≤ l) = false) :: (decide ((-768 : Int) ≤ l) = false) :: (decide ((-788 : Int) ≤ l) = false) :: (decide ((-808 : Int) ≤ l) = true) :: []) := by kernel_rfl
set_option maxRecDepth 1000000 in
theorem br0 (l : Int) : zflat (zans Tryd.prog tab ftab cTb fBr [iI l] [(20, .b false), (20, .b false), (20, .b false), (20, .b false), (20, .b false), (20, .b false), (20, .b false), (20, .b false), (20, .b false), (20, .b false), (20, .b false), (20, .b true)]) = some (.tuple [iI 0, .bool true], (decide ((-538 : Int) ≤ l) = false) :: (decide ((-568 : Int) ≤ l) = false) :: (decide ((-590 : Int) ≤ l) = false) :: (decide ((-640 : Int) ≤ l) = false) :: (decide ((-652 : Int) ≤ l) = false) :: (decide ((-664 : Int) ≤ l) = false) :: (decide ((-702 : Int) ≤ l) = false) :: (decide ((-738 : Int) ≤ l) = false) :: (decide ((-768 : Int) ≤ l) = false) :: (decide ((-788 : Int) ≤ l) = false) :: (decide ((-808 : Int) ≤ l) = false) :: (decide ((-820 : Int) ≤ l) = true) :: []) := by kernel_rfl
set_option maxRecDepth 1000000 in
theorem brn (l : Int) : zflat (zans Tryd.prog tab ftab cTb fBr [iI l] [(20, .b false), (20, .b false), (20, .b false), (20, .b false), (20, .b false), (20, .b false), (20, .b false), (20, .b false), (20, .b false), (20, .b false), (20, .b false), (20, .b false)]) = some (.tuple [iI 0, .bool false], (decide ((-538 : Int) ≤ l) = false) :: (decide ((-568 : Int) ≤ l) = false) :: (decide ((-590 : Int) ≤ l) = false) :: (decide ((-640 : Int) ≤ l) = false) :: (decide ((-652 : Int) ≤ l) = false) :: (decide ((-664 : Int) ≤ l) = false) :: (decide ((-702 : Int) ≤ l) = false) :: (decide ((-738 : Int) ≤ l) = false) :: (decide ((-768 : Int) ≤ l) = false) :: (decide ((-788 : Int) ≤ l) = false) :: (decide ((-808 : Int) ≤ l) = false) :: (decide ((-820 : Int) ≤ l) = false) :: []) := by kernel_rfl
theorem br_ans (l : Int) : Ans Tryd.prog fBr [iI l] (bsD l) ⟨0, [], []⟩ := by
  unfold bsD bsV bsI
  by_cases h11 : (-538 : Int) ≤ l
  · rw [if_pos h11, decide_eq_true (show (-820 : Int) ≤ l by omega)]
    exact zflat_ok tab_ok mixed fun_ok cTb_ok (br11 l) (.cons (decide_eq_true h11) .nil)
  · skip
    by_cases h10 : (-568 : Int) ≤ l
    · rw [if_neg h11, if_pos h10, decide_eq_true (show (-820 : Int) ≤ l by omega)]
      exact zflat_ok tab_ok mixed fun_ok cTb_ok (br10 l) (.cons (decide_eq_false h11) (.cons (decide_eq_true h10) .nil))
    · skip
      by_cases h9 : (-590 : Int) ≤ l
      · rw [if_neg h11, if_neg h10, if_pos h9, decide_eq_true (show (-820 : Int) ≤ l by omega)]
        exact zflat_ok tab_ok mixed fun_ok cTb_ok (br9 l) (.cons (decide_eq_false h11) (.cons (decide_eq_false h10) (.cons (decide_eq_true h9) .nil)))
      · skip
        by_cases h8 : (-640 : Int) ≤ l
        · rw [if_neg h11, if_neg h10, if_neg h9, if_pos h8, decide_eq_true (show (-820 : Int) ≤ l by omega)]
          exact zflat_ok tab_ok mixed fun_ok cTb_ok (br8 l) (.cons (decide_eq_false h11) (.cons (decide_eq_false h10) (.cons (decide_eq_false h9) (.cons (decide_eq_true h8) .nil))))
        · skip
          by_cases h7 : (-652 : Int) ≤ l
          · rw [if_neg h11, if_neg h10, if_neg h9, if_neg h8, if_pos h7, decide_eq_true (show (-820 : Int) ≤ l by omega)]
            exact zflat_ok tab_ok mixed fun_ok cTb_ok (br7 l) (.cons (decide_eq_false h11) (.cons (decide_eq_false h10) (.cons (decide_eq_false h9) (.cons (decide_eq_false h8) (.cons (decide_eq_true h7) .nil)))))
          · skip
            by_cases h6 : (-664 : Int) ≤ l
            · rw [if_neg h11, if_neg h10, if_neg h9, if_neg h8, if_neg h7, if_pos h6, decide_eq_true (show (-820 : Int) ≤ l by omega)]
              exact zflat_ok tab_ok mixed fun_ok cTb_ok (br6 l) (.cons (decide_eq_false h11) (.cons (decide_eq_false h10) (.cons (decide_eq_false h9) (.cons (decide_eq_false h8) (.cons (decide_eq_false h7) (.cons (decide_eq_true h6) .nil))))))
            · skip
              by_cases h5 : (-702 : Int) ≤ l
              · rw [if_neg h11, if_neg h10, if_neg h9, if_neg h8, if_neg h7, if_neg h6, if_pos h5, decide_eq_true (show (-820 : Int) ≤ l by omega)]
                exact zflat_ok tab_ok mixed fun_ok cTb_ok (br5 l) (.cons (decide_eq_false h11) (.cons (decide_eq_false h10) (.cons (decide_eq_false h9) (.cons (decide_eq_false h8) (.cons (decide_eq_false h7) (.cons (decide_eq_false h6) (.cons (decide_eq_true h5) .nil)))))))
              · skip
                by_cases h4 : (-738 : Int) ≤ l
                · rw [if_neg h11, if_neg h10, if_neg h9, if_neg h8, if_neg h7, if_neg h6, if_neg h5, if_pos h4, decide_eq_true (show (-820 : Int) ≤ l by omega)]
                  exact zflat_ok tab_ok mixed fun_ok cTb_ok (br4 l) (.cons (decide_eq_false h11) (.cons (decide_eq_false h10) (.cons (decide_eq_false h9) (.cons (decide_eq_false h8) (.cons (decide_eq_false h7) (.cons (decide_eq_false h6) (.cons (decide_eq_false h5) (.cons (decide_eq_true h4) .nil))))))))
                · skip
                  by_cases h3 : (-768 : Int) ≤ l
                  · rw [if_neg h11, if_neg h10, if_neg h9, if_neg h8, if_neg h7, if_neg h6, if_neg h5, if_neg h4, if_pos h3, decide_eq_true (show (-820 : Int) ≤ l by omega)]
                    exact zflat_ok tab_ok mixed fun_ok cTb_ok (br3 l) (.cons (decide_eq_false h11) (.cons (decide_eq_false h10) (.cons (decide_eq_false h9) (.cons (decide_eq_false h8) (.cons (decide_eq_false h7) (.cons (decide_eq_false h6) (.cons (decide_eq_false h5) (.cons (decide_eq_false h4) (.cons (decide_eq_true h3) .nil)))))))))
                  · skip
                    by_cases h2 : (-788 : Int) ≤ l
                    · rw [if_neg h11, if_neg h10, if_neg h9, if_neg h8, if_neg h7, if_neg h6, if_neg h5, if_neg h4, if_neg h3, if_pos h2, decide_eq_true (show (-820 : Int) ≤ l by omega)]
                      exact zflat_ok tab_ok mixed fun_ok cTb_ok (br2 l) (.cons (decide_eq_false h11) (.cons (decide_eq_false h10) (.cons (decide_eq_false h9) (.cons (decide_eq_false h8) (.cons (decide_eq_false h7) (.cons (decide_eq_false h6) (.cons (decide_eq_false h5) (.cons (decide_eq_false h4) (.cons (decide_eq_false h3) (.cons (decide_eq_true h2) .nil))))))))))
                    · skip
                      by_cases h1 : (-808 : Int) ≤ l
                      · rw [if_neg h11, if_neg h10, if_neg h9, if_neg h8, if_neg h7, if_neg h6, if_neg h5, if_neg h4, if_neg h3, if_neg h2, if_pos h1, decide_eq_true (show (-820 : Int) ≤ l by omega)]
                        exact zflat_ok tab_ok mixed fun_ok cTb_ok (br1 l) (.cons (decide_eq_false h11) (.cons (decide_eq_false h10) (.cons (decide_eq_false h9) (.cons (decide_eq_false h8) (.cons (decide_eq_false h7) (.cons (decide_eq_false h6) (.cons (decide_eq_false h5) (.cons (decide_eq_false h4) (.cons (decide_eq_false h3) (.cons (decide_eq_false h2) (.cons (decide_eq_true h1) .nil)))))))))))
                      · skip
                        by_cases h0 : (-820 : Int) ≤ l
                        · rw [if_neg h11, if_neg h10, if_neg h9, if_neg h8, if_neg h7, if_neg h6, if_neg h5, if_neg h4, if_neg h3, if_neg h2, if_neg h1, if_pos h0, decide_eq_true (show (-820 : Int) ≤ l by omega)]
                          exact zflat_ok tab_ok mixed fun_ok cTb_ok (br0 l) (.cons (decide_eq_false h11) (.cons (decide_eq_false h10) (.cons (decide_eq_false h9) (.cons (decide_eq_false h8) (.cons (decide_eq_false h7) (.cons (decide_eq_false h6) (.cons (decide_eq_false h5) (.cons (decide_eq_false h4) (.cons (decide_eq_false h3) (.cons (decide_eq_false h2) (.cons (decide_eq_false h1) (.cons (decide_eq_true h0) .nil))))))))))))
                        · skip
                          rw [if_neg h11, if_neg h10, if_neg h9, if_neg h8, if_neg h7, if_neg h6, if_neg h5, if_neg h4, if_neg h3, if_neg h2, if_neg h1, if_neg h0, decide_eq_false h0]
                          exact zflat_ok tab_ok mixed fun_ok cTb_ok (brn l) (.cons (decide_eq_false h11) (.cons (decide_eq_false h10) (.cons (decide_eq_false h9) (.cons (decide_eq_false h8) (.cons (decide_eq_false h7) (.cons (decide_eq_false h6) (.cons (decide_eq_false h5) (.cons (decide_eq_false h4) (.cons (decide_eq_false h3) (.cons (decide_eq_false h2) (.cons (decide_eq_false h1) (.cons (decide_eq_false h0) .nil))))))))))))
def cBr : ConF := liftC (comC fBr (g1 bsD))
theorem cBr_ok : ConOk Tryd.prog cBr := g1_ok br_ans
/-! ### Response -/
abbrev fSr : FuncId := 20
def cSr0 : ConF := orK cTb cGr
theorem cSr0_ok : ConOk Tryd.prog cSr0 := orK_ok cTb_ok cGr_ok
set_option maxRecDepth 1000000 in
theorem sr1 (i : Int) : zflat (zans Tryd.prog tab ftab cSr0 fSr [iI i] [(12, .b true)]) = some (.tuple [iI 0, iI (er i)], ((er i != 0) = true) :: []) := by kernel_rfl
set_option maxRecDepth 1000000 in
theorem sr_ans (i : Int) : Ans Tryd.prog fSr [iI i] (rsD i) ⟨0, [], []⟩ := by
  cases h : inr i with
  | true => rcases inr_t h with rfl | rfl | rfl | rfl | rfl | rfl | rfl | rfl | rfl | rfl | rfl | rfl <;> exact zflat_ok (p := []) tab_ok mixed fun_ok cSr0_ok (by kernel_rfl) .nil
  | false =>
    have := sr1 i
    rw [rsD, rsV, h]
    exact zflat_ok tab_ok mixed fun_ok cSr0_ok this (.cons (er_nf h) .nil)
def cSr : ConF := liftC (comC fSr (g1 rsD))
theorem cSr_ok : ConOk Tryd.prog cSr := g1_ok sr_ans
/-! ### Air -/
abbrev fAr : FuncId := 22
abbrev arX (b : Int) : Int := IntKind.i64.wrap (IntKind.i64.wrap (8 * b) + 22)
abbrev arA (i b v : Int) : Prop := binD tab .quo 3 (iI (arX b)) (iI (rb i)) = some (iI v)
abbrev arW (v : Int) : Int := IntKind.i64.wrap (20 + IntKind.i64.wrap (4 * v))
section
variable (i b v : Int)
set_option maxRecDepth 1000000 in
theorem ar1 : zflat (zans Tryd.prog tab ftab cGr fAr [iI i, iI b] [(16, .b true)]) = some (.tuple [iI 0, iI 2], ((er i != 0) = true) :: []) := by kernel_rfl
set_option maxRecDepth 1000000 in
theorem ar2 : zflat (zans Tryd.prog tab ftab cGr fAr [iI i, iI b] [(16, .b false), (19, .b true)]) = some (.tuple [iI 0, iI 2], ((er i != 0) = false) :: (decide (b < 0) = true) :: []) := by kernel_rfl
set_option maxRecDepth 1000000 in
theorem ar3 : zflat (zans Tryd.prog tab ftab cGr fAr [iI i, iI b] [(16, .b false), (19, .b false), (23, .b true)]) = some (.tuple [iI 0, iI 2], ((er i != 0) = false) :: (decide (b < 0) = false) :: (decide (b > 65535) = true) :: []) := by kernel_rfl
set_option maxRecDepth 1000000 in
theorem ar4 : zflat (zans Tryd.prog tab ftab cGr fAr [iI i, iI b] [(16, .b false), (19, .b false), (23, .b false), (31, .n (iI v)), (37, .b true)]) = some (.tuple [iI (arW (IntKind.i64.wrap (v + 1))), iI 0], ((er i != 0) = false) :: (decide (b < 0) = false) :: (decide (b > 65535) = false) :: arA i b v :: (decide (IntKind.i64.wrap (v * rb i) < arX b) = true) :: []) := by kernel_rfl
set_option maxRecDepth 1000000 in
theorem ar5 : zflat (zans Tryd.prog tab ftab cGr fAr [iI i, iI b] [(16, .b false), (19, .b false), (23, .b false), (31, .n (iI v)), (37, .b false)]) = some (.tuple [iI (arW v), iI 0], ((er i != 0) = false) :: (decide (b < 0) = false) :: (decide (b > 65535) = false) :: arA i b v :: (decide (IntKind.i64.wrap (v * rb i) < arX b) = false) :: []) := by kernel_rfl
end
/-- the least number of symbols, found in two ways -/
theorem ceil_t {n B : Int} (hB : 24 ≤ B) (h : n / B * B < n) : n / B + 1 = (n + B - 1) / B := by
  have h1 := Int.mul_ediv_add_emod n B
  have h2 := Int.emod_lt_of_pos n (show 0 < B by omega)
  have h3 : B * (n / B) < n := by rw [Int.mul_comm]; exact h
  symm
  have e : n + B - 1 = (n % B - 1) + B * (n / B + 1) := by rw [Int.mul_add]; omega
  rw [e, Int.add_mul_ediv_left _ _ (by omega), Int.ediv_eq_zero_of_lt (by omega) (by omega)]
  omega
theorem ceil_f {n B : Int} (hB : 24 ≤ B) (h : ¬ n / B * B < n) : n / B = (n + B - 1) / B := by
  have h1 := Int.mul_ediv_add_emod n B
  have h2 := Int.emod_nonneg n (show B ≠ 0 by omega)
  have h3 : ¬ B * (n / B) < n := by rw [Int.mul_comm]; exact h
  symm
  have e : n + B - 1 = (B - 1) + B * (n / B) := by omega
  rw [e, Int.add_mul_ediv_left _ _ (by omega), Int.ediv_eq_zero_of_lt (by omega) (by omega)]
  omega
theorem ar_ans (i b : Int) : Ans Tryd.prog fAr [iI i, iI b] (aiD i b) ⟨0, [], []⟩ := by
  unfold aiD aiV aiE
  cases h : inr i with
  | false =>
    rw [okB_n (.inl h)]
    exact zflat_ok tab_ok mixed fun_ok cGr_ok (ar1 i b) (.cons (er_nf h) .nil)
  | true =>
    by_cases h1 : b < 0
    · rw [okB_n (.inr (.inl h1))]
      exact zflat_ok tab_ok mixed fun_ok cGr_ok (ar2 i b) (.cons (er_nt h) (.cons (decide_eq_true h1) .nil))
    · by_cases h2 : b > 65535
      · rw [okB_n (.inr (.inr h2))]
        exact zflat_ok tab_ok mixed fun_ok cGr_ok (ar3 i b) (.cons (er_nt h) (.cons (decide_eq_false h1) (.cons (decide_eq_true h2) .nil)))
      · have hk := okB_y h (by omega : 0 ≤ b) (by omega : b ≤ 65535)
        rw [hk]
        have hB := rb_in h
        have ex : arX b = 8 * b + 22 := by
          unfold arX
          rw [wrapZ (x := 8 * b) (by omega) (by omega), wrapZ (by omega) (by omega)]
        have hq := quo_at (x := 8 * b + 22) hB.1 (by omega)
        have hd := div_b (x := 8 * b + 22) hB.1 (by omega)
        have hm := Int.mul_ediv_add_emod (8 * b + 22) (rb i)
        have hm2 := Int.emod_nonneg (8 * b + 22) (show rb i ≠ 0 by omega)
        have hm3 : 0 ≤ rb i * ((8 * b + 22) / rb i) := Int.mul_nonneg (by omega) hd.1
        have ew : IntKind.i64.wrap ((8 * b + 22) / rb i * rb i) = (8 * b + 22) / rb i * rb i := by
          rw [Int.mul_comm]
          exact wrapZ (by omega) (by omega)
        by_cases h3 : (8 * b + 22) / rb i * rb i < 8 * b + 22
        · have := ar4 i b ((8 * b + 22) / rb i)
          have e5 : arW (IntKind.i64.wrap ((8 * b + 22) / rb i + 1)) = air i b := by
            have := ceil_t hB.1 h3
            unfold arW air
            rw [wrapZ (x := (8 * b + 22) / rb i + 1) (by omega) (by omega), wrapZ (x := 4 * _) (by omega) (by omega), wrapZ (by omega) (by omega), this]
          rw [e5] at this
          exact zflat_ok tab_ok mixed fun_ok cGr_ok this (.cons (er_nt h) (.cons (decide_eq_false h1) (.cons (decide_eq_false h2) (.cons (by rw [arA, ex]; exact hq) (.cons (by rw [ew, ex]; exact decide_eq_true h3) .nil)))))
        · have := ar5 i b ((8 * b + 22) / rb i)
          have e5 : arW ((8 * b + 22) / rb i) = air i b := by
            have := ceil_f hB.1 h3
            unfold arW air
            rw [wrapZ (x := 4 * _) (by omega) (by omega), wrapZ (by omega) (by omega), this]
          rw [e5] at this
          exact zflat_ok tab_ok mixed fun_ok cGr_ok this (.cons (er_nt h) (.cons (decide_eq_false h1) (.cons (decide_eq_false h2) (.cons (by rw [arA, ex]; exact hq) (.cons (by rw [ew, ex]; exact decide_eq_false h3) .nil)))))
def cAr : ConF := liftC (comC fAr (g2 aiD))
theorem cAr_ok : ConOk Tryd.prog cAr := g2_ok ar_ans
/-! ### Length -/
abbrev fLr : FuncId := 23
def cLr0 : ConF := orK cGr cAr
theorem cLr0_ok : ConOk Tryd.prog cLr0 := orK_ok cGr_ok cAr_ok
abbrev lrX (B m : Int) : Int := quoD .i64 (IntKind.i64.wrap (IntKind.i64.wrap (quoD .i64 (IntKind.i64.wrap (m - 20)) 4 * B) - 22)) 8
abbrev lrQ (B m n : Int) : Prop := DV.int .i64 (if lrX B m < 65535 then lrX B m else 65535) = iI n
section
variable (i m n : Int)
set_option maxRecDepth 1000000 in
theorem lr1 : zflat (zans Tryd.prog tab ftab cLr0 fLr [iI i, iI m] [(19, .b true)]) = some (.tuple [iI 0, iI (er i)], ((er i != 0) = true) :: []) := by kernel_rfl
set_option maxRecDepth 1000000 in
theorem lr2 : zflat (zans Tryd.prog tab ftab cLr0 fLr [iI i, iI m] [(19, .b false), (28, .b true)]) = some (.tuple [iI 0, iI 40], ((er i != 0) = false) :: (decide (aiV i 0 > m) = true) :: []) := by kernel_rfl
set_option maxRecDepth 1000000 in
theorem lr3 : zflat (zans Tryd.prog tab ftab cLr0 fLr [iI i, iI m] [(19, .b false), (28, .b false), (36, .b true)]) = some (.tuple [iI 65535, iI 0], ((er i != 0) = false) :: (decide (aiV i 0 > m) = false) :: (decide (m ≥ aiV i 65535) = true) :: []) := by kernel_rfl
set_option maxRecDepth 1000000 in
theorem lr4 : zflat (zans Tryd.prog tab ftab cLr0 fLr [iI i, iI m] [(19, .b false), (28, .b false), (36, .b false), (46, .w (iI n))]) = some (.tuple [iI n, iI 0], ((er i != 0) = false) :: (decide (aiV i 0 > m) = false) :: (decide (m ≥ aiV i 65535) = false) :: lrQ (rb i) m n :: []) := by kernel_rfl
end
theorem aiV_at {i b : Int} (h : okB i b = true) : aiV i b = air i b := by rw [aiV, h]
theorem len_most {i m : Int} (h : inr i = true) (hm : air i 65535 ≤ m) : len i m = 65535 := by
  unfold len
  rw [show min m (air i 65535) = air i 65535 by omega]
  unfold air
  rcases inr_t h with rfl | rfl | rfl | rfl | rfl | rfl | rfl | rfl | rfl | rfl | rfl | rfl <;> decide
theorem lr_ans (i m : Int) : Ans Tryd.prog fLr [iI i, iI m] (leD i m) ⟨0, [], []⟩ := by
  unfold leD leV leE okM
  cases h : inr i with
  | false =>
    have := lr1 i m
    rw [er_f h] at this
    exact zflat_ok tab_ok mixed fun_ok cLr0_ok this (.cons rfl .nil)
  | true =>
    have h0 : okB i 0 = true := okB_y h (by decide) (by decide)
    have h6 : okB i 65535 = true := okB_y h (by decide) (by decide)
    have v0 := aiV_at h0
    have v6 := aiV_at h6
    have a0 := air_in h0
    have a6 := air_in h6
    have hB := rb_in h
    by_cases h1 : air i 0 ≤ m
    · rw [decide_eq_true h1]
      by_cases h2 : air i 65535 ≤ m
      · show Ans _ _ _ (.tuple [iI (len i m), iI 0]) _
        rw [len_most h h2]
        exact zflat_ok tab_ok mixed fun_ok cLr0_ok (lr3 i m) (.cons (er_nt h) (.cons (decide_eq_false (by omega)) (.cons (decide_eq_true (by omega)) .nil)))
      · have q : lrQ (rb i) m (len i m) := by
          obtain ⟨s, hs⟩ : ∃ s, s = (m - 20) / 4 := ⟨_, rfl⟩
          have b2 : 1 ≤ s ∧ s ≤ 100000 := by omega
          have b3 : 24 ≤ s * rb i := by
            have := Int.mul_le_mul b2.1 hB.1 (by decide) (by omega)
            omega
          have b4 : s * rb i ≤ 100000 * 476 := Int.mul_le_mul b2.2 hB.2 (by omega) (by decide)
          have e2 : lrX (rb i) m = (s * rb i - 22) / 8 := by
            unfold lrX
            rw [wrapZ (x := m - 20) (by omega) (by omega), quo_eq (x := m - 20) (by decide) (by omega), ← hs, wrapZ (x := s * rb i) (by omega) (by omega), wrapZ (x := s * rb i - 22) (by omega) (by omega), quo_eq (by decide) (by omega)]
          unfold lrQ len
          rw [e2, show min m (air i 65535) = m by omega, ← hs]
          congr 1
          split <;> omega
        exact zflat_ok tab_ok mixed fun_ok cLr0_ok (lr4 i m (len i m)) (.cons (er_nt h) (.cons (decide_eq_false (by omega)) (.cons (decide_eq_false (by omega)) (.cons q .nil))))
    · rw [decide_eq_false h1]
      exact zflat_ok tab_ok mixed fun_ok cLr0_ok (lr2 i m) (.cons (er_nt h) (.cons (decide_eq_true (by omega)) .nil))
def cLr : ConF := liftC (comC fLr (g2 leD))
theorem cLr_ok : ConOk Tryd.prog cLr := g2_ok lr_ans
/-! ### Reply -/
abbrev fRp : FuncId := 25
def cRp0 : ConF := orK cSr cAr
theorem cRp0_ok : ConOk Tryd.prog cRp0 := orK_ok cSr_ok cAr_ok
set_option maxRecDepth 1000000 in
theorem rp1 (i b : Int) : zflat (zans Tryd.prog tab ftab cRp0 fRp [iI i, iI b] [(16, .b true)]) = some (.tuple [iI 0, iI (er i)], ((er i != 0) = true) :: []) := by kernel_rfl
set_option maxRecDepth 1000000 in
theorem rp_ak (i : Int) : Ans Tryd.prog fRp [iI i, iI 14] (akD i) ⟨0, [], []⟩ := by
  cases h : inr i with
  | true => rcases inr_t h with rfl | rfl | rfl | rfl | rfl | rfl | rfl | rfl | rfl | rfl | rfl | rfl <;> exact zflat_ok (p := []) tab_ok mixed fun_ok cRp0_ok (by kernel_rfl) .nil
  | false =>
    have := rp1 i 14
    rw [akD, akV, h]
    exact zflat_ok tab_ok mixed fun_ok cRp0_ok this (.cons (er_nf h) .nil)
set_option maxRecDepth 1000000 in
theorem rp_rt (i : Int) : Ans Tryd.prog fRp [iI i, iI 20] (rtD i) ⟨0, [], []⟩ := by
  cases h : inr i with
  | true => rcases inr_t h with rfl | rfl | rfl | rfl | rfl | rfl | rfl | rfl | rfl | rfl | rfl | rfl <;> exact zflat_ok (p := []) tab_ok mixed fun_ok cRp0_ok (by kernel_rfl) .nil
  | false =>
    have := rp1 i 20
    rw [rtD, rtV, h]
    exact zflat_ok tab_ok mixed fun_ok cRp0_ok this (.cons (er_nf h) .nil)
set_option maxRecDepth 1000000 in
theorem rp_bk (i : Int) : Ans Tryd.prog fRp [iI i, iI 30] (bkD i) ⟨0, [], []⟩ := by
  cases h : inr i with
  | true => rcases inr_t h with rfl | rfl | rfl | rfl | rfl | rfl | rfl | rfl | rfl | rfl | rfl | rfl <;> exact zflat_ok (p := []) tab_ok mixed fun_ok cRp0_ok (by kernel_rfl) .nil
  | false =>
    have := rp1 i 30
    rw [bkD, bkV, h]
    exact zflat_ok tab_ok mixed fun_ok cRp0_ok this (.cons (er_nf h) .nil)
def gRp : List DV → Option DV
  | [.int .i64 i, .int .i64 14] => some (akD i)
  | [.int .i64 i, .int .i64 20] => some (rtD i)
  | [.int .i64 i, .int .i64 30] => some (bkD i)
  | _ => none
def cRp : ConF := liftC (comC fRp gRp)
theorem cRp_ok : ConOk Tryd.prog cRp := liftC_ok (comC_ok fun args d hh => by
  unfold gRp at hh
  split at hh
  · cases hh
    exact rp_ak _
  · cases hh
    exact rp_rt _
  · cases hh
    exact rp_bk _
  · cases hh)
/-! ### Total -/
abbrev fTr : FuncId := 28
def cTr0 : ConF := orK cAr cRp
theorem cTr0_ok : ConOk Tryd.prog cTr0 := orK_ok cAr_ok cRp_ok
set_option maxRecDepth 1000000 in
theorem tr1 (i b : Int) : zflat (zans Tryd.prog tab ftab cTr0 fTr [iI i, iI b] [(17, .b true)]) = some (.tuple [iI 0, iI (aiE i b)], ((aiE i b != 0) = true) :: []) := by kernel_rfl
set_option maxRecDepth 1000000 in
theorem tr2 (i b v : Int) : zflat (zans Tryd.prog tab ftab cTr0 fTr [iI i, iI b] [(17, .b false), (27, .w (iI v))]) = some (.tuple [iI v, iI (er i)], ((aiE i b != 0) = false) :: (DV.int .i64 (IntKind.i64.wrap (IntKind.i64.wrap (aiV i b + 16) + akV i)) = iI v) :: []) := by kernel_rfl
theorem tr_ans (i b : Int) : Ans Tryd.prog fTr [iI i, iI b] (toD i b) ⟨0, [], []⟩ := by
  cases h : okB i b with
  | false =>
    have := tr1 i b
    rw [toD, toV, h]
    refine zflat_ok tab_ok mixed fun_ok cTr0_ok this (.cons ?_ .nil)
    rw [aiE, h]
    rfl
  | true =>
    have h' := h
    simp only [okB, Bool.and_eq_true] at h'
    have a1 := air_in h
    have a2 := ak_in h'.1
    have := tr2 i b (air i b + 16 + akV i)
    rw [er_t h'.1] at this
    rw [toD, toV, aiE, h]
    refine zflat_ok tab_ok mixed fun_ok cTr0_ok this (.cons ?_ (.cons ?_ .nil))
    · rw [aiE, h]
      rfl
    · rw [aiV, h]
      show DV.int .i64 (IntKind.i64.wrap (IntKind.i64.wrap (air i b + 16) + akV i)) = _
      rw [wrapZ (x := air i b + 16) (by omega) (by omega), wrapZ (by omega) (by omega)]
def cTr : ConF := liftC (comC fTr (g2 toD))
theorem cTr_ok : ConOk Tryd.prog cTr := g2_ok tr_ans
end
end Go.Proofs.YtlenidhjjganeaaDoor
