/- AggregateNames, in groups of statements. -/
import Derived.Test.YtmpmhkjfpeagkaaYh
import Derived.Test.YtmpmhkjfpeagkaaZa
import Derived.Test.YtmpmhkjfpeagkaaKl
namespace Go.Proofs.Ytmpmhkjfpeagkaa
open Go.RowKit

noncomputable section
abbrev fNm : FuncId := 3
abbrev kNm : List (Nat × Nat) := ksF ftab fNm
def nmL : List Code := spine (bodyOf ftab fNm)
abbrev nv1 : List (Nat × DV) := [(2, iN 6), (4, iN 4), (6, iN 8), (8, iN 11), (10, iN 11)]
abbrev nv2 : List (Nat × DV) := [(23, iN 6), (25, iN 4), (27, iN 8), (29, iN 11)]
set_option maxRecDepth 1000000 in
theorem nmA : zl0 nv1 (zl Try.prog tab ftab noC kNm (nmL.take 6) (initS 230 []) h00 []) = some [] := by kernel_rfl
set_option maxRecDepth 1000000 in
theorem nmB : zl0 [] (zl Try.prog tab ftab noC kNm ((nmL.drop 6).take 11) (mkT 230 nv1) h00 []) = some [] := by kernel_rfl
set_option maxRecDepth 1000000 in
theorem nmC : zl0 nv2 (zl Try.prog tab ftab noC kNm ((nmL.drop 17).take 4) (mkT 230 []) h00 []) = some [] := by kernel_rfl
/-! ### The many pieces -/
def rD : Option (Slots × Hp × Yath × List Prop) := zl Try.prog tab ftab noC kNm ((nmL.drop 21).take 2) (mkT 230 nv2) h00 []
def sD : Slots := match rD with
  | some x => x.1
  | none => mkT 230 []
def hD : Hp := match rD with
  | some x => x.2.1
  | none => h00
set_option maxRecDepth 1000000 in
theorem rD_eq : rD = some (sD, hD, [], []) := by kernel_rfl
abbrev dM : DV := .sl 83 0 1 28 28
def clM : List DV := (List.range 28).map fun i => .sl (3 * i) 0 1 2400 2400
set_option maxRecDepth 1000000 in
theorem sD_30 : look sD 30 = some dM := by kernel_rfl
set_option maxRecDepth 1000000 in
theorem sD_c : chkI sD nv2 = true := by kernel_rfl
set_option maxRecDepth 1000000 in
theorem hD_ls : hD.ls = [] := by kernel_rfl
set_option maxRecDepth 1000000 in
theorem hD_83 : (hD.get 83).map (fun o => (o.cs, Nat.beq o.k 2)) = some (clM, false) := by kernel_rfl
set_option maxRecDepth 1000000 in
theorem hD_rows : (List.range 28).map (fun i => hD.get (3 * i)) = List.replicate 28 (some (oR 0 (nlist 2400 [.int .u8 0]))) := by kernel_rfl
def zM : List UInt8 := zrs 2400
def lM (n : Nat) : List (List UInt8) := List.replicate n zM
theorem hD_row {i : Nat} (h : i < 28) : hD.get (3 * i) = some (oR 0 (celB zM)) := by
  have e := congrArg (fun l => l[i]?) hD_rows
  simp only [List.getElem?_map, List.getElem?_range h, List.getElem?_replicate, h, if_true, Option.map_some, Option.some.injEq] at e
  rw [e, nlist_zrs]
  rfl
theorem frz_M : FrzD [] hD dM (fsD (lM 28)) := by
  cases ho : hD.get 83 with
  | none => have := hD_83; rw [ho] at this; cases this
  | some o =>
    have e := hD_83
    rw [ho, Option.map_some, Option.some.injEq, Prod.mk.injEq] at e
    refine FrzD.slice (o := o) rfl ho (Nat.ne_of_beq_eq_false e.2) (by rw [fs1_length, lM, List.length_replicate]) fun i cs hi => ?_
    have hl : i < 28 := by
      have := (List.getElem?_eq_some_iff.1 hi).1
      rw [fs1_length, lM, List.length_replicate] at this
      exact this
    have hcs : cs = [byL zM] := by
      simp only [fs1, lM, List.map_replicate, List.getElem?_replicate, hl, if_true, Option.some.injEq] at hi
      exact hi.symm
    subst hcs
    refine ⟨rfl, rfl, fun j d hd => ?_⟩
    cases j with
    | zero =>
      cases hd
      refine ⟨.sl (3 * i) 0 1 2400 2400, ?_, frz_oR rfl (hD_row hl) (by decide) rfl (zrs_length 2400).symm⟩
      rw [e.1, show 0 + (i * 1 + 0) = i by omega]
      simp [clM, hl]
    | succ j => simp at hd
/-! ### The last statements -/
def cNm : ConF := orK cAl cJf
theorem cNm_ok : ConOk Try.prog cNm := orK_ok cAl_ok cJf_ok
theorem cNm_jo (hp : Hp) (l : List (List UInt8)) : cNm fJo [fsD l] hp = some (joD l, hp, none) := orK_right rfl (cJf_at hp l)
set_option maxRecDepth 1000000 in
theorem nmE (xs zs js : List (List DV)) : zl0 [(0, .bool true)] (zl Try.prog tab ftab cNm kNm ((nmL.drop 23).take 4) (mkT 230 [(23, iN 6), (25, iN 4), (27, iN 8), (29, iN 11), (30, .list 1 xs)]) h00 [(180, .q (.tuple [.list 1 [], iN 11])), (185, .n (.list 1 zs)), (186, .q (.tuple [.list 1 js, iN 0])), (195, .q (.bool true))]) =
    some ((cNm fJo [.list 1 xs] h00 = some (.tuple [.list 1 [], iN 11], h00, none)) :: (sliceD tab h00 rTI (.list 1 xs) none (some (.int .i64 27)) none = some (.list 1 zs)) :: (cNm fJo [.list 1 zs] h00 = some (.tuple [.list 1 js, iN 0], h00, none)) :: (cNm fAl [] ⟨1, [oR 0 (nlist 11 [.int .u8 0])], []⟩ = some (.bool true, ⟨1, [oR 0 (nlist 11 [.int .u8 0])], []⟩, none)) :: []) := by kernel_rfl
end
end Go.Proofs.Ytmpmhkjfpeagkaa
