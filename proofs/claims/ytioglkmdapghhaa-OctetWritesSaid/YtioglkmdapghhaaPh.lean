/- OctetWrites, over the data of its arguments: the paths. -/
import Derived.Test.YtioglkmdapghhaaPg
namespace Go.Proofs.Ytioglkmdapghhaa
open Go.RowKit

noncomputable section
/-! ### The reference's Put, its answer being a list -/
theorem rpl_ans (x : BVN) : Ans Try.prog fRp [byL x.1.1, i64u x.2.1.1, iN x.2.2.1] (byL (x.1.1 ++ leB x.2.1.1 x.2.2.1)) ⟨0, [], []⟩ :=
  AnsH.frz (rp_ans x) rfl (frz_oR (k := 1) rfl rfl (by decide) rfl rfl)
def cRpl : ConF := liftC (eqC fRp (fun x : BVN => [byL x.1.1, i64u x.2.1.1, iN x.2.2.1]) fun x => (byL (x.1.1 ++ leB x.2.1.1 x.2.2.1), ⟨0, [], []⟩))
theorem cRpl_ok : ConOk Try.prog cRpl := liftC_ok (eqC_ok rpl_ans fun _ => rfl)
theorem cRpl_at (hp : Hp) (b : Bs) (v n : Nat) (hv : v < 2 ^ 64) (hn : n ≤ 8) : cRpl fRp [byL b.1, i64u v, iN n] hp = some (byL (b.1 ++ leB v n), hp, none) :=
  lift_at (A := fun x : BVN => [byL x.1.1, i64u x.2.1.1, iN x.2.2.1]) (D := fun x => byL (x.1.1 ++ leB x.2.1.1 x.2.2.1)) (fun x y hxy => by
    simp only [List.cons.injEq, and_true, DV.int.injEq, true_and] at hxy
    obtain ⟨h1, h2, h3⟩ := hxy
    rw [byL_inj h1, show x.2.1.1 = y.2.1.1 from Int.ofNat.inj h2, show x.2.2.1 = y.2.2.1 from Int.ofNat.inj (by injection h3)]) hp (b, ⟨v, hv⟩, ⟨n, hn⟩) rfl rfl
def cW : ConF := orK cCp (orK cPt (orK cRtx (orK cJo (orK cRj (orK cSp (orK cRs (orK cSa (orK cPu8 (orK cRpl (orK cPu16 (orK cPu32 cPu64)))))))))))
theorem cW_ok : ConOk Try.prog cW := orK_ok cCp_ok (orK_ok cPt_ok (orK_ok cRtx_ok (orK_ok cJo_ok (orK_ok cRj_ok (orK_ok cSp_ok (orK_ok cRs_ok (orK_ok cSa_ok (orK_ok cPu8_ok (orK_ok cRpl_ok (orK_ok cPu16_ok (orK_ok cPu32_ok cPu64_ok)))))))))))
/-! ### The law's paths -/
abbrev fWr : FuncId := 3
abbrev kWr : List (Nat × Nat) := ksF ftab fWr
abbrev wrL : Code := loopAt (bodyOf ftab fWr) 0
abbrev wrS (xs ys rs : List (List DV)) (v : Nat) (k : Nat) : Slots := mkT 193 [(0, .list 1 xs), (1, .list 1 ys), (2, .list 1 rs), (3, i64u v), (9, iN k)]
abbrev wrE (xs ys rs : List (List DV)) (v : Nat) : Slots := mkT 193 [(0, .list 1 xs), (1, .list 1 ys), (2, .list 1 rs), (3, i64u v)]
abbrev wrT : Slots := mkT 193 [(8, .bool true)]
abbrev wrA (rs zs : List (List DV)) (k : Nat) (t : List Prop) : List Prop := (decide ((k : Int) < (rs.length : Int)) = true) :: (idxOk (k : Int) rs.length = true) :: (nth rs ((k : Int).toNat) = some [.list 1 zs]) :: t
set_option maxRecDepth 1000000 in
theorem wr1 (xs ys rs zs : List (List DV)) (v k : Nat) : zsee Try.prog tab ftab noC kWr [0, 1, 2, 3, 9] wrL (wrS xs ys rs v k) h00 [(41, .b true), (46, .n (.fptr [.list 1 zs])), (48, .c [(5, .b false)]), (43, .w (iN (k + 1)))] =
    some (.normal, wrS xs ys rs v (k + 1), h00, wrA rs zs k ((decide ((zs.length : Int) > 70000) = false) :: (DV.int .i64 (IntKind.i64.wrap ((k : Int) + 1)) = iN (k + 1)) :: [])) := by kernel_rfl
set_option maxRecDepth 1000000 in
theorem wrX (xs ys rs zs : List (List DV)) (v k : Nat) : zsee Try.prog tab ftab noC kWr [8] wrL (wrS xs ys rs v k) h00 [(41, .b true), (46, .n (.fptr [.list 1 zs])), (48, .c [(5, .b true)])] =
    some (.ret, wrT, h00, wrA rs zs k ((decide ((zs.length : Int) > 70000) = true) :: [])) := by kernel_rfl
set_option maxRecDepth 1000000 in
theorem wrO (xs ys rs : List (List DV)) (v k : Nat) : zsee Try.prog tab ftab noC kWr [0, 1, 2, 3] wrL (wrS xs ys rs v k) h00 [(41, .b false)] = some (.exit 0, wrE xs ys rs v, h00, (decide ((k : Int) < (rs.length : Int)) = false) :: []) := by kernel_rfl
abbrev wArgs (xs ys rs : List (List DV)) (v : Nat) : List DV := [.list 1 xs, .list 1 ys, .list 1 rs, i64u v]
set_option maxRecDepth 1000000 in
theorem wf1 (xs ys rs : List (List DV)) (v : Nat) : zflat (zans Try.prog tab ftab cW fWr (wArgs xs ys rs v) [(28, .c [(5, .b true)])]) = some (.bool true, (decide ((xs.length : Int) > 70000) = true) :: []) := by kernel_rfl
set_option maxRecDepth 1000000 in
theorem wf2 (xs ys rs : List (List DV)) (v : Nat) : zflat (zans Try.prog tab ftab cW fWr (wArgs xs ys rs v) [(28, .c [(5, .b false)]), (31, .c [(5, .b true)])]) = some (.bool true, (decide ((xs.length : Int) > 70000) = false) :: (decide ((ys.length : Int) > 70000) = true) :: []) := by kernel_rfl
set_option maxRecDepth 1000000 in
theorem wf3 (xs ys rs : List (List DV)) (v : Nat) : zflat (zans Try.prog tab ftab cW fWr (wArgs xs ys rs v) [(28, .c [(5, .b false)]), (31, .c [(5, .b false)]), (36, .b true)]) = some (.bool true, (decide ((xs.length : Int) > 70000) = false) :: (decide ((ys.length : Int) > 70000) = false) :: (decide ((rs.length : Int) > 300) = true) :: []) := by kernel_rfl
abbrev wNear (xs ys rs : List (List DV)) (t : List Prop) : List Prop := (decide ((xs.length : Int) > 70000) = false) :: (decide ((ys.length : Int) > 70000) = false) :: (decide ((rs.length : Int) > 300) = false) :: t
set_option maxRecDepth 1000000 in
theorem wf4 (xs ys rs : List (List DV)) (v : Nat) : zflat (zans Try.prog tab ftab cW fWr (wArgs xs ys rs v) [(28, .c [(5, .b false)]), (31, .c [(5, .b false)]), (36, .b false), (0, .l [0, 1, 2, 3, 9] .ret wrT h00)]) = some (.bool true, wNear xs ys rs ((Goes Try.prog tab kWr (.loop wrL) (wrS xs ys rs v 0) h00 .ret wrT h00) :: [])) := by kernel_rfl
abbrev sm (s : ByteArray) : YE := .c [(6, .h (.str s) h00 none), (8, .h (.str s) h00 none), (9, .b true)]
abbrev aSm (xs : List (List DV)) (s : ByteArray) (t : List Prop) : List Prop := (convD tab h00 22 9 (.list 1 xs) = some (.str s, h00, none)) :: (convD tab h00 22 9 (.list 1 xs) = some (.str s, h00, none)) :: (eqBytes s.data.toList s.data.toList = true) :: t
abbrev pr (xs : List (List DV)) (e : Int) : DV := .tuple [.list 1 xs, .int .i64 e]
abbrev aC (f : FuncId) (l : List DV) (d : DV) : Prop := cW f l h00 = some (d, h00, none)
abbrev fP8 : FuncId := 20
abbrev fP16 : FuncId := 22
abbrev fP32 : FuncId := 23
abbrev fP64 : FuncId := 24
abbrev u8n (q : Nat) : DV := .int .u8 (q : Int)
end
end Go.Proofs.Ytioglkmdapghhaa
