/- Scan: a contract. -/
import Derived.Test.YtmpmhkjfpeagkaaKh
namespace Go.Proofs.Ytmpmhkjfpeagkaa
open Go.RowKit

noncomputable section
def cSq : ConF := orK cAn cBc
theorem cSq_ok : ConOk Try.prog cSq := orK_ok cAn_ok cBc_ok
abbrev fBc : FuncId := 36
abbrev fSn : FuncId := 15
theorem cSq_an (hp : Hp) (b : List UInt8) (h : 4 ≤ b.length ∧ b.length < 2 ^ 30) : cSq fAn [byL b] hp = some (iN (ann b), hp, none) := orK_left (cAn_at hp b h)
theorem cSq_bc (hp : Hp) (b : List UInt8) (h : b.length < 2 ^ 30) : cSq fBc [byL b] hp = some (byL b, hp, none) := orK_right (lift_oth (eqC_other (by kernel_rfl))) (cBc_at hp b h)
abbrev kSn : List (Nat × Nat) := ksF ftab fSn
abbrev snL : Code := loopAt (bodyOf ftab fSn) 0
abbrev tyF : List TypeId := [33, 33]
abbrev snS (xs : List (List DV)) (d : DV) (s : Nat) : Slots := mkT 35 [(0, .list 1 xs), (2, d), (3, iN s)]
abbrev snF (d : DV) (s : Nat) : Slots := mkT 35 [(2, d), (3, iN s)]
abbrev mnI (xs : List (List DV)) (e : Int) (g : Nat) : Prop := DV.int .i64 (if e < (xs.length : Int) then e else (xs.length : Int)) = iN g
set_option maxRecDepth 1000000 in
theorem sn1 (xs ps qs : List (List DV)) (d d' : DV) (h h' : Hp) (mm : Mut) (s m e f g : Nat) : zsee Try.prog tab ftab cSq kSn [0, 2, 3] snL (snS xs d s) h [(8, .b true), (10, .q (iN m)), (12, .b true), (14, .w (iN e)), (18, .n (.list 1 ps)), (19, .q (.list 1 ps)), (21, .h d' h' mm), (30, .w (iN f)), (31, .w (iN g)), (32, .n (.list 1 qs))] =
    some (.normal, snS qs d' s, h', (decide ((xs.length : Int) ≥ 4) = true) :: (cSq fAn [.list 1 xs] h = some (iN m, h, none)) :: (decide ((m : Int) > 0) = true) :: (DV.int .i64 (IntKind.i64.wrap (4 + (m : Int))) = iN e) :: (sliceD tab h bTI (.list 1 xs) (some (.int .i64 4)) (some (iN e)) none = some (.list 1 ps)) :: (cSq fBc [.list 1 ps] h = some (.list 1 ps, h, none)) ::
      (builtinD tab (pushH h 0 22 [.list 1 ps]) .append [d, .sl h.n 0 1 1 1] tyF = some (d', h', mm)) :: (DV.int .i64 (IntKind.i64.wrap ((e : Int) + Int.tmod (IntKind.i64.wrap (4 - Int.tmod (e : Int) 4)) 4)) = iN f) :: mnI xs f g :: (sliceD tab h' bTI (.list 1 xs) (some (iN g)) none none = some (.list 1 qs)) :: []) := by kernel_rfl
set_option maxRecDepth 1000000 in
theorem sn0 (xs qs : List (List DV)) (d : DV) (h : Hp) (s s' g : Nat) : zsee Try.prog tab ftab cSq kSn [0, 2, 3] snL (snS xs d s) h [(8, .b true), (10, .q (iN 0)), (23, .w (iN s')), (31, .w (iN g)), (32, .n (.list 1 qs))] =
    some (.normal, snS qs d s', h, (decide ((xs.length : Int) ≥ 4) = true) :: (cSq fAn [.list 1 xs] h = some (iN 0, h, none)) :: (DV.int .i64 (IntKind.i64.wrap ((s : Int) + 1)) = iN s') :: mnI xs 4 g :: (sliceD tab h bTI (.list 1 xs) (some (iN g)) none none = some (.list 1 qs)) :: []) := by kernel_rfl
set_option maxRecDepth 1000000 in
theorem snO (xs : List (List DV)) (d : DV) (h : Hp) (s : Nat) : zsee Try.prog tab ftab cSq kSn [2, 3] snL (snS xs d s) h [(8, .b false)] = some (.exit 0, snF d s, h, (decide ((xs.length : Int) ≥ 4) = false) :: []) := by kernel_rfl
set_option maxRecDepth 1000000 in
theorem snR (xs : List (List DV)) (d : DV) (h : Hp) (s : Nat) : zans Try.prog tab ftab cSq fSn [.list 1 xs] [(0, .l [0, 2, 3] (.exit 0) (snF d s) h)] = some (.tuple [d, iN s], h, (Goes Try.prog tab kSn (.loop snL) (snS xs .nil 0) h00 (.exit 0) (snF d s) h) :: []) := by kernel_rfl
end
end Go.Proofs.Ytmpmhkjfpeagkaa
