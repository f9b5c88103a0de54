/- The check values, as contracts. -/
import Derived.Test.YtmdomipnjlhmeabE32
import Derived.Test.YtmdomipnjlhmeabE8
namespace Go.Proofs.Ytmdomipnjlhmeab
open Go.RowKit

noncomputable section
abbrev Bs : Type := {bs : List UInt8 // bs.length < 2 ^ 30}
def cReg : CallF := orK cExt32 cExt8
theorem cReg_ok : CallOk Try.prog cReg := orK_ok cExt32_ok cExt8_ok
theorem cReg32 {hp : Hp} {d : DV} (r : BitVec 32) (o : Option Bs) (h : frz1 hp d (oDB o)) : cReg 62 [w32 r, .int .u32 136331795, d] hp = some (w32 ((oBB o).foldl st32 r), hp, none) := by
  refine orK_left ?_
  exact conC_at (f0 := 62) (A := A32) (B := B32) (fun x y hxy => by
    obtain ⟨r, o⟩ := x
    obtain ⟨r', o'⟩ := y
    simp only [A32, List.cons.injEq, true_and, and_true] at hxy
    simp only [B32, w32_inj hxy.1, oDB_inj hxy.2]) (r, o) ⟨⟨rfl, rfl⟩, ⟨rfl, rfl⟩, h, trivial⟩
theorem cReg8 {hp : Hp} {d : DV} (r : BitVec 8) (o : Option Bs) (h : frz1 hp d (oDB o)) : cReg 59 [w8 r, .int .u8 97, d] hp = some (w8 ((oBB o).foldl st8 r), hp, none) := by
  refine orK_right (conC_other (by kernel_rfl)) ?_
  exact conC_at (f0 := 59) (A := A8) (B := B8) (fun x y hxy => by
    obtain ⟨r, o⟩ := x
    obtain ⟨r', o'⟩ := y
    simp only [A8, List.cons.injEq, true_and, and_true] at hxy
    simp only [B8, w8_inj hxy.1, oDB_inj hxy.2]) (r, o) ⟨⟨rfl, rfl⟩, ⟨rfl, rfl⟩, h, trivial⟩
theorem oDB_frz (hp : Hp) (o : Option Bs) : frz1 hp (oDB o) (oDB o) := by
  cases o with
  | none => exact ⟨rfl, rfl⟩
  | some b => exact ⟨rfl, rfl⟩
def ext32 (r : BitVec 32) (bs : List UInt8) : BitVec 32 := bs.foldl st32 r
def crc32 (bs : List UInt8) : BitVec 32 := ~~~ (ext32 4294967295#32 bs)
def crc8 (bs : List UInt8) : BitVec 8 := ~~~ (bs.foldl st8 255#8)
theorem not32 (r : BitVec 32) : DV.int .u32 (bitD .xor .u32 IntKind.u32.max (r.toNat : Int)) = w32 (~~~ r) := by
  rw [show IntKind.u32.max = ((2 ^ 32 - 1 : Nat) : Int) from rfl, xorU rfl (by decide) r.isLt]
  have : (~~~ r).toNat = (2 ^ 32 - 1) ^^^ r.toNat := by
    rw [BitVec.not_def, BitVec.toNat_xor, BitVec.toNat_allOnes]
  rw [w32, this]
theorem not8 (r : BitVec 8) : DV.int .u8 (bitD .xor .u8 IntKind.u8.max (r.toNat : Int)) = w8 (~~~ r) := by
  rw [show IntKind.u8.max = ((2 ^ 8 - 1 : Nat) : Int) from rfl, xorU rfl (by decide) r.isLt]
  have : (~~~ r).toNat = (2 ^ 8 - 1) ^^^ r.toNat := by
    rw [BitVec.not_def, BitVec.toNat_xor, BitVec.toNat_allOnes]
  rw [w8, this]
set_option maxRecDepth 1000000 in
theorem runExt (r R : BitVec 32) (d : DV) : zans Try.prog tab ftab cReg 36 [w32 r, d] [(7, .q (w32 R))] =
    some (w32 R, ⟨0, []⟩, [cReg 62 [w32 r, .int .u32 136331795, d] ⟨0, []⟩ = some (w32 R, ⟨0, []⟩, none)]) := by
  kernel_rfl
def AE (x : BitVec 32 × Option Bs) : List DV := [w32 x.1, oDB x.2]
def BE (x : BitVec 32 × Option Bs) : DV × Hp := (w32 (ext32 x.1 (oBB x.2)), ⟨0, []⟩)
theorem fine_w32 (r : BitVec 32) : Fine (w32 r) ⟨0, []⟩ := ⟨rfl, fun id o h => by simp [Hp.get_eq] at h, rfl⟩
theorem fine_w8 (r : BitVec 8) : Fine (w8 r) ⟨0, []⟩ := ⟨rfl, fun id o h => by simp [Hp.get_eq] at h, rfl⟩
theorem ansExt (x : BitVec 32 × Option Bs) : Ans Try.prog 36 (AE x) (BE x).1 (BE x).2 :=
  zans_ok tab_ok mixed fun_ok cReg_ok (runExt x.1 (ext32 x.1 (oBB x.2)) (oDB x.2)) (.cons ((cReg32 x.1 x.2 (oDB_frz _ _))) .nil)
set_option maxRecDepth 1000000 in
theorem runC32 (R Q : BitVec 32) (d : DV) : zans Try.prog tab ftab cReg 31 [d] [(4, .c [(7, .q (w32 R))]), (5, .w (w32 Q))] =
    some (w32 Q, ⟨0, []⟩, [cReg 62 [.int .u32 4294967295, .int .u32 136331795, d] ⟨0, []⟩ = some (w32 R, ⟨0, []⟩, none), DV.int .u32 (bitD .xor .u32 IntKind.u32.max (R.toNat : Int)) = w32 Q]) := by
  kernel_rfl
def AC (o : Option Bs) : List DV := [oDB o]
theorem ansC32 (o : Option Bs) : Ans Try.prog 31 (AC o) (w32 (crc32 (oBB o))) ⟨0, []⟩ :=
  zans_ok tab_ok mixed fun_ok cReg_ok (runC32 (ext32 4294967295#32 (oBB o)) (crc32 (oBB o)) (oDB o)) (.cons ((cReg32 4294967295#32 o (oDB_frz _ _))) (.cons (not32 _) .nil))
set_option maxRecDepth 1000000 in
theorem runC8 (R Q : BitVec 8) (d : DV) : zans Try.prog tab ftab cReg 33 [d] [(4, .q (w8 R)), (5, .w (w8 Q))] =
    some (w8 Q, ⟨0, []⟩, [cReg 59 [.int .u8 255, .int .u8 97, d] ⟨0, []⟩ = some (w8 R, ⟨0, []⟩, none), DV.int .u8 (bitD .xor .u8 IntKind.u8.max (R.toNat : Int)) = w8 Q]) := by
  kernel_rfl
theorem ansC8 (o : Option Bs) : Ans Try.prog 33 (AC o) (w8 (crc8 (oBB o))) ⟨0, []⟩ :=
  zans_ok tab_ok mixed fun_ok cReg_ok (runC8 ((oBB o).foldl st8 255#8) (crc8 (oBB o)) (oDB o)) (.cons ((cReg8 255#8 o (oDB_frz _ _))) (.cons (not8 _) .nil))
set_option maxRecDepth 1000000 in
theorem runAl : zflat (zans Try.prog tab ftab noC 30 [] []) = some (.bool true, []) := by
  kernel_rfl
def cAl3 : CallF := fixC 30 (.bool true)
theorem cAl3_ok : CallOk Try.prog cAl3 := fixC_ok (zflat_ok tab_ok mixed fun_ok noC_ok runAl .nil) rfl
/-! ### The contracts of the chapter's functions -/
def cExtend : CallF := conC 36 AE BE
theorem cExtend_ok : CallOk Try.prog cExtend := conC_ok ansExt fun _ => fine_w32 _
def cC32 : CallF := conC 31 AC fun o => (w32 (crc32 (oBB o)), ⟨0, []⟩)
theorem cC32_ok : CallOk Try.prog cC32 := conC_ok ansC32 fun _ => fine_w32 _
def cC8 : CallF := conC 33 AC fun o => (w8 (crc8 (oBB o)), ⟨0, []⟩)
theorem cC8_ok : CallOk Try.prog cC8 := conC_ok ansC8 fun _ => fine_w8 _
def cCrc : CallF := orK cAl3 (orK cExtend (orK cC32 cC8))
theorem cCrc_ok : CallOk Try.prog cCrc := orK_ok cAl3_ok (orK_ok cExtend_ok (orK_ok cC32_ok cC8_ok))
theorem fixC_other {f0 f : FuncId} {d : DV} {args : List DV} {hp : Hp} (h : Nat.beq f f0 = false) : fixC f0 d f args hp = none := by
  unfold fixC
  rw [h]
theorem cCrc_ext {hp : Hp} {d : DV} (r : BitVec 32) (o : Option Bs) (h : frz1 hp d (oDB o)) : cCrc 36 [w32 r, d] hp = some (w32 (ext32 r (oBB o)), hp, none) := by
  refine orK_right (fixC_other (by kernel_rfl)) (orK_left ?_)
  exact conC_at (f0 := 36) (A := AE) (B := BE) (fun x y hxy => by
    obtain ⟨r, o⟩ := x
    obtain ⟨r', o'⟩ := y
    simp only [AE, List.cons.injEq, and_true] at hxy
    simp only [BE, w32_inj hxy.1, oDB_inj hxy.2]) (r, o) ⟨⟨rfl, rfl⟩, h, trivial⟩
theorem cCrc_32 {hp : Hp} {d : DV} (o : Option Bs) (h : frz1 hp d (oDB o)) : cCrc 31 [d] hp = some (w32 (crc32 (oBB o)), hp, none) := by
  refine orK_right (fixC_other (by kernel_rfl)) (orK_right (conC_other (by kernel_rfl)) (orK_left ?_))
  exact conC_at (f0 := 31) (A := AC) (fun x y hxy => by
    simp only [AC, List.cons.injEq, and_true] at hxy
    simp only [oDB_inj hxy]) o ⟨h, trivial⟩
theorem cCrc_8 {hp : Hp} {d : DV} (o : Option Bs) (h : frz1 hp d (oDB o)) : cCrc 33 [d] hp = some (w8 (crc8 (oBB o)), hp, none) := by
  refine orK_right (fixC_other (by kernel_rfl)) (orK_right (conC_other (by kernel_rfl)) (orK_right (conC_other (by kernel_rfl)) ?_))
  exact conC_at (f0 := 33) (A := AC) (fun x y hxy => by
    simp only [AC, List.cons.injEq, and_true] at hxy
    simp only [oDB_inj hxy]) o ⟨h, trivial⟩
end
end Go.Proofs.Ytmdomipnjlhmeab
