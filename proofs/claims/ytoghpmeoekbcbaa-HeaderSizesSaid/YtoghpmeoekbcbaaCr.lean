/- The check values, as contracts. -/
import Derived.Test.YtoghpmeoekbcbaaE32
namespace Go.Proofs.Ytoghpmeoekbcbaa
open Go.RowKit

noncomputable section
abbrev Bs : Type := {bs : List UInt8 // bs.length < 2 ^ 30}
theorem cReg32 {hp : Hp} {d : DV} (r : BitVec 32) (o : Option Bs) (h : frz1 hp d (oDB o)) : cExt32 75 [w32 r, .int .u32 136331795, d] hp = some (w32 ((oBB o).foldl st32 r), hp, none) := by
  exact conC_at (f0 := 75) (A := A32) (B := B32) (fun x y hxy => by
    obtain ⟨r, o⟩ := x
    obtain ⟨r', o'⟩ := y
    simp only [A32, List.cons.injEq, true_and, and_true] at hxy
    simp only [B32, w32_inj hxy.1, oDB_inj hxy.2]) (r, o) ⟨⟨rfl, rfl⟩, ⟨rfl, rfl⟩, h, trivial⟩
theorem oDB_frz (hp : Hp) (o : Option Bs) : frz1 hp (oDB o) (oDB o) := by
  cases o with
  | none => exact ⟨rfl, rfl⟩
  | some b => exact ⟨rfl, rfl⟩
def ext32 (r : BitVec 32) (bs : List UInt8) : BitVec 32 := bs.foldl st32 r
def crc32 (bs : List UInt8) : BitVec 32 := ~~~ (ext32 4294967295#32 bs)
theorem not32 (r : BitVec 32) : DV.int .u32 (bitD .xor .u32 IntKind.u32.max (r.toNat : Int)) = w32 (~~~ r) := by
  rw [show IntKind.u32.max = ((2 ^ 32 - 1 : Nat) : Int) from rfl, xorU rfl (by decide) r.isLt]
  have : (~~~ r).toNat = (2 ^ 32 - 1) ^^^ r.toNat := by
    rw [BitVec.not_def, BitVec.toNat_xor, BitVec.toNat_allOnes]
  rw [w32, this]
theorem fine_w32 (r : BitVec 32) : Fine (w32 r) ⟨0, [], []⟩ := ⟨rfl, fun id o h => by simp [Hp.get_eq] at h, rfl⟩
set_option maxRecDepth 1000000 in
theorem runC32 (R Q : BitVec 32) (d : DV) : zans Try.prog tab ftab cExt32 35 [d] [(4, .c [(7, .q (w32 R))]), (5, .w (w32 Q))] =
    some (w32 Q, ⟨0, [], []⟩, [cExt32 75 [.int .u32 4294967295, .int .u32 136331795, d] ⟨0, [], []⟩ = some (w32 R, ⟨0, [], []⟩, none), DV.int .u32 (bitD .xor .u32 IntKind.u32.max (R.toNat : Int)) = w32 Q]) := by
  kernel_rfl
def AC (o : Option Bs) : List DV := [oDB o]
theorem ansC32 (o : Option Bs) : Ans Try.prog 35 (AC o) (w32 (crc32 (oBB o))) ⟨0, [], []⟩ :=
  zans_ok tab_ok mixed fun_ok cExt32_ok (runC32 (ext32 4294967295#32 (oBB o)) (crc32 (oBB o)) (oDB o)) (.cons ((cReg32 4294967295#32 o (oDB_frz _ _))) (.cons (not32 _) .nil))
def cC32 : ConF := conC 35 AC fun o => (w32 (crc32 (oBB o)), ⟨0, [], []⟩)
theorem cC32_ok : ConOk Try.prog cC32 := conC_ok ansC32 fun _ => fine_w32 _
theorem cC32_at {hp : Hp} {d : DV} (o : Option Bs) (h : frz1 hp d (oDB o)) : cC32 35 [d] hp = some (w32 (crc32 (oBB o)), hp, none) :=
  conC_at (f0 := 35) (A := AC) (fun x y hxy => by
    simp only [AC, List.cons.injEq, and_true] at hxy
    simp only [oDB_inj hxy]) o ⟨h, trivial⟩
end
end Go.Proofs.Ytoghpmeoekbcbaa
