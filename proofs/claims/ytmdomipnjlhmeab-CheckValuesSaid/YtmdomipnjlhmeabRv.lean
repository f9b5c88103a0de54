/- The reference's check values, as contracts. -/
import Derived.Test.YtmdomipnjlhmeabRm
namespace Go.Proofs.Ytmdomipnjlhmeab
open Go.RowKit

noncomputable section
theorem bitsL_lt (bs : List UInt8) : ∀ v ∈ bitsL bs, v < 2 := fun v hv => by
  simp only [bitsL, List.mem_flatMap] at hv
  obtain ⟨c, _, h⟩ := hv
  simp only [bit8, List.mem_cons, List.not_mem_nil, or_false] at h
  omega
theorem bits_ref (b : Bs) (hne : b.1 ≠ []) : cRef 60 [byL b.1] ⟨0, []⟩ = some (.sl 0 0 1 (bitsL b.1).length (bitsL b.1).length, ownH 3 (kBits b.1) (celI (bitsL b.1)), none) := by
  have := cBits_at (hp := ⟨0, []⟩) (d := byL b.1) b ⟨rfl, rfl⟩
  rw [bBits, if_neg hne] at this
  rw [bitsL_length]
  exact orK_left this
theorem bits_ref0 : cRef 60 [byL []] ⟨0, []⟩ = some (.nil, ⟨0, []⟩, none) := by
  have := cBits_at (hp := ⟨0, []⟩) (d := byL []) ⟨[], by decide⟩ ⟨rfl, rfl⟩
  rw [bBits, if_pos rfl] at this
  exact orK_left this
theorem in32 (r : BitVec 32) : DV.int .u64 (IntKind.u64.wrap (r.toNat : Int)) = x32 r := by
  have h := r.isLt
  rw [wrapU rfl, Nat.mod_eq_of_lt (by show _ < 2 ^ 64; omega)]
  rfl
theorem fin32 (r : BitVec 32) : DV.int .u32 (IntKind.u32.wrap (r.toNat : Int)) = w32 r := by
  rw [wrapU rfl, Nat.mod_eq_of_lt (show r.toNat < 2 ^ IntKind.u32.bits from r.isLt)]
  rfl
theorem fin8 (r : BitVec 8) : DV.int .u8 (IntKind.u8.wrap (IntKind.u64.wrap (255 - (r.toNat : Int)))) = w8 (~~~ r) := by
  have h := r.isLt
  rw [show (255 - (r.toNat : Int)) = ((255 - r.toNat : Nat) : Int) by omega, wrapU rfl, Nat.mod_eq_of_lt (by show _ < 2 ^ 64; omega), wrapU rfl, Nat.mod_eq_of_lt (by show _ < 2 ^ 8; omega), w8, BitVec.toNat_not]
theorem ansR32 (x : BitVec 32 × Bs) : Ans Try.prog 37 [w32 x.1, byL x.2.1] (w32 (ext32 x.1 x.2.1)) ⟨0, []⟩ := by
  obtain ⟨r, bs, hb⟩ := x
  by_cases hne : bs = []
  · subst hne
    exact zflat_ok tab_ok mixed fun_ok cRef_ok (runN320 (by1 []) r r) (.cons (in32 r) (.cons bits_ref0 (.cons (fin32 r) .nil)))
  · have e : ext32 r bs = (bitsL bs).foldl bst32 r := (bytes_ok32 bs r).symm
    rw [e]
    exact zflat_ok tab_ok mixed fun_ok cRef_ok (runR32 (by1 bs) (bitsL bs).length (kBits bs) r ((bitsL bs).foldl bst32 r) _ (celI (bitsL bs))) (.cons (in32 r) (.cons (bits_ref ⟨bs, hb⟩ hne) (.cons (loopR32 (bitsL bs) (kBits bs) (bitsL_lt bs) (by rw [bitsL_length]; omega) r) (.cons (fin32 _) .nil))))
theorem ansR8 (b : Bs) : Ans Try.prog 34 [byL b.1] (w8 (crc8 b.1)) ⟨0, []⟩ := by
  obtain ⟨bs, hb⟩ := b
  by_cases hne : bs = []
  · subst hne
    exact zflat_ok tab_ok mixed fun_ok cRef_ok (runN80 (by1 []) _) (.cons bits_ref0 (.cons (fin8 255#8) .nil))
  · have e : crc8 bs = ~~~ ((bitsL bs).foldl bst8 255#8) := by rw [bytes_ok8]; rfl
    rw [e]
    exact zflat_ok tab_ok mixed fun_ok cRef_ok (runR8 (by1 bs) (bitsL bs).length (kBits bs) ((bitsL bs).foldl bst8 255#8) _ (celI (bitsL bs))) (.cons (bits_ref ⟨bs, hb⟩ hne) (.cons (loopR8 (bitsL bs) (kBits bs) (bitsL_lt bs) (by rw [bitsL_length]; omega) 255#8) (.cons (fin8 _) .nil)))
def cR32 : CallF := conC 37 (fun x : BitVec 32 × Bs => [w32 x.1, byL x.2.1]) fun x => (w32 (ext32 x.1 x.2.1), ⟨0, []⟩)
theorem cR32_ok : CallOk Try.prog cR32 := conC_ok ansR32 fun _ => fine_w32 _
theorem cR32_at {hp : Hp} {d : DV} (r : BitVec 32) (b : Bs) (h : frz1 hp d (byL b.1)) : cR32 37 [w32 r, d] hp = some (w32 (ext32 r b.1), hp, none) :=
  conC_at (f0 := 37) (A := fun x : BitVec 32 × Bs => [w32 x.1, byL x.2.1]) (B := fun x => (w32 (ext32 x.1 x.2.1), ⟨0, []⟩)) (fun x y hxy => by
    simp only [List.cons.injEq, and_true] at hxy
    simp only [w32_inj hxy.1, byL_inj' hxy.2]) (r, b) ⟨⟨rfl, rfl⟩, h, trivial⟩
def cR8 : CallF := conC 34 (fun b : Bs => [byL b.1]) fun b => (w8 (crc8 b.1), ⟨0, []⟩)
theorem cR8_ok : CallOk Try.prog cR8 := conC_ok ansR8 fun _ => fine_w8 _
theorem cR8_at {hp : Hp} {d : DV} (b : Bs) (h : frz1 hp d (byL b.1)) : cR8 34 [d] hp = some (w8 (crc8 b.1), hp, none) :=
  conC_at (f0 := 34) (A := fun b : Bs => [byL b.1]) (B := fun b => (w8 (crc8 b.1), ⟨0, []⟩)) (fun x y hxy => by
    simp only [List.cons.injEq, and_true] at hxy
    simp only [byL_inj' hxy]) b ⟨h, trivial⟩
theorem sub32 (r : BitVec 32) : DV.int .u32 (IntKind.u32.wrap (4294967295 - (r.toNat : Int))) = w32 (~~~ r) := by
  have h := r.isLt
  rw [show (4294967295 - (r.toNat : Int)) = ((4294967295 - r.toNat : Nat) : Int) by omega, wrapU rfl, Nat.mod_eq_of_lt (by show _ < 2 ^ 32; omega), w32, BitVec.toNat_not]
set_option maxRecDepth 1000000 in
theorem runRC (d : DV) (R Q : BitVec 32) : zflat (zans Try.prog tab ftab cR32 35 [d] [(4, .q (w32 R)), (5, .w (w32 Q))]) =
    some (w32 Q, [cR32 37 [.int .u32 4294967295, d] ⟨0, []⟩ = some (w32 R, ⟨0, []⟩, none), DV.int .u32 (IntKind.u32.wrap (4294967295 - (R.toNat : Int))) = w32 Q]) := by
  kernel_rfl
theorem ansRC (b : Bs) : Ans Try.prog 35 [byL b.1] (w32 (crc32 b.1)) ⟨0, []⟩ :=
  zflat_ok tab_ok mixed fun_ok cR32_ok (runRC (byL b.1) (ext32 4294967295#32 b.1) (crc32 b.1)) (.cons (cR32_at (d := byL b.1) 4294967295#32 b ⟨rfl, rfl⟩) (.cons (sub32 _) .nil))
def cRC : CallF := conC 35 (fun b : Bs => [byL b.1]) fun b => (w32 (crc32 b.1), ⟨0, []⟩)
theorem cRC_ok : CallOk Try.prog cRC := conC_ok ansRC fun _ => fine_w32 _
theorem cRC_at {hp : Hp} {d : DV} (b : Bs) (h : frz1 hp d (byL b.1)) : cRC 35 [d] hp = some (w32 (crc32 b.1), hp, none) :=
  conC_at (f0 := 35) (A := fun b : Bs => [byL b.1]) (B := fun b => (w32 (crc32 b.1), ⟨0, []⟩)) (fun x y hxy => by
    simp only [List.cons.injEq, and_true] at hxy
    simp only [byL_inj' hxy]) b ⟨h, trivial⟩
end
end Go.Proofs.Ytmdomipnjlhmeab
