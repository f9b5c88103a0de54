/- Bytes as strings. -/
import Derived.Test.YtejlbkhddehaiaaQb
import Derived.Test.YtejlbkhddehaiaaQa
namespace Go.Proofs.Ytejlbkhddehaiaa
open Go.RowKit

noncomputable section
abbrev bTI : TI := ⟨.slice 5, 1, 24, [.nil], true⟩
theorem tab_u8 : tab 5 = some u8TI := by kernel_rfl
/-- a datum that shows bytes -/
def Sh (hp : Hp) (d : DV) (bs : List UInt8) : Prop := d = byL bs ∨ ∃ id off o c, d = .sl id off 1 bs.length c ∧ hp.get id = some o ∧ (∀ (i : Nat) (b : UInt8), bs[i]? = some b → o.cs[off + i]? = some (i8 b))
theorem Sh.cont {hp : Hp} {d : DV} {bs : List UInt8} (h : Sh hp d bs) : contD hp 1 d = some (bs.length, celB bs) := by
  rcases h with rfl | ⟨id, off, o, c, rfl, h1, h2⟩
  · exact contD_list hp bs
  · cases bs with
    | nil => rfl
    | cons b bs =>
      have hlt : ∀ i, i < (b :: bs).length → off + i < o.cs.length := fun i hi => (List.getElem?_eq_some_iff.1 (h2 i _ (List.getElem?_eq_getElem hi))).1
      have hend := hlt bs.length (by simp)
      have hle : Nat.ble (off + (bs.length + 1) * 1) o.cs.length = true := bleT (by omega)
      have hcs : (o.cs.drop off).take ((bs.length + 1) * 1) = celB (b :: bs) := by
        refine List.ext_getElem? fun i => ?_
        rw [Nat.mul_one, List.getElem?_take, List.getElem?_drop]
        by_cases hi : i < bs.length + 1
        · have hb : (b :: bs)[i]? = some (b :: bs)[i] := List.getElem?_eq_getElem (by simpa using hi)
          rw [if_pos hi, h2 i _ hb, celB, List.getElem?_map, hb]
          rfl
        · rw [if_neg hi, List.getElem?_eq_none (by rw [celB_length]; simp; omega)]
      show (match hp.get id with | some o => (match Nat.ble (off + (bs.length + 1) * 1) o.cs.length with | true => some (bs.length + 1, (o.cs.drop off).take ((bs.length + 1) * 1)) | false => none) | none => none) = _
      rw [h1]
      simp only [hle, hcs]
      rfl
theorem bytesOf_cel (bs : List UInt8) : bytesOf (celB bs) = some bs := by
  induction bs with
  | nil => rfl
  | cons b bs ih =>
    show (match bytesOf (celB bs) with | some l => some (UInt8.ofNat ((b.toNat : Int).toNat) :: l) | none => none) = _
    rw [ih, Int.toNat_natCast, UInt8.ofNat_toNat]
theorem eqBytes_iff (a b : List UInt8) : eqBytes a b = decide (a = b) := by
  induction a generalizing b with
  | nil => cases b <;> simp [eqBytes]
  | cons x a ih =>
    cases b with
    | nil => simp [eqBytes]
    | cons y b =>
      simp only [eqBytes, ih, List.cons.injEq]
      by_cases h : x = y
      · subst h
        rw [beqT rfl]
        simp
      · have : x.toNat ≠ y.toNat := fun e => h (UInt8.toNat_inj.1 e)
        rw [beqF this]
        simp [h]
theorem conv_str {hp : Hp} {d : DV} {bs : List UInt8} (h : Sh hp d bs) : convD tab hp 37 9 d = some (.str ⟨bs.toArray⟩, hp, none) := by
  have hc := h.cont
  have t1 : tab 37 = some bTI := by kernel_rfl
  have t2 : tab 9 = some ⟨.str, 1, 16, [.str .empty], true⟩ := by kernel_rfl
  rcases h with rfl | ⟨id, off, o, c, rfl, h1, h2⟩
  · unfold byL at hc ⊢
    simp only [convD, t1, t2, tab_u8, hc, bytesOf_cel]
  · simp only [convD, t1, t2, tab_u8, hc, bytesOf_cel]
end
end Go.Proofs.Ytejlbkhddehaiaa
