/- Join as a list; the reference's SameAll: contracts. -/
import Derived.Test.YtioglkmdapghhaaSt
import Derived.Test.YtioglkmdapghhaaJp
namespace Go.Proofs.Ytioglkmdapghhaa
open Go.RowKit

noncomputable section
theorem i8_inj {a b : UInt8} (h : i8 a = i8 b) : a = b := by
  unfold i8 at h
  injection h with _ h
  exact UInt8.toNat_inj.1 (by omega)
theorem fs1_inj : ∀ {a b : List (List UInt8)}, fs1 a = fs1 b → a = b
  | [], [], _ => rfl
  | [], _ :: _, h => by cases h
  | _ :: _, [], h => by cases h
  | a :: l, b :: m, h => by
    simp only [fs1, List.map_cons, List.cons.injEq, and_true, byL, DV.list.injEq, true_and] at h
    rw [by1_inj h.1, fs1_inj h.2]
theorem fsD_inj {a b : List (List UInt8)} (h : fsD a = fsD b) : a = b := by
  unfold fsD at h
  injection h with _ h
  exact fs1_inj h
/-! ### Join, its answer being a list -/
def joD (fs : List (List UInt8)) : DV := match decide (fs.length > 256) with
  | true => .tuple [.list 1 [], .int .i64 4]
  | false => match longF fs with
    | true => .tuple [.list 1 [], .int .i64 11]
    | false => .tuple [byL (joinB fs), .int .i64 0]
theorem by_frz {L : List Nat} {hp : Hp} (bs : List UInt8) (i : Nat) (cs : List DV) (h : (by1 bs)[i]? = some cs) : cs.length = 1 ∧ scals cs = true ∧ ∀ (j : Nat) (d : DV), cs[j]? = some d → ∃ e, (celB bs)[0 + (i * 1 + j)]? = some e ∧ FrzD L hp e d := by
  unfold by1 at h
  rw [List.getElem?_map, Option.map_eq_some_iff] at h
  obtain ⟨f, hf, rfl⟩ := h
  refine ⟨rfl, rfl, fun j d hd => ?_⟩
  cases j with
  | zero =>
    cases hd
    refine ⟨i8 f, ?_, .flat _ rfl⟩
    rw [show 0 + (i * 1 + 0) = i by omega, celB, List.getElem?_map, hf]
    rfl
  | succ j => simp at hd
theorem jo_flat (fs : List (List UInt8)) : Ans Try.prog fJo [fsD fs] (joD fs) ⟨0, [], []⟩ := by
  have h := jo_ans fs
  unfold joA at h
  unfold joD
  cases hm : decide (fs.length > 256) with
  | true =>
    rw [hm] at h
    exact Ans.nil1 h
  | false =>
    rw [hm] at h
    cases hl : longF fs with
    | true =>
      rw [hl] at h
      exact Ans.nil1 h
    | false =>
      rw [hl] at h
      exact AnsH.frz h rfl (FrzL.tuple ⟨FrzD.slice (o := oR 1 (celB (joinB fs))) rfl rfl (fun h => (by cases h)) (by1_length (joinB fs)) (by_frz (joinB fs)), FrzD.int' _ _, trivial⟩)
def cJo : ConF := liftC (eqC fJo (fun fs : List (List UInt8) => [fsD fs]) fun fs => (joD fs, ⟨0, [], []⟩))
theorem cJo_ok : ConOk Try.prog cJo := liftC_ok (eqC_ok jo_flat fun _ => rfl)
theorem joD_flat (fs : List (List UInt8)) : flatD (joD fs) = true := by
  unfold joD
  split
  · rfl
  · split <;> rfl
theorem cJo_at (hp : Hp) (fs : List (List UInt8)) : cJo fJo [fsD fs] hp = some (joD fs, hp, none) :=
  lift_at (A := fun fs : List (List UInt8) => [fsD fs]) (D := joD) (fun x y hxy => by
    simp only [List.cons.injEq, and_true] at hxy
    rw [fsD_inj hxy]) hp fs rfl (joD_flat fs)
end
end Go.Proofs.Ytioglkmdapghhaa
