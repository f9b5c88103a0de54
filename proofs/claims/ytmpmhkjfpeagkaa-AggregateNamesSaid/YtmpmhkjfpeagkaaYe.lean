/- Unpack: the contract. -/
import Derived.Test.YtmpmhkjfpeagkaaYd
namespace Go.Proofs.Ytmpmhkjfpeagkaa
open Go.RowKit

noncomputable section
def celP (l : List Pk) : List DV := (pkR l).flatten
theorem celP_snoc (l : List Pk) (p : Pk) : celP (l ++ [p]) = celP l ++ pkD p := by simp [celP, pkR]
theorem celP_length (l : List Pk) : (celP l).length = l.length * 13 := by
  induction l with
  | nil => rfl
  | cons p l ih =>
    simp only [celP, pkR, List.map_cons, List.flatten_cons, List.length_append, List.length_cons] at ih ⊢
    rw [ih]
    show 13 + _ = _
    omega
theorem flat_pkD (p : Pk) : ∀ d ∈ pkD p, flat0 d = true := fun d hd => by
  simp only [pkD, List.mem_cons, List.not_mem_nil, or_false] at hd
  rcases hd with h | h | h | h | h | h | h | h | h | h | h | h | h <;> subst h <;> rfl
theorem celP_flat (l : List Pk) : ∀ d ∈ celP l, flat0 d = true := fun d hd => by
  simp only [celP, pkR, List.mem_flatten, List.mem_map] at hd
  obtain ⟨_, ⟨p, _, rfl⟩, h⟩ := hd
  exact flat_pkD p d h
theorem flat_rowP {h : Hp} {i : Nat} {o : Ob} {l : List Pk} (hg : h.get i = some o) (ho : o.cs = celP l) : FlatIn [i] h := by
  intro id o' hid hg' a ha
  obtain rfl : id = i := List.mem_singleton.1 hid
  rw [hg] at hg'
  cases hg'
  rw [ho] at ha
  exact celP_flat l a ha
def pTI : TI := match tab 30 with
  | some j => j
  | none => ⟨.struct [], 0, 0, [], true⟩
theorem app_tabP (hp : Hp) (d x : DV) : builtinD tab hp .append [d, x] tyK = match contD hp 13 x with
    | some (m, news) => appH hp 30 pTI d m news
    | none => none := by kernel_rfl
theorem pTI_ok : pTI.size = 13 ∧ Nat.ble pTI.bytes 64 = true ∧ ∃ z zs, pTI.zero = z :: zs := ⟨by kernel_rfl, by kernel_rfl, .int .u8 0, [i8 0, i8 0, i8 0, i8 0, i8 0, i8 0, i8 0, i8 0, i8 0, i8 0, i8 0, .nil], by kernel_rfl⟩
theorem contP {hp : Hp} {id : Nat} {o : Ob} {p : Pk} (hg : hp.get id = some o) (ho : o.cs = pkD p) : contD hp 13 (.sl id 0 13 1 1) = some (0 + 1, pkD p) := by
  simp only [contD, hg, ho]
  rfl
theorem app_pk {p : Pk} {cl : List DV} {n : Nat} (hc : cl.length = n * 13) (hn : n ≤ 2 ^ 20) : apB (by1 p.d) cl n p.t0 p.t1 p.t2 p.t3 p.t4 p.t5 p.f0 p.f1 p.f2 p.f3 p.f4 p.f5 := by
  obtain ⟨h2, h3, z, zs, h1⟩ := pTI_ok
  have hb := Nat.le_of_ble_eq_true h3
  unfold apB
  rw [app_tabP, contP (p := p) (id := 2) rfl rfl]
  have hf := fitB_le2 (n := n + 1) (b := pTI.bytes) (by omega) hb
  have b1 : Nat.ble (n + 1) n = false := bleF (by omega)
  have b2 : Nat.ble (0 + n * 13) cl.length = true := bleT (by omega)
  have b3 : Nat.beq (0 + n * 13) cl.length = true := beqT (by omega)
  have hg : (H3b (by1 p.d) cl p.t0 p.t1 p.t2 p.t3 p.t4 p.t5 p.f0 p.f1 p.f2 p.f3 p.f4 p.f5).get 0 = some (oK 1 cl) := rfl
  show appH _ _ pTI (.sl 0 0 13 n n) (0 + 1) (pkD p) = _
  simp only [appH, h1, h2, hg, Nat.zero_add, hf, b1, show Nat.beq 13 0 = false from rfl, show Nat.beq 13 13 = true from rfl, List.drop_zero]
  rw [Nat.zero_add] at b2 b3
  simp only [b2, b3]
  rfl
end
end Go.Proofs.Ytmpmhkjfpeagkaa
