/- Rows of bytes of one's own, as they grow; rows for what is put. -/
import Derived.Test.YtioglkmdapghhaaSw
import Derived.Test.YtioglkmdapghhaaVr
namespace Go.Proofs.Ytioglkmdapghhaa
open Go.RowKit

noncomputable section
abbrev tyB : List Nat := [22, 22]
abbrev ownH (e : TypeId) (k : Nat) (cl : List DV) : Hp := ⟨1, [⟨k, 0, e, cl⟩], []⟩
def flB (bs : List UInt8) : DV × Hp := (.sl 0 0 1 bs.length bs.length, ownH 5 1 (celB bs))
theorem plain_own (e k : Nat) (bs : List UInt8) : Plain (ownH e k (celB bs)) := fun id o h d hd => by
  have h0 : id = 0 := by
    have := Hp.get_lt h
    simp only at this
    omega
  subst h0
  cases h
  simp only [celB, List.mem_map] at hd
  obtain ⟨c, _, rfl⟩ := hd
  rfl
theorem fine_flB (bs : List UInt8) : Fine (flB bs).1 (flB bs).2 := ⟨rfl, plain_own _ _ bs, rfl⟩
theorem celB_get {bs : List UInt8} {i : Nat} {c : UInt8} (h : bs[i]? = some c) : (celB bs)[0 + i]? = some (i8 c) := by
  rw [Nat.zero_add, celB, List.getElem?_map, h]
  rfl
theorem seenV_forget {hp : Hp} {id : Nat} {o : Ob} {d d' : DV} (hg : hp.get id = some o) (hpl : ∀ x ∈ o.cs, plain x = true) (hl : hp.ls = []) (hd : ren3 [id] d = some d') : SeenV d hp d' (ownH o.t 1 o.cs) := by
  intro W0 S0 E w v hs hv
  refine ⟨E.ren [id] fun _ => False, .up (E := E) (E' := E.ren [id] fun _ => False) (fun _ h => h) rfl (fun i => by rw [hl]) _, ?_, ren3_ok (fun _ _ _ _ h => h.elim) hv hd⟩
  have h0 : ∀ (i j : Nat), ([id] : List Nat)[i]? = some j → i = 0 ∧ j = id := fun i j h => by
    cases i with
    | zero => simp at h; exact ⟨rfl, h.symm⟩
    | succ i => simp at h
  refine ⟨hs.bel, ?_, ?_, fun i _ h => absurd h (by omega), ?_, hs.ro, hs.olds, Nat.zero_le _, .none rfl (fun i => yb_none hs.ys hl i)⟩
  · rintro i ⟨j, hi, hD⟩
    obtain ⟨rfl, rfl⟩ := h0 i j hi
    obtain ⟨o', h1, k0, k1, vs, k2, k3, k4, k5⟩ := hs.ob j hD
    rw [hg] at h1
    cases h1
    exact ⟨⟨1, 0, o.t, o.cs⟩, rfl, ⟨fun h => (by cases h), fun h => h.elim⟩, k1, vs, k2, k3, k4, k5.1, fun q u v hq hv => plain_ok (k5.2 q u v hq hv) (hpl u (List.mem_of_getElem? hq))⟩
  · rintro i ⟨j, hi, hD⟩ _
    obtain ⟨rfl, rfl⟩ := h0 i j hi
    exact hs.own j hD (Nat.zero_le _)
  · rintro i j oi oj ⟨x, hi, _⟩ ⟨y, hj, _⟩ hne
    exact absurd ((h0 i x hi).1.trans (h0 j y hj).1.symm) hne
/-- a slice of one's own that begins its object -/
def SbO (e : TypeId) (hp : Hp) (d : DV) (cl : List DV) : Prop := ∃ id o, d = .sl id 0 1 cl.length cl.length ∧ hp.get id = some o ∧ (o.k = 0 ∨ o.k = 1 ∨ o.k = 3) ∧ o.t = e ∧ o.cs = cl
theorem SbO.push {e : TypeId} {hp : Hp} {d : DV} {cl : List DV} (h : SbO e hp d cl) (o : Ob) : SbO e (hp.push o) d cl := by
  obtain ⟨id, o', h0, h1, h2⟩ := h
  refine ⟨id, o', h0, ?_, h2⟩
  rw [Hp.get_push, if_neg (Nat.ne_of_lt (Hp.get_lt h1))]
  exact h1
theorem fitB_le2 {n b : Nat} (h : n ≤ 2 ^ 40) (hb : b ≤ 64) : fitB n b = true := by
  have h1 : Nat.ble n mxL = true := bleT (Nat.le_trans h (by decide))
  have h3 : n * b ≤ 2 ^ 40 * 64 := Nat.mul_le_mul h hb
  have h2 : Nat.ble (n * b) mxB = true := bleT (Nat.le_trans h3 (by decide))
  simp only [fitB, h1, h2, Bool.and_self]
/-- the caller's loops stay -/
theorem appO {e : TypeId} {j : TI} {z : DV} {zs : List DV} (hz : j.zero = z :: zs) (hs : j.size = 1) (hby : j.bytes ≤ 64) {hp : Hp} {d : DV} {cl news : List DV} (hd : SbO e hp d cl) {m : Nat} (hm : news.length = m) (hl : cl.length + m ≤ 2 ^ 40) :
    ∃ d' hp' mm, appH hp e j d m news = some (d', hp', mm) ∧ SbO e hp' d' (cl ++ news) ∧ hp'.ls = hp.ls := by
  obtain ⟨id, o, rfl, h1, h2, h3, h4⟩ := hd
  cases m with
  | zero =>
    obtain rfl : news = [] := List.eq_nil_of_length_eq_zero hm
    rw [List.append_nil]
    refine ⟨_, hp, none, ?_, ⟨id, o, rfl, h1, h2, h3, h4⟩, rfl⟩
    simp only [appH, hz, hs]
  | succ m =>
    have q0 : Nat.beq 1 0 = false := rfl
    have q1 : Nat.beq 1 1 = true := rfl
    have hle : (cl ++ news).length = cl.length + (m + 1) := by rw [List.length_append, hm]
    have hf := fitB_le2 (n := cl.length + (m + 1)) hl hby
    have hb : Nat.ble (cl.length + (m + 1)) cl.length = false := bleF (by omega)
    have he : Nat.ble (0 + cl.length * 1) o.cs.length = true := bleT (by rw [h4]; omega)
    have ht : (o.cs.drop 0).take (cl.length * 1) = cl := by rw [h4, List.drop_zero, Nat.mul_one, List.take_length]
    have hq : Nat.beq (0 + cl.length * 1) o.cs.length = true := beqT (by rw [h4]; omega)
    have hte : Nat.beq o.t e = true := beqT h3
    rcases h2 with h2 | h2 | h2
    · refine ⟨.sl hp.n 0 1 (cl.length + (m + 1)) (cl.length + (m + 1)), pushH hp 1 e ((o.cs.drop 0).take (cl.length * 1) ++ news), none, ?_, ⟨hp.n, _, by rw [hle], get_push_new _ _, .inr (.inl rfl), rfl, by rw [ht]⟩, rfl⟩
      simp only [appH, hz, hs, q0, q1, h1, hb, he, hf, h2]
    · refine ⟨.sl hp.n 0 1 (cl.length + (m + 1)) (cl.length + (m + 1)), (hp.put id ⟨2, o.r, o.t, o.cs⟩).push ⟨3, rootOf 1 o.r id, o.t, o.cs.drop 0 ++ news⟩, mmin (some (rootOf 1 o.r id)) (some id), ?_, ⟨hp.n, _, by rw [hle], get_push_new (hp.put id _) _, .inr (.inr rfl), h3, by simp [h4]⟩, rfl⟩
      simp only [appH, hz, hs, q0, q1, h1, hb, he, hf, h2, hq, hte]
    · refine ⟨.sl hp.n 0 1 (cl.length + (m + 1)) (cl.length + (m + 1)), (hp.put id ⟨2, o.r, o.t, o.cs⟩).push ⟨3, rootOf 3 o.r id, o.t, o.cs.drop 0 ++ news⟩, mmin (some (rootOf 3 o.r id)) (some id), ?_, ⟨hp.n, _, by rw [hle], get_push_new (hp.put id _) _, .inr (.inr rfl), h3, by simp [h4]⟩, rfl⟩
      simp only [appH, hz, hs, q0, q1, h1, hb, he, hf, h2, hq, hte]
theorem SbO.seenV {hp : Hp} {d : DV} {bs : List UInt8} (h : SbO 5 hp d (celB bs)) (hl : hp.ls = []) : SeenV d hp (flB bs).1 (flB bs).2 := by
  obtain ⟨id, o, rfl, h1, h2, h3, h4⟩ := h
  have := seenV_forget (d := .sl id 0 1 bs.length bs.length) (d' := .sl 0 0 1 bs.length bs.length) h1 (fun x hx => by
    rw [h4] at hx
    simp only [celB, List.mem_map] at hx
    obtain ⟨c, _, rfl⟩ := hx
    rfl) hl (by simp only [ren3, ren2, ren1, ren0, posN, beqT])
  rw [h3, h4] at this
  rw [celB_length]
  exact this
theorem sbO_new : SbO 5 (ownH 5 1 []) (.sl 0 0 1 0 0) (celB []) := ⟨0, _, rfl, rfl, .inr (.inl rfl), rfl, rfl⟩
theorem app_own {hp : Hp} {d x : DV} {bs cs : List UInt8} (h : SbO 5 hp d (celB bs)) (hx : contD hp 1 x = some (cs.length, celB cs)) (hl : bs.length + cs.length ≤ 2 ^ 40) : ∃ d' h' m, builtinD tab hp .append [d, x] tyB = some (d', h', m) ∧ SbO 5 h' d' (celB (bs ++ cs)) ∧ h'.ls = hp.ls := by
  rw [app_tab, hx, celB_append]
  exact appO (j := u8TI) (z := .int .u8 0) (zs := []) rfl rfl (by decide) h (celB_length cs) (by rw [celB_length]; exact hl)
theorem SbO.frz {hp : Hp} {d : DV} {bs : List UInt8} (h : SbO 5 hp d (celB bs)) : FrzD [] hp d (byL bs) := by
  obtain ⟨id, o, rfl, h1, h2, h3, h4⟩ := h
  rw [celB_length]
  refine frzD_bytes rfl h1 (by rcases h2 with h | h | h <;> omega) fun i b hb => ?_
  rw [h4]
  exact celB_get hb
theorem SbO.shows {hp : Hp} {d : DV} {bs : List UInt8} (h : SbO 5 hp d (celB bs)) : frz1 hp d (byL bs) := by
  obtain ⟨id, o, rfl, h1, h2, h3, h4⟩ := h
  rw [celB_length]
  refine frz_bytes h1 fun i b hb => ?_
  rw [h4]
  exact celB_get hb
theorem sbO_fl (bs : List UInt8) : SbO 5 (flB bs).2 (flB bs).1 (celB bs) := ⟨0, _, by rw [celB_length]; rfl, rfl, .inr (.inl rfl), rfl, rfl⟩
/-- one byte behind a row -/
theorem app_byte {hp : Hp} {d : DV} {bs : List UInt8} (c : UInt8) (h : SbO 5 hp d (celB bs)) (hl : bs.length + 1 ≤ 2 ^ 40) : ∃ d' h' m, builtinD tab (hp.push ⟨0, 0, 5, [i8 c]⟩) .append [d, .sl hp.n 0 1 1 1] tyB = some (d', h', m) ∧ SbO 5 h' d' (celB (bs ++ [c])) ∧ h'.ls = hp.ls :=
  app_own (hp := hp.push ⟨0, 0, 5, [i8 c]⟩) (cs := [c]) (h.push _) (contD_one (id := hp.n) (get_push_new _ _) rfl) (by simpa using hl)
/-- v's bytes, the lowest first -/
def leB (v : Nat) : Nat → List UInt8
  | 0 => []
  | k + 1 => leB v k ++ [UInt8.ofNat (v / 256 ^ k % 256)]
theorem leB_length (v k : Nat) : (leB v k).length = k := by
  induction k with
  | zero => rfl
  | succ k ih => simp [leB, ih]
theorem leB_mod (v n : Nat) : ∀ k, k ≤ n → leB (v % 256 ^ n) k = leB v k
  | 0, _ => rfl
  | k + 1, h => by
    have e : v % 256 ^ n / 256 ^ k % 256 = v / 256 ^ k % 256 := by
      obtain ⟨m, rfl⟩ : ∃ m, n = k + (m + 1) := ⟨n - k - 1, by omega⟩
      rw [Nat.pow_add, Nat.mod_mul_right_div_self, Nat.pow_succ, Nat.mul_comm (256 ^ m) 256, Nat.mod_mul_right_mod]
    simp only [leB, leB_mod v n k (by omega), e]
end
end Go.Proofs.Ytioglkmdapghhaa
