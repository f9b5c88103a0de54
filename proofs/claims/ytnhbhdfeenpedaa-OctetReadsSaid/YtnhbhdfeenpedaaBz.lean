/- Slices of one-celled elements that grow. No function of the program is named here. -/
import Derived.Test.YtnhbhdfeenpedaaV37
import Derived.Test.YtnhbhdfeenpedaaBy
namespace Go.Proofs.Ytnhbhdfeenpedaa
open Go.RowKit

noncomputable section
/-- a slice that shows cells, at its object's end -/
def SbC (e : TypeId) (hp : Hp) (d : DV) (cl : List DV) : Prop := (d = .nil ∧ cl = []) ∨ ∃ id off o c, d = .sl id off 1 cl.length c ∧ hp.get id = some o ∧ (o.k = 0 ∨ o.k = 1 ∨ o.k = 3) ∧ o.t = e ∧ off + cl.length = o.cs.length ∧ o.cs.drop off = cl ∧ c = cl.length
theorem Sb.toC {hp : Hp} {d : DV} {bs : List UInt8} (h : Sb hp d bs) : SbC 5 hp d (celB bs) := by
  rcases h with ⟨rfl, rfl⟩ | ⟨id, off, o, c, rfl, h1, h2, h3, h4, h5, h6⟩
  · exact .inl ⟨rfl, rfl⟩
  · exact .inr ⟨id, off, o, c, by rw [celB_length], h1, h2, h3, by rw [celB_length]; exact h4, h5, by rw [celB_length]; exact h6⟩
theorem fitB_le2 {n b : Nat} (h : n ≤ 2 ^ 40) (hb : b ≤ 64) : fitB n b = true := by
  have h1 : Nat.ble n mxL = true := bleT (Nat.le_trans h (by decide))
  have h2 : Nat.ble (n * b) mxB = true := bleT (Nat.le_trans (Nat.mul_le_mul h hb) (by decide))
  simp only [fitB, h1, h2, Bool.and_self]
/-- cells appended -/
theorem appC {e : TypeId} {j : TI} {z : DV} {zs : List DV} (hz : j.zero = z :: zs) (hs : j.size = 1) (hby : j.bytes ≤ 64) {hp : Hp} {d : DV} {cl news : List DV} (hd : SbC e hp d cl) {m : Nat} (hm : news.length = m) (hl : cl.length + m ≤ 2 ^ 40) :
    ∃ d' hp' mm, appH hp e j d m news = some (d', hp', mm) ∧ SbC e hp' d' (cl ++ news) := by
  cases m with
  | zero =>
    obtain rfl : news = [] := List.eq_nil_of_length_eq_zero hm
    rw [List.append_nil]
    refine ⟨d, hp, none, ?_, hd⟩
    rcases hd with ⟨rfl, rfl⟩ | ⟨id, off, o, c, rfl, _⟩ <;> simp only [appH, hz, hs] <;> rfl
  | succ m =>
    have q0 : Nat.beq 1 0 = false := rfl
    have q1 : Nat.beq 1 1 = true := rfl
    rcases hd with ⟨rfl, rfl⟩ | ⟨id, off, o, c, rfl, h1, h2, h3, h4, h5, h6⟩
    · have hf := fitB_le2 (n := m + 1) (by simpa using hl) hby
      refine ⟨.sl hp.n 0 1 (m + 1) (m + 1), pushH hp 1 e news, none, ?_, .inr ⟨hp.n, 0, _, _, by rw [List.nil_append, hm], get_push_new _ _, .inr (.inl rfl), rfl, by simp, rfl, by simp [hm]⟩⟩
      simp only [appH, hz, hs, q0, hf]
    · have hf := fitB_le2 (n := cl.length + (m + 1)) hl hby
      have hb : Nat.ble (cl.length + (m + 1)) c = false := bleF (by omega)
      have he : Nat.ble (off + cl.length * 1) o.cs.length = true := bleT (by omega)
      have ht : (o.cs.drop off).take (cl.length * 1) = cl := by rw [h5, Nat.mul_one, List.take_length]
      have hq : Nat.beq (off + cl.length * 1) o.cs.length = true := beqT (by omega)
      have hte : Nat.beq o.t e = true := beqT h3
      have hle : (cl ++ news).length = cl.length + (m + 1) := by rw [List.length_append, hm]
      rcases h2 with h2 | h2 | h2
      · refine ⟨.sl hp.n 0 1 (cl.length + (m + 1)) (cl.length + (m + 1)), pushH hp 1 e ((o.cs.drop off).take (cl.length * 1) ++ news), none, ?_, .inr ⟨hp.n, 0, _, _, by rw [hle], get_push_new _ _, .inr (.inl rfl), rfl, ?_, ?_, by rw [hle]⟩⟩
        · simp only [appH, hz, hs, q0, q1, h1, hb, he, hf, h2]
        · rw [ht, Nat.zero_add]
        · rw [ht]; rfl
      · refine ⟨.sl hp.n 0 1 (cl.length + (m + 1)) (cl.length + (m + 1)), (hp.put id ⟨2, o.r, o.t, o.cs⟩).push ⟨3, rootOf 1 o.r id, o.t, o.cs.drop off ++ news⟩, mmin (some (rootOf 1 o.r id)) (some id), ?_, .inr ⟨hp.n, 0, _, _, by rw [hle], get_push_new (hp.put id _) _, .inr (.inr rfl), h3, ?_, ?_, by rw [hle]⟩⟩
        · simp only [appH, hz, hs, q0, q1, h1, hb, he, hf, h2, hq, hte]
        · rw [h5, Nat.zero_add]
        · rw [h5]; rfl
      · refine ⟨.sl hp.n 0 1 (cl.length + (m + 1)) (cl.length + (m + 1)), (hp.put id ⟨2, o.r, o.t, o.cs⟩).push ⟨3, rootOf 3 o.r id, o.t, o.cs.drop off ++ news⟩, mmin (some (rootOf 3 o.r id)) (some id), ?_, .inr ⟨hp.n, 0, _, _, by rw [hle], get_push_new (hp.put id _) _, .inr (.inr rfl), h3, ?_, ?_, by rw [hle]⟩⟩
        · simp only [appH, hz, hs, q0, q1, h1, hb, he, hf, h2, hq, hte]
        · rw [h5, Nat.zero_add]
        · rw [h5]; rfl
theorem SbC.push {e : TypeId} {hp : Hp} {d : DV} {cl : List DV} (h : SbC e hp d cl) (o : Ob) : SbC e (hp.push o) d cl := by
  rcases h with h | ⟨id, off, o', c, h0, h1, h2⟩
  · exact .inl h
  · refine .inr ⟨id, off, o', c, h0, ?_, h2⟩
    rw [Hp.get_push, if_neg (Nat.ne_of_lt (Hp.get_lt h1))]
    exact h1
/-- what a slice of one's own that was built just now shows -/
theorem cont_new {hp : Hp} {k t n : Nat} {cs : List DV} (hn : cs.length = n + 1) : contD (pushH hp k t cs) 1 (.sl hp.n 0 1 (n + 1) (n + 1)) = some (n + 1, cs) := by
  have h1 : (pushH hp k t cs).get hp.n = some ⟨k, 0, t, cs⟩ := get_push_new _ _
  have h2 : Nat.ble (0 + (n + 1) * 1) cs.length = true := bleT (by omega)
  have h3 : (cs.drop 0).take ((n + 1) * 1) = cs := by rw [List.drop_zero, Nat.mul_one, ← hn, List.take_length]
  simp only [contD, h1, h2, h3]
theorem seen_refl (sl : Slots) (hp : Hp) : Seen sl hp sl hp := Seen.refl sl hp
theorem sbC_frz {hp : Hp} {d : DV} {bs : List UInt8} (h : SbC 5 hp d (celB bs)) (hl : bs.length < 2 ^ 30) : ∃ o, oBB o = bs ∧ frz1 hp d (oDB o) := by
  rcases h with ⟨rfl, h⟩ | ⟨id, off, o, c, rfl, h1, h2, h3, h4, h5, h6⟩
  · have : bs = [] := by
      cases bs with
      | nil => rfl
      | cons b bs => simp [celB] at h
    subst this
    exact ⟨none, rfl, rfl, rfl⟩
  · refine ⟨some ⟨bs, hl⟩, rfl, ?_⟩
    rw [celB_length]
    refine frz_bytes h1 fun i b hb => ?_
    have : (celB bs)[i]? = some (i8 b) := by simp [celB, hb]
    rw [← h5, List.getElem?_drop] at this
    exact this
/-! ### Slices that begin their objects -/
def SbZ (e : TypeId) (hp : Hp) (d : DV) (cl : List DV) : Prop := (d = .nil ∧ cl = []) ∨ ∃ id o, d = .sl id 0 1 cl.length cl.length ∧ hp.get id = some o ∧ (o.k = 0 ∨ o.k = 1 ∨ o.k = 3) ∧ o.t = e ∧ o.cs = cl
theorem SbZ.toC {e : TypeId} {hp : Hp} {d : DV} {cl : List DV} (h : SbZ e hp d cl) : SbC e hp d cl := by
  rcases h with h | ⟨id, o, h0, h1, h2, h3, h4⟩
  · exact .inl h
  · exact .inr ⟨id, 0, o, _, h0, h1, h2, h3, by rw [h4, Nat.zero_add], by rw [h4]; rfl, rfl⟩
theorem appZ {e : TypeId} {j : TI} {z : DV} {zs : List DV} (hz : j.zero = z :: zs) (hs : j.size = 1) (hby : j.bytes ≤ 64) {hp : Hp} {d : DV} {cl news : List DV} (hd : SbZ e hp d cl) {m : Nat} (hm : news.length = m) (hl : cl.length + m ≤ 2 ^ 40) :
    ∃ d' hp' mm, appH hp e j d m news = some (d', hp', mm) ∧ SbZ e hp' d' (cl ++ news) := by
  cases m with
  | zero =>
    obtain rfl : news = [] := List.eq_nil_of_length_eq_zero hm
    rw [List.append_nil]
    refine ⟨d, hp, none, ?_, hd⟩
    rcases hd with ⟨rfl, rfl⟩ | ⟨id, o, rfl, _⟩ <;> simp only [appH, hz, hs] <;> rfl
  | succ m =>
    have q0 : Nat.beq 1 0 = false := rfl
    have q1 : Nat.beq 1 1 = true := rfl
    have hle : (cl ++ news).length = cl.length + (m + 1) := by rw [List.length_append, hm]
    rcases hd with ⟨rfl, rfl⟩ | ⟨id, o, rfl, h1, h2, h3, h4⟩
    · have hf := fitB_le2 (n := m + 1) (by simpa using hl) hby
      refine ⟨.sl hp.n 0 1 (m + 1) (m + 1), pushH hp 1 e news, none, ?_, .inr ⟨hp.n, _, by rw [List.nil_append, hm], get_push_new _ _, .inr (.inl rfl), rfl, rfl⟩⟩
      simp only [appH, hz, hs, q0, hf]
    · have hf := fitB_le2 (n := cl.length + (m + 1)) hl hby
      have hb : Nat.ble (cl.length + (m + 1)) cl.length = false := bleF (by omega)
      have he : Nat.ble (0 + cl.length * 1) o.cs.length = true := bleT (by rw [h4]; omega)
      have ht : (o.cs.drop 0).take (cl.length * 1) = cl := by rw [h4, List.drop_zero, Nat.mul_one, List.take_length]
      have hq : Nat.beq (0 + cl.length * 1) o.cs.length = true := beqT (by rw [h4]; omega)
      have hte : Nat.beq o.t e = true := beqT h3
      rcases h2 with h2 | h2 | h2
      · refine ⟨.sl hp.n 0 1 (cl.length + (m + 1)) (cl.length + (m + 1)), pushH hp 1 e ((o.cs.drop 0).take (cl.length * 1) ++ news), none, ?_, .inr ⟨hp.n, _, by rw [hle], get_push_new _ _, .inr (.inl rfl), rfl, by rw [ht]⟩⟩
        simp only [appH, hz, hs, q0, q1, h1, hb, he, hf, h2]
      · refine ⟨.sl hp.n 0 1 (cl.length + (m + 1)) (cl.length + (m + 1)), (hp.put id ⟨2, o.r, o.t, o.cs⟩).push ⟨3, rootOf 1 o.r id, o.t, o.cs.drop 0 ++ news⟩, mmin (some (rootOf 1 o.r id)) (some id), ?_, .inr ⟨hp.n, _, by rw [hle], get_push_new (hp.put id _) _, .inr (.inr rfl), h3, by simp [h4]⟩⟩
        simp only [appH, hz, hs, q0, q1, h1, hb, he, hf, h2, hq, hte]
      · refine ⟨.sl hp.n 0 1 (cl.length + (m + 1)) (cl.length + (m + 1)), (hp.put id ⟨2, o.r, o.t, o.cs⟩).push ⟨3, rootOf 3 o.r id, o.t, o.cs.drop 0 ++ news⟩, mmin (some (rootOf 3 o.r id)) (some id), ?_, .inr ⟨hp.n, _, by rw [hle], get_push_new (hp.put id _) _, .inr (.inr rfl), h3, by simp [h4]⟩⟩
        simp only [appH, hz, hs, q0, q1, h1, hb, he, hf, h2, hq, hte]
theorem SbZ.push {e : TypeId} {hp : Hp} {d : DV} {cl : List DV} (h : SbZ e hp d cl) (o : Ob) : SbZ e (hp.push o) d cl := by
  rcases h with h | ⟨id, o', h0, h1, h2⟩
  · exact .inl h
  · refine .inr ⟨id, o', h0, ?_, h2⟩
    rw [Hp.get_push, if_neg (Nat.ne_of_lt (Hp.get_lt h1))]
    exact h1
/-- such a slice alone, in a heap of its own -/
abbrev ownH (e : TypeId) (k : Nat) (cl : List DV) : Hp := ⟨1, [⟨k, 0, e, cl⟩]⟩
theorem SbZ.seenV {e : TypeId} {hp : Hp} {d : DV} {cl : List DV} (h : SbZ e hp d cl) (hne : d ≠ .nil) (hpl : ∀ x ∈ cl, plain x = true) : ∃ k, (k = 0 ∨ k = 1) ∧ SeenV d hp (.sl 0 0 1 cl.length cl.length) (ownH e k cl) := by
  rcases h with ⟨h, _⟩ | ⟨id, o, rfl, h1, h2, h3, h4⟩
  · exact absurd h hne
  · have hk2 : Nat.beq o.k 2 = false := beqF (by omega)
    refine ⟨(oldOb o).k, ?_, seenV_ren (L := [id]) (fun i o' hi hg x hx => ?_) ?_ ?_⟩
    · rw [oldOb_k]
      split
      · exact .inr rfl
      · omega
    · have : i = id := by simpa using hi
      subst this
      rw [h1] at hg
      cases hg
      rw [h4] at hx
      exact hpl x hx
    · have ho : oldOb o = ⟨(oldOb o).k, 0, e, cl⟩ := by
        have r0 : (oldOb o).r = 0 := by unfold oldOb; split <;> rfl
        have r1 := oldOb_t o
        have r2 := oldOb_cs o
        rw [h3] at r1
        rw [h4] at r2
        cases hx : oldOb o with
        | mk k r t cs =>
          rw [hx] at r0 r1 r2
          simp only at r0 r1 r2
          rw [r0, r1, r2]
      simp only [renH, renObs, renOb, h1, hk2, nodupN, posN, Bool.and_self]
      rw [ho]
      rfl
    · simp only [ren3, ren2, ren1, posN, beqT]
end
end Go.Proofs.Ytnhbhdfeenpedaa
