/- Operations on abstract data are what the model does: the theorem. No function of the program is named here. -/
import Derived.Test.YtoghpmeoekbcbaaV12
namespace Go.Proofs.Ytoghpmeoekbcbaa
open Go.RowKit

section
variable {P : Program} {T : Tab} {W0 : World} {base : Nat} {S0 : Nat → Prop} {E : Env} {hp : Hp} {w : World} {a : Act} {sl : Slots} {o : Oper}
def Done (P : Program) (W0 : World) (base : Nat) (S0 : Nat → Prop) (E : Env) (hp : Hp) (w : World) (a : Act) (o : Oper) (r : DV × Hp × Mut) : Prop :=
  mutOk base r.2.2 → ∃ nx u E' w', (execOp a.eval o).run P w = .ok nx w' ∧ (nx = .value u ∨ (nx = .skip ∧ u = undef)) ∧ Stp W0 base S0 E hp w E' r.2.1 w' ∧ VR w' E' r.1 u
def OutOk (P : Program) (W0 : World) (base : Nat) (S0 : Nat → Prop) (E : Env) (hp : Hp) (w : World) (a : Act) (o : Oper) : Out → Prop
  | .done r => Done P W0 base S0 E hp w a o r
  | .call f args => ∃ vs, VRs E w args vs ∧ (execOp a.eval o).run P w = (callFunc f vs.toArray).run P w
  | .yld id args => ∃ vs b D, VRs E w args vs ∧ E.yb id = some (b, D) ∧ (execOp a.eval o).run P w = (Instr.yield b vs.toArray).run P w
  | .fail => True
variable (hT : TabOk P T) (hs : HS W0 base S0 E hp w) (hsl : ∀ t d, look sl t = some d → VR w E d (a.tmps.getD t undef))
include hs
theorem done_val {d : DV} (h : ValOk P E w a o d) : Done P W0 base S0 E hp w a o (d, hp, none) := fun _ => by
  obtain ⟨u, h1, h2⟩ := h
  exact ⟨.value u, u, E, w, h1, .inl rfl, Stp.refl hs, h2⟩
theorem out_keep {x : Option DV} (h : ∀ d, x = some d → ValOk P E w a o d) : OutOk P W0 base S0 E hp w a o (outR (keep hp x)) := by
  cases x with
  | none => trivial
  | some d => exact done_val hs (h d rfl)
omit hs in
theorem out_R {r : R} (h : ∀ q, r = some q → Done P W0 base S0 E hp w a o q) : OutOk P W0 base S0 E hp w a o (outR r) := by
  cases r with
  | none => trivial
  | some q => exact h q rfl
omit hs in
theorem cont_shape {s : Nat} {x : DV} {v : Value} {m : Nat} {cs : List DV} (hx : VR w E x v) (hc : contD hp s x = some (m, cs)) (hns : ∀ b, x ≠ .str b) : ∃ A c, v = .slice A m c := by
  unfold contD at hc
  split at hc
  · cases hc; exact ⟨_, _, hx.of_nil⟩
  · split at hc
    · cases hc
      obtain ⟨A, c, b, off, g, rfl, _⟩ := hx.of_list
      exact ⟨A, c, rfl⟩
    · cases hc
  · obtain ⟨A, c', rfl, _⟩ := hx.of_sl
    split at hc
    · cases hc; exact ⟨_, _, rfl⟩
    · split at hc
      · split at hc
        · cases hc; exact ⟨_, _, rfl⟩
        · cases hc
      · cases hc
    · cases hc
  · exact absurd rfl (hns _)
  · cases hc
include hT
theorem convD_ok {s t : TypeId} {x : Operand} (ho : o.op = .convert s t x) {d : DV} (hx : VR w E d (a.eval x)) {r : DV × Hp × Mut} (hr : convD T hp s t d = some r) : Done P W0 base S0 E hp w a o r := by
  unfold convD at hr
  split at hr
  · rename_i j i hj hi
    obtain ⟨info, dd, i1, i2, i3, i3', i4, i5, i6⟩ := hT _ _ hi
    obtain ⟨sinfo, sdd, s1, s2, s3, s3', s4, s5, s6⟩ := hT _ _ hj
    split at hr
    · rename_i k0 k k1 n htd1 htd2
      rw [htd1] at s4
      cases sdd <;> first | (simp [tdOk] at s4; done) | skip
      rw [htd2] at i4
      cases dd <;> first | (simp [tdOk] at i4; done) | skip
      obtain rfl : k = _ := i4
      cases hr
      exact done_val hs ⟨.int k (k.wrap n), by simp [execOp, ho, hx.of_int, convert, run_underlying s2, run_underlying i2, Conv.intToInt], .int _ _ _⟩
    · rename_i b htd1 htd2
      rw [htd1] at s4
      cases sdd <;> first | (simp [tdOk] at s4; done) | skip
      rw [htd2] at i4
      cases dd <;> first | (simp [tdOk] at i4; done) | skip
      cases hr
      exact done_val hs ⟨.string b, by simp [execOp, ho, hx.of_str, convert, run_underlying s2, run_underlying i2], .str _ _⟩
    · cases hr
    · rename_i e htd1 htd2 hns
      rw [htd1] at s4
      cases sdd <;> first | (simp [tdOk] at s4; done) | skip
      obtain rfl : e = _ := s4
      rw [htd2] at i4
      cases dd <;> first | (simp [tdOk] at i4; done) | skip
      split at hr
      · rename_i je hje
        obtain ⟨einfo, ed, e1, e2, e3, e3', e4, _⟩ := hT _ _ hje
        split at hr
        · rename_i m cs htd3 hcont
          rw [htd3] at e4
          cases ed <;> first | (simp [tdOk] at e4; done) | skip
          obtain rfl : IntKind.u8 = _ := e4
          split at hr
          · rename_i l hl
            cases hr
            obtain ⟨us, hsrc, hus, _⟩ := cont_ok (P := P) hs hx hcont
            obtain ⟨A, c, hv⟩ := cont_shape hx hcont (fun b hb => hns b hb)
            obtain ⟨ns, hcs, hlns⟩ := bytesOf_ok hl
            subst hcs
            have hus' := ints_VRs hus
            have hrd := hsrc.read w m (Nat.le_refl _) rfl
            rw [List.take_of_length_le (by rw [hsrc.len]; exact Nat.le_refl _), hv] at hrd
            refine done_val hs ⟨.string ⟨l.toArray⟩, ?_, .str _ _⟩
            have hconv : (convert s t (.slice A m c)).run P w = .ok (.string ⟨l.toArray⟩) w := by
              rw [run_convert_bytes_string w s t e A m c s2 e2 i2]
              cases A with
              | none =>
                simp only [Builtin.firstCells, Sem.run_pure, Result.ok.injEq, and_true] at hrd
                have : us = [] := by
                  have := congrArg Array.toList hrd
                  simpa using this.symm
                rw [this] at hus'
                have hns0 : ns = [] := by simpa using hus'.symm
                subst hns0
                subst hlns
                simp [Conv.bytesToString]
                rfl
              | some ad =>
                simp only [Builtin.firstCells, Nat.mul_one] at hrd
                rw [run_bytesToString w ad m c ns (by rw [hrd, hus'])]
                congr 2
                rw [hlns]
                have key : ∀ (ns : List Int) (r : ByteArray), ns.foldl (fun r n => r.push (UInt8.ofNat n.toNat)) r = ⟨r.data ++ (ns.map fun n => UInt8.ofNat n.toNat).toArray⟩ := by
                  intro ns
                  induction ns with
                  | nil => intro r; simp
                  | cons n ns ih =>
                    intro r
                    rw [List.foldl_cons, ih]
                    simp [ByteArray.push]
                rw [key]
                simp
            simp [execOp, ho, hv, hconv]
          · cases hr
        · cases hr
      · cases hr
    · rename_i e b htd1 htd2
      rw [htd1] at s4
      cases sdd <;> first | (simp [tdOk] at s4; done) | skip
      rw [htd2] at i4
      cases dd <;> first | (simp [tdOk] at i4; done) | skip
      obtain rfl : e = _ := i4
      split at hr
      · rename_i je hje
        obtain ⟨einfo, ed, e1, e2, e3, e3', e4, _⟩ := hT _ _ hje
        split at hr
        · rename_i htd3
          rw [htd3] at e4
          cases ed <;> first | (simp [tdOk] at e4; done) | skip
          obtain rfl : IntKind.u8 = _ := e4
          split at hr
          · rename_i hb
            have hb : lenB b ≤ mxB := Nat.le_of_ble_eq_true hb
            cases hr
            intro _
            have hrun := run_bytes_of_string (P := P) w s t e b s2 i2 e2
            have hge := grownCap_ge w b.size 0 e
            have hcm := grownCap_le_maxLen w b.size 0 e (by rw [maxLen_eq]; rw [lenB_eq] at hb; unfold mxB at hb; omega)
            have hlist : (bytesRow b (grownCap w b.size 0 e)).toList = (b.data.toList.map fun c : UInt8 => Value.int .u8 (c.toNat : Int)) ++ List.replicate (grownCap w b.size 0 e - b.size) (.int .u8 0) := by simp [bytesRow]
            have hlen : (bytesRow b (grownCap w b.size 0 e)).toList.length = grownCap w b.size 0 e := by
              rw [hlist]
              have : b.data.toList.length = b.size := rfl
              simp only [List.length_append, List.length_map, List.length_replicate, this]
              omega
            have hstp := stp_push hs (w' := w.drew.alloc (.cells (bytesRow b (grownCap w b.size 0 e)) e ((bytesRow b (grownCap w b.size 0 e)).size, (bytesRow b (grownCap w b.size 0 e)).size + 1))) (t := e) (vs := (bytesRow b (grownCap w b.size 0 e)).toList)
              (lo := (bytesRow b (grownCap w b.size 0 e)).size) (hi := (bytesRow b (grownCap w b.size 0 e)).size + 1) (by show w.heap.push _ = w.heap.push _; simp) (.inr (by simp)) rfl rfl rfl 1 0 (cs := b.data.toList.map fun c : UInt8 => DV.int .u8 (c.toNat : Int)) (by
                rw [hlist]; simp) (by
                rw [hlist, show (b.data.toList.map fun c : UInt8 => DV.int .u8 (c.toNat : Int)).length = (b.data.toList.map fun c : UInt8 => Value.int .u8 (c.toNat : Int)).length by simp, List.take_left]
                exact bytes_VRs _ _ _) (by
                rw [scals_iff]
                intro d hd
                obtain ⟨c, _, rfl⟩ := List.mem_map.1 hd
                rfl)
            obtain ⟨a1, a2, a3, a4, a5⟩ := Env.add_at E hp.n w.heap.size 0 (bytesRow b (grownCap w b.size 0 e)).toList.length ((1 : Nat) = 0)
            refine ⟨_, _, _, _, by simp [execOp, ho, hx.of_str, hrun]; exact rfl, .inl rfl, hstp, ?_⟩
            rw [lenB_eq]
            exact vr_grown (_m := 0) a1 (fun h => by have := a5.1 h; omega) hge hcm (by rw [a2, a3]) (by rw [a3, a4, hlen]; omega)
          · cases hr
        · cases hr
      · cases hr
    · rename_i e e' id off sz n c htd1 htd2
      rw [htd1] at s4
      cases sdd <;> first | (simp [tdOk] at s4; done) | skip
      obtain rfl : e = _ := s4
      rw [htd2] at i4
      cases dd <;> first | (simp [tdOk] at i4; done) | skip
      obtain rfl : e' = _ := i4
      split at hr
      · rename_i je ob hc hje hob
        obtain ⟨einfo, ed, e1, e2, e3, e3', e4, _⟩ := hT _ _ hje
        split at hr
        · rename_i htd3
          rw [htd3] at e4
          cases ed <;> first | (simp [tdOk] at e4; done) | skip
          obtain rfl : IntKind.u8 = _ := e4
          cases hr
          simp only [Bool.and_eq_true] at hc
          have hst := Nat.eq_of_beq_eq_true hc.1.1
          have hee := Nat.eq_of_beq_eq_true hc.1.2
          have hc0 : 0 < c := Nat.le_of_ble_eq_true hc.2
          subst hst
          subst hee
          intro hmu
          obtain ⟨A, c', hv, h1, h2, h3, h4, h5, h6⟩ := hx.of_sl
          obtain ⟨hA, hle⟩ := h6 (by omega)
          obtain ⟨w', hw', hstp⟩ := stp_mark hs h1 hmu P (E.base id + off)
          rw [← hA] at hw'
          refine ⟨.value (a.eval x), a.eval x, E, w', ?_, .inl rfl, hstp, hx.later hstp.later⟩
          simp [execOp, ho, hv, convert, run_underlying s2, run_underlying e2, hw', Sem.run_map, Result.andThen]
        · cases hr
      · cases hr
    · cases hr
  · cases hr
end
end Go.Proofs.Ytoghpmeoekbcbaa
