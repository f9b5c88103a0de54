/- Operations on abstract data are what the model does: slices. No function of the program is named here. -/
import Derived.Test.YtoghpmeoekbcbaaV8
import Derived.Laws.IdiomStrings
import Derived.Laws.MakeOwn
namespace Go.Proofs.Ytoghpmeoekbcbaa
open Go.RowKit

section
variable {P : Program} {T : Tab} {W0 : World} {base : Nat} {S0 : Nat → Prop} {E : Env} {hp : Hp} {w : World}
/-- what a slice or a string holds: m elements, the cells us -/
structure Src (P : Program) (w : World) (v : Value) (s m : Nat) (us : List Value) : Prop where
  len : us.length = m * s
  lenOf : ∀ w1 : World, (Builtin.lenOf v).run P w1 = .ok m w1
  read : ∀ (w1 : World) (k : Nat), k ≤ m → w1.heap = w.heap → (Builtin.firstCells s k v).run P w1 = .ok (us.take (k * s)).toArray w1
theorem src_slice {A : Option Addr} {m c s : Nat} {us : List Value} (hl : us.length = m * s) (h : ∀ (j : Nat) u, us[j]? = some u → ∃ a, A = some a ∧ w.cell? (a.add j) = some u) (hA : A = none → m = 0) : Src P w (.slice A m c) s m us := by
  refine ⟨hl, fun w1 => by simp [Builtin.lenOf], fun w1 k hk hw => ?_⟩
  cases A with
  | none =>
    have hm := hA rfl
    subst hm
    have : us = [] := List.eq_nil_of_length_eq_zero (by simpa using hl)
    subst this
    simp [Builtin.firstCells]
  | some a =>
    have hks : (us.take (k * s)).length = k * s := by
      have : k * s ≤ m * s := Nat.mul_le_mul_right s hk
      simp
      omega
    refine run_firstCells_some (P := P) w1 s k a m c (us.take (k * s)) hks fun j v hv => ?_
    rw [List.getElem?_take] at hv
    split at hv
    · obtain ⟨a', ha, hc⟩ := h j v hv
      cases ha
      rw [← hc]
      exact World.cell?_of_block (by rw [hw])
    · cases hv
theorem bytes_VRs (E : Env) (w : World) (l : List UInt8) : VRs E w (l.map fun c => .int .u8 (c.toNat : Int)) (l.map fun c => Value.int .u8 (c.toNat : Int)) := by
  induction l with
  | nil => exact .nil _ _
  | cons c l ih => exact .cons (.int _ _ _) ih
theorem cont_ok (hs : HS W0 base S0 E hp w) {s : Nat} {x : DV} {v : Value} {m : Nat} {cs : List DV} (hx : VR w E x v) (hc : contD hp s x = some (m, cs)) :
    ∃ us, Src P w v s m us ∧ VRs E w cs us ∧ scals cs = true := by
  unfold contD at hc
  split at hc
  · cases hc
    rw [hx.of_nil]
    exact ⟨[], src_slice (by simp) (fun j u h => by simp at h) (fun _ => rfl), .nil _ _, rfl⟩
  · rename_i s' xs
    split at hc
    · rename_i hb
      have hb := Nat.eq_of_beq_eq_true hb
      subst hb
      cases hc
      obtain ⟨A, c, b, off, g, rfl, h1, h2, h3, h4, h5, h6, h7, h8⟩ := hx.of_list
      have hlen : ∀ y ∈ xs, y.length = s' := fun y hy => by
        obtain ⟨i, hi, rfl⟩ := List.getElem_of_mem hy
        exact h5 i _ (List.getElem?_eq_getElem hi)
      have hl : Lies E w b off xs.flatten := by
        intro j d hj
        have key : ∀ (zs : List (List DV)) (k j : Nat), (∀ y ∈ zs, y.length = s') → (∀ (i : Nat) (cs : List DV), zs[i]? = some cs → xs[k + i]? = some cs) → ∀ d, zs.flatten[j]? = some d → ∃ v, w.cell? ⟨b, off + (k * s' + j), none⟩ = some v ∧ VR w E d v := by
          intro zs
          induction zs with
          | nil => intro k j _ _ d hd; simp at hd
          | cons z zs ih =>
            intro k j hz hzy d hd
            rw [List.flatten_cons, List.getElem?_append] at hd
            have hzl := hz z (by simp)
            split at hd
            · exact ⟨_, h6 k z j d (by simpa using hzy 0 z rfl) hd, (h7 k z j d (by simpa using hzy 0 z rfl) hd).up⟩
            · rename_i hnlt
              obtain ⟨v, hv, hvd⟩ := ih (k + 1) (j - z.length) (fun y hy => hz y (by simp [hy])) (fun i cs hi => by
                have := hzy (i + 1) cs (by simpa using hi)
                rwa [show k + 1 + i = k + (i + 1) by omega]) d hd
              refine ⟨v, ?_, hvd⟩
              rw [← hv]
              congr 2
              rw [hzl, Nat.add_mul] at *
              omega
        simpa using key xs 0 j hlen (fun i cs hi => by simpa using hi) d hj
      obtain ⟨vs, hv1, hv2⟩ := hl.vals
      have hfl : xs.flatten.length = xs.length * s' := by
        clear hl hv1 hv2 h1 h2 h3 h4 h5 h6 h7 h8 hx
        induction xs with
        | nil => simp
        | cons y ys ih => rw [List.flatten_cons, List.length_append, ih (fun z hz => hlen z (by simp [hz])), hlen y (by simp), List.length_cons, Nat.add_mul]; omega
      refine ⟨vs, src_slice (by rw [← hv1.1, hfl]) (fun j u hj => ?_) (fun hA => ?_), hv1, ?_⟩
      · have hpos : 0 < xs.length := by
          rcases Nat.eq_zero_or_pos xs.length with h0 | h0
          · rw [h0, Nat.zero_mul] at hfl
            have := (List.getElem?_eq_some_iff.1 hj).1
            have := hv1.1
            omega
          · exact h0
        exact ⟨_, (h4 hpos).1, by rw [add_none]; exact hv2 j u hj⟩
      · have := h3 hA
        omega
      · rw [scals_iff]
        intro d hd
        obtain ⟨y, hy, hdy⟩ := List.mem_flatten.1 hd
        exact (scals_iff y).1 (h8 y hy) d hdy
    · cases hc
  · rename_i id off s' n c
    obtain ⟨A, c', rfl, hd, h1, h2, h3, h4, h5⟩ := hx.of_sl
    split at hc
    · rename_i hb
      cases hc
      exact ⟨[], src_slice (by simp) (fun j u h => by simp at h) (fun h => by cases h), .nil _ _, rfl⟩
    · rename_i n hb
      have hb := Nat.eq_of_beq_eq_true hb
      subst hb
      split at hc
      · rename_i o ho
        split at hc
        · rename_i hble
          have hle := Nat.le_of_ble_eq_true hble
          cases hc
          obtain ⟨o', ho', hok⟩ := hs.ob id hd
          rw [ho] at ho'
          cases ho'
          have hl := ((Lies.of_ob hok).drop off).take ((n + 1) * s')
          obtain ⟨vs, hv1, hv2⟩ := hl.vals
          obtain ⟨hA, hsz⟩ := h5 (by omega)
          subst hA
          refine ⟨vs, src_slice (by rw [← hv1.1]; simp; omega) (fun j u hj => ⟨_, rfl, by rw [add_none]; exact hv2 j u hj⟩) (fun h => by cases h), hv1, scals_sub hok.2.1 fun d hd => List.mem_of_mem_drop (List.mem_of_mem_take hd)⟩
        · cases hc
      · cases hc
    · cases hc
  · rename_i b
    split at hc
    · cases hc
      rw [hx.of_str]
      refine ⟨b.data.toList.map fun c => Value.int .u8 (c.toNat : Int), ⟨by simp [lenB], fun w1 => by simp [Builtin.lenOf, lenB_eq], fun w1 k hk hw => ?_⟩, bytes_VRs _ _ _, ?_⟩
      · have : (b.extract 0 k).data.map (fun c : UInt8 => Value.int .u8 (c.toNat : Int)) = ((b.data.toList.map fun c : UInt8 => Value.int .u8 (c.toNat : Int)).take (k * 1)).toArray := by
          apply Array.toList_inj.1
          simp [ByteArray.data_extract, List.extract_eq_take_drop]
        simp only [Builtin.firstCells, Sem.run_pure]
        rw [← this]
      · rw [scals_iff]
        intro d hd
        obtain ⟨c, _, rfl⟩ := List.mem_map.1 hd
        rfl
    · cases hc
  · cases hc

/-- what append is given: a slice, a string, or as many zeros -/
structure ASrc (P : Program) (w : World) (d' : TypeDesc) (i : TypeInfo) (v : Value) (m : Nat) (us : List Value) : Prop where
  len : us.length = m * i.size
  how : ((∀ k, d' ≠ .int k) ∧ Src P w v i.size m us) ∨ ∃ k kv z, d' = .int k ∧ i.zero = some z ∧ v = .int kv (m : Int) ∧ us = (Builtin.zeroCells z.cells m).toList ∧ m ≤ 9223372036854775807 ∧ m * i.bytes ≤ 140737488355328
theorem wrap_small {m : Nat} (h : m ≤ 9223372036854775807) : IntKind.i64.wrap (m : Int) = m := by
  rw [IntKind.wrap_i64]
  omega
theorem run_append_room' {t t' ty e : TypeId} {i : TypeInfo} {d' : TypeDesc} (ht : P.underlying t = some (.slice e)) (ht' : P.underlying t' = some d') (hi : P.info? e = some i) {n c' m : Nat} {v : Value} {us : List Value} (hv : ASrc P w d' i v m us)
    (A : Option Addr) (hroom : n + m ≤ c') : (Builtin.append_ #[t, t'] ty #[.slice A n c', v]).run P w = match A with
      | some a => ((storeCells (a.add (n * i.size)) us).run P w).andThen fun _ w' => .ok (.slice (some a) (n + m) c') w'
      | none => .ok (.slice none (n + m) c') w := by
  obtain ⟨hlen, hv | ⟨k, kv, z, rfl, hz, rfl, rfl, hm, hb⟩⟩ := hv
  · obtain ⟨hd', hv⟩ := hv
    have hf := hv.read w m (Nat.le_refl _) rfl
    rw [List.take_of_length_le (by rw [hv.len]; exact Nat.le_refl _)] at hf
    have hz : (match d' with | .int _ => true | _ => false) = false := by
      cases d' <;> first | rfl | exact absurd rfl (hd' _)
    cases A with
    | none =>
      simp only [Builtin.append_]
      simp [run_underlying ht, run_underlying ht', sizeOf, typeInfo, hi, hv.lenOf, hroom, hf]
    | some a =>
      simp only [Builtin.append_]
      simp [run_underlying ht, run_underlying ht', sizeOf, typeInfo, hi, hv.lenOf, hroom, hf]
  · have h0 : ¬ ((m : Int) < 0) := by omega
    have hb' : ¬ (281474976710656 < (m : Int) * (i.bytes : Int)) := by
      have : (m : Int) * (i.bytes : Int) = ((m * i.bytes : Nat) : Int) := by push_cast; rfl
      omega
    by_cases hms : m * i.size = 0
    · have hus : (Builtin.zeroCells z.cells m).toList = [] := List.eq_nil_of_length_eq_zero (by rw [hlen, hms])
      cases A with
      | none =>
        simp only [Builtin.append_]
        simp [run_underlying ht, run_underlying ht', sizeOf, typeInfo, hi, asInt, asIntOf, wrap_small hm, h0, hb', hroom, hms]
      | some a =>
        simp only [Builtin.append_]
        simp [run_underlying ht, run_underlying ht', sizeOf, typeInfo, hi, asInt, asIntOf, wrap_small hm, h0, hb', hroom, hms, hus, storeCells]
    · cases A with
      | none =>
        simp only [Builtin.append_]
        simp [run_underlying ht, run_underlying ht', sizeOf, typeInfo, zeroValue, hz, hi, asInt, asIntOf, wrap_small hm, h0, hb', hroom, hms]
      | some a =>
        simp only [Builtin.append_]
        simp [run_underlying ht, run_underlying ht', sizeOf, typeInfo, zeroValue, hz, hi, asInt, asIntOf, wrap_small hm, h0, hb', hroom, hms]
theorem run_append_room_some {t t' ty e : TypeId} {i : TypeInfo} {d' : TypeDesc} (ht : P.underlying t = some (.slice e)) (ht' : P.underlying t' = some d') (hi : P.info? e = some i) {n c' m : Nat} {v : Value} {us : List Value} (hv : ASrc P w d' i v m us)
    (A : Addr) (hroom : n + m ≤ c') : (Builtin.append_ #[t, t'] ty #[.slice (some A) n c', v]).run P w = ((storeCells (A.add (n * i.size)) us).run P w).andThen fun _ w' => .ok (.slice (some A) (n + m) c') w' :=
  run_append_room' ht ht' hi hv (some A) hroom
theorem run_append_grow' {t t' ty e : TypeId} {i : TypeInfo} {z : Value} {d' : TypeDesc} (ht : P.underlying t = some (.slice e)) (ht' : P.underlying t' = some d') (hi : P.info? e = some i) (hz : i.zero = some z) {n c' m : Nat} {v x : Value} {us os : List Value} (hv : ASrc P w d' i v m us)
    {A : Option Addr} (hx : x = .slice A n c') (ho : Src P w x i.size n os) (hg : c' < n + m) (h63 : n + m ≤ 9223372036854775807) (hfit : (n + m) * i.bytes ≤ 140737488355328) : ∃ C, (Builtin.append_ #[t, t'] ty #[x, v]).run P w = .ok (.slice (some ⟨w.heap.size, 0, none⟩) (n + m) (grownCap w (n + m) c' e)) (w.drew.alloc (.cells C e)) ∧
      C = os.toArray ++ us.toArray ++ Builtin.zeroCells z.cells (grownCap w (n + m) c' e - (n + m)) := by
  subst hx
  have hfo := ho.read w.drew n (Nat.le_refl _) rfl
  rw [List.take_of_length_le (by rw [ho.len]; exact Nat.le_refl _)] at hfo
  have hn : ¬ (n + m ≤ c') := by omega
  have h63' : ¬ (9223372036854775807 < ((n : Int) + (m : Int))) := by omega
  have h48' : ¬ (281474976710656 < Builtin.nextslicecap (n + m) c' * i.bytes) := by have := growslice_fits (bytes := i.bytes) hg hfit; omega
  obtain ⟨hlen, hv | ⟨k, kv, z', rfl, hz', rfl, rfl, hm, hb⟩⟩ := hv
  · obtain ⟨hd', hv⟩ := hv
    have hf := hv.read w.drew m (Nat.le_refl _) rfl
    rw [List.take_of_length_le (by rw [hv.len]; exact Nat.le_refl _)] at hf
    have hz' : (match d' with | .int _ => true | _ => false) = false := by
      cases d' <;> first | rfl | exact absurd rfl (hd' _)
    refine ⟨_, ?_, rfl⟩
    simp only [Builtin.append_]
    simp [run_underlying ht, run_underlying ht', sizeOf, typeInfo, zeroValue, hi, hz, hv.lenOf, hn, h63', h48', Question.forced, hf, hfo, newRow, grownCap]
    congr 2
    apply Array.ext'
    simp
  · rw [hz] at hz'
    cases hz'
    have h0 : ¬ ((m : Int) < 0) := by omega
    have hb' : ¬ (281474976710656 < (m : Int) * (i.bytes : Int)) := by
      have : (m : Int) * (i.bytes : Int) = ((m * i.bytes : Nat) : Int) := by push_cast; rfl
      omega
    refine ⟨_, ?_, rfl⟩
    by_cases hms : m * i.size = 0
    · have hus : (Builtin.zeroCells z.cells m).toList = [] := List.eq_nil_of_length_eq_zero (by rw [hlen, hms])
      have hus2 : Builtin.zeroCells z.cells m = #[] := Array.toList_inj.1 hus
      simp only [Builtin.append_]
      simp [run_underlying ht, run_underlying ht', sizeOf, typeInfo, zeroValue, hi, hz, asInt, asIntOf, wrap_small hm, h0, hb', hms, hn, h63', h48', Question.forced, hfo, newRow, grownCap, hus2]
    · simp only [Builtin.append_]
      simp [run_underlying ht, run_underlying ht', sizeOf, typeInfo, zeroValue, hi, hz, asInt, asIntOf, wrap_small hm, h0, hb', hms, hn, h63', h48', Question.forced, hfo, newRow, grownCap]
end
end Go.Proofs.Ytoghpmeoekbcbaa
