/- The values of OctetBack: how they lie in memory, and how they are written. -/
import Derived.Test.YtgekkmhkklbgcaaSmall
namespace Go.Proofs.Ytgekkmhkklbgcaa
open Go.RowKit

abbrev Val := Nat × Nat × List Nat × Unit
def valTy : Ty Val := Ty.pair (Ty.nat .u8) (Ty.pair (Ty.nat .u64) (Ty.pair (Ty.slice (Ty.nat .u8)) Ty.unit))
theorem opensVal : Opens Try.prog 81 valTy :=
  Opens.struct Try.underlying81 (by kernel_rfl)
    (by show OpensF Try.prog 0 (_ :: _ :: _ :: []) (Ty.pair _ (Ty.pair _ (Ty.pair _ Ty.unit))); exact OpensF.cons (Opens.nat rfl Try.underlying5 (by kernel_rfl)) rfl (OpensF.cons (Opens.nat rfl Try.underlying40 (by kernel_rfl)) rfl (OpensF.cons opensBytes rfl (OpensF.nil _))))
theorem opensVals : Opens Try.prog 79 (Ty.slice valTy) := Opens.slice Try.underlying79 (by kernel_rfl) opensVal (by decide)

/-- the bytes of a value -/
def encV (v : Val) : List Nat :=
  if v.1 = 0 then leB (v.2.1 % 256) 1 else if v.1 = 1 then leB (v.2.1 % 65536) 2 else if v.1 = 2 then leB (v.2.1 % 4294967296) 4 else if v.1 = 3 then leB v.2.1 8 else leB v.2.2.1.length 1 ++ v.2.2.1
def encL : List Val → List Nat
  | [] => []
  | v :: r => encV v ++ encL r
theorem encL_append (xs ys : List Val) : encL (xs ++ ys) = encL xs ++ encL ys := by
  induction xs with
  | nil => rfl
  | cons x r ih => simp [encL, ih]
theorem take_encL (l : List Val) (k : Nat) (v : Val) (h : l[k]? = some v) : encL (l.take (k + 1)) = encL (l.take k) ++ encV v := by
  rw [take_succL l k v h, encL_append]
  simp [encL]
/-- it can be written -/
def okV (v : Val) : Prop := 4 ≤ v.1 → v.2.2.1.length ≤ 255
theorem encV_len (v : Val) (h : okV v) : (encV v).length ≤ 256 := by
  unfold encV
  split
  · simp [leB_length]
  · split
    · simp [leB_length]
    · split
      · simp [leB_length]
      · split
        · simp [leB_length]
        · have := h (by omega)
          simp [leB_length]
          omega
theorem encL_len (l : List Val) (h : ∀ v ∈ l, okV v) : (encL l).length ≤ 256 * l.length := by
  induction l with
  | nil => simp [encL]
  | cons x r ih =>
    have h1 := encV_len x (h x (List.mem_cons_self ..))
    have h2 := ih fun v hv => h v (List.mem_cons_of_mem _ hv)
    simp only [encL, List.length_append, List.length_cons]
    omega

/-- a slice of values -/
structure Vs (w : World) (S : Nat → Prop) (A : Option Addr) (n cap : Nat) (l : List Val) : Prop where
  row : Row valTy w S A n l
  below : ∀ b, S b → b < w.heap.size
  room : n ≤ cap
  most : cap ≤ 9223372036854775807
theorem Vs.later {w w' : World} {S : Nat → Prop} {A : Option Addr} {n cap : Nat} {l : List Val} (h : Vs w S A n cap l) (hb : Below w.heap.size w w') : Vs w' S A n cap l :=
  ⟨h.row.below hb h.below, fun b hS => Nat.lt_of_lt_of_le (h.below b hS) hb.size, h.room, h.most⟩
theorem vs_arg {w : World} {A : Option Addr} {n c : Nat} {l : List Val} (h : (Ty.slice valTy).rep w (· < w.heap.size) l [.slice A n c]) : Vs w (· < w.heap.size) A n c l := by
  obtain ⟨A', n', c', h0, h1, h2, _, h4⟩ := h
  simp at h0
  obtain ⟨rfl, rfl, rfl⟩ := h0
  exact ⟨h4, fun _ h => h, h1, h2⟩
theorem wf_u64n {n : Nat} (h : (Lit.int .u64 (n : Int)).wf = true) : n < 18446744073709551616 := by
  have hx : (0 : Int) ≤ n ∧ (n : Int) ≤ 18446744073709551615 := by simpa [Lit.wf, IntKind.min, IntKind.max, IntKind.signed, IntKind.bits] using h
  omega
theorem Vs.at_ {w : World} {S : Nat → Prop} {A : Option Addr} {n cap : Nat} {l : List Val} (h : Vs w S A n cap l) {k : Nat} (hk : k < n) :
    ∃ b off kd N txt A' c', A = some ⟨b, off, none⟩ ∧ b < w.heap.size ∧ l[k]? = some (kd, N, txt, ()) ∧ kd < 256 ∧ N < 18446744073709551616 ∧ w.cell? ⟨b, off + k * 3, none⟩ = some (.int .u8 (kd : Int)) ∧ w.cell? ⟨b, off + k * 3 + 1, none⟩ = some (.int .u64 (N : Int)) ∧
      w.cell? ⟨b, off + k * 3 + 2, none⟩ = some (.slice A' txt.length c') ∧ Bs w S A' txt.length c' txt := by
  have hl := h.row.1
  obtain ⟨b, off, e, hSb, hc⟩ := h.row.2 (by omega)
  obtain ⟨⟨kd, N, txt, ⟨⟩⟩, hx⟩ : ∃ v, l[k]? = some v := ⟨_, List.getElem?_eq_getElem (by omega)⟩
  obtain ⟨vs, hr, hv⟩ := hc k _ hx
  obtain ⟨c1, c2, rfl, ⟨rfl, w1⟩, c3, c4, rfl, ⟨rfl, w2⟩, c5, c6, rfl, ⟨A', m, c', rfl, h1, h2, _, h4⟩, rfl⟩ := hr
  have hm := h4.1
  refine ⟨b, off, kd, N, txt, A', c', e, h.below b hSb, hx, wf_u8 w1, wf_u64n w2, ?_, ?_, ?_, ?_⟩
  · have := hv 0 _ rfl
    simpa [valTy, Ty.pair, Ty.nat, Ty.slice, Ty.unit] using this
  · have := hv 1 _ rfl
    simpa [valTy, Ty.pair, Ty.nat, Ty.slice, Ty.unit, Nat.add_assoc] using this
  · have := hv 2 _ rfl
    rw [show txt.length = m from hm]
    simpa [valTy, Ty.pair, Ty.nat, Ty.slice, Ty.unit, Nat.add_assoc] using this
  · rw [show txt.length = m from hm]
    exact ⟨h4, h.below, h1, h2⟩

/-- what a round of writing does -/
theorem back_step {a : List Val} {w wr wn : World} {k n m : Nat} {v : Val} {An : Option Addr} {mn cn : Nat} {bytes : List Nat} (hx : a[k]? = some v) (hk : k < n) (hm : (encL (a.take k)).length = m) (hok : ∀ v ∈ a.take k, okV v)
    (he : encV v = bytes) (hmn : mn = m + bytes.length) (hB : Bs wn (fun b => wr.heap.size ≤ b ∧ b < wn.heap.size) An mn cn (encL (a.take k) ++ bytes)) (hw : w.heap.size ≤ wr.heap.size) (hbel : Bel w.heap.size w wn) (hv : okV v) :
    ∃ k' : Nat, k' ≤ n ∧ Value.int .i64 ((k : Int) + 1) = .int .i64 (k' : Int) ∧ (∃ A' c', Value.slice An mn cn = .slice A' (encL (a.take k')).length c' ∧ Bs wn (fun b => w.heap.size ≤ b ∧ b < wn.heap.size) A' (encL (a.take k')).length c' (encL (a.take k'))) ∧
      Bel w.heap.size w wn ∧ ∀ v ∈ a.take k', okV v := by
  have hE := take_encL a k v hx
  have hl : (encL (a.take (k + 1))).length = mn := by rw [hE, List.length_append, he, hm, hmn]
  refine ⟨k + 1, by omega, by go_num, ⟨An, cn, by rw [hl], ?_⟩, hbel, ?_⟩
  · rw [hl, hE, he]
    exact ⟨hB.row.more (fun b hb => ⟨by omega, hb.2⟩), fun b hb => hb.2, hB.room, hB.most⟩
  · rw [take_succL a k v hx]
    intro u hu
    rcases List.mem_append.1 hu with h | h
    · exact hok u h
    · rw [List.mem_singleton.1 h]; exact hv

theorem read_back (p e r : List Nat) : cutE (p ++ (e ++ r)).length (p.length : Int) (e.length : Int) = 0 ∧ cutB (p ++ (e ++ r)) (p.length : Int) (e.length : Int) = e := by
  have h0 : cutE (p ++ (e ++ r)).length (p.length : Int) (e.length : Int) = 0 := by
    unfold cutE
    simp only [List.length_append]
    rw [if_neg (by omega), if_neg (by omega), if_neg (by omega)]
  refine ⟨h0, ?_⟩
  unfold cutB
  rw [if_pos h0, Int.toNat_natCast, Int.toNat_natCast, List.drop_append_of_le_length (Nat.le_refl _), List.drop_length, List.nil_append, List.take_append_of_le_length (Nat.le_refl _), List.take_length]
theorem text_back (p t r : List Nat) (ht : t.length ≤ 255) :
    sizB (p ++ ((leB t.length 1 ++ t) ++ r)) (p.length : Int) 1 = (t.length : Int) ∧ sizE (p ++ ((leB t.length 1 ++ t) ++ r)) (p.length : Int) 1 = 0 ∧ sizV (p ++ ((leB t.length 1 ++ t) ++ r)) (p.length : Int) 1 = t := by
  have h1 := read_back p (leB t.length 1) (t ++ r)
  have h2 := read_back (p ++ leB t.length 1) t r
  have e1 : p ++ ((leB t.length 1 ++ t) ++ r) = p ++ (leB t.length 1 ++ (t ++ r)) := by simp
  have e2 : p ++ ((leB t.length 1 ++ t) ++ r) = (p ++ leB t.length 1) ++ (t ++ r) := by simp
  have e3 : (((p ++ leB t.length 1).length : Nat) : Int) = (p.length : Int) + 1 := by rw [List.length_append, leB_length]; omega
  have e4 : (((leB t.length 1).length : Nat) : Int) = 1 := by rw [leB_length]; rfl
  rw [e4] at h1
  rw [e3] at h2
  have hB : sizB (p ++ ((leB t.length 1 ++ t) ++ r)) (p.length : Int) 1 = (t.length : Int) := by
    unfold sizB
    rw [e1, h1.2, leV_leB]
    omega
  refine ⟨hB, ?_, ?_⟩
  · unfold sizE
    rw [hB]
    rw [e1, if_pos h1.1, ← e1, e2]
    exact h2.1
  · unfold sizV
    rw [hB]
    rw [e1, if_pos h1.1, ← e1, e2]
    exact h2.2
theorem encL_split (a : List Val) (k : Nat) (v : Val) (h : a[k]? = some v) : encL a = encL (a.take k) ++ (encV v ++ encL (a.drop (k + 1))) := by
  have hk : k < a.length := (List.getElem?_eq_some_iff.1 h).1
  have e : a = a.take k ++ v :: a.drop (k + 1) := by
    conv => lhs; rw [← List.take_append_drop k a]
    congr 1
    rw [List.drop_eq_getElem_cons hk]
    congr 1
    exact (List.getElem?_eq_some_iff.1 h).2
  conv => lhs; rw [e, encL_append]
  rfl
end Go.Proofs.Ytgekkmhkklbgcaa
