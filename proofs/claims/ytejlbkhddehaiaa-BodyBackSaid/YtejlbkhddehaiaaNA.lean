/- Bytes and words as data; what operations on words are. No function of the program is named here. -/
import Derived.Test.YtejlbkhddehaiaaMG
import Derived.Test.YtejlbkhddehaiaaTab
namespace Go.Proofs.Ytejlbkhddehaiaa
open Go.RowKit

noncomputable section
def i8 (c : UInt8) : DV := .int .u8 (c.toNat : Int)
def w8 (r : BitVec 8) : DV := .int .u8 (r.toNat : Int)
def w32 (r : BitVec 32) : DV := .int .u32 (r.toNat : Int)
def w64 (r : BitVec 64) : DV := .int .u64 (r.toNat : Int)
def iN (n : Nat) : DV := .int .i64 (n : Int)
/-- the elements of a list of bytes -/
def by1 (bs : List UInt8) : List (List DV) := bs.map fun c => [i8 c]
def byL (bs : List UInt8) : DV := .list 1 (by1 bs)
theorem by1_length (bs : List UInt8) : (by1 bs).length = bs.length := by simp [by1]
theorem by1_nth {bs : List UInt8} {k : Nat} {c : UInt8} (h : bs[k]? = some c) : nth (by1 bs) ((k : Int).toNat) = some [i8 c] := by
  rw [nth_eq, Int.toNat_natCast]
  simp [by1, h]
theorem idxOk_lt {k n : Nat} (h : k < n) : idxOk (k : Int) n = true := by
  simp only [idxOk, Int.toNat_natCast, bltT h, Bool.and_true, decide_eq_true_eq]
  omega
theorem wrapU {k : IntKind} (hk : k.signed = false) (n : Nat) : k.wrap (n : Int) = ((n % 2 ^ k.bits : Nat) : Int) := by
  cases k <;> simp_all [IntKind.wrap, IntKind.signed, IntKind.bits] <;> omega
theorem wrapI {n : Nat} (h : n < 2 ^ 63) : IntKind.i64.wrap (n : Int) = n := by
  simp only [IntKind.wrap, IntKind.bits, IntKind.signed, Bool.true_and, decide_eq_true_eq, ge_iff_le]
  split <;> omega
theorem ofIntU {k : IntKind} (n : Nat) (h : n < 2 ^ k.bits) : (BitVec.ofInt k.bits (n : Int)).toNat = n := by
  rw [BitVec.ofInt_natCast, BitVec.toNat_ofNat]
  exact Nat.mod_eq_of_lt h
theorem xorU {k : IntKind} (hk : k.signed = false) {a b : Nat} (ha : a < 2 ^ k.bits) (hb : b < 2 ^ k.bits) : bitD .xor k (a : Int) (b : Int) = ((a ^^^ b : Nat) : Int) := by
  simp only [bitD, BitVec.toNat_xor, ofIntU a ha, ofIntU b hb]
  rw [wrapU hk, Nat.mod_eq_of_lt (Nat.xor_lt_two_pow ha hb)]
theorem andU {k : IntKind} (hk : k.signed = false) {a b : Nat} (ha : a < 2 ^ k.bits) (hb : b < 2 ^ k.bits) : bitD .and k (a : Int) (b : Int) = ((a &&& b : Nat) : Int) := by
  simp only [bitD, BitVec.toNat_and, ofIntU a ha, ofIntU b hb]
  rw [wrapU hk, Nat.mod_eq_of_lt (Nat.lt_of_le_of_lt Nat.and_le_left ha)]
theorem shlU {k : IntKind} (hk : k.signed = false) (a : Nat) {n : Nat} (hn : n ≤ k.bits) : shlD k (a : Int) (n : Int) = ((a * 2 ^ n % 2 ^ k.bits : Nat) : Int) := by
  have : ((a : Int) * 2 ^ (min (n : Int).toNat k.bits)) = ((a * 2 ^ n : Nat) : Int) := by
    rw [Int.toNat_natCast, Nat.min_eq_left hn]
    simp
  unfold shlD
  rw [this, wrapU hk]
theorem shrU {k : IntKind} (a : Nat) {n : Nat} (hn : n ≤ k.bits) : shrD k (a : Int) (n : Int) = ((a / 2 ^ n : Nat) : Int) := by
  unfold shrD
  rw [Int.toNat_natCast, Nat.min_eq_left hn]
  have : ((2 : Int) ^ n) = ((2 ^ n : Nat) : Int) := by simp
  rw [this, Int.fdiv_eq_ediv_of_nonneg _ (Int.natCast_nonneg _)]
  exact (Int.natCast_ediv a (2 ^ n)).symm
theorem i8_eq (c : UInt8) : i8 c = w8 c.toBitVec := rfl
theorem plain_i8 (c : UInt8) : plain (i8 c) = true := rfl
/-- a slice of a heap that shows bytes -/
theorem frz_bytes {hp : Hp} {id off c : Nat} {o : Ob} {bs : List UInt8} (ho : hp.get id = some o) (hc : ∀ (i : Nat) (b : UInt8), bs[i]? = some b → o.cs[off + i]? = some (i8 b)) : frz1 hp (.sl id off 1 bs.length c) (byL bs) := by
  refine ⟨o, by1 bs, ho, rfl, by1_length bs, fun i cs hi => ?_⟩
  simp only [by1, List.getElem?_map, Option.map_eq_some_iff] at hi
  obtain ⟨b, hb, rfl⟩ := hi
  refine ⟨rfl, rfl, fun j d hj => ?_⟩
  cases j with
  | zero =>
    simp at hj
    subst hj
    simpa using hc i b hb
  | succ j => simp at hj
end
end Go.Proofs.Ytejlbkhddehaiaa
/- Slices of bytes that grow. No function of the program is named here. -/
namespace Go.Proofs.Ytejlbkhddehaiaa
open Go.RowKit

noncomputable section
abbrev u8TI : TI := ⟨.int .u8, 1, 1, [.int .u8 0], true⟩
def celB (bs : List UInt8) : List DV := bs.map i8
theorem celB_length (bs : List UInt8) : (celB bs).length = bs.length := by simp [celB]
theorem celB_append (a b : List UInt8) : celB (a ++ b) = celB a ++ celB b := by simp [celB]
theorem by1_flatten (bs : List UInt8) : (by1 bs).flatten = celB bs := by
  induction bs with
  | nil => rfl
  | cons a l ih => simpa [by1, celB] using ih
theorem app_tab (hp : Hp) (d x : DV) : builtinD tab hp .append [d, x] [37, 37] = match contD hp 1 x with
    | some (m, news) => appH hp 5 u8TI d m news
    | none => none := by kernel_rfl
/-- a slice that shows bytes, at its object's end -/
def Sb (hp : Hp) (d : DV) (bs : List UInt8) : Prop := (d = .nil ∧ bs = []) ∨ ∃ id off o c, d = .sl id off 1 bs.length c ∧ hp.get id = some o ∧ (o.k = 0 ∨ o.k = 1 ∨ o.k = 3) ∧ o.t = 5 ∧ off + bs.length = o.cs.length ∧ o.cs.drop off = celB bs ∧ c = bs.length
theorem fitB_le {n : Nat} (h : n ≤ 2 ^ 40) : fitB n 1 = true := by
  have h1 : Nat.ble n mxL = true := bleT (Nat.le_trans h (by decide))
  have h2 : Nat.ble (n * 1) mxB = true := bleT (by rw [Nat.mul_one]; exact Nat.le_trans h (by decide))
  simp only [fitB, h1, h2, Bool.and_self]
theorem get_push_new (hp : Hp) (o : Ob) : (hp.push o).get hp.n = some o := by rw [Hp.get_push, if_pos rfl]
/-- bytes appended -/
theorem app_bytes {hp : Hp} {d x : DV} {bs cs : List UInt8} (hd : Sb hp d bs) (hx : contD hp 1 x = some (cs.length, celB cs)) (hl : bs.length + cs.length ≤ 2 ^ 40) :
    ∃ d' hp' m, builtinD tab hp .append [d, x] [37, 37] = some (d', hp', m) ∧ Sb hp' d' (bs ++ cs) := by
  rw [app_tab, hx]
  simp only
  cases cs with
  | nil =>
    rcases hd with ⟨rfl, rfl⟩ | ⟨id, off, o, c, rfl, h1, h2, h3, h4, h5, h6⟩
    · exact ⟨.nil, hp, none, rfl, .inl ⟨rfl, rfl⟩⟩
    · refine ⟨.sl id off 1 bs.length c, hp, none, rfl, ?_⟩
      rw [List.append_nil]
      exact .inr ⟨id, off, o, c, rfl, h1, h2, h3, h4, h5, h6⟩
  | cons b cs =>
    rcases hd with ⟨rfl, rfl⟩ | ⟨id, off, o, c, rfl, h1, h2, h3, h4, h5, h6⟩
    · have hf := fitB_le (n := (b :: cs).length) (by simpa using hl)
      refine ⟨.sl hp.n 0 1 (b :: cs).length (b :: cs).length, pushH hp 1 5 (celB (b :: cs)), none, ?_, .inr ⟨hp.n, 0, _, _, rfl, get_push_new _ _, .inr (.inl rfl), rfl, ?_, rfl, rfl⟩⟩
      · show (match fitB (b :: cs).length 1 with | true => some (DV.sl hp.n 0 1 (b :: cs).length (b :: cs).length, pushH hp 1 5 (celB (b :: cs)), (none : Mut)) | false => none) = _
        rw [hf]
      · simp [celB]
    · have hf := fitB_le (n := bs.length + (b :: cs).length) (by simpa using hl)
      have hb : Nat.ble (bs.length + (b :: cs).length) c = false := bleF (by rw [h6]; simp)
      have he : Nat.ble (off + bs.length * 1) o.cs.length = true := bleT (by omega)
      have ht : (o.cs.drop off).take (bs.length * 1) = celB bs := by
        rw [h5, Nat.mul_one, ← celB_length bs, List.take_length]
      have hq : Nat.beq (off + bs.length * 1) o.cs.length = true := beqT (by omega)
      have hlen : (b :: cs).length = cs.length + 1 := rfl
      have key : ∃ d' hp' m, appH hp 5 u8TI (.sl id off 1 bs.length c) (b :: cs).length (celB (b :: cs)) = some (d', hp', m) ∧ d' = .sl hp.n 0 1 (bs.length + (b :: cs).length) (bs.length + (b :: cs).length) ∧ ∃ o', hp'.get hp.n = some o' ∧ (o'.k = 0 ∨ o'.k = 1 ∨ o'.k = 3) ∧ o'.t = 5 ∧ o'.cs = celB (bs ++ b :: cs) := by
        have hp1 : Nat.beq 1 1 = true := rfl
        rcases h2 with h2 | h2 | h2
        · refine ⟨_, pushH hp 1 5 ((o.cs.drop off).take (bs.length * 1) ++ celB (b :: cs)), none, ?_, rfl, _, get_push_new _ _, .inr (.inl rfl), rfl, ?_⟩
          · simp only [hlen] at hb hf ⊢
            simp only [appH, h1, hb, he, hf, h2, hp1]
          · rw [ht, celB_append]
        · refine ⟨_, (hp.put id ⟨2, o.r, o.t, o.cs⟩).push ⟨3, rootOf 1 o.r id, o.t, o.cs.drop off ++ celB (b :: cs)⟩, mmin (some (rootOf 1 o.r id)) (some id), ?_, rfl, _, get_push_new (hp.put id _) _, .inr (.inr rfl), h3, ?_⟩
          · simp only [hlen] at hb hf ⊢
            simp only [appH, h1, hb, he, hf, h2, hp1, hq, h3, show Nat.beq 5 5 = true from rfl]
          · rw [h5, celB_append]
        · refine ⟨_, (hp.put id ⟨2, o.r, o.t, o.cs⟩).push ⟨3, rootOf 3 o.r id, o.t, o.cs.drop off ++ celB (b :: cs)⟩, mmin (some (rootOf 3 o.r id)) (some id), ?_, rfl, _, get_push_new (hp.put id _) _, .inr (.inr rfl), h3, ?_⟩
          · simp only [hlen] at hb hf ⊢
            simp only [appH, h1, hb, he, hf, h2, hp1, hq, h3, show Nat.beq 5 5 = true from rfl]
          · rw [h5, celB_append]
      obtain ⟨d', hp', m, k1, rfl, o', k2, k3, k4, k5⟩ := key
      refine ⟨_, hp', m, k1, .inr ⟨hp.n, 0, o', _, by rw [List.length_append], k2, k3, k4, ?_, by rw [k5]; rfl, by rw [List.length_append]⟩⟩
      rw [k5, celB_length, Nat.zero_add]
theorem contD_list (hp : Hp) (cs : List UInt8) : contD hp 1 (byL cs) = some (cs.length, celB cs) := by
  show some ((by1 cs).length, (by1 cs).flatten) = _
  rw [by1_length, by1_flatten]
/-- an empty slice of one's own -/
theorem sb_new (hp : Hp) (c : Nat) (hc : c = 0) : Sb (hp.push ⟨0, 0, 5, []⟩) (.sl hp.n 0 1 0 c) [] :=
  .inr ⟨hp.n, 0, _, c, rfl, get_push_new _ _, .inl rfl, rfl, rfl, rfl, hc⟩
/-- an argument: bytes, or none and no slice -/
def oDB : Option {bs : List UInt8 // bs.length < 2 ^ 30} → DV
  | none => .nil
  | some bs => byL bs.1
def oBB : Option {bs : List UInt8 // bs.length < 2 ^ 30} → List UInt8
  | none => []
  | some bs => bs.1
theorem sb_frz {hp : Hp} {d : DV} {bs : List UInt8} (h : Sb hp d bs) (hl : bs.length < 2 ^ 30) : ∃ o, oBB o = bs ∧ frz1 hp d (oDB o) := by
  rcases h with ⟨rfl, rfl⟩ | ⟨id, off, o, c, rfl, h1, h2, h3, h4, h5, h6⟩
  · exact ⟨none, rfl, rfl, rfl⟩
  · refine ⟨some ⟨bs, hl⟩, rfl, frz_bytes h1 fun i b hb => ?_⟩
    have : (celB bs)[i]? = some (i8 b) := by simp [celB, hb]
    rw [← h5, List.getElem?_drop] at this
    exact this
theorem by1_inj {a b : List UInt8} (h : by1 a = by1 b) : a = b := by
  induction a generalizing b with
  | nil => cases b with
    | nil => rfl
    | cons x b => cases h
  | cons x a ih =>
    cases b with
    | nil => cases h
    | cons y b =>
      simp only [by1, List.map_cons, List.cons.injEq, i8, DV.int.injEq, true_and, and_true] at h
      have hxy : x = y := UInt8.toNat_inj.1 (by omega)
      rw [ih h.2, hxy]
theorem oDB_inj {a b : Option {bs : List UInt8 // bs.length < 2 ^ 30}} (h : oDB a = oDB b) : oBB a = oBB b := by
  cases a with
  | none => cases b with
    | none => rfl
    | some b => cases h
  | some a => cases b with
    | none => cases h
    | some b =>
      simp only [oDB, byL, DV.list.injEq, true_and] at h
      exact by1_inj h
theorem w32_inj {a b : BitVec 32} (h : w32 a = w32 b) : a = b := by
  simp only [w32, DV.int.injEq, true_and] at h
  exact BitVec.eq_of_toNat_eq (by omega)
theorem w8_inj {a b : BitVec 8} (h : w8 a = w8 b) : a = b := by
  simp only [w8, DV.int.injEq, true_and] at h
  exact BitVec.eq_of_toNat_eq (by omega)
end
end Go.Proofs.Ytejlbkhddehaiaa
