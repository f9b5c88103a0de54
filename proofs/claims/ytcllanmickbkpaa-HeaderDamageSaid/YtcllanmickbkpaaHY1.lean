/- Numbers of headers as bytes: what is put is read, what is read is put. -/
import Derived.Test.YtcllanmickbkpaaHD1
namespace Go.Proofs.Ytcllanmickbkpaa
open Go.RowKit

noncomputable section
theorem ofI64 (n : Nat) (h : n < 2 ^ 63) : (BitVec.ofInt IntKind.i64.bits (n : Int)).toNat = n := ofIntU (k := .i64) n (Nat.lt_trans h (by decide))
theorem orI {a b : Nat} (ha : a < 2 ^ 62) (hb : b < 2 ^ 62) : bitD .or .i64 (a : Int) (b : Int) = ((a ||| b : Nat) : Int) := by
  simp only [bitD, BitVec.toNat_or, ofI64 a (Nat.lt_trans ha (by decide)), ofI64 b (Nat.lt_trans hb (by decide))]
  exact wrapI (Nat.lt_trans (Nat.or_lt_two_pow ha hb) (by decide))
theorem andI {a b : Nat} (ha : a < 2 ^ 62) (hb : b < 2 ^ 62) : bitD .and .i64 (a : Int) (b : Int) = ((a &&& b : Nat) : Int) := by
  simp only [bitD, BitVec.toNat_and, ofI64 a (Nat.lt_trans ha (by decide)), ofI64 b (Nat.lt_trans hb (by decide))]
  exact wrapI (Nat.lt_of_le_of_lt Nat.and_le_left (Nat.lt_trans ha (by decide)))
theorem andNotI {a b : Nat} (ha : a < 2 ^ 62) : bitD .andNot .i64 (a : Int) (b : Int) = (((BitVec.ofNat 64 a &&& ~~~ BitVec.ofNat 64 b).toNat : Nat) : Int) := by
  simp only [bitD]
  rw [BitVec.ofInt_natCast, BitVec.ofInt_natCast]
  refine wrapI ?_
  rw [BitVec.toNat_and]
  refine Nat.lt_of_le_of_lt Nat.and_le_left ?_
  rw [BitVec.toNat_ofNat]
  exact Nat.lt_of_le_of_lt (Nat.mod_le _ _) (Nat.lt_trans ha (by decide))
theorem shlI {a n : Nat} (hn : n ≤ 64) (h : a * 2 ^ n < 2 ^ 63) : shlD .i64 (a : Int) (n : Int) = ((a * 2 ^ n : Nat) : Int) := by
  have : ((a : Int) * 2 ^ (min (n : Int).toNat 64)) = ((a * 2 ^ n : Nat) : Int) := by
    rw [Int.toNat_natCast, Nat.min_eq_left hn]
    simp
  show IntKind.i64.wrap ((a : Int) * 2 ^ (min (n : Int).toNat 64)) = _
  rw [this, wrapI h]
theorem or_sh {i x : Nat} (hx : x < 2 ^ i) (y : Nat) : x ||| y * 2 ^ i = x + 2 ^ i * y := by
  rw [Nat.or_comm, Nat.mul_comm y, ← Nat.two_pow_add_eq_or_of_lt hx y]
  omega
theorem num_eq {x y : Nat} (hx : x < 256) (hy : y < 256) : bitD .or .i64 (IntKind.i64.wrap (x : Int)) (shlD .i64 (IntKind.i64.wrap (y : Int)) 8) = ((x + 256 * y : Nat) : Int) := by
  rw [wrapI (Nat.lt_trans hx (by decide)), wrapI (Nat.lt_trans hy (by decide))]
  have h : y * 2 ^ 8 < 2 ^ 62 := by omega
  rw [show shlD .i64 (y : Int) 8 = ((y * 2 ^ 8 : Nat) : Int) from shlI (n := 8) (by decide) (by omega), orI (by omega) h, or_sh (i := 8) hx]
theorem seq_eq {x y : Nat} (hx : x < 16) (hy : y < 4096) : bitD .or .i64 (x : Int) (shlD .i64 (y : Int) 4) = ((x + 16 * y : Nat) : Int) := by
  have h : y * 2 ^ 4 < 2 ^ 62 := by omega
  rw [show shlD .i64 (y : Int) 4 = ((y * 2 ^ 4 : Nat) : Int) from shlI (n := 4) (by decide) (by omega), orI (by omega) h, or_sh (i := 4) hx]
theorem hi4 (n : Nat) : shrD .i64 (n : Int) 4 = ((n / 16 : Nat) : Int) := shrU (k := .i64) n (n := 4) (by decide)
theorem lo4 {n : Nat} (h : n < 65536) : bitD .and .i64 (n : Int) 15 = ((n % 16 : Nat) : Int) := by
  rw [show bitD .and .i64 (n : Int) 15 = ((n &&& 15 : Nat) : Int) from andI (b := 15) (by omega) (by decide)]
  rw [show (15 : Nat) = 2 ^ 4 - 1 from rfl, Nat.and_two_pow_sub_one_eq_mod]
theorem gB_lt (bs : List UInt8) (i : Nat) : (bs.getD i 0).toNat < 256 := UInt8.toNat_lt _
def nN (bs : List UInt8) (i : Nat) : Nat := (bs.getD i 0).toNat + 256 * (bs.getD (i + 1) 0).toNat
theorem nI_eq (bs : List UInt8) (i : Nat) : nI bs i = (nN bs i : Int) := num_eq (gB_lt bs i) (gB_lt bs (i + 1))
theorem nN_lt (bs : List UInt8) (i : Nat) : nN bs i < 65536 := by
  have h1 := gB_lt bs i
  have h2 := gB_lt bs (i + 1)
  unfold nN
  omega
theorem numI_nat (n : Nat) (h : n < 65536) : numI (n : Int) = [((n % 256 : Nat) : Int), ((n / 256 : Nat) : Int)] := by
  unfold numI
  rw [show shrD .i64 (n : Int) 8 = ((n / 256 : Nat) : Int) from shrU (k := .i64) n (n := 8) (by decide), wrapU rfl, wrapU rfl]
  rw [show n / 256 % 2 ^ IntKind.u8.bits = n / 256 from Nat.mod_eq_of_lt (show n / 256 < 256 by omega)]
  rfl
theorem b8_nat {n : Nat} (h : n < 256) : (b8 (n : Int)).toNat = n := by
  unfold b8
  rw [Int.toNat_natCast, UInt8.toNat_ofNat_of_lt' h]
theorem b8_of (c : UInt8) : b8 (c.toNat : Int) = c := by
  unfold b8
  rw [Int.toNat_natCast, UInt8.ofNat_toNat]
theorem b8_rg {x : Int} (h : Rg x) : ((b8 x).toNat : Int) = x := by
  have := i8_b8 h
  unfold i8 at this
  exact (DV.int.inj this).2
/-- a number's bytes, read -/
theorem nI_of {q : List UInt8} {i : Nat} {n : Int} (h1 : q.getD i 0 = b8 (IntKind.u8.wrap n)) (h2 : q.getD (i + 1) 0 = b8 (IntKind.u8.wrap (shrD .i64 n 8))) (h : 0 ≤ n ∧ n < 65536) : nI q i = n := by
  obtain ⟨m, rfl⟩ := Int.eq_ofNat_of_zero_le h.1
  have hm : m < 65536 := by omega
  have e := numI_nat m hm
  unfold numI at e
  simp only [List.cons.injEq, and_true] at e
  rw [e.1, ] at h1
  rw [e.2] at h2
  rw [nI_eq]
  unfold nN
  rw [h1, h2, b8_nat (Nat.mod_lt _ (by decide)), b8_nat (by omega)]
  omega
/-- bytes, put as the number that they are -/
theorem num_nI (q : List UInt8) (i : Nat) : (numI (nI q i)).map b8 = [q.getD i 0, q.getD (i + 1) 0] := by
  have h1 := gB_lt q i
  have h2 := gB_lt q (i + 1)
  rw [nI_eq, numI_nat _ (nN_lt q i)]
  unfold nN
  rw [show ((q.getD i 0).toNat + 256 * (q.getD (i + 1) 0).toNat) % 256 = (q.getD i 0).toNat by omega, show ((q.getD i 0).toNat + 256 * (q.getD (i + 1) 0).toNat) / 256 = (q.getD (i + 1) 0).toNat by omega]
  simp only [List.map_cons, List.map_nil, b8_of]
theorem adB_of {q : List UInt8} {i : Nat} {a : Ad6} (h0 : q.getD i 0 = b8 a.b0) (h1 : q.getD (i + 1) 0 = b8 a.b1) (h2 : q.getD (i + 2) 0 = b8 a.b2) (h3 : q.getD (i + 3) 0 = b8 a.b3) (h4 : q.getD (i + 4) 0 = b8 a.b4) (h5 : q.getD (i + 5) 0 = b8 a.b5) (h : ∀ x ∈ adI a, Rg x) : adB q i = a := by
  unfold adB gB
  rw [h0, h1, h2, h3, h4, h5]
  rw [b8_rg (h _ (by simp [adI])), b8_rg (h _ (by simp [adI])), b8_rg (h _ (by simp [adI])), b8_rg (h _ (by simp [adI])), b8_rg (h _ (by simp [adI])), b8_rg (h _ (by simp [adI]))]
theorem ad_adB (q : List UInt8) (i : Nat) : (adI (adB q i)).map b8 = [q.getD i 0, q.getD (i + 1) 0, q.getD (i + 2) 0, q.getD (i + 3) 0, q.getD (i + 4) 0, q.getD (i + 5) 0] := by
  simp only [adI, adB, gB, List.map_cons, List.map_nil, b8_of]
theorem adB_rg (q : List UInt8) (i : Nat) : ∀ x ∈ adI (adB q i), Rg x := by
  intro x hx
  simp only [adI, adB, gB, List.mem_cons, List.not_mem_nil, or_false] at hx
  rcases hx with rfl | rfl | rfl | rfl | rfl | rfl <;> exact ⟨Int.natCast_nonneg _, by have := UInt8.toNat_lt (q.getD i 0); have := UInt8.toNat_lt (q.getD (i+1) 0); have := UInt8.toNat_lt (q.getD (i+2) 0); have := UInt8.toNat_lt (q.getD (i+3) 0); have := UInt8.toNat_lt (q.getD (i+4) 0); have := UInt8.toNat_lt (q.getD (i+5) 0); omega⟩
/-! ### Seq and Frag -/
theorem seq_val {s f : Int} (hs : 0 ≤ s ∧ s ≤ 4095) (hf : 0 ≤ f ∧ f ≤ 15) : ∃ n : Nat, n < 65536 ∧ bitD .or .i64 f (shlD .i64 s 4) = (n : Int) ∧ shrD .i64 (n : Int) 4 = s ∧ bitD .and .i64 (n : Int) 15 = f := by
  obtain ⟨s, rfl⟩ := Int.eq_ofNat_of_zero_le hs.1
  obtain ⟨f, rfl⟩ := Int.eq_ofNat_of_zero_le hf.1
  refine ⟨f + 16 * s, by omega, seq_eq (by omega) (by omega), ?_, ?_⟩
  · rw [hi4]
    congr 1
    omega
  · rw [lo4 (by omega)]
    congr 1
    omega
theorem seq_put {n : Nat} (h : n < 65536) : bitD .or .i64 (bitD .and .i64 (n : Int) 15) (shlD .i64 (shrD .i64 (n : Int) 4) 4) = (n : Int) := by
  rw [hi4, lo4 h, seq_eq (Nat.mod_lt _ (by decide)) (by omega)]
  congr 1
  omega
/-! ### Tid, Ack, Amsdu, Eosp -/
abbrev tidV (tid ack : Int) (eos ams : Bool) : Int := bitD .or .i64 (bitD .or .i64 (bitD .or .i64 tid (cond eos 16 0)) (shlD .i64 (IntKind.i64.wrap ack) 5)) (cond ams 128 0)
def tidOk (tid ack : Nat) (eos ams : Bool) : Bool := decide (0 ≤ tidV tid ack eos ams ∧ tidV tid ack eos ams < 65536) && (decide (bitD .andNot .i64 (tidV tid ack eos ams) 240 = (tid : Int)) && (decide (IntKind.u8.wrap (shrD .i64 (bitD .and .i64 (tidV tid ack eos ams) 96) 5) = (ack : Int)) && (bitQ (tidV tid ack eos ams) 128 == ams && bitQ (tidV tid ack eos ams) 16 == eos)))
theorem tid_all : ((List.range 8).all fun t => (List.range 3).all fun a => [true, false].all fun e => [true, false].all fun m => tidOk t a e m) = true := by kernel_rfl
theorem tid_val {tid ack : Int} (eos ams : Bool) (ht : 0 ≤ tid ∧ tid ≤ 7) (ha : 0 ≤ ack ∧ ack ≤ 2) : (0 ≤ tidV tid ack eos ams ∧ tidV tid ack eos ams < 65536) ∧ bitD .andNot .i64 (tidV tid ack eos ams) 240 = tid ∧ IntKind.u8.wrap (shrD .i64 (bitD .and .i64 (tidV tid ack eos ams) 96) 5) = ack ∧ bitQ (tidV tid ack eos ams) 128 = ams ∧ bitQ (tidV tid ack eos ams) 16 = eos := by
  obtain ⟨t, rfl⟩ := Int.eq_ofNat_of_zero_le ht.1
  obtain ⟨a, rfl⟩ := Int.eq_ofNat_of_zero_le ha.1
  have h := List.all_eq_true.1 (List.all_eq_true.1 (List.all_eq_true.1 (List.all_eq_true.1 tid_all t (List.mem_range.2 (by omega))) a (List.mem_range.2 (by omega))) eos (by cases eos <;> simp)) ams (by cases ams <;> simp)
  unfold tidOk at h
  simp only [Bool.and_eq_true, decide_eq_true_eq, beq_iff_eq] at h
  exact ⟨h.1, h.2.1, h.2.2.1, h.2.2.2.1, h.2.2.2.2⟩
def tidBk (n : Nat) : Bool := decide (tidV (bitD .andNot .i64 (n : Int) 240) (IntKind.u8.wrap (shrD .i64 (bitD .and .i64 (n : Int) 96) 5)) (bitQ (n : Int) 16) (bitQ (n : Int) 128) = (n : Int))
theorem tid_all2 : ((List.range 256).all tidBk) = true := by kernel_rfl
theorem andNot_hi {n : Nat} (h : n < 65536) (ht : bitD .andNot .i64 (n : Int) 240 ≤ 7) : n < 256 := by
  rw [show bitD .andNot .i64 (n : Int) 240 = _ from andNotI (b := 240) (by omega)] at ht
  refine Nat.lt_of_not_le fun hn => ?_
  have h7 : (BitVec.ofNat 64 n &&& ~~~ BitVec.ofNat 64 240).toNat ≤ 7 := by omega
  have h8 : (BitVec.ofNat 64 n &&& ~~~ BitVec.ofNat 64 240).toNat / 256 = n / 256 := by
    rw [show (256 : Nat) = 2 ^ 8 from rfl, ← Nat.shiftRight_eq_div_pow, ← Nat.shiftRight_eq_div_pow, ← BitVec.toNat_ushiftRight, BitVec.ushiftRight_and_distrib, show (~~~ BitVec.ofNat 64 240) >>> 8 = BitVec.ofNat 64 (2 ^ 56 - 1) from by decide, BitVec.toNat_and, BitVec.toNat_ushiftRight, BitVec.toNat_ofNat, BitVec.toNat_ofNat, Nat.mod_eq_of_lt (show n < 2 ^ 64 by omega), Nat.mod_eq_of_lt (show 2 ^ 56 - 1 < 2 ^ 64 by decide), Nat.and_two_pow_sub_one_eq_mod, Nat.shiftRight_eq_div_pow]
    exact Nat.mod_eq_of_lt (by omega)
  omega
theorem tid_put {n : Nat} (h : n < 65536) (ht : bitD .andNot .i64 (n : Int) 240 ≤ 7) : tidV (bitD .andNot .i64 (n : Int) 240) (IntKind.u8.wrap (shrD .i64 (bitD .and .i64 (n : Int) 96) 5)) (bitQ (n : Int) 16) (bitQ (n : Int) 128) = (n : Int) := by
  have := List.all_eq_true.1 tid_all2 n (List.mem_range.2 (andNot_hi h ht))
  exact of_decide_eq_true this
/-! ### The first two bytes -/
abbrev flV (f0 f1 f2 f3 f4 f5 f6 : Bool) : Int := bitD .or .i64 (bitD .or .i64 (bitD .or .i64 (bitD .or .i64 (bitD .or .i64 (bitD .or .i64 (cond f0 1 0) (cond f1 2 0)) (cond f2 4 0)) (cond f3 8 0)) (cond f4 16 0)) (cond f5 32 0)) (cond f6 64 0)
abbrev flR (x : UInt8) (k : Int) : Bool := bitQ (IntKind.i64.wrap (x.toNat : Int)) k
theorem fl_get (f0 f1 f2 f3 f4 f5 f6 : Bool) : [flR (b8 (IntKind.u8.wrap (flV f0 f1 f2 f3 f4 f5 f6))) 1, flR (b8 (IntKind.u8.wrap (flV f0 f1 f2 f3 f4 f5 f6))) 2, flR (b8 (IntKind.u8.wrap (flV f0 f1 f2 f3 f4 f5 f6))) 4, flR (b8 (IntKind.u8.wrap (flV f0 f1 f2 f3 f4 f5 f6))) 8,
    flR (b8 (IntKind.u8.wrap (flV f0 f1 f2 f3 f4 f5 f6))) 16, flR (b8 (IntKind.u8.wrap (flV f0 f1 f2 f3 f4 f5 f6))) 32, flR (b8 (IntKind.u8.wrap (flV f0 f1 f2 f3 f4 f5 f6))) 64, !(bitD .and .u8 ((b8 (IntKind.u8.wrap (flV f0 f1 f2 f3 f4 f5 f6))).toNat : Int) 128 != 0)] = [f0, f1, f2, f3, f4, f5, f6, true] := by
  cases f0 <;> cases f1 <;> cases f2 <;> cases f3 <;> cases f4 <;> cases f5 <;> cases f6 <;> kernel_rfl
def flBk (n : Nat) : Bool := (bitD .and .u8 (((UInt8.ofNat n).toNat : Nat) : Int) 128 != 0) || b8 (IntKind.u8.wrap (flV (flR (UInt8.ofNat n) 1) (flR (UInt8.ofNat n) 2) (flR (UInt8.ofNat n) 4) (flR (UInt8.ofNat n) 8) (flR (UInt8.ofNat n) 16) (flR (UInt8.ofNat n) 32) (flR (UInt8.ofNat n) 64))) == UInt8.ofNat n
theorem fl_all : ((List.range 256).all flBk) = true := by kernel_rfl
theorem fl_put (x : UInt8) (h : (bitD .and .u8 (x.toNat : Int) 128 != 0) = false) : b8 (IntKind.u8.wrap (flV (flR x 1) (flR x 2) (flR x 4) (flR x 8) (flR x 16) (flR x 32) (flR x 64))) = x := by
  have := List.all_eq_true.1 fl_all x.toNat (List.mem_range.2 (UInt8.toNat_lt x))
  unfold flBk at this
  rw [UInt8.ofNat_toNat, h, Bool.false_or, beq_iff_eq] at this
  exact this
abbrev ksV (kind sub : Int) : Int := bitD .or .u8 (shlD .u8 kind 2) (shlD .u8 sub 4)
def ksOk (k s : Nat) : Bool := decide (bitD .and .u8 (shrD .u8 ((b8 (ksV k s)).toNat : Int) 2) 3 = (k : Int)) && (decide (shrD .u8 ((b8 (ksV k s)).toNat : Int) 4 = (s : Int)) && !(bitD .and .u8 ((b8 (ksV k s)).toNat : Int) 3 != 0))
theorem ks_all : ((List.range 3).all fun k => (List.range 16).all fun s => ksOk k s) = true := by kernel_rfl
theorem ks_get {kind sub : Int} (hk : 0 ≤ kind ∧ kind < 3) (hs : 0 ≤ sub ∧ sub < 16) : bitD .and .u8 (shrD .u8 ((b8 (ksV kind sub)).toNat : Int) 2) 3 = kind ∧ shrD .u8 ((b8 (ksV kind sub)).toNat : Int) 4 = sub ∧ (bitD .and .u8 ((b8 (ksV kind sub)).toNat : Int) 3 != 0) = false := by
  obtain ⟨k, rfl⟩ := Int.eq_ofNat_of_zero_le hk.1
  obtain ⟨s, rfl⟩ := Int.eq_ofNat_of_zero_le hs.1
  have h := List.all_eq_true.1 (List.all_eq_true.1 ks_all k (List.mem_range.2 (by omega))) s (List.mem_range.2 (by omega))
  unfold ksOk at h
  simp only [Bool.and_eq_true, decide_eq_true_eq, Bool.not_eq_true'] at h
  exact ⟨h.1, h.2.1, h.2.2⟩
def ksBk (n : Nat) : Bool := (bitD .and .u8 (((UInt8.ofNat n).toNat : Nat) : Int) 3 != 0) || b8 (ksV (bitD .and .u8 (shrD .u8 ((UInt8.ofNat n).toNat : Int) 2) 3) (shrD .u8 ((UInt8.ofNat n).toNat : Int) 4)) == UInt8.ofNat n
theorem ks_all2 : ((List.range 256).all ksBk) = true := by kernel_rfl
theorem ks_put (x : UInt8) (h : (bitD .and .u8 (x.toNat : Int) 3 != 0) = false) : b8 (ksV (bitD .and .u8 (shrD .u8 (x.toNat : Int) 2) 3) (shrD .u8 (x.toNat : Int) 4)) = x := by
  have := List.all_eq_true.1 ks_all2 x.toNat (List.mem_range.2 (UInt8.toNat_lt x))
  unfold ksBk at this
  rw [UInt8.ofNat_toNat, h, Bool.false_or, beq_iff_eq] at this
  exact this
end
end Go.Proofs.Ytcllanmickbkpaa
/- Headers, put and read: each undoes the other. -/
namespace Go.Proofs.Ytcllanmickbkpaa
open Go.RowKit

noncomputable section
theorem hd_ext {a b : Hd} (h0 : a.kind = b.kind) (h1 : a.sub = b.sub) (h2 : a.f0 = b.f0) (h3 : a.f1 = b.f1) (h4 : a.f2 = b.f2) (h5 : a.f3 = b.f3) (h6 : a.f4 = b.f4) (h7 : a.f5 = b.f5) (h8 : a.f6 = b.f6) (h9 : a.dur = b.dur) (h10 : a.a1 = b.a1) (h11 : a.a2 = b.a2) (h12 : a.a3 = b.a3) (h13 : a.a4 = b.a4) (h14 : a.seq = b.seq) (h15 : a.frag = b.frag) (h16 : a.tid = b.tid) (h17 : a.ack = b.ack) (h18 : a.ams = b.ams) (h19 : a.eos = b.eos) : a = b := by
  cases a
  cases b
  simp only at *
  subst_vars
  rfl
/-! ### Equality of headers -/
def eqA (a b : Ad6) : Bool := a.b0 == b.b0 && (a.b1 == b.b1 && (a.b2 == b.b2 && (a.b3 == b.b3 && (a.b4 == b.b4 && (a.b5 == b.b5 && true)))))
def eqH (a b : Hd) : Bool := a.kind == b.kind && (a.sub == b.sub && (a.f0 == b.f0 && (a.f1 == b.f1 && (a.f2 == b.f2 && (a.f3 == b.f3 && (a.f4 == b.f4 && (a.f5 == b.f5 && (a.f6 == b.f6 && (a.dur == b.dur && (eqA a.a1 b.a1 && (eqA a.a2 b.a2 && (eqA a.a3 b.a3 && (eqA a.a4 b.a4 && (a.seq == b.seq && (a.frag == b.frag && (a.tid == b.tid && (a.ack == b.ack && (a.ams == b.ams && (a.eos == b.eos && true)))))))))))))))))))
theorem eqA_iff {a b : Ad6} : eqA a b = true ↔ a = b := by
  cases a
  cases b
  simp [eqA]
theorem eqH_iff {a b : Hd} : eqH a b = true ↔ a = b := by
  cases a
  cases b
  simp [eqH, eqA_iff]
theorem eqH_ok (a b : Hd) : eqD tab 20 25 (hdr a) (hdr b) = some (eqH a b) := by kernel_rfl
/-- the header with zeros where the layout has no field -/
def usd (h : Hd) (l : Lay) : Hd := ⟨h.kind, h.sub, bitQ (bitD .and .i64 (flagsI h) l.flags) 1, bitQ (bitD .and .i64 (flagsI h) l.flags) 2, bitQ (bitD .and .i64 (flagsI h) l.flags) 4, bitQ (bitD .and .i64 (flagsI h) l.flags) 8, bitQ (bitD .and .i64 (flagsI h) l.flags) 16, bitQ (bitD .and .i64 (flagsI h) l.flags) 32, bitQ (bitD .and .i64 (flagsI h) l.flags) 64,
  h.dur, h.a1, selB (decide (l.addrs > 1)) h.a2 noA, selB (decide (l.addrs > 2)) h.a3 noA, selB (decide (l.addrs > 3)) h.a4 noA, selB (decide (l.addrs > 2)) h.seq 0, selB (decide (l.addrs > 2)) h.frag 0, selB l.traffic h.tid 0, selB l.traffic h.ack 0, selB l.traffic h.ams false, selB l.traffic h.eos false⟩
set_option maxRecDepth 1000000 in
theorem eqU_eq (h : Hd) (l : Lay) (hg : goodL l = true) : eqU h l = eqH h (usd h l) := by
  obtain ⟨fl, bd, hl⟩ := good_cases hg
  rcases hl with rfl | rfl | rfl | rfl | rfl | rfl <;> kernel_rfl
theorem eqU_iff {h : Hd} {l : Lay} (hg : goodL l = true) : eqU h l = true ↔ h = usd h l := by rw [eqU_eq h l hg, eqH_iff]
/-! ### What tells the layout -/
theorem lay_ks {h : Hd} (e : (layOf h).2 = true) : (0 ≤ h.kind ∧ h.kind < 3) ∧ (0 ≤ h.sub ∧ h.sub < 16) := by
  unfold layOf at e
  split at e
  · simp only [List.mem_cons, List.not_mem_nil, or_false, decide_eq_true_eq] at e
    omega
  · split at e
    · split at e
      · omega
      · split at e
        · omega
        · split at e
          · omega
          · cases e
    · split at e
      · split at e
        · omega
        · split at e
          · omega
          · split at e
            · omega
            · split at e
              · omega
              · cases e
      · cases e
theorem lay_congr {h k : Hd} (h1 : h.kind = k.kind) (h2 : h.sub = k.sub) (h3 : h.f0 = k.f0) (h4 : h.f1 = k.f1) : layOf h = layOf k := by
  unfold layOf
  rw [h1, h2, h3, h4]
/-! ### Put, then read -/
abbrev x0B (h : Hd) : UInt8 := b8 (ksV h.kind h.sub)
abbrev x1B (h : Hd) : UInt8 := b8 (IntKind.u8.wrap (flagsI h))
/-- the header as far as its first bytes tell it -/
def hF (h : Hd) : Hd := ⟨h.kind, h.sub, h.f0, h.f1, h.f2, h.f3, h.f4, h.f5, h.f6, 0, noA, noA, noA, noA, 0, 0, 0, 0, false, false⟩
theorem hS_of {h : Hd} (e : (layOf h).2 = true) : hS (x0B h) (x1B h) = hF h ∧ okS (x0B h) (x1B h) = true := by
  obtain ⟨hk, hs⟩ := lay_ks e
  obtain ⟨k1, k2, k3⟩ := ks_get hk hs
  have hf := fl_get h.f0 h.f1 h.f2 h.f3 h.f4 h.f5 h.f6
  simp only [List.cons.injEq, and_true] at hf
  have hS1 : hS (x0B h) (x1B h) = hF h := hd_ext k1 k2 hf.1 hf.2.1 hf.2.2.1 hf.2.2.2.1 hf.2.2.2.2.1 hf.2.2.2.2.2.1 hf.2.2.2.2.2.2.1 rfl rfl rfl rfl rfl rfl rfl rfl rfl rfl rfl
  refine ⟨hS1, ?_⟩
  unfold okS
  rw [hS1, lay_congr (h := hF h) (k := h) rfl rfl rfl rfl, e, Bool.true_and, k3, Bool.not_false, Bool.true_and]
  exact hf.2.2.2.2.2.2.2
def hbT (h : Hd) (l : Lay) : List UInt8 := (hbB h l).drop 2
theorem hbB_eq (h : Hd) (l : Lay) : hbB h l = x0B h :: x1B h :: hbT h l := rfl
theorem wi_iff {n m : Int} : wi n m = true ↔ 0 ≤ n ∧ n ≤ m := by
  unfold wi
  rw [Bool.and_eq_true, decide_eq_true_eq, decide_eq_true_eq]
structure InR (h : Hd) : Prop where
  dur : 0 ≤ h.dur ∧ h.dur ≤ 32767
  seq : 0 ≤ h.seq ∧ h.seq ≤ 4095
  frag : 0 ≤ h.frag ∧ h.frag ≤ 15
  tid : 0 ≤ h.tid ∧ h.tid ≤ 7
  ack : 0 ≤ IntKind.i64.wrap h.ack ∧ IntKind.i64.wrap h.ack ≤ 2
theorem inR_of {h : Hd} (e : inR h = true) : InR h := by
  unfold inR at e
  simp only [Bool.and_eq_true, wi_iff] at e
  exact ⟨e.1, e.2.1, e.2.2.1, e.2.2.2.1, e.2.2.2.2⟩
theorem vld_of {h : Hd} {l : Lay} (e : vld h l = true) : eqU h l = true ∧ inR h = true ∧ grp h.a2 = false ∧ wrg h l = false := by
  unfold vld at e
  simp only [Bool.and_eq_true, Bool.not_eq_true'] at e
  exact ⟨e.1, e.2.1, e.2.2.1, e.2.2.2⟩
theorem wrap_rg64 {x : Int} (h : Rg x) : IntKind.i64.wrap x = x := by
  obtain ⟨n, rfl⟩ := Int.eq_ofNat_of_zero_le h.1
  have := h.2
  exact wrapI (by omega)
theorem read_put {h : Hd} {l : Lay} (hg : goodL l = true) (hv : vld h l = true) (ho : HdOk h) : hR (hF h) l (hbT h l) = h := by
  obtain ⟨hu, hi, _, _⟩ := vld_of hv
  have hi := inR_of hi
  have hu := (eqU_iff hg).1 hu
  have hack := hi.ack
  rw [wrap_rg64 ho.ack] at hack
  have hd : 0 ≤ h.dur ∧ h.dur < 65536 := by have := hi.dur; omega
  obtain ⟨n, hn, n1, n2, n3⟩ := seq_val hi.seq hi.frag
  have hsq : 0 ≤ seqI h ∧ seqI h < 65536 := by
    have : seqI h = (n : Int) := n1
    omega
  have hs : shrD .i64 (seqI h) 4 = h.seq := by
    have : seqI h = (n : Int) := n1
    rw [this]
    exact n2
  have hf : bitD .and .i64 (seqI h) 15 = h.frag := by
    have : seqI h = (n : Int) := n1
    rw [this]
    exact n3
  obtain ⟨t0, t1, t2, t3, t4⟩ := tid_val h.eos h.ams hi.tid hack
  have t0 : 0 ≤ tidI h ∧ tidI h < 65536 := t0
  have t1 : bitD .andNot .i64 (tidI h) 240 = h.tid := t1
  have t2 : IntKind.u8.wrap (shrD .i64 (bitD .and .i64 (tidI h) 96) 5) = h.ack := t2
  have t3 : bitQ (tidI h) 128 = h.ams := t3
  have t4 : bitQ (tidI h) 16 = h.eos := t4
  obtain ⟨fl, bd, hl⟩ := good_cases hg
  rcases hl with rfl | rfl | rfl | rfl | rfl | rfl
  · exact hd_ext rfl rfl rfl rfl rfl rfl rfl rfl rfl (nI_of rfl rfl hd) (adB_of rfl rfl rfl rfl rfl rfl ho.a1) (congrArg Hd.a2 hu).symm (congrArg Hd.a3 hu).symm (congrArg Hd.a4 hu).symm (congrArg Hd.seq hu).symm (congrArg Hd.frag hu).symm (congrArg Hd.tid hu).symm (congrArg Hd.ack hu).symm (congrArg Hd.ams hu).symm (congrArg Hd.eos hu).symm
  · exact hd_ext rfl rfl rfl rfl rfl rfl rfl rfl rfl (nI_of rfl rfl hd) (adB_of rfl rfl rfl rfl rfl rfl ho.a1) (adB_of rfl rfl rfl rfl rfl rfl ho.a2) (congrArg Hd.a3 hu).symm (congrArg Hd.a4 hu).symm (congrArg Hd.seq hu).symm (congrArg Hd.frag hu).symm (congrArg Hd.tid hu).symm (congrArg Hd.ack hu).symm (congrArg Hd.ams hu).symm (congrArg Hd.eos hu).symm
  · have e : nI (hbT h ⟨fl, 3, false, bd⟩) 20 = seqI h := nI_of rfl rfl hsq
    exact hd_ext rfl rfl rfl rfl rfl rfl rfl rfl rfl (nI_of rfl rfl hd) (adB_of rfl rfl rfl rfl rfl rfl ho.a1) (adB_of rfl rfl rfl rfl rfl rfl ho.a2) (adB_of rfl rfl rfl rfl rfl rfl ho.a3) (congrArg Hd.a4 hu).symm ((congrArg (shrD .i64 · 4) e).trans hs) ((congrArg (bitD .and .i64 · 15) e).trans hf) (congrArg Hd.tid hu).symm (congrArg Hd.ack hu).symm (congrArg Hd.ams hu).symm (congrArg Hd.eos hu).symm
  · have e : nI (hbT h ⟨fl, 3, true, bd⟩) 20 = seqI h := nI_of rfl rfl hsq
    have g : nI (hbT h ⟨fl, 3, true, bd⟩) 22 = tidI h := nI_of rfl rfl t0
    exact hd_ext rfl rfl rfl rfl rfl rfl rfl rfl rfl (nI_of rfl rfl hd) (adB_of rfl rfl rfl rfl rfl rfl ho.a1) (adB_of rfl rfl rfl rfl rfl rfl ho.a2) (adB_of rfl rfl rfl rfl rfl rfl ho.a3) (congrArg Hd.a4 hu).symm ((congrArg (shrD .i64 · 4) e).trans hs) ((congrArg (bitD .and .i64 · 15) e).trans hf) ((congrArg (bitD .andNot .i64 · 240) g).trans t1) ((congrArg (fun x => IntKind.u8.wrap (shrD .i64 (bitD .and .i64 x 96) 5)) g).trans t2) ((congrArg (bitQ · 128) g).trans t3) ((congrArg (bitQ · 16) g).trans t4)
  · have e : nI (hbT h ⟨fl, 4, false, bd⟩) 20 = seqI h := nI_of rfl rfl hsq
    exact hd_ext rfl rfl rfl rfl rfl rfl rfl rfl rfl (nI_of rfl rfl hd) (adB_of rfl rfl rfl rfl rfl rfl ho.a1) (adB_of rfl rfl rfl rfl rfl rfl ho.a2) (adB_of rfl rfl rfl rfl rfl rfl ho.a3) (adB_of rfl rfl rfl rfl rfl rfl ho.a4) ((congrArg (shrD .i64 · 4) e).trans hs) ((congrArg (bitD .and .i64 · 15) e).trans hf) (congrArg Hd.tid hu).symm (congrArg Hd.ack hu).symm (congrArg Hd.ams hu).symm (congrArg Hd.eos hu).symm
  · have e : nI (hbT h ⟨fl, 4, true, bd⟩) 20 = seqI h := nI_of rfl rfl hsq
    have g : nI (hbT h ⟨fl, 4, true, bd⟩) 28 = tidI h := nI_of rfl rfl t0
    exact hd_ext rfl rfl rfl rfl rfl rfl rfl rfl rfl (nI_of rfl rfl hd) (adB_of rfl rfl rfl rfl rfl rfl ho.a1) (adB_of rfl rfl rfl rfl rfl rfl ho.a2) (adB_of rfl rfl rfl rfl rfl rfl ho.a3) (adB_of rfl rfl rfl rfl rfl rfl ho.a4) ((congrArg (shrD .i64 · 4) e).trans hs) ((congrArg (bitD .and .i64 · 15) e).trans hf) ((congrArg (bitD .andNot .i64 · 240) g).trans t1) ((congrArg (fun x => IntKind.u8.wrap (shrD .i64 (bitD .and .i64 x 96) 5)) g).trans t2) ((congrArg (bitQ · 128) g).trans t3) ((congrArg (bitQ · 16) g).trans t4)
/-! ### Read, then put -/
abbrev sqI (n : Int) : Int := bitD .or .i64 (bitD .and .i64 n 15) (shlD .i64 (shrD .i64 n 4) 4)
abbrev tqI (n : Int) : Int := tidV (bitD .andNot .i64 n 240) (IntKind.u8.wrap (shrD .i64 (bitD .and .i64 n 96) 5)) (bitQ n 16) (bitQ n 128)
theorem put_fix {n : Int} (q : List UInt8) (i : Nat) (h : n = nI q i) : (numI n).map b8 = [q.getD i 0, q.getD (i + 1) 0] := by rw [h, num_nI]
theorem hR_ok (x0 x1 : UInt8) (l : Lay) (q : List UInt8) : HdOk (hR (hS x0 x1) l q) := by
  have hz : ∀ x ∈ adI noA, Rg x := by
    intro x hx
    simp only [adI, noA, List.mem_cons, List.not_mem_nil, or_false] at hx
    rcases hx with rfl | rfl | rfl | rfl | rfl | rfl <;> exact ⟨by decide, by decide⟩
  have sel : ∀ (b : Bool) (i : Nat), ∀ x ∈ adI (selB b (adB q i) noA), Rg x := fun b i => by
    cases b
    · exact hz
    · exact adB_rg q i
  refine ⟨adB_rg q 2, sel _ 8, sel _ 14, sel _ 22, ?_⟩
  show Rg (selB l.traffic _ _)
  cases l.traffic
  · show Rg 0
    exact ⟨by decide, by decide⟩
  · exact wrap_rg _
theorem put_read {x0 x1 : UInt8} {l : Lay} {q : List UInt8} (hg : goodL l = true) (hok : okS x0 x1 = true) (hq : (q.length : Int) + 2 = szL l) (hi : InR (hR (hS x0 x1) l q)) : hbB (hR (hS x0 x1) l q) l = x0 :: x1 :: q := by
  unfold okS at hok
  simp only [Bool.and_eq_true, Bool.not_eq_true'] at hok
  have e0 := ks_put x0 hok.2.1
  have e1 := fl_put x1 hok.2.2
  have sq : sqI (nI q 20) = nI q 20 := by
    rw [nI_eq]
    exact seq_put (nN_lt q 20)
  have tq : ∀ i, bitD .andNot .i64 (nI q i) 240 ≤ 7 → tqI (nI q i) = nI q i := fun i h => by
    rw [nI_eq] at h ⊢
    exact tid_put (nN_lt q i) h
  have ht := hi.tid.2
  obtain ⟨fl, bd, hl⟩ := good_cases hg
  rcases hl with rfl | rfl | rfl | rfl | rfl | rfl
  · obtain ⟨y0, y1, y2, y3, y4, y5, y6, y7, rfl⟩ := list8 (l := q) (by simp [szL] at hq; omega)
    show b8 _ :: b8 _ :: ((numI (nI _ 0)).map b8 ++ (adI (adB _ 2)).map b8) = _
    rw [num_nI, ad_adB]
    exact congr (congrArg List.cons e0) (congr (congrArg List.cons e1) rfl)
  · obtain ⟨y0, y1, y2, y3, y4, y5, y6, y7, y8, y9, y10, y11, y12, y13, rfl⟩ := list14 (l := q) (by simp [szL] at hq; omega)
    show b8 _ :: b8 _ :: ((numI (nI _ 0)).map b8 ++ ((adI (adB _ 2)).map b8 ++ (adI (adB _ 8)).map b8)) = _
    rw [num_nI, ad_adB, ad_adB]
    exact congr (congrArg List.cons e0) (congr (congrArg List.cons e1) rfl)
  · obtain ⟨y0, y1, y2, y3, y4, y5, y6, y7, y8, y9, y10, y11, y12, y13, y14, y15, y16, y17, y18, y19, y20, y21, rfl⟩ := list22 (l := q) (by simp [szL] at hq; omega)
    show b8 _ :: b8 _ :: ((numI (nI _ 0)).map b8 ++ ((adI (adB _ 2)).map b8 ++ ((adI (adB _ 8)).map b8 ++ ((adI (adB _ 14)).map b8 ++ (numI (sqI (nI _ 20))).map b8)))) = _
    rw [num_nI, ad_adB, ad_adB, ad_adB, put_fix _ 20 sq]
    exact congr (congrArg List.cons e0) (congr (congrArg List.cons e1) rfl)
  · obtain ⟨y0, y1, y2, y3, y4, y5, y6, y7, y8, y9, y10, y11, y12, y13, y14, y15, y16, y17, y18, y19, y20, y21, y22, y23, rfl⟩ := list24 (l := q) (by simp [szL] at hq; omega)
    show b8 _ :: b8 _ :: ((numI (nI _ 0)).map b8 ++ ((adI (adB _ 2)).map b8 ++ ((adI (adB _ 8)).map b8 ++ ((adI (adB _ 14)).map b8 ++ ((numI (sqI (nI _ 20))).map b8 ++ (numI (tqI (nI _ 22))).map b8))))) = _
    rw [num_nI, ad_adB, ad_adB, ad_adB, put_fix _ 20 sq, put_fix _ 22 (tq 22 ht)]
    exact congr (congrArg List.cons e0) (congr (congrArg List.cons e1) rfl)
  · obtain ⟨y0, y1, y2, y3, y4, y5, y6, y7, y8, y9, y10, y11, y12, y13, y14, y15, y16, y17, y18, y19, y20, y21, y22, y23, y24, y25, y26, y27, rfl⟩ := list28 (l := q) (by simp [szL] at hq; omega)
    show b8 _ :: b8 _ :: ((numI (nI _ 0)).map b8 ++ ((adI (adB _ 2)).map b8 ++ ((adI (adB _ 8)).map b8 ++ ((adI (adB _ 14)).map b8 ++ ((numI (sqI (nI _ 20))).map b8 ++ (adI (adB _ 22)).map b8))))) = _
    rw [num_nI, ad_adB, ad_adB, ad_adB, put_fix _ 20 sq, ad_adB]
    exact congr (congrArg List.cons e0) (congr (congrArg List.cons e1) rfl)
  · obtain ⟨y0, y1, y2, y3, y4, y5, y6, y7, y8, y9, y10, y11, y12, y13, y14, y15, y16, y17, y18, y19, y20, y21, y22, y23, y24, y25, y26, y27, y28, y29, rfl⟩ := list30 (l := q) (by simp [szL] at hq; omega)
    show b8 _ :: b8 _ :: ((numI (nI _ 0)).map b8 ++ ((adI (adB _ 2)).map b8 ++ ((adI (adB _ 8)).map b8 ++ ((adI (adB _ 14)).map b8 ++ ((numI (sqI (nI _ 20))).map b8 ++ ((adI (adB _ 22)).map b8 ++ (numI (tqI (nI _ 28))).map b8)))))) = _
    rw [num_nI, ad_adB, ad_adB, ad_adB, put_fix _ 20 sq, ad_adB, put_fix _ 28 (tq 28 ht)]
    exact congr (congrArg List.cons e0) (congr (congrArg List.cons e1) rfl)
end
end Go.Proofs.Ytcllanmickbkpaa
/- What Decode answers to what Encode answers, and the other way round. -/
namespace Go.Proofs.Ytcllanmickbkpaa
open Go.RowKit

noncomputable section
theorem withL_len4 (bs : List UInt8) : (withL bs).length = bs.length + 4 := by
  unfold withL
  rw [List.length_append]
  rfl
theorem withL_take (bs : List UInt8) : (withL bs).take ((withL bs).length - 4) = bs := by
  rw [withL_len4, show bs.length + 4 - 4 = bs.length by omega]
  unfold withL
  rw [List.take_left']
  rfl
theorem okF_of {h : Hd} {b : List UInt8} (e : okF h b = true) : okH h = true ∧ ((layOf h).1.body || decide (b.length = 0)) = true := by
  unfold okF at e
  rw [Bool.and_eq_true] at e
  exact e
theorem okH_of {h : Hd} (e : okH h = true) : (layOf h).2 = true ∧ vld h (layOf h).1 = true := by
  unfold okH at e
  rw [Bool.and_eq_true] at e
  exact e
theorem dec_enc {h : Hd} {b : List UInt8} (ho : HdOk h) (hok : okF h b = true) (hl : b.length ≤ 2304) :
    decB (withL (hbB h (layOf h).1 ++ b)) = (.tuple [frm h (.sl 0 (hbB h (layOf h).1).length 1 b.length b.length), .int .i64 0], ownH 5 1 (celB (withL (hbB h (layOf h).1 ++ b)))) := by
  obtain ⟨h1, h2⟩ := okF_of hok
  obtain ⟨h3, h4⟩ := okH_of h1
  have hg := lay_good h h3
  obtain ⟨hs, hs2⟩ := hS_of h3
  have hrp := read_put hg h4 ho
  have hlay : layOf (hF h) = layOf h := lay_congr rfl rfl rfl rfl
  have hsz := hbB_length h hg
  obtain ⟨z0, z1⟩ := szL_le hg
  have hlen : (hbB h (layOf h).1).length = (hbT h (layOf h).1).length + 2 := by rw [hbB_eq]; rfl
  have e1 : ¬ (withL (hbB h (layOf h).1 ++ b)).length < 4 := by rw [withL_len4]; omega
  unfold decB
  rw [if_neg e1, withL_take, if_pos rfl]
  rw [hbB_eq]
  show decP _ (x0B h :: x1B h :: (hbT h (layOf h).1 ++ b)) (x0B h) (x1B h) = _
  have hpl : (x0B h :: x1B h :: (hbT h (layOf h).1 ++ b)).length = (hbT h (layOf h).1).length + b.length + 2 := by simp
  have hN : (szL (layOf h).1).toNat = (hbT h (layOf h).1).length + 2 := by omega
  have hd : decide (((x0B h :: x1B h :: (hbT h (layOf h).1 ++ b)).length : Int) < szL (layOf h).1) = false := decide_eq_false (by rw [hpl]; omega)
  have hq : (((x0B h :: x1B h :: (hbT h (layOf h).1 ++ b)).drop 2).take ((szL (layOf h).1).toNat - 2)) = hbT h (layOf h).1 := by
    rw [hN]
    show (hbT h (layOf h).1 ++ b).take _ = _
    rw [show (hbT h (layOf h).1).length + 2 - 2 = (hbT h (layOf h).1).length by omega, List.take_left']
    rfl
  have hb : bodyOfP (x0B h :: x1B h :: (hbT h (layOf h).1 ++ b)) (layOf h).1 = b := by
    unfold bodyOfP
    rw [hN]
    show (hbT h (layOf h).1 ++ b).drop _ = _
    rw [List.drop_left']
    rfl
  have hlo : decide (b.length > 2304) = false := decide_eq_false (by omega)
  unfold decP
  rw [hs2, hs, hlay]
  simp only [hd, hq, hrp, h4, hb, h2, hlo]
  rw [hN]
  rfl
theorem dec_cases (bs : List UInt8) : (∃ e : Int, e ≠ 0 ∧ decB bs = (zfr e, ⟨0, [], []⟩)) ∨ ∃ (h : Hd) (b : List UInt8), HdOk h ∧ okF h b = true ∧ b.length ≤ 2304 ∧ bs = withL (hbB h (layOf h).1 ++ b) := by
  by_cases h4 : bs.length < 4
  · exact .inl ⟨10, by decide, by unfold decB; rw [if_pos h4]⟩
  by_cases hw : withL (bs.take (bs.length - 4)) = bs
  case neg => exact .inl ⟨31, by decide, by unfold decB; rw [if_neg h4, if_neg hw]⟩
  match hp : bs.take (bs.length - 4) with
  | [] => exact .inl ⟨10, by decide, by unfold decB; rw [if_neg h4, if_pos hw]; rw [hp]⟩
  | [_] => exact .inl ⟨10, by decide, by unfold decB; rw [if_neg h4, if_pos hw]; rw [hp]⟩
  | x0 :: x1 :: r =>
    have hd : decB bs = decP bs (x0 :: x1 :: r) x0 x1 := by unfold decB; rw [if_neg h4, if_pos hw]; rw [hp]
    rw [hp] at hw
    rw [hd]
    unfold decP
    cases hok : okS x0 x1 with
    | false => exact .inl ⟨12, by decide, rfl⟩
    | true =>
    have hK : (layOf (hS x0 x1)).2 = true := by
      unfold okS at hok
      rw [Bool.and_eq_true] at hok
      exact hok.1
    have hg := lay_good _ hK
    obtain ⟨z0, z1⟩ := szL_le hg
    simp only
    cases hsh : decide (((x0 :: x1 :: r).length : Int) < szL (layOf (hS x0 x1)).1) with
    | true => exact .inl ⟨10, by decide, rfl⟩
    | false =>
    simp only
    have hge := of_decide_eq_false hsh
    have z2 : 10 ≤ szL (layOf (hS x0 x1)).1 := by
      obtain ⟨fl, bd, hl⟩ := good_cases hg
      rcases hl with hl | hl | hl | hl | hl | hl <;> (rw [hl]; simp [szL])
    have hql : ((((x0 :: x1 :: r).drop 2).take ((szL (layOf (hS x0 x1)).1).toNat - 2)).length : Int) + 2 = szL (layOf (hS x0 x1)).1 := by
      rw [List.length_take, List.length_drop]
      omega
    have happ : ((x0 :: x1 :: r).drop 2).take ((szL (layOf (hS x0 x1)).1).toNat - 2) ++ bodyOfP (x0 :: x1 :: r) (layOf (hS x0 x1)).1 = r := by
      unfold bodyOfP
      rw [show (szL (layOf (hS x0 x1)).1).toNat = (szL (layOf (hS x0 x1)).1).toNat - 2 + 2 by omega]
      exact List.take_append_drop _ r
    generalize hqq : ((x0 :: x1 :: r).drop 2).take ((szL (layOf (hS x0 x1)).1).toNat - 2) = q at *
    cases hv : vld (hR (hS x0 x1) (layOf (hS x0 x1)).1 q) (layOf (hS x0 x1)).1 with
    | false => exact .inl ⟨12, by decide, rfl⟩
    | true =>
    simp only
    cases hbd : ((layOf (hS x0 x1)).1.body || decide ((bodyOfP (x0 :: x1 :: r) (layOf (hS x0 x1)).1).length = 0)) with
    | false => exact .inl ⟨12, by decide, rfl⟩
    | true =>
    simp only
    cases hlo : decide ((bodyOfP (x0 :: x1 :: r) (layOf (hS x0 x1)).1).length > 2304) with
    | true => exact .inl ⟨11, by decide, rfl⟩
    | false =>
    have hlo := of_decide_eq_false hlo
    refine .inr ⟨hR (hS x0 x1) (layOf (hS x0 x1)).1 q, bodyOfP (x0 :: x1 :: r) (layOf (hS x0 x1)).1, hR_ok _ _ _ _, ?_, by omega, ?_⟩
    · have hlay : layOf (hR (hS x0 x1) (layOf (hS x0 x1)).1 q) = layOf (hS x0 x1) := lay_congr rfl rfl rfl rfl
      unfold okF okH
      rw [hlay, hK, hv, hbd]
      rfl
    · have hlay : layOf (hR (hS x0 x1) (layOf (hS x0 x1)).1 q) = layOf (hS x0 x1) := lay_congr rfl rfl rfl rfl
      rw [hlay, put_read hg hok hql (inR_of (vld_of hv).2.1)]
      show bs = withL (x0 :: x1 :: (q ++ _))
      rw [happ, hw]
end
end Go.Proofs.Ytcllanmickbkpaa
