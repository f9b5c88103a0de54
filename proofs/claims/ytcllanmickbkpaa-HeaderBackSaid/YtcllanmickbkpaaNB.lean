/- The register of 32 bits, over any bytes. -/
import Derived.Test.YtcllanmickbkpaaCt
import Derived.Test.YtcllanmickbkpaaNA
namespace Go.Proofs.Ytcllanmickbkpaa
open Go.RowKit

noncomputable section
def T32 : List (BitVec 32) := [0, 136331795, 272663590, 408995381, 545327180, 681658975, 817990762, 954322553, 1090654360, 1226986123, 1363317950, 1499649709, 1635981524, 1772313287, 1908645106, 2044976865]
theorem tD32_eq : tD32 = T32.map w32 := by kernel_rfl
def te32 (i : Nat) : BitVec 32 := T32.getD i 0
theorem tD32_nth {i : Nat} (h : i < 16) : nth tD32 i = some (w32 (te32 i)) := by
  have hl : i < T32.length := h
  rw [nth_eq, tD32_eq, List.getElem?_map, List.getElem?_eq_getElem hl, te32, List.getD, List.getElem?_eq_getElem hl]
  rfl
def n1_32 (r : BitVec 32) (c : UInt8) : Nat := (r >>> 28).toNat ^^^ (c.toNat / 16)
def n2_32 (r : BitVec 32) (c : UInt8) : Nat := (r >>> 28).toNat ^^^ (c.toNat % 16)
def m32 (r : BitVec 32) (c : UInt8) : BitVec 32 := r <<< 4 ^^^ te32 (n1_32 r c)
/-- the register after one byte more -/
def st32 (r : BitVec 32) (c : UInt8) : BitVec 32 := m32 r c <<< 4 ^^^ te32 (n2_32 (m32 r c) c)
def H32 : Hp := ⟨1, [⟨0, 0, 113, tD32⟩], []⟩
def S32 (xs : List (List DV)) (k : Nat) (r : BitVec 32) : Slots := mkT 47 [(0, w32 r), (7, .ptr 0 0), (8, .int .i64 28), (15, .list 1 xs), (16, iN xs.length), (17, iN k)]
abbrev live32 : List Nat := [0, 7, 8, 15, 16, 17]
abbrev lp32 : Code := loopAt (bodyOf ftab 74) 0
set_option maxRecDepth 1000000 in
theorem round32 (xs : List (List DV)) (k : Nat) (r m s t1 t2 : BitVec 32) (c : UInt8) (j1 j2 : Nat) : zsee Try.prog tab ftab noC (ksF ftab 74) live32 lp32 (S32 xs k r) H32
      [(18, .b true), (19, .n (.fptr [i8 c])), (30, .n (.ptr 0 j1)), (31, .n (w32 t1)), (0, .w (w32 m)), (42, .n (.ptr 0 j2)), (43, .n (w32 t2)), (0, .w (w32 s)), (17, .w (iN (k + 1)))] =
    some (.normal, S32 xs (k + 1) s, H32, [decide ((k : Int) < (xs.length : Int)) = true, idxOk (k : Int) xs.length = true, nth xs (k : Int).toNat = some [i8 c],
      idxOk (bitD .xor .u8 (IntKind.u8.wrap (shrD .u32 (r.toNat : Int) 28)) (shrD .u8 (c.toNat : Int) 4)) 16 = true, DV.ptr 0 (0 + (bitD .xor .u8 (IntKind.u8.wrap (shrD .u32 (r.toNat : Int) 28)) (shrD .u8 (c.toNat : Int) 4)).toNat * 1) = .ptr 0 j1, nth tD32 j1 = some (w32 t1), DV.int .u32 (bitD .xor .u32 (shlD .u32 (r.toNat : Int) 4) (t1.toNat : Int)) = w32 m,
      idxOk (bitD .xor .u8 (IntKind.u8.wrap (shrD .u32 (m.toNat : Int) 28)) (bitD .and .u8 (c.toNat : Int) 15)) 16 = true, DV.ptr 0 (0 + (bitD .xor .u8 (IntKind.u8.wrap (shrD .u32 (m.toNat : Int) 28)) (bitD .and .u8 (c.toNat : Int) 15)).toNat * 1) = .ptr 0 j2, nth tD32 j2 = some (w32 t2), DV.int .u32 (bitD .xor .u32 (shlD .u32 (m.toNat : Int) 4) (t2.toNat : Int)) = w32 s, DV.int .i64 (IntKind.i64.wrap ((k : Int) + 1)) = iN (k + 1)]) := by
  kernel_rfl
set_option maxRecDepth 1000000 in
theorem out32 (xs : List (List DV)) (k : Nat) (r : BitVec 32) : zsee Try.prog tab ftab noC (ksF ftab 74) [0] lp32 (S32 xs k r) H32 [(18, .b false)] =
    some (.exit 0, mkT 47 [(0, w32 r)], H32, [decide ((k : Int) < (xs.length : Int)) = false]) := by
  kernel_rfl
end
end Go.Proofs.Ytcllanmickbkpaa
/- The register of 32 bits over any bytes: what it is. -/
namespace Go.Proofs.Ytcllanmickbkpaa
open Go.RowKit

noncomputable section
theorem top32 (r : BitVec 32) : IntKind.u8.wrap (shrD .u32 (r.toNat : Int) 28) = (((r >>> 28).toNat : Nat) : Int) := by
  have h := r.isLt
  rw [show (28 : Int) = ((28 : Nat) : Int) from rfl, shrU _ (by decide), wrapU rfl, BitVec.toNat_ushiftRight, Nat.shiftRight_eq_div_pow]
  have : r.toNat / 2 ^ 28 < 2 ^ 8 := by omega
  rw [show IntKind.u8.bits = 8 from rfl, Nat.mod_eq_of_lt this]
theorem top32_lt (r : BitVec 32) : (r >>> 28).toNat < 16 := by
  have h := r.isLt
  rw [BitVec.toNat_ushiftRight, Nat.shiftRight_eq_div_pow]
  omega
theorem n1_32_lt (r : BitVec 32) (c : UInt8) : n1_32 r c < 16 := by
  have h := UInt8.toNat_lt c
  exact Nat.xor_lt_two_pow (n := 4) (top32_lt r) (by omega)
theorem n2_32_lt (r : BitVec 32) (c : UInt8) : n2_32 r c < 16 := Nat.xor_lt_two_pow (n := 4) (top32_lt r) (Nat.mod_lt _ (by omega))
theorem ix1_32 (r : BitVec 32) (c : UInt8) : bitD .xor .u8 (IntKind.u8.wrap (shrD .u32 (r.toNat : Int) 28)) (shrD .u8 (c.toNat : Int) 4) = (n1_32 r c : Int) := by
  have h := UInt8.toNat_lt c
  have h1 := top32_lt r
  rw [top32, show (4 : Int) = ((4 : Nat) : Int) from rfl, shrU _ (by decide), xorU rfl (by show _ < 256; omega) (by show _ < 256; omega)]
  rfl
theorem ix2_32 (r : BitVec 32) (c : UInt8) : bitD .xor .u8 (IntKind.u8.wrap (shrD .u32 (r.toNat : Int) 28)) (bitD .and .u8 (c.toNat : Int) 15) = (n2_32 r c : Int) := by
  have h := UInt8.toNat_lt c
  have h1 := top32_lt r
  have h2 : c.toNat &&& 15 = c.toNat % 16 := Nat.and_two_pow_sub_one_eq_mod c.toNat 4
  rw [top32, show (15 : Int) = ((15 : Nat) : Int) from rfl, andU rfl (by show _ < 256; omega) (by decide), h2, xorU rfl (by show _ < 256; omega) (by show _ < 256; omega)]
  rfl
theorem up32 (r t : BitVec 32) : DV.int .u32 (bitD .xor .u32 (shlD .u32 (r.toNat : Int) 4) (t.toNat : Int)) = w32 (r <<< 4 ^^^ t) := by
  have h := r.isLt
  rw [show (4 : Int) = ((4 : Nat) : Int) from rfl, shlU rfl _ (by decide), xorU rfl (Nat.mod_lt _ (by decide)) t.isLt]
  simp only [w32, BitVec.toNat_xor, BitVec.toNat_shiftLeft, Nat.shiftLeft_eq]
  rfl
theorem ptr_ix {e : Int} {j : Nat} (h : e = (j : Int)) : DV.ptr 0 (0 + e.toNat * 1) = .ptr 0 j := by
  rw [h, Int.toNat_natCast]
  simp
theorem idx_16 {e : Int} {j : Nat} (h : e = (j : Int)) (hj : j < 16) : idxOk e 16 = true := by
  rw [h]
  exact idxOk_lt hj
theorem loop32 (bs : List UInt8) (hl : bs.length < 2 ^ 30) (r0 : BitVec 32) : Goes Try.prog tab (ksF ftab 74) (.loop lp32) (S32 (by1 bs) 0 r0) H32 (.exit 0) (mkT 47 [(0, w32 (bs.foldl st32 r0))]) H32 := by
  have key := Goes.loop (P := Try.prog) (T := tab) (ks := ksF ftab 74) (x := lp32) bs.length (fun k => S32 (by1 bs) k ((bs.take k).foldl st32 r0)) (fun _ => H32) (e := .exit 0) (s1 := mkT 47 [(0, w32 (bs.foldl st32 r0))]) (h1 := H32) ?_ ?_ (by intro h; cases h)
  · exact key
  · intro k hk
    have hc : bs[k]? = some bs[k] := List.getElem?_eq_getElem hk
    have hf : (bs.take (k + 1)).foldl st32 r0 = st32 ((bs.take k).foldl st32 r0) bs[k] := by
      rw [List.take_add_one, hc, List.foldl_append]
      rfl
    have hlen := by1_length bs
    simp only [hf]
    generalize (bs.take k).foldl st32 r0 = r
    refine zsee_ok tab_ok mixed fun_ok noC_ok (round32 (by1 bs) k r (m32 r bs[k]) _ (te32 (n1_32 r bs[k])) (te32 (n2_32 (m32 r bs[k]) bs[k])) bs[k] (n1_32 r bs[k]) (n2_32 (m32 r bs[k]) bs[k])) ?_
    have a1 := ix1_32 r bs[k]
    have a2 := ix2_32 (m32 r bs[k]) bs[k]
    have b1 := n1_32_lt r bs[k]
    have b2 := n2_32_lt (m32 r bs[k]) bs[k]
    refine .cons (decide_eq_true (by omega)) (.cons (idxOk_lt (by omega)) (.cons (by1_nth hc) (.cons (idx_16 a1 b1) (.cons (ptr_ix a1) (.cons (tD32_nth b1) (.cons (up32 _ _) (.cons (idx_16 a2 b2) (.cons (ptr_ix a2) (.cons (tD32_nth b2) (.cons (up32 _ _) (.cons ?_ .nil)))))))))))
    have := wrapI (n := k + 1) (by omega)
    exact congrArg (DV.int .i64) this
  · have hf : (bs.take bs.length) = bs := List.take_length
    simp only [hf]
    refine zsee_ok tab_ok mixed fun_ok noC_ok (out32 (by1 bs) bs.length _) (.cons (decide_eq_false ?_) .nil)
    have hlen := by1_length bs
    omega
set_option maxRecDepth 1000000 in
theorem run32 (xs : List (List DV)) (r R : BitVec 32) : zans Try.prog tab ftab noC 74 [w32 r, .int .u32 136331795, .list 1 xs] [(0, .l live32 (.exit 0) (mkT 47 [(0, w32 R)]) H32)] =
    some (w32 R, H32, [Goes Try.prog tab (ksF ftab 74) (.loop lp32) (S32 xs 0 r) H32 (.exit 0) (mkT 47 [(0, w32 R)]) H32]) := by
  kernel_rfl
set_option maxRecDepth 1000000 in
theorem runN32 (r : BitVec 32) : zans Try.prog tab ftab noC 74 [w32 r, .int .u32 136331795, .nil] [] = some (w32 r, H32, []) := by
  kernel_rfl
def A32 (x : BitVec 32 × Option {bs : List UInt8 // bs.length < 2 ^ 30}) : List DV := [w32 x.1, .int .u32 136331795, oDB x.2]
def B32 (x : BitVec 32 × Option {bs : List UInt8 // bs.length < 2 ^ 30}) : DV × Hp := (w32 ((oBB x.2).foldl st32 x.1), ⟨0, [], []⟩)
theorem ans32 (x : BitVec 32 × Option {bs : List UInt8 // bs.length < 2 ^ 30}) : Ans Try.prog 74 (A32 x) (B32 x).1 (B32 x).2 := by
  obtain ⟨r, o⟩ := x
  cases o with
  | none => exact (zans_ok tab_ok mixed fun_ok noC_ok (runN32 r) .nil).flat rfl rfl
  | some bs => exact (zans_ok tab_ok mixed fun_ok noC_ok (run32 (by1 bs.1) r (bs.1.foldl st32 r)) (.cons (loop32 bs.1 bs.2 r) .nil)).flat rfl rfl
def cExt32 : ConF := conC 74 A32 B32
theorem cExt32_ok : ConOk Try.prog cExt32 := conC_ok ans32 fun _ => ⟨rfl, fun id o h => by simp [B32, Hp.get_eq] at h, rfl⟩
end
end Go.Proofs.Ytcllanmickbkpaa
/- The check values, as contracts. -/
namespace Go.Proofs.Ytcllanmickbkpaa
open Go.RowKit

noncomputable section
abbrev Bs : Type := {bs : List UInt8 // bs.length < 2 ^ 30}
theorem cReg32 {hp : Hp} {d : DV} (r : BitVec 32) (o : Option Bs) (h : frz1 hp d (oDB o)) : cExt32 74 [w32 r, .int .u32 136331795, d] hp = some (w32 ((oBB o).foldl st32 r), hp, none) := by
  exact conC_at (f0 := 74) (A := A32) (B := B32) (fun x y hxy => by
    obtain ⟨r, o⟩ := x
    obtain ⟨r', o'⟩ := y
    simp only [A32, List.cons.injEq, true_and, and_true] at hxy
    simp only [B32, w32_inj hxy.1, oDB_inj hxy.2]) (r, o) ⟨⟨rfl, rfl⟩, ⟨rfl, rfl⟩, h, trivial⟩
theorem oDB_frz (hp : Hp) (o : Option Bs) : frz1 hp (oDB o) (oDB o) := by
  cases o with
  | none => exact ⟨rfl, rfl⟩
  | some b => exact ⟨rfl, rfl⟩
def ext32 (r : BitVec 32) (bs : List UInt8) : BitVec 32 := bs.foldl st32 r
def crc32 (bs : List UInt8) : BitVec 32 := ~~~ (ext32 4294967295#32 bs)
theorem not32 (r : BitVec 32) : DV.int .u32 (bitD .xor .u32 IntKind.u32.max (r.toNat : Int)) = w32 (~~~ r) := by
  rw [show IntKind.u32.max = ((2 ^ 32 - 1 : Nat) : Int) from rfl, xorU rfl (by decide) r.isLt]
  have : (~~~ r).toNat = (2 ^ 32 - 1) ^^^ r.toNat := by
    rw [BitVec.not_def, BitVec.toNat_xor, BitVec.toNat_allOnes]
  rw [w32, this]
theorem fine_w32 (r : BitVec 32) : Fine (w32 r) ⟨0, [], []⟩ := ⟨rfl, fun id o h => by simp [Hp.get_eq] at h, rfl⟩
set_option maxRecDepth 1000000 in
theorem runC32 (R Q : BitVec 32) (d : DV) : zans Try.prog tab ftab cExt32 50 [d] [(4, .c [(7, .q (w32 R))]), (5, .w (w32 Q))] =
    some (w32 Q, ⟨0, [], []⟩, [cExt32 74 [.int .u32 4294967295, .int .u32 136331795, d] ⟨0, [], []⟩ = some (w32 R, ⟨0, [], []⟩, none), DV.int .u32 (bitD .xor .u32 IntKind.u32.max (R.toNat : Int)) = w32 Q]) := by
  kernel_rfl
def AC (o : Option Bs) : List DV := [oDB o]
theorem ansC32 (o : Option Bs) : Ans Try.prog 50 (AC o) (w32 (crc32 (oBB o))) ⟨0, [], []⟩ :=
  zans_ok tab_ok mixed fun_ok cExt32_ok (runC32 (ext32 4294967295#32 (oBB o)) (crc32 (oBB o)) (oDB o)) (.cons ((cReg32 4294967295#32 o (oDB_frz _ _))) (.cons (not32 _) .nil))
def cC32 : ConF := conC 50 AC fun o => (w32 (crc32 (oBB o)), ⟨0, [], []⟩)
theorem cC32_ok : ConOk Try.prog cC32 := conC_ok ansC32 fun _ => fine_w32 _
theorem cC32_at {hp : Hp} {d : DV} (o : Option Bs) (h : frz1 hp d (oDB o)) : cC32 50 [d] hp = some (w32 (crc32 (oBB o)), hp, none) :=
  conC_at (f0 := 50) (A := AC) (fun x y hxy => by
    simp only [AC, List.cons.injEq, and_true] at hxy
    simp only [oDB_inj hxy]) o ⟨h, trivial⟩
end
end Go.Proofs.Ytcllanmickbkpaa
/- Strings with checks, as contracts: appending. -/
namespace Go.Proofs.Ytcllanmickbkpaa
open Go.RowKit

noncomputable section
abbrev tyB : List Nat := [26, 26]
abbrev ownH (e : TypeId) (k : Nat) (cl : List DV) : Hp := ⟨1, [⟨k, 0, e, cl⟩], []⟩
def flB (bs : List UInt8) : DV × Hp := (.sl 0 0 1 bs.length bs.length, ownH 5 1 (celB bs))
theorem plain_own (e k : Nat) (bs : List UInt8) : Plain (ownH e k (celB bs)) := fun id o h d hd => by
  have h0 : id = 0 := by
    have := Hp.get_lt h
    simp only at this
    omega
  subst h0
  cases h
  simp only [celB, List.mem_map] at hd
  obtain ⟨c, _, rfl⟩ := hd
  rfl
theorem fine_flB (bs : List UInt8) : Fine (flB bs).1 (flB bs).2 := ⟨rfl, plain_own _ _ bs, rfl⟩
theorem celB_get {bs : List UInt8} {i : Nat} {c : UInt8} (h : bs[i]? = some c) : (celB bs)[0 + i]? = some (i8 c) := by
  rw [Nat.zero_add, celB, List.getElem?_map, h]
  rfl
theorem seenV_forget {hp : Hp} {id : Nat} {o : Ob} {d d' : DV} (hg : hp.get id = some o) (hpl : ∀ x ∈ o.cs, plain x = true) (hl : hp.ls = []) (hd : ren3 [id] d = some d') : SeenV d hp d' (ownH o.t 1 o.cs) := by
  intro W0 S0 E w v hs hv
  refine ⟨E.ren [id] fun _ => False, .up (E := E) (E' := E.ren [id] fun _ => False) (fun _ h => h) rfl (fun i => by rw [hl]) _, ?_, ren3_ok (fun _ _ _ _ h => h.elim) hv hd⟩
  have h0 : ∀ (i j : Nat), ([id] : List Nat)[i]? = some j → i = 0 ∧ j = id := fun i j h => by
    cases i with
    | zero => simp at h; exact ⟨rfl, h.symm⟩
    | succ i => simp at h
  refine ⟨hs.bel, ?_, ?_, fun i _ h => absurd h (by omega), ?_, hs.ro, hs.olds, Nat.zero_le _, .none rfl (fun i => yb_none hs.ys hl i)⟩
  · rintro i ⟨j, hi, hD⟩
    obtain ⟨rfl, rfl⟩ := h0 i j hi
    obtain ⟨o', h1, k0, k1, vs, k2, k3, k4, k5⟩ := hs.ob j hD
    rw [hg] at h1
    cases h1
    exact ⟨⟨1, 0, o.t, o.cs⟩, rfl, ⟨fun h => (by cases h), fun h => h.elim⟩, k1, vs, k2, k3, k4, k5.1, fun q u v hq hv => plain_ok (k5.2 q u v hq hv) (hpl u (List.mem_of_getElem? hq))⟩
  · rintro i ⟨j, hi, hD⟩ _
    obtain ⟨rfl, rfl⟩ := h0 i j hi
    exact hs.own j hD (Nat.zero_le _)
  · rintro i j oi oj ⟨x, hi, _⟩ ⟨y, hj, _⟩ hne
    exact absurd ((h0 i x hi).1.trans (h0 j y hj).1.symm) hne
/-- a slice of one's own that begins its object -/
def SbO (e : TypeId) (hp : Hp) (d : DV) (cl : List DV) : Prop := ∃ id o, d = .sl id 0 1 cl.length cl.length ∧ hp.get id = some o ∧ (o.k = 0 ∨ o.k = 1 ∨ o.k = 3) ∧ o.t = e ∧ o.cs = cl
theorem SbO.push {e : TypeId} {hp : Hp} {d : DV} {cl : List DV} (h : SbO e hp d cl) (o : Ob) : SbO e (hp.push o) d cl := by
  obtain ⟨id, o', h0, h1, h2⟩ := h
  refine ⟨id, o', h0, ?_, h2⟩
  rw [Hp.get_push, if_neg (Nat.ne_of_lt (Hp.get_lt h1))]
  exact h1
theorem fitB_le2 {n b : Nat} (h : n ≤ 2 ^ 40) (hb : b ≤ 64) : fitB n b = true := by
  have h1 : Nat.ble n mxL = true := bleT (Nat.le_trans h (by decide))
  have h3 : n * b ≤ 2 ^ 40 * 64 := Nat.mul_le_mul h hb
  have h2 : Nat.ble (n * b) mxB = true := bleT (Nat.le_trans h3 (by decide))
  simp only [fitB, h1, h2, Bool.and_self]
/-- the caller's loops stay -/
theorem appO {e : TypeId} {j : TI} {z : DV} {zs : List DV} (hz : j.zero = z :: zs) (hs : j.size = 1) (hby : j.bytes ≤ 64) {hp : Hp} {d : DV} {cl news : List DV} (hd : SbO e hp d cl) {m : Nat} (hm : news.length = m) (hl : cl.length + m ≤ 2 ^ 40) :
    ∃ d' hp' mm, appH hp e j d m news = some (d', hp', mm) ∧ SbO e hp' d' (cl ++ news) ∧ hp'.ls = hp.ls := by
  obtain ⟨id, o, rfl, h1, h2, h3, h4⟩ := hd
  cases m with
  | zero =>
    obtain rfl : news = [] := List.eq_nil_of_length_eq_zero hm
    rw [List.append_nil]
    refine ⟨_, hp, none, ?_, ⟨id, o, rfl, h1, h2, h3, h4⟩, rfl⟩
    simp only [appH, hz, hs]
  | succ m =>
    have q0 : Nat.beq 1 0 = false := rfl
    have q1 : Nat.beq 1 1 = true := rfl
    have hle : (cl ++ news).length = cl.length + (m + 1) := by rw [List.length_append, hm]
    have hf := fitB_le2 (n := cl.length + (m + 1)) hl hby
    have hb : Nat.ble (cl.length + (m + 1)) cl.length = false := bleF (by omega)
    have he : Nat.ble (0 + cl.length * 1) o.cs.length = true := bleT (by rw [h4]; omega)
    have ht : (o.cs.drop 0).take (cl.length * 1) = cl := by rw [h4, List.drop_zero, Nat.mul_one, List.take_length]
    have hq : Nat.beq (0 + cl.length * 1) o.cs.length = true := beqT (by rw [h4]; omega)
    have hte : Nat.beq o.t e = true := beqT h3
    rcases h2 with h2 | h2 | h2
    · refine ⟨.sl hp.n 0 1 (cl.length + (m + 1)) (cl.length + (m + 1)), pushH hp 1 e ((o.cs.drop 0).take (cl.length * 1) ++ news), none, ?_, ⟨hp.n, _, by rw [hle], get_push_new _ _, .inr (.inl rfl), rfl, by rw [ht]⟩, rfl⟩
      simp only [appH, hz, hs, q0, q1, h1, hb, he, hf, h2]
    · refine ⟨.sl hp.n 0 1 (cl.length + (m + 1)) (cl.length + (m + 1)), (hp.put id ⟨2, o.r, o.t, o.cs⟩).push ⟨3, rootOf 1 o.r id, o.t, o.cs.drop 0 ++ news⟩, mmin (some (rootOf 1 o.r id)) (some id), ?_, ⟨hp.n, _, by rw [hle], get_push_new (hp.put id _) _, .inr (.inr rfl), h3, by simp [h4]⟩, rfl⟩
      simp only [appH, hz, hs, q0, q1, h1, hb, he, hf, h2, hq, hte]
    · refine ⟨.sl hp.n 0 1 (cl.length + (m + 1)) (cl.length + (m + 1)), (hp.put id ⟨2, o.r, o.t, o.cs⟩).push ⟨3, rootOf 3 o.r id, o.t, o.cs.drop 0 ++ news⟩, mmin (some (rootOf 3 o.r id)) (some id), ?_, ⟨hp.n, _, by rw [hle], get_push_new (hp.put id _) _, .inr (.inr rfl), h3, by simp [h4]⟩, rfl⟩
      simp only [appH, hz, hs, q0, q1, h1, hb, he, hf, h2, hq, hte]
theorem SbO.seenV {hp : Hp} {d : DV} {bs : List UInt8} (h : SbO 5 hp d (celB bs)) (hl : hp.ls = []) : SeenV d hp (flB bs).1 (flB bs).2 := by
  obtain ⟨id, o, rfl, h1, h2, h3, h4⟩ := h
  have := seenV_forget (d := .sl id 0 1 bs.length bs.length) (d' := .sl 0 0 1 bs.length bs.length) h1 (fun x hx => by
    rw [h4] at hx
    simp only [celB, List.mem_map] at hx
    obtain ⟨c, _, rfl⟩ := hx
    rfl) hl (by simp only [ren3, ren2, ren1, ren0, posN, beqT])
  rw [h3, h4] at this
  rw [celB_length]
  exact this
theorem sbO_new : SbO 5 (ownH 5 1 []) (.sl 0 0 1 0 0) (celB []) := ⟨0, _, rfl, rfl, .inr (.inl rfl), rfl, rfl⟩
theorem app_own {hp : Hp} {d x : DV} {bs cs : List UInt8} (h : SbO 5 hp d (celB bs)) (hx : contD hp 1 x = some (cs.length, celB cs)) (hl : bs.length + cs.length ≤ 2 ^ 40) : ∃ d' h' m, builtinD tab hp .append [d, x] tyB = some (d', h', m) ∧ SbO 5 h' d' (celB (bs ++ cs)) ∧ h'.ls = hp.ls := by
  rw [app_tab, hx, celB_append]
  exact appO (j := u8TI) (z := .int .u8 0) (zs := []) rfl rfl (by decide) h (celB_length cs) (by rw [celB_length]; exact hl)
set_option maxRecDepth 1000000 in
theorem runWith (xb xm : List (List DV)) (N : Nat) (d1 d2 : DV) (h1 h2 : Hp) (m1 m2 : Mut) : zans Try.prog tab ftab noC 51 [.list 1 xb, .list 1 xm] [(9, .w (iN N)), (10, .h (.sl 0 0 1 0 0) (ownH 5 1 []) none), (12, .h d1 h1 m1), (14, .h d2 h2 m2)] =
    some (d2, h2, [DV.int .i64 (IntKind.i64.wrap ((xb.length : Int) + (xm.length : Int))) = iN N, (decide ((0 : Int) ≤ 0) && decide ((0 : Int) ≤ (N : Int)) && fitB ((N : Int).toNat) 1) = true,
      mkRow ⟨0, [], []⟩ 5 1 [.int .u8 0] ((0 : Int).toNat) ((N : Int).toNat) = (.sl 0 0 1 0 0, ownH 5 1 [], none),
      builtinD tab (ownH 5 1 []) .append [.sl 0 0 1 0 0, .list 1 xb] tyB = some (d1, h1, m1), builtinD tab h1 .append [d1, .list 1 xm] tyB = some (d2, h2, m2)]) := by
  kernel_rfl
def AW (x : Bs × Bs) : List DV := [byL x.1.1, byL x.2.1]
theorem ansWith (x : Bs × Bs) : Ans Try.prog 51 (AW x) (flB (x.1.1 ++ x.2.1)).1 (flB (x.1.1 ++ x.2.1)).2 := by
  obtain ⟨⟨b, hb⟩, ⟨m, hm⟩⟩ := x
  simp only [AW]
  have hN : (b.length : Int) + (m.length : Int) = ((b.length + m.length : Nat) : Int) := by omega
  obtain ⟨d1, h1, m1, e1, s1, l1⟩ := app_own (cs := b) sbO_new (contD_list _ b) (by simp only [List.length_nil]; omega)
  rw [List.nil_append] at s1
  obtain ⟨d2, h2, m2, e2, s2, l2⟩ := app_own (hp := h1) (cs := m) s1 (contD_list _ m) (by omega)
  refine AnsH.see (zans_ok tab_ok mixed fun_ok noC_ok (runWith (by1 b) (by1 m) (b.length + m.length) d1 d2 h1 h2 m1 m2) (.cons ?_ (.cons ?_ (.cons rfl (.cons e1 (.cons e2 .nil)))))) (s2.seenV (by rw [l2, l1]))
  · rw [by1_length, by1_length, hN]
    exact congrArg (DV.int .i64) (wrapI (by omega))
  · rw [Bool.and_eq_true, Bool.and_eq_true]
    exact ⟨⟨rfl, decide_eq_true (by omega)⟩, by rw [Int.toNat_natCast]; exact fitB_le2 (by omega) (by decide)⟩
def cWith : ConF := conC 51 AW fun x => flB (x.1.1 ++ x.2.1)
theorem cWith_ok : ConOk Try.prog cWith := conC_ok ansWith fun _ => fine_flB _
theorem byL_inj {a b : Bs} (h : byL a.1 = byL b.1) : a = b := by
  simp only [byL, DV.list.injEq, true_and] at h
  exact Subtype.ext (by1_inj h)
theorem cWith_at {hp : Hp} {d e : DV} (b m : Bs) (h1 : frz1 hp d (byL b.1)) (h2 : frz1 hp e (byL m.1)) : cWith 51 [d, e] hp = some (.sl (hp.n + 0) 0 1 (b.1 ++ m.1).length (b.1 ++ m.1).length, layH hp (ownH 5 1 (celB (b.1 ++ m.1))), none) :=
  conC_at (f0 := 51) (A := AW) (B := fun x => flB (x.1.1 ++ x.2.1)) (fun x y hxy => by
    obtain ⟨x1, x2⟩ := x
    obtain ⟨y1, y2⟩ := y
    simp only [AW, List.cons.injEq, and_true] at hxy
    rw [byL_inj hxy.1, byL_inj hxy.2]) (b, m) ⟨h1, h2, trivial⟩
def be4 (r : BitVec 32) : List UInt8 := [⟨(r >>> 24).setWidth 8⟩, ⟨(r >>> 16).setWidth 8⟩, ⟨(r >>> 8).setWidth 8⟩, ⟨r.setWidth 8⟩]
theorem low8 (r : BitVec 32) : DV.int .u8 (IntKind.u8.wrap (r.toNat : Int)) = i8 ⟨r.setWidth 8⟩ := by
  rw [wrapU rfl]
  show DV.int .u8 ((r.toNat % 2 ^ 8 : Nat) : Int) = DV.int .u8 (((r.setWidth 8).toNat : Nat) : Int)
  rw [BitVec.toNat_setWidth]
theorem cut8 (r : BitVec 32) {n : Nat} (hn : n ≤ 32) : DV.int .u8 (IntKind.u8.wrap (shrD .u32 (r.toNat : Int) (n : Int))) = i8 ⟨(r >>> n).setWidth 8⟩ := by
  rw [shrU _ hn, ← Nat.shiftRight_eq_div_pow, ← BitVec.toNat_ushiftRight]
  exact low8 _
def cA0 : ConF := orK cWith cC32
theorem cA0_ok : ConOk Try.prog cA0 := orK_ok cWith_ok cC32_ok
set_option maxRecDepth 1000000 in
theorem runApp (xs : List (List DV)) (cr : BitVec 32) (b0 b1 b2 b3 : UInt8) (n : Nat) (cl : List DV) : zkeep [1] (zans Try.prog tab ftab cA0 28 [.list 1 xs] [(5, .q (w32 cr)), (9, .w (i8 b0)), (12, .w (i8 b1)), (15, .w (i8 b2)), (17, .w (i8 b3)),
      (19, .r (.sl 1 0 1 n n) ⟨2, [⟨1, 0, 5, cl⟩, ⟨0, 0, 5, [i8 b0, i8 b1, i8 b2, i8 b3]⟩], []⟩)]) =
    some (.sl 0 0 1 n n, ownH 5 1 cl, [Plain ⟨2, [⟨1, 0, 5, cl⟩, ⟨0, 0, 5, [i8 b0, i8 b1, i8 b2, i8 b3]⟩], []⟩, cA0 50 [.list 1 xs] ⟨0, [], []⟩ = some (w32 cr, ⟨0, [], []⟩, none),
      DV.int .u8 (IntKind.u8.wrap (shrD .u32 (cr.toNat : Int) 24)) = i8 b0, DV.int .u8 (IntKind.u8.wrap (shrD .u32 (cr.toNat : Int) 16)) = i8 b1, DV.int .u8 (IntKind.u8.wrap (shrD .u32 (cr.toNat : Int) 8)) = i8 b2, DV.int .u8 (IntKind.u8.wrap (cr.toNat : Int)) = i8 b3,
      cA0 51 [.list 1 xs, .sl 0 0 1 4 4] (ownH 5 0 [i8 b0, i8 b1, i8 b2, i8 b3]) = some (.sl 1 0 1 n n, ⟨2, [⟨1, 0, 5, cl⟩, ⟨0, 0, 5, [i8 b0, i8 b1, i8 b2, i8 b3]⟩], []⟩, none)]) := by
  kernel_rfl
/-- bytes with the long check value -/
def withL (bs : List UInt8) : List UInt8 := bs ++ be4 (crc32 bs)
def AB (b : Bs) : List DV := [byL b.1]
theorem plain_two (a b : List UInt8) : Plain ⟨2, [⟨1, 0, 5, celB a⟩, ⟨0, 0, 5, celB b⟩], []⟩ := fun id o h d hd => by
  have hlt := Hp.get_lt h
  simp only at hlt
  have pl : ∀ l : List UInt8, d ∈ celB l → plain d = true := fun l hl => by
    simp only [celB, List.mem_map] at hl
    obtain ⟨c, _, rfl⟩ := hl
    rfl
  match id, hlt with
  | 0, _ => cases h; exact pl b hd
  | 1, _ => cases h; exact pl a hd
theorem ansApp (b : Bs) : Ans Try.prog 28 (AB b) (flB (withL b.1)).1 (flB (withL b.1)).2 := by
  refine zkeep_ok tab_ok mixed fun_ok cA0_ok (runApp (by1 b.1) (crc32 b.1) _ _ _ _ (withL b.1).length (celB (withL b.1))) (.cons (plain_two _ (be4 (crc32 b.1))) (.cons ?_ (.cons (cut8 _ (by decide)) (.cons (cut8 _ (by decide)) (.cons (cut8 _ (by decide)) (.cons (low8 _) (.cons ?_ .nil)))))))
  · exact orK_right (conC_other (by kernel_rfl)) (cC32_at (d := byL b.1) (some b) ⟨rfl, rfl⟩)
  · refine (orK_left ?_)
    exact cWith_at b ⟨be4 (crc32 b.1), by show (4 : Nat) < 2 ^ 30; decide⟩ ⟨rfl, rfl⟩ (frz_bytes (bs := be4 (crc32 b.1)) (o := ⟨0, 0, 5, celB (be4 (crc32 b.1))⟩) rfl fun i c hi => celB_get hi)
def cApp : ConF := conC 28 AB fun b => flB (withL b.1)
theorem cApp_ok : ConOk Try.prog cApp := conC_ok ansApp fun _ => fine_flB _
theorem cApp_at {hp : Hp} {d : DV} (b : Bs) (h : frz1 hp d (byL b.1)) : cApp 28 [d] hp = some (.sl (hp.n + 0) 0 1 (withL b.1).length (withL b.1).length, layH hp (ownH 5 1 (celB (withL b.1))), none) :=
  conC_at (f0 := 28) (A := AB) (B := fun b => flB (withL b.1)) (fun x y hxy => by
    simp only [AB, List.cons.injEq, and_true] at hxy
    rw [byL_inj hxy]) b ⟨h, trivial⟩
/-- a datum that shows bytes -/
def Sh (hp : Hp) (d : DV) (bs : List UInt8) : Prop := d = byL bs ∨ ∃ id off o c, d = .sl id off 1 bs.length c ∧ hp.get id = some o ∧ (∀ (i : Nat) (b : UInt8), bs[i]? = some b → o.cs[off + i]? = some (i8 b))
theorem Sh.frz {hp : Hp} {d : DV} {bs : List UInt8} (h : Sh hp d bs) : frz1 hp d (byL bs) := by
  rcases h with rfl | ⟨id, off, o, c, rfl, h1, h2⟩
  · exact ⟨rfl, rfl⟩
  · exact frz_bytes h1 h2
theorem Sh.cont {hp : Hp} {d : DV} {bs : List UInt8} (h : Sh hp d bs) : contD hp 1 d = some (bs.length, celB bs) := by
  rcases h with rfl | ⟨id, off, o, c, rfl, h1, h2⟩
  · exact contD_list hp bs
  · cases bs with
    | nil => rfl
    | cons b bs =>
      have hlt : ∀ i, i < (b :: bs).length → off + i < o.cs.length := fun i hi => (List.getElem?_eq_some_iff.1 (h2 i _ (List.getElem?_eq_getElem hi))).1
      have hend := hlt bs.length (by simp)
      have hle : Nat.ble (off + (bs.length + 1) * 1) o.cs.length = true := bleT (by omega)
      have hcs : (o.cs.drop off).take ((bs.length + 1) * 1) = celB (b :: bs) := by
        refine List.ext_getElem? fun i => ?_
        rw [Nat.mul_one, List.getElem?_take, List.getElem?_drop]
        by_cases hi : i < bs.length + 1
        · have hb : (b :: bs)[i]? = some (b :: bs)[i] := List.getElem?_eq_getElem (by simpa using hi)
          rw [if_pos hi, h2 i _ hb, celB, List.getElem?_map, hb]
          rfl
        · rw [if_neg hi, List.getElem?_eq_none (by rw [celB_length]; simp; omega)]
      show (match hp.get id with | some o => (match Nat.ble (off + (bs.length + 1) * 1) o.cs.length with | true => some (bs.length + 1, (o.cs.drop off).take ((bs.length + 1) * 1)) | false => none) | none => none) = _
      rw [h1]
      simp only [hle, hcs]
      rfl
theorem SbO.sh {hp : Hp} {d : DV} {bs : List UInt8} (h : SbO 5 hp d (celB bs)) : Sh hp d bs := by
  obtain ⟨id, o, rfl, h1, h2, h3, h4⟩ := h
  refine .inr ⟨id, 0, o, _, by rw [celB_length], h1, fun i b hb => ?_⟩
  rw [h4]
  exact celB_get hb
theorem sh_fl (hp : Hp) (bs : List UInt8) (c : Nat) : Sh (layH hp (ownH 5 1 (celB bs))) (.sl (hp.n + 0) 0 1 bs.length c) bs :=
  .inr ⟨_, 0, ⟨1, 0, 5, celB bs⟩, c, rfl, by rw [layH_get rfl, if_neg (by omega)]; simp; rfl, fun i b hb => celB_get hb⟩
end
end Go.Proofs.Ytcllanmickbkpaa
/- Strings with checks, as contracts: verifying. -/
namespace Go.Proofs.Ytcllanmickbkpaa
open Go.RowKit

noncomputable section
abbrev bTI : TI := ⟨.slice 5, 1, 24, [.nil], true⟩
theorem tab_u8 : tab 5 = some u8TI := by kernel_rfl
/-! ### Bytes as strings -/
theorem bytesOf_cel (bs : List UInt8) : bytesOf (celB bs) = some bs := by
  induction bs with
  | nil => rfl
  | cons b bs ih =>
    show (match bytesOf (celB bs) with | some l => some (UInt8.ofNat ((b.toNat : Int).toNat) :: l) | none => none) = _
    rw [ih, Int.toNat_natCast, UInt8.ofNat_toNat]
theorem eqBytes_iff (a b : List UInt8) : eqBytes a b = decide (a = b) := by
  induction a generalizing b with
  | nil => cases b <;> simp [eqBytes]
  | cons x a ih =>
    cases b with
    | nil => simp [eqBytes]
    | cons y b =>
      simp only [eqBytes, ih, List.cons.injEq]
      by_cases h : x = y
      · subst h
        rw [beqT rfl]
        simp
      · have : x.toNat ≠ y.toNat := fun e => h (UInt8.toNat_inj.1 e)
        rw [beqF this]
        simp [h]
theorem conv_str {hp : Hp} {d : DV} {bs : List UInt8} (h : Sh hp d bs) : convD tab hp 26 9 d = some (.str ⟨bs.toArray⟩, hp, none) := by
  have hc := h.cont
  have t1 : tab 26 = some bTI := by kernel_rfl
  have t2 : tab 9 = some ⟨.str, 1, 16, [.str .empty], true⟩ := by kernel_rfl
  rcases h with rfl | ⟨id, off, o, c, rfl, h1, h2⟩
  · unfold byL at hc ⊢
    simp only [convD, t1, t2, tab_u8, hc, bytesOf_cel]
  · simp only [convD, t1, t2, tab_u8, hc, bytesOf_cel]
set_option maxRecDepth 1000000 in
theorem runEq (xa xb : List (List DV)) (sa sb : ByteArray) (v : Bool) : zans Try.prog tab ftab noC 36 [.list 1 xa, .list 1 xb] [(6, .h (.str sa) ⟨0, [], []⟩ none), (8, .h (.str sb) ⟨0, [], []⟩ none), (9, .b v)] =
    some (.bool v, ⟨0, [], []⟩, [convD tab ⟨0, [], []⟩ 26 9 (.list 1 xa) = some (.str sa, ⟨0, [], []⟩, none), convD tab ⟨0, [], []⟩ 26 9 (.list 1 xb) = some (.str sb, ⟨0, [], []⟩, none), eqBytes sa.data.toList sb.data.toList = v]) := by
  kernel_rfl
theorem ansEq (x : Bs × Bs) : Ans Try.prog 36 (AW x) (.bool (decide (x.1.1 = x.2.1))) ⟨0, [], []⟩ :=
  zans_ok tab_ok mixed fun_ok noC_ok (runEq (by1 x.1.1) (by1 x.2.1) ⟨x.1.1.toArray⟩ ⟨x.2.1.toArray⟩ _) (.cons (conv_str (.inl rfl)) (.cons (conv_str (.inl rfl)) (.cons (eqBytes_iff _ _) .nil)))
def cEq : ConF := conC 36 AW fun x => (.bool (decide (x.1.1 = x.2.1)), ⟨0, [], []⟩)
theorem cEq_ok : ConOk Try.prog cEq := conC_ok ansEq fun _ => ⟨rfl, fun id o h => by simp [Hp.get_eq] at h, rfl⟩
theorem cEq_at {hp : Hp} {d e : DV} (b m : Bs) (h1 : frz1 hp d (byL b.1)) (h2 : frz1 hp e (byL m.1)) : cEq 36 [d, e] hp = some (.bool (decide (b.1 = m.1)), hp, none) :=
  conC_at (f0 := 36) (A := AW) (B := fun x => (.bool (decide (x.1.1 = x.2.1)), ⟨0, [], []⟩)) (fun x y hxy => by
    obtain ⟨x1, x2⟩ := x
    obtain ⟨y1, y2⟩ := y
    simp only [AW, List.cons.injEq, and_true] at hxy
    rw [byL_inj hxy.1, byL_inj hxy.2]) (b, m) ⟨h1, h2, trivial⟩
/-! ### Verify, Verify8 -/
theorem by1_take (bs : List UInt8) (n : Nat) : (by1 bs).take n = by1 (bs.take n) := by simp [by1]
theorem slice_list {hp : Hp} {xs : List (List DV)} {n : Nat} (hn : n ≤ xs.length) : sliceD tab hp bTI (.list 1 xs) none (some (iN n)) none = some (.list 1 (xs.take n)) := by
  have h1 : Nat.ble 0 n = true := bleT (Nat.zero_le n)
  have h2 : Nat.ble n xs.length = true := bleT hn
  have h3 : decide ((0 : Int) ≤ (n : Int)) = true := decide_eq_true (by omega)
  simp only [sliceD, tab_u8, optI, iN, h3, Int.toNat_natCast, h1, h2, show Nat.beq 1 1 = true from rfl, Bool.and_self, List.drop_zero, Nat.sub_zero]
theorem slice_sl3 {hp : Hp} {id N n : Nat} (hn : n ≤ N) : sliceD tab hp bTI (.sl id 0 1 N N) none (some (iN n)) (some (iN n)) = some (.sl id 0 1 n n) := by
  have h1 : Nat.ble 0 n = true := bleT (Nat.zero_le n)
  have h2 : Nat.ble n N = true := bleT hn
  have h3 : decide ((0 : Int) ≤ (n : Int)) = true := decide_eq_true (by omega)
  have h4 : Nat.ble n n = true := bleT (Nat.le_refl n)
  simp only [sliceD, tab_u8, optI, iN, h3, Int.toNat_natCast, h1, h2, h4, maxOk, show Nat.beq 1 1 = true from rfl, Bool.and_self, Nat.sub_zero, Nat.zero_mul, Nat.zero_add]
def cV0 : ConF := orK cApp cEq
theorem cV0_ok : ConOk Try.prog cV0 := orK_ok cApp_ok cEq_ok
set_option maxRecDepth 1000000 in
theorem vShort (xs : List (List DV)) : zans Try.prog tab ftab cV0 37 [.list 1 xs] [(5, .c [(13, .b true)])] = some (.tuple [.nil, .int .i64 10], ⟨0, [], []⟩, [decide ((xs.length : Int) < 4) = true]) := by
  kernel_rfl
set_option maxRecDepth 1000000 in
theorem vBad (xs ys : List (List DV)) (m N : Nat) (cl : List DV) : zans Try.prog tab ftab cV0 37 [.list 1 xs] [(5, .c [(13, .b false), (17, .w (iN m)), (21, .n (.list 1 ys)), (22, .r (.sl 0 0 1 N N) (ownH 5 1 cl)), (25, .q (.bool false))])] = some (.tuple [.nil, .int .i64 31], ⟨0, [], []⟩, [decide ((xs.length : Int) < 4) = false, DV.int .i64 (IntKind.i64.wrap ((xs.length : Int) - 4)) = iN m, sliceD tab ⟨0, [], []⟩ bTI (.list 1 xs) none (some (iN m)) none = some (.list 1 ys), cV0 28 [.list 1 ys] ⟨0, [], []⟩ = some (.sl 0 0 1 N N, ownH 5 1 cl, none), cV0 36 [.sl 0 0 1 N N, .list 1 xs] (ownH 5 1 cl) = some (.bool false, ownH 5 1 cl, none)]) := by
  kernel_rfl
set_option maxRecDepth 1000000 in
theorem vGood (xs ys : List (List DV)) (m N : Nat) (cl : List DV) : zans Try.prog tab ftab cV0 37 [.list 1 xs] [(5, .c [(13, .b false), (17, .w (iN m)), (21, .n (.list 1 ys)), (22, .r (.sl 0 0 1 N N) (ownH 5 1 cl)), (25, .q (.bool true)), (30, .n (.sl 0 0 1 m m))])] = some (.tuple [.sl 0 0 1 m m, .int .i64 0], ownH 5 1 cl, [decide ((xs.length : Int) < 4) = false, DV.int .i64 (IntKind.i64.wrap ((xs.length : Int) - 4)) = iN m, sliceD tab ⟨0, [], []⟩ bTI (.list 1 xs) none (some (iN m)) none = some (.list 1 ys), cV0 28 [.list 1 ys] ⟨0, [], []⟩ = some (.sl 0 0 1 N N, ownH 5 1 cl, none), cV0 36 [.sl 0 0 1 N N, .list 1 xs] (ownH 5 1 cl) = some (.bool true, ownH 5 1 cl, none), sliceD tab (ownH 5 1 cl) bTI (.sl 0 0 1 N N) none (some (iN m)) (some (iN m)) = some (.sl 0 0 1 m m)]) := by
  kernel_rfl
/-- what verifying answers -/
def verL (bs : List UInt8) : DV × Hp :=
  if bs.length < 4 then (.tuple [.nil, .int .i64 10], ⟨0, [], []⟩)
  else if withL (bs.take (bs.length - 4)) = bs then (.tuple [.sl 0 0 1 (bs.length - 4) (bs.length - 4), .int .i64 0], ownH 5 1 (celB bs))
  else (.tuple [.nil, .int .i64 31], ⟨0, [], []⟩)
theorem ansVerL (b : Bs) : Ans Try.prog 37 (AB b) (verL b.1).1 (verL b.1).2 := by
  obtain ⟨bs, hb⟩ := b
  simp only [AB]
  by_cases h : bs.length < 4
  · rw [verL, if_pos h]
    exact zans_ok tab_ok mixed fun_ok cV0_ok (vShort (by1 bs)) (.cons (decide_eq_true (by rw [by1_length]; omega)) .nil)
  have hl : (by1 bs).length = bs.length := by1_length bs
  have n1 : decide (((by1 bs).length : Int) < 4) = false := decide_eq_false (by omega)
  have n2 : DV.int .i64 (IntKind.i64.wrap (((by1 bs).length : Int) - 4)) = iN (bs.length - 4) := by
    rw [show ((by1 bs).length : Int) - 4 = ((bs.length - 4 : Nat) : Int) by omega, wrapI (by omega)]
    rfl
  have ht : (bs.take (bs.length - 4)).length < 2 ^ 30 := by rw [List.length_take]; omega
  have n3 : sliceD tab ⟨0, [], []⟩ bTI (.list 1 (by1 bs)) none (some (iN (bs.length - 4))) none = some (.list 1 (by1 (bs.take (bs.length - 4)))) := by
    rw [← by1_take]
    exact slice_list (by omega)
  have n4 : cV0 28 [.list 1 (by1 (bs.take (bs.length - 4)))] ⟨0, [], []⟩ = some (.sl 0 0 1 (withL (bs.take (bs.length - 4))).length (withL (bs.take (bs.length - 4))).length, ownH 5 1 (celB (withL (bs.take (bs.length - 4)))), none) := by
    refine orK_left ?_
    exact cApp_at (hp := ⟨0, [], []⟩) ⟨bs.take (bs.length - 4), ht⟩ ⟨rfl, rfl⟩
  have hw : (withL (bs.take (bs.length - 4))).length < 2 ^ 30 := by
    rw [withL, List.length_append, List.length_take]
    show _ + 4 < _
    omega
  have n5 : cV0 36 [.sl 0 0 1 (withL (bs.take (bs.length - 4))).length (withL (bs.take (bs.length - 4))).length, .list 1 (by1 bs)] (ownH 5 1 (celB (withL (bs.take (bs.length - 4))))) = some (.bool (decide (withL (bs.take (bs.length - 4)) = bs)), ownH 5 1 (celB (withL (bs.take (bs.length - 4)))), none) :=
    (orK_right (conC_other (by kernel_rfl)) (cEq_at ⟨_, hw⟩ ⟨bs, hb⟩ (frz_bytes rfl fun i c hi => celB_get hi) ⟨rfl, rfl⟩))
  by_cases h2 : withL (bs.take (bs.length - 4)) = bs
  · rw [verL, if_neg h, if_pos h2]
    rw [decide_eq_true h2] at n5
    rw [h2] at n4 n5
    exact zans_ok tab_ok mixed fun_ok cV0_ok (vGood (by1 bs) _ (bs.length - 4) bs.length (celB bs)) (.cons n1 (.cons n2 (.cons n3 (.cons n4 (.cons n5 (.cons (slice_sl3 (by omega)) .nil))))))
  · rw [verL, if_neg h, if_neg h2]
    rw [decide_eq_false h2] at n5
    exact zans_ok tab_ok mixed fun_ok cV0_ok (vBad (by1 bs) _ (bs.length - 4) _ _) (.cons n1 (.cons n2 (.cons n3 (.cons n4 (.cons n5 .nil)))))
theorem fineVerL (bs : List UInt8) : Fine (verL bs).1 (verL bs).2 := by
  unfold verL
  split
  · exact ⟨rfl, fun id o h => by simp [Hp.get_eq] at h, rfl⟩
  · split
    · exact ⟨rfl, plain_own _ _ bs, rfl⟩
    · exact ⟨rfl, fun id o h => by simp [Hp.get_eq] at h, rfl⟩
def cVerL : ConF := conC 37 AB fun b => verL b.1
theorem cVerL_ok : ConOk Try.prog cVerL := conC_ok ansVerL fun _ => fineVerL _
theorem cVerL_at {hp : Hp} {d : DV} (b : Bs) (h : frz1 hp d (byL b.1)) : cVerL 37 [d] hp = some (sh3 hp.n (verL b.1).1, layH hp (verL b.1).2, none) :=
  conC_at (f0 := 37) (A := AB) (B := fun b => verL b.1) (fun x y hxy => by
    simp only [AB, List.cons.injEq, and_true] at hxy
    rw [byL_inj hxy]) b ⟨h, trivial⟩
end
end Go.Proofs.Ytcllanmickbkpaa
