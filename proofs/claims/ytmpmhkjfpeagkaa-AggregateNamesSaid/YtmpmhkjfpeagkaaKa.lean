/- The register of 8 bits over any bytes; Crc8: contracts. -/
import Derived.Test.YtmpmhkjfpeagkaaQc
namespace Go.Proofs.Ytmpmhkjfpeagkaa
open Go.RowKit

noncomputable section
theorem ptr_ix {e : Int} {j : Nat} (h : e = (j : Int)) : DV.ptr 0 (0 + e.toNat * 1) = .ptr 0 j := by
  rw [h, Int.toNat_natCast]
  simp
theorem idx_16 {e : Int} {j : Nat} (h : e = (j : Int)) (hj : j < 16) : idxOk e 16 = true := by
  rw [h]
  exact idxOk_lt hj
def T8 : List (BitVec 8) := [0, 97, 194, 163, 229, 132, 39, 70, 171, 202, 105, 8, 78, 47, 140, 237]
def tD8 : List DV := [.int .u8 0, .int .u8 97, .int .u8 194, .int .u8 163, .int .u8 229, .int .u8 132, .int .u8 39, .int .u8 70, .int .u8 171, .int .u8 202, .int .u8 105, .int .u8 8, .int .u8 78, .int .u8 47, .int .u8 140, .int .u8 237]
theorem tD8_eq : tD8 = T8.map w8 := by kernel_rfl
def te8 (i : Nat) : BitVec 8 := T8.getD i 0
theorem tD8_nth {i : Nat} (h : i < 16) : nth tD8 i = some (w8 (te8 i)) := by
  have hl : i < T8.length := h
  rw [nth_eq, tD8_eq, List.getElem?_map, List.getElem?_eq_getElem hl, te8, List.getD, List.getElem?_eq_getElem hl]
  rfl
def n1_8 (r : BitVec 8) (c : UInt8) : Nat := (r >>> 4).toNat ^^^ (c.toNat / 16)
def n2_8 (r : BitVec 8) (c : UInt8) : Nat := (r >>> 4).toNat ^^^ (c.toNat % 16)
def m8 (r : BitVec 8) (c : UInt8) : BitVec 8 := r <<< 4 ^^^ te8 (n1_8 r c)
/-- the register after one byte more -/
def st8 (r : BitVec 8) (c : UInt8) : BitVec 8 := m8 r c <<< 4 ^^^ te8 (n2_8 (m8 r c) c)
def H8 : Hp := ⟨1, [⟨0, 0, 88, tD8⟩], []⟩
def S8 (xs : List (List DV)) (k : Nat) (r : BitVec 8) : Slots := mkT 45 [(0, w8 r), (7, .ptr 0 0), (8, .int .i64 4), (15, .list 1 xs), (16, iN xs.length), (17, iN k)]
abbrev live8 : List Nat := [0, 7, 8, 15, 16, 17]
abbrev lp8 : Code := loopAt (bodyOf ftab 50) 0
set_option maxRecDepth 1000000 in
theorem round8 (xs : List (List DV)) (k : Nat) (r m s t1 t2 : BitVec 8) (c : UInt8) (j1 j2 : Nat) : zsee Try.prog tab ftab noC (ksF ftab 50) live8 lp8 (S8 xs k r) H8
      [(18, .b true), (19, .n (.fptr [i8 c])), (29, .n (.ptr 0 j1)), (30, .n (w8 t1)), (0, .w (w8 m)), (40, .n (.ptr 0 j2)), (41, .n (w8 t2)), (0, .w (w8 s)), (17, .w (iN (k + 1)))] =
    some (.normal, S8 xs (k + 1) s, H8, [decide ((k : Int) < (xs.length : Int)) = true, idxOk (k : Int) xs.length = true, nth xs (k : Int).toNat = some [i8 c],
      idxOk (bitD .xor .u8 (shrD .u8 (r.toNat : Int) 4) (shrD .u8 (c.toNat : Int) 4)) 16 = true, DV.ptr 0 (0 + (bitD .xor .u8 (shrD .u8 (r.toNat : Int) 4) (shrD .u8 (c.toNat : Int) 4)).toNat * 1) = .ptr 0 j1, nth tD8 j1 = some (w8 t1), DV.int .u8 (bitD .xor .u8 (shlD .u8 (r.toNat : Int) 4) (t1.toNat : Int)) = w8 m,
      idxOk (bitD .xor .u8 (shrD .u8 (m.toNat : Int) 4) (bitD .and .u8 (c.toNat : Int) 15)) 16 = true, DV.ptr 0 (0 + (bitD .xor .u8 (shrD .u8 (m.toNat : Int) 4) (bitD .and .u8 (c.toNat : Int) 15)).toNat * 1) = .ptr 0 j2, nth tD8 j2 = some (w8 t2), DV.int .u8 (bitD .xor .u8 (shlD .u8 (m.toNat : Int) 4) (t2.toNat : Int)) = w8 s, DV.int .i64 (IntKind.i64.wrap ((k : Int) + 1)) = iN (k + 1)]) := by
  kernel_rfl
set_option maxRecDepth 1000000 in
theorem out8 (xs : List (List DV)) (k : Nat) (r : BitVec 8) : zsee Try.prog tab ftab noC (ksF ftab 50) [0] lp8 (S8 xs k r) H8 [(18, .b false)] =
    some (.exit 0, mkT 45 [(0, w8 r)], H8, [decide ((k : Int) < (xs.length : Int)) = false]) := by
  kernel_rfl

theorem top8 (r : BitVec 8) : shrD .u8 (r.toNat : Int) 4 = (((r >>> 4).toNat : Nat) : Int) := by
  rw [show (4 : Int) = ((4 : Nat) : Int) from rfl, shrU _ (by decide), BitVec.toNat_ushiftRight, Nat.shiftRight_eq_div_pow]
theorem top8_lt (r : BitVec 8) : (r >>> 4).toNat < 16 := by
  have h := r.isLt
  rw [BitVec.toNat_ushiftRight, Nat.shiftRight_eq_div_pow]
  omega
theorem n1_8_lt (r : BitVec 8) (c : UInt8) : n1_8 r c < 16 := by
  have h := UInt8.toNat_lt c
  exact Nat.xor_lt_two_pow (n := 4) (top8_lt r) (by omega)
theorem n2_8_lt (r : BitVec 8) (c : UInt8) : n2_8 r c < 16 := Nat.xor_lt_two_pow (n := 4) (top8_lt r) (Nat.mod_lt _ (by omega))
theorem ix1_8 (r : BitVec 8) (c : UInt8) : bitD .xor .u8 (shrD .u8 (r.toNat : Int) 4) (shrD .u8 (c.toNat : Int) 4) = (n1_8 r c : Int) := by
  have h := UInt8.toNat_lt c
  have h1 := top8_lt r
  rw [top8, show (4 : Int) = ((4 : Nat) : Int) from rfl, shrU _ (by decide), xorU rfl (by show _ < 256; omega) (by show _ < 256; omega)]
  rfl
theorem ix2_8 (r : BitVec 8) (c : UInt8) : bitD .xor .u8 (shrD .u8 (r.toNat : Int) 4) (bitD .and .u8 (c.toNat : Int) 15) = (n2_8 r c : Int) := by
  have h := UInt8.toNat_lt c
  have h1 := top8_lt r
  have h2 : c.toNat &&& 15 = c.toNat % 16 := Nat.and_two_pow_sub_one_eq_mod c.toNat 4
  rw [top8, show (15 : Int) = ((15 : Nat) : Int) from rfl, andU rfl (by show _ < 256; omega) (by decide), h2, xorU rfl (by show _ < 256; omega) (by show _ < 256; omega)]
  rfl
theorem up8 (r t : BitVec 8) : DV.int .u8 (bitD .xor .u8 (shlD .u8 (r.toNat : Int) 4) (t.toNat : Int)) = w8 (r <<< 4 ^^^ t) := by
  have h := r.isLt
  rw [show (4 : Int) = ((4 : Nat) : Int) from rfl, shlU rfl _ (by decide), xorU rfl (Nat.mod_lt _ (by decide)) t.isLt]
  simp only [w8, BitVec.toNat_xor, BitVec.toNat_shiftLeft, Nat.shiftLeft_eq]
  rfl
theorem loop8 (bs : List UInt8) (hl : bs.length < 2 ^ 30) (r0 : BitVec 8) : Goes Try.prog tab (ksF ftab 50) (.loop lp8) (S8 (by1 bs) 0 r0) H8 (.exit 0) (mkT 45 [(0, w8 (bs.foldl st8 r0))]) H8 := by
  have key := Goes.loop (P := Try.prog) (T := tab) (ks := ksF ftab 50) (x := lp8) bs.length (fun k => S8 (by1 bs) k ((bs.take k).foldl st8 r0)) (fun _ => H8) (e := .exit 0) (s1 := mkT 45 [(0, w8 (bs.foldl st8 r0))]) (h1 := H8) ?_ ?_ (by intro h; cases h)
  · exact key
  · intro k hk
    have hc : bs[k]? = some bs[k] := List.getElem?_eq_getElem hk
    have hf : (bs.take (k + 1)).foldl st8 r0 = st8 ((bs.take k).foldl st8 r0) bs[k] := by
      rw [List.take_add_one, hc, List.foldl_append]
      rfl
    have hlen := by1_length bs
    simp only [hf]
    generalize (bs.take k).foldl st8 r0 = r
    refine zsee_ok tab_ok mixed fun_ok noC_ok (round8 (by1 bs) k r (m8 r bs[k]) _ (te8 (n1_8 r bs[k])) (te8 (n2_8 (m8 r bs[k]) bs[k])) bs[k] (n1_8 r bs[k]) (n2_8 (m8 r bs[k]) bs[k])) ?_
    have a1 := ix1_8 r bs[k]
    have a2 := ix2_8 (m8 r bs[k]) bs[k]
    have b1 := n1_8_lt r bs[k]
    have b2 := n2_8_lt (m8 r bs[k]) bs[k]
    refine .cons (decide_eq_true (by omega)) (.cons (idxOk_lt (by omega)) (.cons (by1_nth hc) (.cons (idx_16 a1 b1) (.cons (ptr_ix a1) (.cons (tD8_nth b1) (.cons (up8 _ _) (.cons (idx_16 a2 b2) (.cons (ptr_ix a2) (.cons (tD8_nth b2) (.cons (up8 _ _) (.cons ?_ .nil)))))))))))
    have := wrapI (n := k + 1) (by omega)
    exact congrArg (DV.int .i64) this
  · have hf : (bs.take bs.length) = bs := List.take_length
    simp only [hf]
    refine zsee_ok tab_ok mixed fun_ok noC_ok (out8 (by1 bs) bs.length _) (.cons (decide_eq_false ?_) .nil)
    have hlen := by1_length bs
    omega
set_option maxRecDepth 1000000 in
theorem run8 (xs : List (List DV)) (r R : BitVec 8) : zans Try.prog tab ftab noC 50 [w8 r, .int .u8 97, .list 1 xs] [(0, .l live8 (.exit 0) (mkT 45 [(0, w8 R)]) H8)] =
    some (w8 R, H8, [Goes Try.prog tab (ksF ftab 50) (.loop lp8) (S8 xs 0 r) H8 (.exit 0) (mkT 45 [(0, w8 R)]) H8]) := by
  kernel_rfl
theorem ans8 (x : BitVec 8 × Bs) : Ans Try.prog 50 [w8 x.1, .int .u8 97, byL x.2.1] (w8 (x.2.1.foldl st8 x.1)) ⟨0, [], []⟩ := by
  obtain ⟨r, bs⟩ := x
  exact (zans_ok tab_ok mixed fun_ok noC_ok (run8 (by1 bs.1) r (bs.1.foldl st8 r)) (.cons (loop8 bs.1 bs.2 r) .nil)).flat rfl rfl
theorem fine_w8 (r : BitVec 8) : Fine (w8 r) ⟨0, [], []⟩ := ⟨rfl, fun id o h => by simp [Hp.get_eq] at h, rfl⟩
def cExt8 : ConF := conC 50 (fun x : BitVec 8 × Bs => [w8 x.1, .int .u8 97, byL x.2.1]) fun x => (w8 (x.2.1.foldl st8 x.1), ⟨0, [], []⟩)
theorem cExt8_ok : ConOk Try.prog cExt8 := conC_ok ans8 fun _ => fine_w8 _
theorem cExt8_at {hp : Hp} {d : DV} (r : BitVec 8) (b : Bs) (h : frz1 hp d (byL b.1)) : cExt8 50 [w8 r, .int .u8 97, d] hp = some (w8 (b.1.foldl st8 r), hp, none) :=
  conC_at (f0 := 50) (A := fun x : BitVec 8 × Bs => [w8 x.1, .int .u8 97, byL x.2.1]) (B := fun x => (w8 (x.2.1.foldl st8 x.1), ⟨0, [], []⟩)) (fun x y hxy => by
    simp only [List.cons.injEq, true_and, and_true] at hxy
    rw [w8_inj hxy.1, byL_inj hxy.2]) (r, b) ⟨⟨rfl, rfl⟩, ⟨rfl, rfl⟩, h, trivial⟩
def crc8 (bs : List UInt8) : BitVec 8 := ~~~ (bs.foldl st8 255#8)
theorem not8 (r : BitVec 8) : DV.int .u8 (bitD .xor .u8 IntKind.u8.max (r.toNat : Int)) = w8 (~~~ r) := by
  rw [show IntKind.u8.max = ((2 ^ 8 - 1 : Nat) : Int) from rfl, xorU rfl (by decide) r.isLt]
  have : (~~~ r).toNat = (2 ^ 8 - 1) ^^^ r.toNat := by
    rw [BitVec.not_def, BitVec.toNat_xor, BitVec.toNat_allOnes]
  rw [w8, this]
set_option maxRecDepth 1000000 in
theorem runC8 (R Q : BitVec 8) (d : DV) : zans Try.prog tab ftab cExt8 37 [d] [(4, .q (w8 R)), (5, .w (w8 Q))] =
    some (w8 Q, ⟨0, [], []⟩, [cExt8 50 [.int .u8 255, .int .u8 97, d] ⟨0, [], []⟩ = some (w8 R, ⟨0, [], []⟩, none), DV.int .u8 (bitD .xor .u8 IntKind.u8.max (R.toNat : Int)) = w8 Q]) := by
  kernel_rfl
abbrev fC8 : FuncId := 37
theorem ansC8 (b : Bs) : Ans Try.prog fC8 [byL b.1] (w8 (crc8 b.1)) ⟨0, [], []⟩ :=
  zans_ok tab_ok mixed fun_ok cExt8_ok (runC8 (b.1.foldl st8 255#8) (crc8 b.1) (byL b.1)) (.cons (cExt8_at 255#8 b ⟨rfl, rfl⟩) (.cons (not8 _) .nil))
def cC8 : ConF := conC fC8 (fun b : Bs => [byL b.1]) fun b => (w8 (crc8 b.1), ⟨0, [], []⟩)
theorem cC8_ok : ConOk Try.prog cC8 := conC_ok ansC8 fun _ => fine_w8 _
theorem cC8_at {hp : Hp} {d : DV} (b : Bs) (h : frz1 hp d (byL b.1)) : cC8 fC8 [d] hp = some (w8 (crc8 b.1), hp, none) :=
  conC_at (f0 := fC8) (A := fun b : Bs => [byL b.1]) (B := fun b => (w8 (crc8 b.1), ⟨0, [], []⟩)) (fun x y hxy => by
    simp only [List.cons.injEq, and_true] at hxy
    rw [byL_inj hxy]) b ⟨h, trivial⟩
/-- the check value of two bytes -/
def c8 (a b : UInt8) : UInt8 := ⟨crc8 [a, b]⟩
end
end Go.Proofs.Ytmpmhkjfpeagkaa
