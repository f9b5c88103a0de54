/- The exclusive or of three strings has the exclusive or of their check values: the statement returns true. No conditions. -/
import Derived.Test.YtmdomipnjlhmeabCw
import Derived.Test.YtmdomipnjlhmeabBz
import Derived.Test.YtmdomipnjlhmeabLin
import Derived.Test.YtmdomipnjlhmeabLw
import Derived.WalkKit
import Derived.ProofKit
import Derived.OpenShut
import Derived.ShutString
import Derived.ChangeOld
import Derived.Below
namespace Go.Proofs.Ytmdomipnjlhmeab.checkLinear
open Go.ChangeShapes Go.WideShapes Go.ChangeAt Go.RowKit

theorem own : ownKnob Try.prog.godebug = none := by kernel_rfl
theorem laidOut : laidOutB Try.prog = true := by kernel_rfl

noncomputable section
set_option maxRecDepth 1000000 in
theorem great (xa xb xc : List (List DV)) (n : Nat) : zflat (zans Try.prog tab ftab cCrc 13 [.list 1 xa, .list 1 xb, .list 1 xc] [(18, .w (iN n)), (20, .b true)]) = some (.bool true, [DV.int .i64 (if (xc.length : Int) < (if (xb.length : Int) < (xa.length : Int) then (xb.length : Int) else (xa.length : Int)) then (xc.length : Int) else (if (xb.length : Int) < (xa.length : Int) then (xb.length : Int) else (xa.length : Int))) = iN n, decide ((n : Int) > 3000) = true]) := by
  kernel_rfl
set_option maxRecDepth 1000000 in
theorem round (xa xb xc : List (List DV)) (n k : Nat) (a b c y : UInt8) (d d' : DV) (h h' : Hp) (m : Mut) : zsee Try.prog tab ftab cCrc (ksF ftab 13) [0, 1, 2, 7, 8, 9, 10] (loopAt (bodyOf ftab 13) 0) (mkT 87 [(0, .list 1 xa), (1, .list 1 xb), (2, .list 1 xc), (7, .bool true), (8, iN n), (9, d), (10, iN k)]) h
      [(28, .b true), (34, .n (.fptr [i8 a])), (38, .n (.fptr [i8 b])), (43, .n (.fptr [i8 c])), (45, .w (i8 y)), (47, .h d' h' m), (10, .w (iN (k + 1)))] =
    some (.normal, mkT 87 [(0, .list 1 xa), (1, .list 1 xb), (2, .list 1 xc), (7, .bool true), (8, iN n), (9, d'), (10, iN (k + 1))], h', [decide ((k : Int) < (n : Int)) = true, idxOk (k : Int) xa.length = true, nth xa (k : Int).toNat = some [i8 a], idxOk (k : Int) xb.length = true, nth xb (k : Int).toNat = some [i8 b], idxOk (k : Int) xc.length = true, nth xc (k : Int).toNat = some [i8 c],
      DV.int .u8 (bitD .xor .u8 (bitD .xor .u8 (a.toNat : Int) (b.toNat : Int)) (c.toNat : Int)) = i8 y, builtinD tab (pushH h 0 5 [i8 y]) .append [d, .sl h.n 0 1 1 1] [45, 45] = some (d', h', m), DV.int .i64 (IntKind.i64.wrap ((k : Int) + 1)) = iN (k + 1)]) := by
  kernel_rfl
set_option maxRecDepth 1000000 in
theorem out (xa xb xc : List (List DV)) (n k : Nat) (d : DV) (h : Hp) : zsee Try.prog tab ftab cCrc (ksF ftab 13) [0, 1, 2, 7, 8, 9] (loopAt (bodyOf ftab 13) 0) (mkT 87 [(0, .list 1 xa), (1, .list 1 xb), (2, .list 1 xc), (7, .bool true), (8, iN n), (9, d), (10, iN k)]) h [(28, .b false)] = some (.exit 0, mkT 87 [(0, .list 1 xa), (1, .list 1 xb), (2, .list 1 xc), (7, .bool true), (8, iN n), (9, d)], h, [decide ((k : Int) < (n : Int)) = false]) := by
  kernel_rfl
set_option maxRecDepth 1000000 in
theorem main (xa xb xc ya yb yc : List (List DV)) (n : Nat) (d : DV) (h : Hp) (r0 r1 r2 r3 : BitVec 32) (q0 q1 q2 q3 : BitVec 8) : zflat (zans Try.prog tab ftab cCrc 13 [.list 1 xa, .list 1 xb, .list 1 xc] [(18, .w (iN n)), (20, .b false), (0, .l [0, 1, 2, 7, 8, 9, 10] (.exit 0) (mkT 87 [(0, .list 1 xa), (1, .list 1 xb), (2, .list 1 xc), (7, .bool true), (8, iN n), (9, d)]) h), (51, .q (w32 r0)), (54, .n (.list 1 ya)), (55, .q (w32 r1)), (58, .n (.list 1 yb)), (59, .q (w32 r2)), (63, .n (.list 1 yc)), (64, .q (w32 r3)), (66, .b true), (70, .q (w8 q0)), (73, .n (.list 1 ya)), (74, .q (w8 q1)), (77, .n (.list 1 yb)), (78, .q (w8 q2)), (82, .n (.list 1 yc)), (83, .q (w8 q3)), (85, .b true)]) = some (.bool true, [DV.int .i64 (if (xc.length : Int) < (if (xb.length : Int) < (xa.length : Int) then (xb.length : Int) else (xa.length : Int)) then (xc.length : Int) else (if (xb.length : Int) < (xa.length : Int) then (xb.length : Int) else (xa.length : Int))) = iN n,
    decide ((n : Int) > 3000) = false,
    Goes Try.prog tab (ksF ftab 13) (.loop (loopAt (bodyOf ftab 13) 0)) (mkT 87 [(0, .list 1 xa), (1, .list 1 xb), (2, .list 1 xc), (7, .bool true), (8, iN n), (9, .nil), (10, iN 0)]) ⟨0, []⟩ (.exit 0) (mkT 87 [(0, .list 1 xa), (1, .list 1 xb), (2, .list 1 xc), (7, .bool true), (8, iN n), (9, d)]) h,
    cCrc 31 [d] h = some (w32 r0, h, none),
    sliceD tab h bTI (.list 1 xa) none (some (iN n)) none = some (.list 1 ya),
    cCrc 31 [.list 1 ya] h = some (w32 r1, h, none),
    sliceD tab h bTI (.list 1 xb) none (some (iN n)) none = some (.list 1 yb),
    cCrc 31 [.list 1 yb] h = some (w32 r2, h, none),
    sliceD tab h bTI (.list 1 xc) none (some (iN n)) none = some (.list 1 yc),
    cCrc 31 [.list 1 yc] h = some (w32 r3, h, none),
    ((r0.toNat : Int) == bitD .xor .u32 (bitD .xor .u32 (r1.toNat : Int) (r2.toNat : Int)) (r3.toNat : Int)) = true,
    cCrc 33 [d] h = some (w8 q0, h, none),
    sliceD tab h bTI (.list 1 xa) none (some (iN n)) none = some (.list 1 ya),
    cCrc 33 [.list 1 ya] h = some (w8 q1, h, none),
    sliceD tab h bTI (.list 1 xb) none (some (iN n)) none = some (.list 1 yb),
    cCrc 33 [.list 1 yb] h = some (w8 q2, h, none),
    sliceD tab h bTI (.list 1 xc) none (some (iN n)) none = some (.list 1 yc),
    cCrc 33 [.list 1 yc] h = some (w8 q3, h, none),
    ((q0.toNat : Int) == bitD .xor .u8 (bitD .xor .u8 (q1.toNat : Int) (q2.toNat : Int)) (q3.toNat : Int)) = true]) := by
  kernel_rfl
/-- three strings, bit by bit -/
def z3 (a b c : List UInt8) : List UInt8 := List.zipWith (· ^^^ ·) (List.zipWith (· ^^^ ·) a b) c
theorem z3_get {a b c : List UInt8} {k : Nat} {x y z : UInt8} (ha : a[k]? = some x) (hb : b[k]? = some y) (hc : c[k]? = some z) : (z3 a b c)[k]? = some (x ^^^ y ^^^ z) := by
  simp [z3, List.getElem?_zipWith, ha, hb, hc]
theorem xor3 (a b c : UInt8) : DV.int .u8 (bitD .xor .u8 (bitD .xor .u8 (a.toNat : Int) (b.toNat : Int)) (c.toNat : Int)) = i8 (a ^^^ b ^^^ c) := by
  have ha : a.toNat < 2 ^ IntKind.u8.bits := UInt8.toNat_lt a
  have hb : b.toNat < 2 ^ IntKind.u8.bits := UInt8.toNat_lt b
  have hc : c.toNat < 2 ^ IntKind.u8.bits := UInt8.toNat_lt c
  rw [xorU rfl ha hb, xorU rfl (Nat.xor_lt_two_pow ha hb) hc, i8, UInt8.toNat_xor, UInt8.toNat_xor]
theorem crc3_32 : ∀ (a b c : List UInt8), a.length = b.length → a.length = c.length → ∀ r1 r2 r3 : BitVec 32, ext32 (r1 ^^^ r2 ^^^ r3) (z3 a b c) = ext32 r1 a ^^^ ext32 r2 b ^^^ ext32 r3 c
  | [], [], [], _, _, _, _, _ => rfl
  | x :: a, y :: b, z :: c, h1, h2, r1, r2, r3 => by
    show ext32 (st32 (r1 ^^^ r2 ^^^ r3) (x ^^^ y ^^^ z)) (z3 a b c) = ext32 (st32 r1 x) a ^^^ ext32 (st32 r2 y) b ^^^ ext32 (st32 r3 z) c
    rw [st32_xor, st32_xor]
    exact crc3_32 a b c (by simpa using h1) (by simpa using h2) _ _ _
  | [], _ :: _, _, h, _, _, _, _ => by simp at h
  | [], [], _ :: _, _, h, _, _, _ => by simp at h
  | _ :: _, [], _, h, _, _, _, _ => by simp at h
  | _ :: _, _ :: _, [], _, h, _, _, _ => by simp at h
theorem crc3_8 : ∀ (a b c : List UInt8), a.length = b.length → a.length = c.length → ∀ r1 r2 r3 : BitVec 8, (z3 a b c).foldl st8 (r1 ^^^ r2 ^^^ r3) = a.foldl st8 r1 ^^^ b.foldl st8 r2 ^^^ c.foldl st8 r3
  | [], [], [], _, _, _, _, _ => rfl
  | x :: a, y :: b, z :: c, h1, h2, r1, r2, r3 => by
    show (z3 a b c).foldl st8 (st8 (r1 ^^^ r2 ^^^ r3) (x ^^^ y ^^^ z)) = a.foldl st8 (st8 r1 x) ^^^ b.foldl st8 (st8 r2 y) ^^^ c.foldl st8 (st8 r3 z)
    rw [st8_xor, st8_xor]
    exact crc3_8 a b c (by simpa using h1) (by simpa using h2) _ _ _
  | [], _ :: _, _, h, _, _, _, _ => by simp at h
  | [], [], _ :: _, _, h, _, _, _ => by simp at h
  | _ :: _, [], _, h, _, _, _, _ => by simp at h
  | _ :: _, _ :: _, [], _, h, _, _, _ => by simp at h
theorem not3 {w : Nat} (x y z : BitVec w) : ~~~ (x ^^^ y ^^^ z) = ~~~ x ^^^ ~~~ y ^^^ ~~~ z := by
  apply BitVec.eq_of_getLsbD_eq
  intro i hi
  simp only [BitVec.getLsbD_not, BitVec.getLsbD_xor, hi, decide_true, Bool.true_and]
  cases x.getLsbD i <;> cases y.getLsbD i <;> cases z.getLsbD i <;> rfl
theorem all (a b c : List UInt8) : Ans Try.prog 13 [byL a, byL b, byL c] (.bool true) ⟨0, []⟩ := by
  have la := by1_length a
  have lb := by1_length b
  have lc := by1_length c
  obtain ⟨n, hn⟩ : ∃ n, n = min (min a.length b.length) c.length := ⟨_, rfl⟩
  have hmn : DV.int .i64 (if ((by1 c).length : Int) < (if ((by1 b).length : Int) < ((by1 a).length : Int) then ((by1 b).length : Int) else ((by1 a).length : Int)) then ((by1 c).length : Int) else (if ((by1 b).length : Int) < ((by1 a).length : Int) then ((by1 b).length : Int) else ((by1 a).length : Int))) = iN n := by
    rw [la, lb, lc, iN]
    congr 1
    split <;> split <;> omega
  by_cases hg : n > 3000
  · exact zflat_ok tab_ok mixed fun_ok cCrc_ok (great (by1 a) (by1 b) (by1 c) n) (.cons hmn (.cons (decide_eq_true (by omega)) .nil))
  obtain ⟨a', ea⟩ : ∃ a', a' = a.take n := ⟨_, rfl⟩
  obtain ⟨b', eb⟩ : ∃ b', b' = b.take n := ⟨_, rfl⟩
  obtain ⟨c', ec⟩ : ∃ c', c' = c.take n := ⟨_, rfl⟩
  have l1 : a'.length = n := by rw [ea, List.length_take]; omega
  have l2 : b'.length = n := by rw [eb, List.length_take]; omega
  have l3 : c'.length = n := by rw [ec, List.length_take]; omega
  have lz : (z3 a' b' c').length = n := by simp only [z3, List.length_zipWith]; omega
  have loop := Goes.loopI (P := Try.prog) (T := tab) (ks := (ksF ftab 13)) (x := loopAt (bodyOf ftab 13) 0) (e := .exit 0) n
    (fun k sl h => ∃ d, sl = (fun xa xb xc => mkT 87 [(0, .list 1 xa), (1, .list 1 xb), (2, .list 1 xc), (7, .bool true), (8, iN n), (9, d), (10, iN k)]) (by1 a) (by1 b) (by1 c) ∧ SbC 5 h d (celB ((z3 a' b' c').take k)))
    (fun sl h => ∃ d, sl = (fun xa xb xc => mkT 87 [(0, .list 1 xa), (1, .list 1 xb), (2, .list 1 xc), (7, .bool true), (8, iN n), (9, d)]) (by1 a) (by1 b) (by1 c) ∧ SbC 5 h d (celB (z3 a' b' c'))) (by intro h; cases h) ?_ ?_ (sl := (fun xa xb xc => mkT 87 [(0, .list 1 xa), (1, .list 1 xb), (2, .list 1 xc), (7, .bool true), (8, iN n), (9, .nil), (10, iN 0)]) (by1 a) (by1 b) (by1 c)) (hp := ⟨0, []⟩) ⟨.nil, rfl, .inl ⟨rfl, rfl⟩⟩
  · obtain ⟨s1, h, g, d, rfl, sb⟩ := loop
    obtain ⟨o, o1, o2⟩ := sbC_frz sb (by omega)
    have sa : sliceD tab h bTI (.list 1 (by1 a)) none (some (iN n)) none = some (.list 1 (by1 a')) := by
      rw [ea, ← by1_take]
      exact slice_list (by omega)
    have sb' : sliceD tab h bTI (.list 1 (by1 b)) none (some (iN n)) none = some (.list 1 (by1 b')) := by
      rw [eb, ← by1_take]
      exact slice_list (by omega)
    have sc : sliceD tab h bTI (.list 1 (by1 c)) none (some (iN n)) none = some (.list 1 (by1 c')) := by
      rw [ec, ← by1_take]
      exact slice_list (by omega)
    have k1 : crc32 (z3 a' b' c') = crc32 a' ^^^ crc32 b' ^^^ crc32 c' := by
      rw [crc32, show (4294967295#32) = 4294967295#32 ^^^ 4294967295#32 ^^^ 4294967295#32 by decide, crc3_32 a' b' c' (by omega) (by omega), not3]
      rfl
    have k2 : crc8 (z3 a' b' c') = crc8 a' ^^^ crc8 b' ^^^ crc8 c' := by
      rw [crc8, show (255#8) = 255#8 ^^^ 255#8 ^^^ 255#8 by decide, crc3_8 a' b' c' (by omega) (by omega), not3]
      rfl
    refine zflat_ok tab_ok mixed fun_ok cCrc_ok (main (by1 a) (by1 b) (by1 c) (by1 a') (by1 b') (by1 c') n d h (crc32 (z3 a' b' c')) (crc32 a') (crc32 b') (crc32 c') (crc8 (z3 a' b' c')) (crc8 a') (crc8 b') (crc8 c'))
      (.cons hmn (.cons (decide_eq_false (by omega)) (.cons g (.cons ?_ (.cons sa (.cons ?_ (.cons sb' (.cons ?_ (.cons sc (.cons ?_ (.cons ?_ (.cons ?_ (.cons sa (.cons ?_ (.cons sb' (.cons ?_ (.cons sc (.cons ?_ (.cons ?_ .nil)))))))))))))))))))
    · have := cCrc_32 (hp := h) o o2
      rwa [o1] at this
    · exact cCrc_32 (hp := h) (d := byL a') (some ⟨a', by omega⟩) ⟨rfl, rfl⟩
    · exact cCrc_32 (hp := h) (d := byL b') (some ⟨b', by omega⟩) ⟨rfl, rfl⟩
    · exact cCrc_32 (hp := h) (d := byL c') (some ⟨c', by omega⟩) ⟨rfl, rfl⟩
    · rw [xw32, xw32, k1]
      exact beq_self_eq_true _
    · have := cCrc_8 (hp := h) o o2
      rwa [o1] at this
    · exact cCrc_8 (hp := h) (d := byL a') (some ⟨a', by omega⟩) ⟨rfl, rfl⟩
    · exact cCrc_8 (hp := h) (d := byL b') (some ⟨b', by omega⟩) ⟨rfl, rfl⟩
    · exact cCrc_8 (hp := h) (d := byL c') (some ⟨c', by omega⟩) ⟨rfl, rfl⟩
    · rw [xw8, xw8, k2]
      exact beq_self_eq_true _
  · rintro k sl h hk ⟨d, rfl, sb⟩
    obtain ⟨x, ga⟩ : ∃ x, a[k]? = some x := ⟨_, List.getElem?_eq_getElem (by omega)⟩
    obtain ⟨y, gb⟩ : ∃ y, b[k]? = some y := ⟨_, List.getElem?_eq_getElem (by omega)⟩
    obtain ⟨z, gc⟩ : ∃ z, c[k]? = some z := ⟨_, List.getElem?_eq_getElem (by omega)⟩
    have gz : (z3 a' b' c')[k]? = some (x ^^^ y ^^^ z) := z3_get (by rw [ea, List.getElem?_take, if_pos hk]; exact ga) (by rw [eb, List.getElem?_take, if_pos hk]; exact gb) (by rw [ec, List.getElem?_take, if_pos hk]; exact gc)
    have hlen : (celB ((z3 a' b' c').take k)).length = k := by rw [celB_length, List.length_take]; omega
    obtain ⟨d', h', m, e1, sb2⟩ := appC (j := u8TI) (z := .int .u8 0) (zs := []) rfl rfl (by decide) (sb.push ⟨0, 0, 5, [i8 (x ^^^ y ^^^ z)]⟩) (news := [i8 (x ^^^ y ^^^ z)]) (m := 1) rfl (by omega)
    have hx : (z3 a' b' c').take (k + 1) = (z3 a' b' c').take k ++ [x ^^^ y ^^^ z] := by rw [List.take_add_one, gz]; rfl
    refine ⟨_, h', zsee_ok tab_ok mixed fun_ok cCrc_ok (round (by1 a) (by1 b) (by1 c) n k x y z (x ^^^ y ^^^ z) d d' h h' m) ?_, d', rfl, by rw [hx, celB_append]; exact sb2⟩
    refine .cons (decide_eq_true (by omega)) (.cons (idxOk_lt (by omega)) (.cons (by1_nth ga) (.cons (idxOk_lt (by omega)) (.cons (by1_nth gb) (.cons (idxOk_lt (by omega)) (.cons (by1_nth gc) (.cons (xor3 _ _ _) (.cons ?_ (.cons ?_ .nil)))))))))
    · rw [app_tab, cont_new (n := 0) rfl]
      exact e1
    · exact congrArg (DV.int .i64) (wrapI (n := k + 1) (by omega))
  · rintro sl h ⟨d, rfl, sb⟩
    refine ⟨_, h, zsee_ok tab_ok mixed fun_ok cCrc_ok (out (by1 a) (by1 b) (by1 c) n n d h) (.cons (decide_eq_false (by omega)) .nil), d, rfl, ?_⟩
    rw [List.take_of_length_le (by omega)] at sb
    exact sb
end

set_option maxRecDepth 100000 in
set_option maxHeartbeats 8000000 in
theorem walk (w : World) (A0 : Option Addr) (n0 c0 : Nat) (a0 : _) (r0 : (Ty.slice (Ty.nat .u8)).rep w (· < w.heap.size) a0 [.slice A0 n0 c0]) (A1 : Option Addr) (n1 c1 : Nat) (a1 : _) (r1 : (Ty.slice (Ty.nat .u8)).rep w (· < w.heap.size) a1 [.slice A1 n1 c1]) (A2 : Option Addr) (n2 c2 : Nat) (a2 : _) (r2 : (Ty.slice (Ty.nat .u8)).rep w (· < w.heap.size) a2 [.slice A2 n2 c2]) :
    Calls Try.prog 13 #[.slice A0 n0 c0, .slice A1 n1 c1, .slice A2 n2 c2] w fun e w' => e = .returned (.bool true) ∧ Below w.heap.size w w' := by
  obtain ⟨a, va⟩ := vr_bytes r0
  obtain ⟨b, vb⟩ := vr_bytes r1
  obtain ⟨c, vc⟩ := vr_bytes r2
  exact law_ok (all a b c) (.cons va (.cons vb (.cons vc (.nil _ _))))

set_option maxRecDepth 100000 in
theorem lifted (os : Os) (started : os.Started) (H : Type) (enc : TypeId × Value → H) :
    ReturnsInHanded {} Try.checked os 13 .any (Rows.checkLinearSpec.pre6 enc Try.prog Try.f13 Rows.checkLinearRow.domain false) (Rows.checkLinearSpec.post enc Try.prog Try.f13 false true false false) := by
  refine returnsInHanded_of_change (C := Try.checked) own started (by kernel_rfl) Try.func13
    (ChangeSpec.witness6 (enc := enc) (C := Try.checked) false ⟨#[], #[.slice none 0 0, .slice none 0 0, .slice none 0 0], []⟩ 8 (by kernel_rfl) (by kernel_rfl) (by kernel_rfl) (by kernel_rfl)) ?_
  intro W base args ds gs before hval0 hW hcnd _
  have hval : ∀ (j : Nat) t v, Try.f13.params[j]? = some t → args[j]? = some v → Value.okWide Try.prog W .any base t v := hval0
  have hW' := hW
  obtain ⟨p, q, hA0, hV, rfl, hfz, hnd⟩ := hW
  have hA : DataW.TrodAll enc Try.prog W 0 (fun _ => true) true Try.f13.params.toList args.toList ds p := hA0
  rw [Try.params13] at hA hval
  obtain ⟨v0, vs0, d0, ds0, p0, q0, hargs, rfl, rfl, h0, r0'⟩ := trodAll_cons hA
  obtain ⟨v1, vs1, d1, ds1, p1, q1, rfl, rfl, rfl, h1, r1'⟩ := trodAll_cons r0'
  obtain ⟨v2, vs2, d2, ds2, p2, q2, rfl, rfl, rfl, h2, r2'⟩ := trodAll_cons r1'
  obtain ⟨rfl, rfl, rfl⟩ := trodAll_nil r2'
  obtain rfl : args = #[v0, v1, v2] := by cases args; simp_all
  obtain ⟨rfl, rfl⟩ := trodVars_none hV
  have k0 := h0
  have lt0 : ∀ x ∈ p0, x.block < W.heap.size := by obtain ⟨m, hm⟩ := k0; exact DataW.trod_lt m _ _ _ hm
  obtain ⟨A0, n0, c0, rfl⟩ := okWide_slice Try.underlying45 (hval 0 45 v0 rfl rfl)
  obtain ⟨fu0, hf0⟩ := h0
  obtain ⟨a0, ra0⟩ := (opensBytes).2 hf0
  have k1 := h1
  have lt1 : ∀ x ∈ p1, x.block < W.heap.size := by obtain ⟨m, hm⟩ := k1; exact DataW.trod_lt m _ _ _ hm
  obtain ⟨A1, n1, c1, rfl⟩ := okWide_slice Try.underlying45 (hval 1 45 v1 rfl rfl)
  obtain ⟨fu1, hf1⟩ := h1
  obtain ⟨a1, ra1⟩ := (opensBytes).2 hf1
  have k2 := h2
  have lt2 : ∀ x ∈ p2, x.block < W.heap.size := by obtain ⟨m, hm⟩ := k2; exact DataW.trod_lt m _ _ _ hm
  obtain ⟨A2, n2, c2, rfl⟩ := okWide_slice Try.underlying45 (hval 2 45 v2 rfl rfl)
  obtain ⟨fu2, hf2⟩ := h2
  obtain ⟨a2, ra2⟩ := (opensBytes).2 hf2
  clear hA0 hval0
  refine (walk W A0 n0 c0 a0 (by simpa [Value.cells] using ra0) A1 n1 c1 a1 (by simpa [Value.cells] using ra1) A2 n2 c2 a2 (by simpa [Value.cells] using ra2)).mono fun e W' ⟨he, bel⟩ => ?_
  subst he
  exact ⟨_, rfl, _, _, _, [], _, [], hW', trodAll_mk1 (shut_bool Try.underlying4 _), (trodAll_cons_mk (Below.trod laidOut (by kernel_rfl) (of_decide_eq_true (by kernel_rfl)) k0 bel lt0) (trodAll_cons_mk (Below.trod laidOut (by kernel_rfl) (of_decide_eq_true (by kernel_rfl)) k1 bel lt1) (trodAll_cons_mk (Below.trod laidOut (by kernel_rfl) (of_decide_eq_true (by kernel_rfl)) k2 bel lt2) trodAll_mk0))), rfl, bel.frame _, fun h => by cases h⟩

theorem over : Rows.checkLinearRow.holds Try.pinned (OpenSpec.ofChange Rows.checkLinearSpec) :=
  OpenClaim.holds_of_wide 13 Try.f13 rfl rfl rfl rfl rfl rfl rfl ⟨rfl, rfl, rfl, rfl, rfl⟩ rfl rfl rfl rfl rfl (by kernel_rfl) Try.func13 (by kernel_rfl)
    (of_decide_eq_true (by kernel_rfl)) (by unfold Func.isWrapper; first | (rw [if_pos (by decide +kernel)]; kernel_rfl) | (rw [if_neg (by decide +kernel)]; exact ⟨rfl, rfl⟩))
    (fun os started H enc _ => lifted os started H enc)

theorem proved : Rows.CheckLinearSaid :=
  over
end Go.Proofs.Ytmdomipnjlhmeab.checkLinear
