/- The first bytes of a frame, as a contract. -/
import Derived.Test.YtcllanmickbkpaaHE1
import Derived.Test.YtcllanmickbkpaaNB
namespace Go.Proofs.Ytcllanmickbkpaa
open Go.RowKit

noncomputable section
def bitQ (n : Int) (k : Int) : Bool := bitD .and .i64 n k != 0
/-- the header as far as the first two bytes tell it -/
def hS (x0 x1 : UInt8) : Hd := ⟨bitD .and .u8 (shrD .u8 (x0.toNat : Int) 2) 3, shrD .u8 (x0.toNat : Int) 4, bitQ (IntKind.i64.wrap (x1.toNat : Int)) 1, bitQ (IntKind.i64.wrap (x1.toNat : Int)) 2, bitQ (IntKind.i64.wrap (x1.toNat : Int)) 4, bitQ (IntKind.i64.wrap (x1.toNat : Int)) 8, bitQ (IntKind.i64.wrap (x1.toNat : Int)) 16, bitQ (IntKind.i64.wrap (x1.toNat : Int)) 32, bitQ (IntKind.i64.wrap (x1.toNat : Int)) 64, 0, noA, noA, noA, noA, 0, 0, 0, 0, false, false⟩
def hZ : Hd := ⟨0, 0, false, false, false, false, false, false, false, 0, noA, noA, noA, noA, 0, 0, 0, 0, false, false⟩
def lZ : Lay := ⟨0, 0, false, false⟩
abbrev stD (h : Hd) (l : Lay) (e : Int) : DV := .tuple [hdr h, lyD l, .int .i64 e]
def cD0 : ConF := orK cLy cBt
theorem cD0_ok : ConOk Try.prog cD0 := orK_ok cLy_ok cBt_ok
set_option maxRecDepth 1000000 in
theorem st_short (xs : List (List DV)) : zflat (zans Try.prog tab ftab cD0 38 [.list 1 xs] [(10, .b true)]) = some (stD hZ lZ 10, [decide ((xs.length : Int) < 2) = true]) := by kernel_rfl
abbrev stQ (xs : List (List DV)) (x0 x1 : UInt8) (l : Lay) (k : Bool) : List Prop := [decide ((xs.length : Int) < 2) = false, idxOk 0 xs.length = true, nth xs ((0 : Int).toNat) = some [i8 x0], idxOk 0 xs.length = true, nth xs ((0 : Int).toNat) = some [i8 x0], idxOk 1 xs.length = true, nth xs ((1 : Int).toNat) = some [i8 x1], layA (layOf (hS x0 x1)) = layA (l, k)]
set_option maxRecDepth 1000000 in
theorem st_no (xs : List (List DV)) (x0 x1 : UInt8) (l : Lay) : zflat (zans Try.prog tab ftab cD0 38 [.list 1 xs] [(10, .b false), (14, .n (.fptr [i8 x0])), (19, .n (.fptr [i8 x0])), (24, .n (.fptr [i8 x1])), (30, .w (layA (l, false)))]) = some (stD hZ lZ 12, stQ xs x0 x1 l false) := by kernel_rfl
set_option maxRecDepth 1000000 in
theorem st_low (xs : List (List DV)) (x0 x1 : UInt8) (l : Lay) : zflat (zans Try.prog tab ftab cD0 38 [.list 1 xs] [(10, .b false), (14, .n (.fptr [i8 x0])), (19, .n (.fptr [i8 x0])), (24, .n (.fptr [i8 x1])), (30, .w (layA (l, true))), (37, .n (.fptr [i8 x0])), (42, .b true)]) =
    some (stD hZ lZ 12, stQ xs x0 x1 l true ++ [idxOk 0 xs.length = true, nth xs ((0 : Int).toNat) = some [i8 x0], (bitD .and .u8 (x0.toNat : Int) 3 != 0) = true]) := by kernel_rfl
set_option maxRecDepth 1000000 in
theorem st_high (xs : List (List DV)) (x0 x1 : UInt8) (l : Lay) (v : Bool) : zflat (zans Try.prog tab ftab cD0 38 [.list 1 xs] [(10, .b false), (14, .n (.fptr [i8 x0])), (19, .n (.fptr [i8 x0])), (24, .n (.fptr [i8 x1])), (30, .w (layA (l, true))), (37, .n (.fptr [i8 x0])), (42, .b false), (44, .n (.fptr [i8 x1])), (48, .b v)]) =
    some (cond v (stD hZ lZ 12) (stD (hS x0 x1) l 0), stQ xs x0 x1 l true ++ [idxOk 0 xs.length = true, nth xs ((0 : Int).toNat) = some [i8 x0], (bitD .and .u8 (x0.toNat : Int) 3 != 0) = false, idxOk 1 xs.length = true, nth xs ((1 : Int).toNat) = some [i8 x1], (bitD .and .u8 (x1.toNat : Int) 128 != 0) = v]) := by cases v <;> kernel_rfl
def okS (x0 x1 : UInt8) : Bool := (layOf (hS x0 x1)).2 && (!(bitD .and .u8 (x0.toNat : Int) 3 != 0) && !(bitD .and .u8 (x1.toNat : Int) 128 != 0))
/-- what start answers -/
def stB : List UInt8 → DV
  | x0 :: x1 :: _ => cond (okS x0 x1) (stD (hS x0 x1) (layOf (hS x0 x1)).1 0) (stD hZ lZ 12)
  | _ => stD hZ lZ 10
theorem st_ans (b : Bs) : Ans Try.prog 38 (AB b) (stB b.1) ⟨0, [], []⟩ := by
  obtain ⟨bs, hb⟩ := b
  have hl := by1_length bs
  match bs, hl with
  | [], hl => exact zflat_ok tab_ok mixed fun_ok cD0_ok (st_short (by1 [])) (.cons (decide_eq_true (by simp only [List.length_nil] at hl; omega)) .nil)
  | [x], hl => exact zflat_ok tab_ok mixed fun_ok cD0_ok (st_short (by1 [x])) (.cons (decide_eq_true (by simp only [List.length_cons, List.length_nil] at hl; omega)) .nil)
  | x0 :: x1 :: r, hl =>
    simp only [List.length_cons] at hl
    have i0 : idxOk 0 (by1 (x0 :: x1 :: r)).length = true := idxOk_lt (k := 0) (by omega)
    have i1 : idxOk 1 (by1 (x0 :: x1 :: r)).length = true := idxOk_lt (k := 1) (by omega)
    have hn : decide (((by1 (x0 :: x1 :: r)).length : Int) < 2) = false := decide_eq_false (by omega)
    have hq : ∀ l k, layOf (hS x0 x1) = (l, k) → AskedP (stQ (by1 (x0 :: x1 :: r)) x0 x1 l k) := fun l k e =>
      .cons hn (.cons i0 (.cons rfl (.cons i0 (.cons rfl (.cons i1 (.cons rfl (.cons (by rw [e]) .nil)))))))
    show Ans _ _ _ (cond (okS x0 x1) (stD (hS x0 x1) (layOf (hS x0 x1)).1 0) (stD hZ lZ 12)) _
    unfold okS
    cases e : layOf (hS x0 x1) with
    | mk l k =>
    cases k with
    | false => exact zflat_ok tab_ok mixed fun_ok cD0_ok (st_no _ x0 x1 l) (hq l false e)
    | true =>
    cases e0 : (bitD .and .u8 (x0.toNat : Int) 3 != 0) with
    | true => exact zflat_ok tab_ok mixed fun_ok cD0_ok (st_low _ x0 x1 l) (askApp (hq l true e) (.cons i0 (.cons rfl (.cons e0 .nil))))
    | false =>
      cases e1 : (bitD .and .u8 (x1.toNat : Int) 128 != 0) with
      | true => exact zflat_ok tab_ok mixed fun_ok cD0_ok (st_high _ x0 x1 l true) (askApp (hq l true e) (.cons i0 (.cons rfl (.cons e0 (.cons i1 (.cons rfl (.cons e1 .nil)))))))
      | false => exact zflat_ok tab_ok mixed fun_ok cD0_ok (st_high _ x0 x1 l false) (askApp (hq l true e) (.cons i0 (.cons rfl (.cons e0 (.cons i1 (.cons rfl (.cons e1 .nil)))))))
theorem fine_st (bs : List UInt8) : Fine (stB bs) ⟨0, [], []⟩ := by
  have hf : ∀ (h : Hd) (l : Lay) (e : Int), Fine (stD h l e) ⟨0, [], []⟩ := fun h l e => ⟨rfl, fun id o h => by simp [Hp.get_eq] at h, rfl⟩
  match bs with
  | [] => exact hf _ _ _
  | [_] => exact hf _ _ _
  | x0 :: x1 :: _ =>
    show Fine (cond (okS x0 x1) _ _) _
    cases okS x0 x1
    · exact hf _ _ _
    · exact hf _ _ _
def cSt : ConF := conC 38 AB fun b => (stB b.1, ⟨0, [], []⟩)
theorem cSt_ok : ConOk Try.prog cSt := conC_ok st_ans fun _ => fine_st _
theorem cSt_at {hp : Hp} {d : DV} (b : Bs) (h : frz1 hp d (byL b.1)) : cSt 38 [d] hp = some (sh3 hp.n (stB b.1), layH hp ⟨0, [], []⟩, none) :=
  conC_at (f0 := 38) (A := AB) (B := fun b => (stB b.1, ⟨0, [], []⟩)) (fun x y hxy => by
    simp only [AB, List.cons.injEq, and_true] at hxy
    rw [byL_inj hxy]) b ⟨h, trivial⟩
end
end Go.Proofs.Ytcllanmickbkpaa
/- The other bytes of a header, as a contract. -/
namespace Go.Proofs.Ytcllanmickbkpaa
open Go.RowKit

noncomputable section
def gB (bs : List UInt8) (i : Nat) : Int := ((bs.getD i 0).toNat : Int)
def nI (bs : List UInt8) (i : Nat) : Int := bitD .or .i64 (IntKind.i64.wrap (gB bs i)) (shlD .i64 (IntKind.i64.wrap (gB bs (i + 1))) 8)
def adB (bs : List UInt8) (i : Nat) : Ad6 := ⟨gB bs i, gB bs (i + 1), gB bs (i + 2), gB bs (i + 3), gB bs (i + 4), gB bs (i + 5)⟩
def selB {α : Type} (b : Bool) (x y : α) : α := match b with
  | true => x
  | false => y
def trO (l : Lay) : Nat := match decide (l.addrs > 3) with
  | true => 28
  | false => 22
/-- what read adds to a header -/
def hR (h : Hd) (l : Lay) (bs : List UInt8) : Hd := ⟨h.kind, h.sub, h.f0, h.f1, h.f2, h.f3, h.f4, h.f5, h.f6, nI bs 0, adB bs 2, selB (decide (l.addrs > 1)) (adB bs 8) h.a2, selB (decide (l.addrs > 2)) (adB bs 14) h.a3, selB (decide (l.addrs > 3)) (adB bs 22) h.a4,
  selB (decide (l.addrs > 2)) (shrD .i64 (nI bs 20) 4) h.seq, selB (decide (l.addrs > 2)) (bitD .and .i64 (nI bs 20) 15) h.frag, selB l.traffic (bitD .andNot .i64 (nI bs (trO l)) 240) h.tid, selB l.traffic (IntKind.u8.wrap (shrD .i64 (bitD .and .i64 (nI bs (trO l)) 96) 5)) h.ack,
  selB l.traffic (bitQ (nI bs (trO l)) 128) h.ams, selB l.traffic (bitQ (nI bs (trO l)) 16) h.eos⟩
set_option maxRecDepth 1000000 in
theorem rd_1f (h : Hd) (fl : Int) (bd : Bool) (x0 x1 x2 x3 x4 x5 x6 x7 : UInt8) : zflat (zans Try.prog tab ftab noC 39 [.list 1 (by1 [x0, x1, x2, x3, x4, x5, x6, x7]), hdr h, lyD ⟨fl, 1, false, bd⟩] []) = some (hdr (hR h ⟨fl, 1, false, bd⟩ [x0, x1, x2, x3, x4, x5, x6, x7]), []) := by kernel_rfl
set_option maxRecDepth 1000000 in
theorem rd_2f (h : Hd) (fl : Int) (bd : Bool) (x0 x1 x2 x3 x4 x5 x6 x7 x8 x9 x10 x11 x12 x13 : UInt8) : zflat (zans Try.prog tab ftab noC 39 [.list 1 (by1 [x0, x1, x2, x3, x4, x5, x6, x7, x8, x9, x10, x11, x12, x13]), hdr h, lyD ⟨fl, 2, false, bd⟩] []) = some (hdr (hR h ⟨fl, 2, false, bd⟩ [x0, x1, x2, x3, x4, x5, x6, x7, x8, x9, x10, x11, x12, x13]), []) := by kernel_rfl
set_option maxRecDepth 1000000 in
theorem rd_3f (h : Hd) (fl : Int) (bd : Bool) (x0 x1 x2 x3 x4 x5 x6 x7 x8 x9 x10 x11 x12 x13 x14 x15 x16 x17 x18 x19 x20 x21 : UInt8) : zflat (zans Try.prog tab ftab noC 39 [.list 1 (by1 [x0, x1, x2, x3, x4, x5, x6, x7, x8, x9, x10, x11, x12, x13, x14, x15, x16, x17, x18, x19, x20, x21]), hdr h, lyD ⟨fl, 3, false, bd⟩] []) = some (hdr (hR h ⟨fl, 3, false, bd⟩ [x0, x1, x2, x3, x4, x5, x6, x7, x8, x9, x10, x11, x12, x13, x14, x15, x16, x17, x18, x19, x20, x21]), []) := by kernel_rfl
set_option maxRecDepth 1000000 in
theorem rd_3t (h : Hd) (fl : Int) (bd : Bool) (x0 x1 x2 x3 x4 x5 x6 x7 x8 x9 x10 x11 x12 x13 x14 x15 x16 x17 x18 x19 x20 x21 x22 x23 : UInt8) : zflat (zans Try.prog tab ftab noC 39 [.list 1 (by1 [x0, x1, x2, x3, x4, x5, x6, x7, x8, x9, x10, x11, x12, x13, x14, x15, x16, x17, x18, x19, x20, x21, x22, x23]), hdr h, lyD ⟨fl, 3, true, bd⟩] []) = some (hdr (hR h ⟨fl, 3, true, bd⟩ [x0, x1, x2, x3, x4, x5, x6, x7, x8, x9, x10, x11, x12, x13, x14, x15, x16, x17, x18, x19, x20, x21, x22, x23]), []) := by kernel_rfl
set_option maxRecDepth 1000000 in
theorem rd_4f (h : Hd) (fl : Int) (bd : Bool) (x0 x1 x2 x3 x4 x5 x6 x7 x8 x9 x10 x11 x12 x13 x14 x15 x16 x17 x18 x19 x20 x21 x22 x23 x24 x25 x26 x27 : UInt8) : zflat (zans Try.prog tab ftab noC 39 [.list 1 (by1 [x0, x1, x2, x3, x4, x5, x6, x7, x8, x9, x10, x11, x12, x13, x14, x15, x16, x17, x18, x19, x20, x21, x22, x23, x24, x25, x26, x27]), hdr h, lyD ⟨fl, 4, false, bd⟩] []) = some (hdr (hR h ⟨fl, 4, false, bd⟩ [x0, x1, x2, x3, x4, x5, x6, x7, x8, x9, x10, x11, x12, x13, x14, x15, x16, x17, x18, x19, x20, x21, x22, x23, x24, x25, x26, x27]), []) := by kernel_rfl
set_option maxRecDepth 1000000 in
theorem rd_4t (h : Hd) (fl : Int) (bd : Bool) (x0 x1 x2 x3 x4 x5 x6 x7 x8 x9 x10 x11 x12 x13 x14 x15 x16 x17 x18 x19 x20 x21 x22 x23 x24 x25 x26 x27 x28 x29 : UInt8) : zflat (zans Try.prog tab ftab noC 39 [.list 1 (by1 [x0, x1, x2, x3, x4, x5, x6, x7, x8, x9, x10, x11, x12, x13, x14, x15, x16, x17, x18, x19, x20, x21, x22, x23, x24, x25, x26, x27, x28, x29]), hdr h, lyD ⟨fl, 4, true, bd⟩] []) = some (hdr (hR h ⟨fl, 4, true, bd⟩ [x0, x1, x2, x3, x4, x5, x6, x7, x8, x9, x10, x11, x12, x13, x14, x15, x16, x17, x18, x19, x20, x21, x22, x23, x24, x25, x26, x27, x28, x29]), []) := by kernel_rfl
theorem list8 {α : Type} {l : List α} (h : l.length = 8) : ∃ x0 x1 x2 x3 x4 x5 x6 x7, l = [x0, x1, x2, x3, x4, x5, x6, x7] := by
  match l, h with
  | [x0, x1, x2, x3, x4, x5, x6, x7], _ => exact ⟨x0, x1, x2, x3, x4, x5, x6, x7, rfl⟩
theorem list14 {α : Type} {l : List α} (h : l.length = 14) : ∃ x0 x1 x2 x3 x4 x5 x6 x7 x8 x9 x10 x11 x12 x13, l = [x0, x1, x2, x3, x4, x5, x6, x7, x8, x9, x10, x11, x12, x13] := by
  match l, h with
  | [x0, x1, x2, x3, x4, x5, x6, x7, x8, x9, x10, x11, x12, x13], _ => exact ⟨x0, x1, x2, x3, x4, x5, x6, x7, x8, x9, x10, x11, x12, x13, rfl⟩
theorem list22 {α : Type} {l : List α} (h : l.length = 22) : ∃ x0 x1 x2 x3 x4 x5 x6 x7 x8 x9 x10 x11 x12 x13 x14 x15 x16 x17 x18 x19 x20 x21, l = [x0, x1, x2, x3, x4, x5, x6, x7, x8, x9, x10, x11, x12, x13, x14, x15, x16, x17, x18, x19, x20, x21] := by
  match l, h with
  | [x0, x1, x2, x3, x4, x5, x6, x7, x8, x9, x10, x11, x12, x13, x14, x15, x16, x17, x18, x19, x20, x21], _ => exact ⟨x0, x1, x2, x3, x4, x5, x6, x7, x8, x9, x10, x11, x12, x13, x14, x15, x16, x17, x18, x19, x20, x21, rfl⟩
theorem list24 {α : Type} {l : List α} (h : l.length = 24) : ∃ x0 x1 x2 x3 x4 x5 x6 x7 x8 x9 x10 x11 x12 x13 x14 x15 x16 x17 x18 x19 x20 x21 x22 x23, l = [x0, x1, x2, x3, x4, x5, x6, x7, x8, x9, x10, x11, x12, x13, x14, x15, x16, x17, x18, x19, x20, x21, x22, x23] := by
  match l, h with
  | [x0, x1, x2, x3, x4, x5, x6, x7, x8, x9, x10, x11, x12, x13, x14, x15, x16, x17, x18, x19, x20, x21, x22, x23], _ => exact ⟨x0, x1, x2, x3, x4, x5, x6, x7, x8, x9, x10, x11, x12, x13, x14, x15, x16, x17, x18, x19, x20, x21, x22, x23, rfl⟩
theorem list28 {α : Type} {l : List α} (h : l.length = 28) : ∃ x0 x1 x2 x3 x4 x5 x6 x7 x8 x9 x10 x11 x12 x13 x14 x15 x16 x17 x18 x19 x20 x21 x22 x23 x24 x25 x26 x27, l = [x0, x1, x2, x3, x4, x5, x6, x7, x8, x9, x10, x11, x12, x13, x14, x15, x16, x17, x18, x19, x20, x21, x22, x23, x24, x25, x26, x27] := by
  match l, h with
  | [x0, x1, x2, x3, x4, x5, x6, x7, x8, x9, x10, x11, x12, x13, x14, x15, x16, x17, x18, x19, x20, x21, x22, x23, x24, x25, x26, x27], _ => exact ⟨x0, x1, x2, x3, x4, x5, x6, x7, x8, x9, x10, x11, x12, x13, x14, x15, x16, x17, x18, x19, x20, x21, x22, x23, x24, x25, x26, x27, rfl⟩
theorem list30 {α : Type} {l : List α} (h : l.length = 30) : ∃ x0 x1 x2 x3 x4 x5 x6 x7 x8 x9 x10 x11 x12 x13 x14 x15 x16 x17 x18 x19 x20 x21 x22 x23 x24 x25 x26 x27 x28 x29, l = [x0, x1, x2, x3, x4, x5, x6, x7, x8, x9, x10, x11, x12, x13, x14, x15, x16, x17, x18, x19, x20, x21, x22, x23, x24, x25, x26, x27, x28, x29] := by
  match l, h with
  | [x0, x1, x2, x3, x4, x5, x6, x7, x8, x9, x10, x11, x12, x13, x14, x15, x16, x17, x18, x19, x20, x21, x22, x23, x24, x25, x26, x27, x28, x29], _ => exact ⟨x0, x1, x2, x3, x4, x5, x6, x7, x8, x9, x10, x11, x12, x13, x14, x15, x16, x17, x18, x19, x20, x21, x22, x23, x24, x25, x26, x27, x28, x29, rfl⟩
theorem rd_ans (h : Hd) (l : Lay) (bs : List UInt8) (hg : goodL l = true) (hn : (bs.length : Int) + 2 = szL l) : Ans Try.prog 39 [byL bs, hdr h, lyD l] (hdr (hR h l bs)) ⟨0, [], []⟩ := by
  obtain ⟨fl, bd, hl⟩ := good_cases hg
  rcases hl with rfl | rfl | rfl | rfl | rfl | rfl
  · obtain ⟨x0, x1, x2, x3, x4, x5, x6, x7, rfl⟩ := list8 (l := bs) (by simp [szL] at hn; omega)
    exact zflat_ok tab_ok mixed fun_ok noC_ok (rd_1f h fl bd x0 x1 x2 x3 x4 x5 x6 x7) .nil
  · obtain ⟨x0, x1, x2, x3, x4, x5, x6, x7, x8, x9, x10, x11, x12, x13, rfl⟩ := list14 (l := bs) (by simp [szL] at hn; omega)
    exact zflat_ok tab_ok mixed fun_ok noC_ok (rd_2f h fl bd x0 x1 x2 x3 x4 x5 x6 x7 x8 x9 x10 x11 x12 x13) .nil
  · obtain ⟨x0, x1, x2, x3, x4, x5, x6, x7, x8, x9, x10, x11, x12, x13, x14, x15, x16, x17, x18, x19, x20, x21, rfl⟩ := list22 (l := bs) (by simp [szL] at hn; omega)
    exact zflat_ok tab_ok mixed fun_ok noC_ok (rd_3f h fl bd x0 x1 x2 x3 x4 x5 x6 x7 x8 x9 x10 x11 x12 x13 x14 x15 x16 x17 x18 x19 x20 x21) .nil
  · obtain ⟨x0, x1, x2, x3, x4, x5, x6, x7, x8, x9, x10, x11, x12, x13, x14, x15, x16, x17, x18, x19, x20, x21, x22, x23, rfl⟩ := list24 (l := bs) (by simp [szL] at hn; omega)
    exact zflat_ok tab_ok mixed fun_ok noC_ok (rd_3t h fl bd x0 x1 x2 x3 x4 x5 x6 x7 x8 x9 x10 x11 x12 x13 x14 x15 x16 x17 x18 x19 x20 x21 x22 x23) .nil
  · obtain ⟨x0, x1, x2, x3, x4, x5, x6, x7, x8, x9, x10, x11, x12, x13, x14, x15, x16, x17, x18, x19, x20, x21, x22, x23, x24, x25, x26, x27, rfl⟩ := list28 (l := bs) (by simp [szL] at hn; omega)
    exact zflat_ok tab_ok mixed fun_ok noC_ok (rd_4f h fl bd x0 x1 x2 x3 x4 x5 x6 x7 x8 x9 x10 x11 x12 x13 x14 x15 x16 x17 x18 x19 x20 x21 x22 x23 x24 x25 x26 x27) .nil
  · obtain ⟨x0, x1, x2, x3, x4, x5, x6, x7, x8, x9, x10, x11, x12, x13, x14, x15, x16, x17, x18, x19, x20, x21, x22, x23, x24, x25, x26, x27, x28, x29, rfl⟩ := list30 (l := bs) (by simp [szL] at hn; omega)
    exact zflat_ok tab_ok mixed fun_ok noC_ok (rd_4t h fl bd x0 x1 x2 x3 x4 x5 x6 x7 x8 x9 x10 x11 x12 x13 x14 x15 x16 x17 x18 x19 x20 x21 x22 x23 x24 x25 x26 x27 x28 x29) .nil
abbrev Rd' : Type := {x : Hd × Lay × Bs // goodL x.2.1 = true ∧ (x.2.2.1.length : Int) + 2 = szL x.2.1}
def ARd (x : Rd') : List DV := [byL x.1.2.2.1, hdr x.1.1, lyD x.1.2.1]
theorem rdL_lcs (l : Lay) : rdL (lcs l) = some l := by kernel_rfl
theorem lcs_inj {l k : Lay} (e : lcs l = lcs k) : l = k := by
  have h1 := rdL_lcs l
  rw [e, rdL_lcs k] at h1
  exact (Option.some.inj h1).symm
def cRd : ConF := conC 39 ARd fun x => (hdr (hR x.1.1 x.1.2.1 x.1.2.2.1), ⟨0, [], []⟩)
theorem cRd_ok : ConOk Try.prog cRd := conC_ok (fun x => rd_ans x.1.1 x.1.2.1 x.1.2.2.1 x.2.1 x.2.2) fun _ => ⟨rfl, fun id o h => by simp [Hp.get_eq] at h, rfl⟩
theorem cRd_at {hp : Hp} {d : DV} (h : Hd) (l : Lay) (b : Bs) (hg : goodL l = true) (hn : (b.1.length : Int) + 2 = szL l) (hd : frz1 hp d (byL b.1)) : cRd 39 [d, hdr h, lyD l] hp = some (hdr (hR h l b.1), layH hp ⟨0, [], []⟩, none) :=
  conC_at (f0 := 39) (A := ARd) (B := fun x => (hdr (hR x.1.1 x.1.2.1 x.1.2.2.1), ⟨0, [], []⟩)) (fun x y hxy => by
    simp only [ARd, List.cons.injEq, and_true, DV.agg.injEq] at hxy
    obtain ⟨e1, e2, e3⟩ := hxy
    rw [byL_inj e1, hcs_inj e2, lcs_inj e3]) ⟨(h, l, b), hg, hn⟩ ⟨hd, ⟨rfl, rfl⟩, ⟨rfl, rfl⟩, trivial⟩
end
end Go.Proofs.Ytcllanmickbkpaa
/- Decode, along its paths. -/
namespace Go.Proofs.Ytcllanmickbkpaa
open Go.RowKit

noncomputable section
def cDc : ConF := orK cVerL (orK cSt (orK cRd cVa))
theorem cDc_ok : ConOk Try.prog cDc := orK_ok cVerL_ok (orK_ok cSt_ok (orK_ok cRd_ok cVa_ok))
abbrev zFr : Ob := ⟨0, 0, 28, hcs hZ ++ [.nil]⟩
abbrev dH1 : Hp := ⟨1, [zFr], []⟩
abbrev dH2 (B : List DV) : Hp := ⟨2, [⟨1, 0, 5, B⟩, zFr], []⟩
abbrev dH3 (B : List DV) (h : Hd) (l : Lay) : Hp := ⟨4, [⟨0, 0, 65, lcs l⟩, ⟨0, 0, 25, hcs h⟩, ⟨1, 0, 5, B⟩, zFr], []⟩
abbrev zfr (e : Int) : DV := .tuple [frm hZ .nil, .int .i64 e]
set_option maxRecDepth 1000000 in
theorem de_ver (xs : List (List DV)) (v : Bool) : zflat (zans Try.prog tab ftab cDc 22 [.list 1 xs] [(11, .q (.tuple [.nil, .int .i64 (cond v 10 31)]))]) = some (zfr (cond v 10 31), [cDc 37 [.list 1 xs] dH1 = some (.tuple [.nil, .int .i64 (cond v 10 31)], dH1, none)]) := by cases v <;> kernel_rfl
abbrev deV (xs : List (List DV)) (m : Nat) (B : List DV) : Prop := cDc 37 [.list 1 xs] dH1 = some (.tuple [.sl 1 0 1 m m, .int .i64 0], dH2 B, none)
abbrev deP (m : Nat) (B : List DV) : Nat × YE := (11, .r (.tuple [.sl 1 0 1 m m, .int .i64 0]) (dH2 B))
set_option maxRecDepth 1000000 in
theorem de_st (xs : List (List DV)) (m : Nat) (B : List DV) (h : Hd) (l : Lay) (v : Bool) : zflat (zans Try.prog tab ftab cDc 22 [.list 1 xs] [deP m B, (20, .q (stD h l (cond v 10 12)))]) = some (zfr (cond v 10 12), [deV xs m B, cDc 38 [.sl 1 0 1 m m] (dH2 B) = some (stD h l (cond v 10 12), dH2 B, none)]) := by cases v <;> kernel_rfl
abbrev deS (m : Nat) (B : List DV) (h : Hd) (l : Lay) : Prop := cDc 38 [.sl 1 0 1 m m] (dH2 B) = some (stD h l 0, dH2 B, none)
set_option maxRecDepth 1000000 in
theorem de_short (xs : List (List DV)) (m : Nat) (B : List DV) (h : Hd) (l : Lay) (hg : goodL l = true) : zflat (zans Try.prog tab ftab cDc 22 [.list 1 xs] [deP m B, (20, .q (stD h l 0)), (33, .b true)]) = some (zfr 10, [deV xs m B, deS m B h l, decide ((m : Int) < szL l) = true]) := by
  obtain ⟨fl, bd, hl⟩ := good_cases hg
  rcases hl with rfl | rfl | rfl | rfl | rfl | rfl <;> kernel_rfl
abbrev deR (m n1 c1 n2 c2 : Nat) (B : List DV) (h h' : Hd) (l : Lay) : Yath := [deP m B, (20, .q (stD h l 0)), (33, .b false), (37, .n (.sl 1 2 1 n1 c1)), (40, .q (hdr h')), (43, .n (.sl 1 (szL l).toNat 1 n2 c2))]
abbrev deQ (xs : List (List DV)) (m n1 c1 n2 c2 : Nat) (B : List DV) (h h' : Hd) (l : Lay) : List Prop := [deV xs m B, deS m B h l, decide ((m : Int) < szL l) = false, sliceD tab (dH3 B h l) bTI (.sl 1 0 1 m m) (some (.int .i64 2)) (some (.int .i64 (szL l))) none = some (.sl 1 2 1 n1 c1),
  cDc 39 [.sl 1 2 1 n1 c1, hdr h, lyD l] (dH3 B h l) = some (hdr h', dH3 B h l, none), sliceD tab (dH3 B h l) bTI (.sl 1 0 1 m m) (some (.int .i64 (szL l))) none none = some (.sl 1 (szL l).toNat 1 n2 c2)]
set_option maxRecDepth 1000000 in
theorem de_bad (xs : List (List DV)) (m n1 c1 n2 c2 : Nat) (B : List DV) (h h' : Hd) (l : Lay) (hg : goodL l = true) : zflat (zans Try.prog tab ftab cDc 22 [.list 1 xs] (deR m n1 c1 n2 c2 B h h' l ++ [(47, .c [(9, .b false)])])) = some (zfr 12, deQ xs m n1 c1 n2 c2 B h h' l ++ [vld h' l = false]) := by
  obtain ⟨fl, bd, hl⟩ := good_cases hg
  rcases hl with rfl | rfl | rfl | rfl | rfl | rfl <;> kernel_rfl
def vfQ (h : Hd) (l : Lay) (n : Nat) (bd e : Bool) : List Prop := match bd with
  | true => [vld h l = true]
  | false => [vld h l = true, ((n : Int) == 0) = e]
set_option maxRecDepth 1000000 in
theorem de_body (xs : List (List DV)) (m n1 c1 n2 c2 : Nat) (B : List DV) (h h' : Hd) (l : Lay) (hg : goodL l = true) (hb : l.body = false) : zflat (zans Try.prog tab ftab cDc 22 [.list 1 xs] (deR m n1 c1 n2 c2 B h h' l ++ [(47, .c (vfP false false))])) = some (zfr 12, deQ xs m n1 c1 n2 c2 B h h' l ++ vfQ h' l n2 false false) := by
  obtain ⟨fl, bd, hl⟩ := good_cases hg
  rcases hl with rfl | rfl | rfl | rfl | rfl | rfl <;> (cases bd <;> first | (cases hb; done) | kernel_rfl)
set_option maxRecDepth 1000000 in
theorem de_long (xs : List (List DV)) (m n1 c1 n2 c2 : Nat) (B : List DV) (h h' : Hd) (l : Lay) (hg : goodL l = true) : zflat (zans Try.prog tab ftab cDc 22 [.list 1 xs] (deR m n1 c1 n2 c2 B h h' l ++ [(47, .c (vfP l.body true)), (53, .b true)])) = some (zfr 11, deQ xs m n1 c1 n2 c2 B h h' l ++ (vfQ h' l n2 l.body true ++ [decide ((n2 : Int) > 2304) = true])) := by
  obtain ⟨fl, bd, hl⟩ := good_cases hg
  rcases hl with rfl | rfl | rfl | rfl | rfl | rfl <;> cases bd <;> kernel_rfl
def deH (B : List DV) (h h' : Hd) (l : Lay) (n2 c2 : Nat) : Hp := ⟨5, [⟨0, 0, 28, hcs h' ++ [.sl 1 (szL l).toNat 1 n2 c2]⟩, ⟨0, 0, 65, lcs l⟩, ⟨0, 0, 25, hcs h⟩, ⟨1, 0, 5, B⟩, ⟨0, 0, 28, hcs h' ++ [.sl 1 (szL l).toNat 1 n2 c2]⟩], []⟩
set_option maxRecDepth 1000000 in
theorem de_ok (xs : List (List DV)) (m n1 c1 n2 c2 : Nat) (B : List DV) (h h' : Hd) (l : Lay) (hg : goodL l = true) : zans Try.prog tab ftab cDc 22 [.list 1 xs] (deR m n1 c1 n2 c2 B h h' l ++ [(47, .c (vfP l.body true)), (53, .b false)]) =
    some (.tuple [frm h' (.sl 1 (szL l).toNat 1 n2 c2), .int .i64 0], deH B h h' l n2 c2, deQ xs m n1 c1 n2 c2 B h h' l ++ (vfQ h' l n2 l.body true ++ [decide ((n2 : Int) > 2304) = false])) := by
  obtain ⟨fl, bd, hl⟩ := good_cases hg
  rcases hl with rfl | rfl | rfl | rfl | rfl | rfl <;> cases bd <;> kernel_rfl
end
end Go.Proofs.Ytcllanmickbkpaa
/- Decode's contract. -/
namespace Go.Proofs.Ytcllanmickbkpaa
open Go.RowKit

noncomputable section
abbrev bodyOfP (p : List UInt8) (l : Lay) : List UInt8 := p.drop (szL l).toNat
/-- what Decode answers for bytes p before a right check, the first of which are x0, x1 -/
def decP (bs p : List UInt8) (x0 x1 : UInt8) : DV × Hp := match okS x0 x1 with
  | false => (zfr 12, ⟨0, [], []⟩)
  | true => match decide ((p.length : Int) < szL (layOf (hS x0 x1)).1) with
    | true => (zfr 10, ⟨0, [], []⟩)
    | false => match vld (hR (hS x0 x1) (layOf (hS x0 x1)).1 ((p.drop 2).take ((szL (layOf (hS x0 x1)).1).toNat - 2))) (layOf (hS x0 x1)).1 with
      | false => (zfr 12, ⟨0, [], []⟩)
      | true => match (layOf (hS x0 x1)).1.body || decide ((bodyOfP p (layOf (hS x0 x1)).1).length = 0) with
        | false => (zfr 12, ⟨0, [], []⟩)
        | true => match decide ((bodyOfP p (layOf (hS x0 x1)).1).length > 2304) with
          | true => (zfr 11, ⟨0, [], []⟩)
          | false => (.tuple [frm (hR (hS x0 x1) (layOf (hS x0 x1)).1 ((p.drop 2).take ((szL (layOf (hS x0 x1)).1).toNat - 2))) (.sl 0 (szL (layOf (hS x0 x1)).1).toNat 1 (bodyOfP p (layOf (hS x0 x1)).1).length (bodyOfP p (layOf (hS x0 x1)).1).length), .int .i64 0], ownH 5 1 (celB bs))
def decB (bs : List UInt8) : DV × Hp :=
  if bs.length < 4 then (zfr 10, ⟨0, [], []⟩)
  else if withL (bs.take (bs.length - 4)) = bs then (match bs.take (bs.length - 4) with
    | x0 :: x1 :: r => decP bs (x0 :: x1 :: r) x0 x1
    | _ => (zfr 10, ⟨0, [], []⟩))
  else (zfr 31, ⟨0, [], []⟩)
theorem dc_ver {hp : Hp} {d : DV} (b : Bs) (h : frz1 hp d (byL b.1)) : cDc 37 [d] hp = some (sh3 hp.n (verL b.1).1, layH hp (verL b.1).2, none) := orK_left (cVerL_at b h)
theorem dc_st {hp : Hp} {d : DV} (b : Bs) (h : frz1 hp d (byL b.1)) : cDc 38 [d] hp = some (sh3 hp.n (stB b.1), layH hp ⟨0, [], []⟩, none) := orK_right (conC_other (by kernel_rfl)) (orK_left (cSt_at b h))
theorem dc_rd {hp : Hp} {d : DV} (h : Hd) (l : Lay) (b : Bs) (hg : goodL l = true) (hn : (b.1.length : Int) + 2 = szL l) (hd : frz1 hp d (byL b.1)) : cDc 39 [d, hdr h, lyD l] hp = some (hdr (hR h l b.1), layH hp ⟨0, [], []⟩, none) :=
  orK_right (conC_other (by kernel_rfl)) (orK_right (conC_other (by kernel_rfl)) (orK_left (cRd_at h l b hg hn hd)))
theorem hdr_map (k : Nat) (h : Hd) : (hcs h).map (sh1 k) = hcs h := by kernel_rfl
theorem sh3_st (k : Nat) (h : Hd) (l : Lay) (e : Int) : sh3 k (stD h l e) = stD h l e := by kernel_rfl
theorem sh3_hdr (k : Nat) (h : Hd) : sh3 k (hdr h) = hdr h := by kernel_rfl
theorem de_sl {hp : Hp} {id L lo hi : Nat} (h1 : lo ≤ hi) (h2 : hi ≤ L) : sliceD tab hp bTI (.sl id 0 1 L L) (some (iN lo)) (some (iN hi)) none = some (.sl id lo 1 (hi - lo) (L - lo)) := by
  have e1 : decide ((0 : Int) ≤ (lo : Int)) = true := decide_eq_true (by omega)
  have e2 : decide ((0 : Int) ≤ (hi : Int)) = true := decide_eq_true (by omega)
  have e3 : Nat.ble lo hi = true := bleT h1
  have e4 : Nat.ble hi L = true := bleT h2
  have e5 : Nat.ble L L = true := bleT (Nat.le_refl _)
  simp only [sliceD, tab_u8, optI, iN, e1, e2, Int.toNat_natCast, e3, e4, e5, maxOk, Bool.and_self, Nat.zero_add, Nat.mul_one, show Nat.beq 1 1 = true from rfl]
theorem de_from {hp : Hp} {id L lo : Nat} (h1 : lo ≤ L) : sliceD tab hp bTI (.sl id 0 1 L L) (some (iN lo)) none none = some (.sl id lo 1 (L - lo) (L - lo)) := by
  have e1 : decide ((0 : Int) ≤ (lo : Int)) = true := decide_eq_true (by omega)
  have e3 : Nat.ble lo L = true := bleT h1
  have e5 : Nat.ble L L = true := bleT (Nat.le_refl _)
  simp only [sliceD, tab_u8, optI, iN, e1, Int.toNat_natCast, e3, e5, maxOk, Bool.and_self, Nat.zero_add, Nat.mul_one, show Nat.beq 1 1 = true from rfl]
/-- bytes within an object's cells -/
theorem frz_part {hp : Hp} {id : Nat} {bs q : List UInt8} (hg : hp.get id = some ⟨1, 0, 5, celB bs⟩) (off c : Nat) (hq : ∀ (i : Nat) (x : UInt8), q[i]? = some x → bs[off + i]? = some x) : frz1 hp (.sl id off 1 q.length c) (byL q) :=
  Sh.frz (.inr ⟨id, off, _, c, rfl, hg, fun i x hx => by rw [celB, List.getElem?_map, hq i x hx]; rfl⟩)
theorem dec_ans (b : Bs) : Ans Try.prog 22 (AB b) (decB b.1).1 (decB b.1).2 := by
  obtain ⟨bs, hb⟩ := b
  have hl := by1_length bs
  have kv := dc_ver (hp := dH1) (d := byL bs) ⟨bs, hb⟩ ⟨rfl, rfl⟩
  simp only [verL] at kv
  unfold decB
  by_cases h4 : bs.length < 4
  · rw [if_pos h4] at kv ⊢
    exact zflat_ok tab_ok mixed fun_ok cDc_ok (de_ver (by1 bs) true) (.cons kv .nil)
  rw [if_neg h4] at kv ⊢
  by_cases hw : withL (bs.take (bs.length - 4)) = bs
  case neg =>
    rw [if_neg hw] at kv ⊢
    exact zflat_ok tab_ok mixed fun_ok cDc_ok (de_ver (by1 bs) false) (.cons kv .nil)
  rw [if_pos hw] at kv ⊢
  have kv : deV (by1 bs) (bs.length - 4) (celB bs) := kv
  have hpl : (bs.take (bs.length - 4)).length = bs.length - 4 := by rw [List.length_take]; omega
  have hpg : ∀ (i : Nat) (x : UInt8), (bs.take (bs.length - 4))[i]? = some x → bs[i]? = some x := fun i x hx => by
    rw [List.getElem?_take] at hx
    split at hx
    · exact hx
    · cases hx
  generalize hp : bs.take (bs.length - 4) = p at *
  have kst : cDc 38 [.sl 1 0 1 (bs.length - 4) (bs.length - 4)] (dH2 (celB bs)) = some (sh3 2 (stB p), dH2 (celB bs), none) := by
    rw [← hpl]
    exact dc_st (hp := dH2 (celB bs)) ⟨p, by omega⟩ (frz_part rfl 0 _ fun i x hx => by rw [Nat.zero_add]; exact hpg i x hx)
  match p, hpl, hpg, kst with
  | [], hpl, hpg, kst => exact zflat_ok tab_ok mixed fun_ok cDc_ok (de_st (by1 bs) (bs.length - 4) (celB bs) hZ lZ true) (.cons kv (.cons kst .nil))
  | [x], hpl, hpg, kst => exact zflat_ok tab_ok mixed fun_ok cDc_ok (de_st (by1 bs) (bs.length - 4) (celB bs) hZ lZ true) (.cons kv (.cons kst .nil))
  | x0 :: x1 :: r, hpl, hpg, kst =>
    show Ans _ _ _ (decP bs (x0 :: x1 :: r) x0 x1).1 (decP bs (x0 :: x1 :: r) x0 x1).2
    have kst : cDc 38 [.sl 1 0 1 (bs.length - 4) (bs.length - 4)] (dH2 (celB bs)) = some (sh3 2 (cond (okS x0 x1) (stD (hS x0 x1) (layOf (hS x0 x1)).1 0) (stD hZ lZ 12)), dH2 (celB bs), none) := kst
    unfold decP
    cases hok : okS x0 x1 with
    | false =>
      rw [hok] at kst
      exact zflat_ok tab_ok mixed fun_ok cDc_ok (de_st (by1 bs) (bs.length - 4) (celB bs) hZ lZ false) (.cons kv (.cons kst .nil))
    | true =>
    rw [hok] at kst
    have hK : (layOf (hS x0 x1)).2 = true := by
      unfold okS at hok
      rw [Bool.and_eq_true] at hok
      exact hok.1
    have hg := lay_good _ hK
    generalize (layOf (hS x0 x1)).1 = l at *
    have kst : deS (bs.length - 4) (celB bs) (hS x0 x1) l := by
      rw [show sh3 2 (cond true (stD (hS x0 x1) l 0) (stD hZ lZ 12)) = stD (hS x0 x1) l 0 from sh3_st _ _ _ _] at kst
      exact kst
    obtain ⟨z0, z1⟩ := szL_le hg
    have z2 : 10 ≤ szL l := by
      obtain ⟨fl, bd, hl⟩ := good_cases hg
      rcases hl with rfl | rfl | rfl | rfl | rfl | rfl <;> simp [szL]
    simp only [hpl]
    cases hsh : decide (((bs.length - 4 : Nat) : Int) < szL l) with
    | true => exact zflat_ok tab_ok mixed fun_ok cDc_ok (de_short (by1 bs) (bs.length - 4) (celB bs) (hS x0 x1) l hg) (.cons kv (.cons kst (.cons hsh .nil)))
    | false =>
    have hge := of_decide_eq_false hsh
    have hS : szL l = ((szL l).toNat : Int) := by omega
    have hql : (((x0 :: x1 :: r).drop 2).take ((szL l).toNat - 2)).length = (szL l).toNat - 2 := by
      rw [List.length_take, List.length_drop, hpl]
      omega
    have hbl : (bodyOfP (x0 :: x1 :: r) l).length = bs.length - 4 - (szL l).toNat := by
      rw [bodyOfP, List.length_drop, hpl]
    generalize hqq : ((x0 :: x1 :: r).drop 2).take ((szL l).toNat - 2) = q at *
    have krd : cDc 39 [.sl 1 2 1 ((szL l).toNat - 2) (bs.length - 4 - 2), hdr (Go.Proofs.Ytcllanmickbkpaa.hS x0 x1), lyD l] (dH3 (celB bs) (Go.Proofs.Ytcllanmickbkpaa.hS x0 x1) l) = some (hdr (hR (Go.Proofs.Ytcllanmickbkpaa.hS x0 x1) l q), dH3 (celB bs) (Go.Proofs.Ytcllanmickbkpaa.hS x0 x1) l, none) := by
      rw [← hql]
      exact dc_rd (hp := dH3 (celB bs) (Go.Proofs.Ytcllanmickbkpaa.hS x0 x1) l) (Go.Proofs.Ytcllanmickbkpaa.hS x0 x1) l ⟨q, by omega⟩ hg (by show (q.length : Int) + 2 = _; omega) (frz_part rfl 2 _ fun i x hx => by
        subst hqq
        rw [List.getElem?_take] at hx
        split at hx
        · rw [List.getElem?_drop] at hx
          exact hpg _ _ hx
        · cases hx)
    have s1 := de_sl (hp := dH3 (celB bs) (Go.Proofs.Ytcllanmickbkpaa.hS x0 x1) l) (id := 1) (L := bs.length - 4) (lo := 2) (hi := (szL l).toNat) (by omega) (by omega)
    have s2 := de_from (hp := dH3 (celB bs) (Go.Proofs.Ytcllanmickbkpaa.hS x0 x1) l) (id := 1) (L := bs.length - 4) (lo := (szL l).toNat) (by omega)
    unfold iN at s1 s2
    rw [← hS] at s1 s2
    have hQ : AskedP (deQ (by1 bs) (bs.length - 4) ((szL l).toNat - 2) (bs.length - 4 - 2) (bs.length - 4 - (szL l).toNat) (bs.length - 4 - (szL l).toNat) (celB bs) (Go.Proofs.Ytcllanmickbkpaa.hS x0 x1) (hR (Go.Proofs.Ytcllanmickbkpaa.hS x0 x1) l q) l) :=
      .cons kv (.cons kst (.cons hsh (.cons s1 (.cons krd (.cons s2 .nil)))))
    generalize hR (Go.Proofs.Ytcllanmickbkpaa.hS x0 x1) l q = h' at *
    cases hv : vld h' l with
    | false => exact zflat_ok tab_ok mixed fun_ok cDc_ok (de_bad (by1 bs) _ _ _ _ _ (celB bs) _ h' l hg) (askApp hQ (.cons hv .nil))
    | true =>
    cases hbd : (l.body || decide ((bodyOfP (x0 :: x1 :: r) l).length = 0)) with
    | false =>
      rw [Bool.or_eq_false_iff] at hbd
      have hne := of_decide_eq_false hbd.2
      exact zflat_ok tab_ok mixed fun_ok cDc_ok (de_body (by1 bs) _ _ _ _ _ (celB bs) _ h' l hg hbd.1) (askApp hQ (.cons hv (.cons (beq_false_of_ne (by omega)) .nil)))
    | true =>
    have hvf : AskedP (vfQ h' l (bs.length - 4 - (szL l).toNat) l.body true) := by
      cases hb2 : l.body with
      | true => exact .cons hv .nil
      | false =>
        rw [hb2, Bool.false_or, decide_eq_true_eq] at hbd
        exact .cons hv (.cons (beq_iff_eq.2 (by omega)) .nil)
    simp only [hbl]
    cases hlo : decide (bs.length - 4 - (szL l).toNat > 2304) with
    | true =>
      have := of_decide_eq_true hlo
      exact zflat_ok tab_ok mixed fun_ok cDc_ok (de_long (by1 bs) _ _ _ _ _ (celB bs) _ h' l hg) (askApp hQ (askApp hvf (.cons (decide_eq_true (by omega)) .nil)))
    | false =>
      have := of_decide_eq_false hlo
      refine AnsH.see (zans_ok tab_ok mixed fun_ok cDc_ok (de_ok (by1 bs) _ _ _ _ _ (celB bs) _ h' l hg) (askApp hQ (askApp hvf (.cons (decide_eq_false (by omega)) .nil)))) (seenV_forget (id := 1) (o := ⟨1, 0, 5, celB bs⟩) rfl ?_ rfl ?_)
      · intro x hx
        simp only [celB, List.mem_map] at hx
        obtain ⟨c, _, rfl⟩ := hx
        rfl
      · kernel_rfl
theorem fine_dec (bs : List UInt8) : Fine (decB bs).1 (decB bs).2 := by
  have hz : ∀ e : Int, Fine (zfr e) ⟨0, [], []⟩ := fun e => ⟨rfl, fun id o h => by simp [Hp.get_eq] at h, rfl⟩
  unfold decB
  split
  · exact hz _
  · split
    · split
      · unfold decP
        split
        · exact hz _
        · split
          · exact hz _
          · split
            · exact hz _
            · split
              · exact hz _
              · split
                · exact hz _
                · exact ⟨rfl, plain_own _ _ _, rfl⟩
      · exact hz _
    · exact hz _
def cDec : ConF := conC 22 AB fun b => decB b.1
theorem cDec_ok : ConOk Try.prog cDec := conC_ok dec_ans fun _ => fine_dec _
theorem cDec_at {hp : Hp} {d : DV} (b : Bs) (h : frz1 hp d (byL b.1)) : cDec 22 [d] hp = some (sh3 hp.n (decB b.1).1, layH hp (decB b.1).2, none) :=
  conC_at (f0 := 22) (A := AB) (B := fun b => decB b.1) (fun x y hxy => by
    simp only [AB, List.cons.injEq, and_true] at hxy
    rw [byL_inj hxy]) b ⟨h, trivial⟩
end
end Go.Proofs.Ytcllanmickbkpaa
/- Encode of a frame whose body is a slice of the caller's. -/
namespace Go.Proofs.Ytcllanmickbkpaa
open Go.RowKit

noncomputable section
theorem frz0_flat {hp : Hp} : ∀ {l : List DV}, flats1 l = true → Frz0 hp l l
  | [], _ => trivial
  | d :: l, h => by
    simp only [flats1, Bool.and_eq_true] at h
    refine ⟨?_, frz0_flat h.2⟩
    unfold frz0
    split
    · exact absurd h.1 (by simp [flat1])
    · exact ⟨h.1, rfl⟩
theorem frz0_app {hp : Hp} : ∀ {a a' b b' : List DV}, Frz0 hp a a' → Frz0 hp b b' → Frz0 hp (a ++ b) (a' ++ b')
  | [], [], _, _, _, h => h
  | _ :: _, _ :: _, _, _, h, k => ⟨h.1, frz0_app h.2 k⟩
  | [], _ :: _, _, _, h, _ => h.elim
  | _ :: _, [], _, _, h, _ => h.elim
theorem flats1_app : ∀ {a b : List DV}, flats1 (a ++ b) = (flats1 a && flats1 b)
  | [], _ => rfl
  | d :: a, b => by
    simp only [List.cons_append, flats1, flats1_app (a := a) (b := b), Bool.and_assoc]
theorem hcs_flat (h : Hd) : flats1 (hcs h) = true := by kernel_rfl
theorem frm_frz {hp : Hp} (h : Hd) {d : DV} {bs : List UInt8} (hd : frz1 hp d (byL bs)) (hs : ∀ cs, d ≠ .agg cs) (hf : ∀ f a b, d ≠ .fn f a b) : frz1 hp (frm h d) (frm h (byL bs)) := by
  have e : flats1 (hcs h ++ [d]) = flat1 d := by rw [flats1_app, hcs_flat]; simp [flats1]
  show (match flats1 (hcs h ++ [d]) with | true => flat2 (.agg (hcs h ++ [d])) = true ∧ frm h (byL bs) = .agg (hcs h ++ [d]) | false => ∃ bs', frm h (byL bs) = .agg bs' ∧ Frz0 hp (hcs h ++ [d]) bs')
  rw [e]
  cases d with
  | sl id off s n c => exact ⟨_, rfl, frz0_app (frz0_flat (hcs_flat h)) ⟨hd, trivial⟩⟩
  | list s xs =>
    have h2 : byL bs = .list s xs := hd.2
    refine ⟨?_, by rw [h2]⟩
    show flats1 (hcs h ++ [.list s xs]) = true
    rw [e]
    rfl
  | agg cs => exact absurd rfl (hs cs)
  | fn f a b => exact absurd rfl (hf f a b)
  | _ =>
    have h2 := And.right hd
    cases h2
theorem cEnc_of {hp : Hp} (h : Hd) (ho : HdOk h) (b : Bs) {d : DV} (hd : frz1 hp d (byL b.1)) (hs : ∀ cs, d ≠ .agg cs) (hf : ∀ f a b, d ≠ .fn f a b) : cEnc 9 [frm h d] hp = some (sh3 hp.n (encB h b.1).1, layH hp (encB h b.1).2, none) :=
  conC_at (f0 := 9) (A := AEn) (B := fun x => encB x.1.1 x.1.2.1) (fun x y hxy => by
    simp only [AEn, List.cons.injEq, and_true] at hxy
    obtain ⟨e1, e2⟩ := frm_inj hxy
    rw [e1, byL_inj e2]) ⟨(h, b), ho⟩ ⟨frm_frz h hd hs hf, trivial⟩
end
end Go.Proofs.Ytcllanmickbkpaa
