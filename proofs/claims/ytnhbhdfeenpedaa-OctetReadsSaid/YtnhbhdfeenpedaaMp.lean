/- Addresses as texts: what digit, Format and Parse answer. -/
import Derived.Test.YtnhbhdfeenpedaaMo
import Derived.Test.YtnhbhdfeenpedaaV26
namespace Go.Proofs.Ytnhbhdfeenpedaa
open Go.RowKit

noncomputable section
def digOk (c : Int) : Bool := (decide (97 ≤ c) && decide (c ≤ 102)) || (decide (48 ≤ c) && decide (c ≤ 57))
def digV (c : Int) : Int := if 97 ≤ c ∧ c ≤ 102 then IntKind.u8.wrap (c - 87) else if 48 ≤ c ∧ c ≤ 57 then IntKind.u8.wrap (c - 48) else 0
def digD (c : Int) : DV := .tuple [.int .u8 (digV c), .bool (digOk c)]
set_option maxRecDepth 1000000 in
theorem dig_1 (c : Int) : qcall tab ftab noC 100 117 [.int .u8 c] ⟨0, []⟩ [(4, .b true), (2, .b true)] = some ((.tuple [.int .u8 (IntKind.u8.wrap (c - 87)), .bool true], ⟨0, []⟩, none), [(decide (c ≥ 97), true), (decide (c ≤ 102), true)]) := by
  kernel_rfl
set_option maxRecDepth 1000000 in
theorem dig_2 (c : Int) : qcall tab ftab noC 100 117 [.int .u8 c] ⟨0, []⟩ [(4, .b true), (2, .b false), (3, .b true), (2, .b false)] = some ((.tuple [.int .u8 0, .bool false], ⟨0, []⟩, none), [(decide (c ≥ 97), true), (decide (c ≤ 102), false), (decide (c ≥ 48), true), (decide (c ≤ 57), false)]) := by
  kernel_rfl
set_option maxRecDepth 1000000 in
theorem dig_3 (c : Int) : qcall tab ftab noC 100 117 [.int .u8 c] ⟨0, []⟩ [(4, .b false), (4, .b true), (2, .b true)] = some ((.tuple [.int .u8 (IntKind.u8.wrap (c - 48)), .bool true], ⟨0, []⟩, none), [(decide (c ≥ 97), false), (decide (c ≥ 48), true), (decide (c ≤ 57), true)]) := by
  kernel_rfl
set_option maxRecDepth 1000000 in
theorem dig_4 (c : Int) : qcall tab ftab noC 100 117 [.int .u8 c] ⟨0, []⟩ [(4, .b false), (4, .b true), (2, .b false)] = some ((.tuple [.int .u8 0, .bool false], ⟨0, []⟩, none), [(decide (c ≥ 97), false), (decide (c ≥ 48), true), (decide (c ≤ 57), false)]) := by
  kernel_rfl
set_option maxRecDepth 1000000 in
theorem dig_5 (c : Int) : qcall tab ftab noC 100 117 [.int .u8 c] ⟨0, []⟩ [(4, .b false), (4, .b false)] = some ((.tuple [.int .u8 0, .bool false], ⟨0, []⟩, none), [(decide (c ≥ 97), false), (decide (c ≥ 48), false)]) := by
  kernel_rfl
theorem dig_run (c : Int) : callE tab ftab noC (exec tab ftab noC 100) 117 [.int .u8 c] ⟨0, []⟩ = some (digD c, ⟨0, []⟩, none) := by
  by_cases h1 : 97 ≤ c
  · by_cases h2 : c ≤ 102
    · rw [qcall_ok (dig_1 c) (.cons (decide_eq_true h1) (.cons (decide_eq_true h2) .nil))]
      simp [digD, digV, digOk, h1, h2]
    · rw [qcall_ok (dig_2 c) (.cons (decide_eq_true h1) (.cons (decide_eq_false h2) (.cons (decide_eq_true (by omega : c ≥ 48)) (.cons (decide_eq_false (by omega : ¬ c ≤ 57)) .nil))))]
      have h4 : ¬ c ≤ 57 := by omega
      simp [digD, digV, digOk, h2, h4]
  · by_cases h3 : 48 ≤ c
    · by_cases h4 : c ≤ 57
      · rw [qcall_ok (dig_3 c) (.cons (decide_eq_false h1) (.cons (decide_eq_true h3) (.cons (decide_eq_true h4) .nil)))]
        simp [digD, digV, digOk, h1, h3, h4]
      · rw [qcall_ok (dig_4 c) (.cons (decide_eq_false h1) (.cons (decide_eq_true h3) (.cons (decide_eq_false h4) .nil)))]
        simp [digD, digV, digOk, h1, h4]
    · rw [qcall_ok (dig_5 c) (.cons (decide_eq_false h1) (.cons (decide_eq_false h3) .nil))]
      simp [digD, digV, digOk, h1, h3]
def cDig0 : CallF := fun f args hp => match Nat.beq f 117 with
  | true => match args, hp with
    | [.int .u8 c], ⟨0, []⟩ => some (digD c, ⟨0, []⟩, none)
    | _, _ => none
  | false => none
theorem cDig0_ok : CallOk Try.prog cDig0 := grow_ok tab_ok mixed fun_ok noC_ok fun f args hp r h => by
  unfold cDig0 at h
  split at h
  · rename_i hf
    have hf := Nat.eq_of_beq_eq_true hf
    subst hf
    split at h
    · cases h
      exact .inr ⟨100, dig_run _⟩
    · cases h
  · cases h
def cDig : CallF := liftC cDig0
theorem cDig_ok : CallOk Try.prog cDig := liftC_ok cDig0_ok
def hexS : ByteArray := ⟨#[48, 49, 50, 51, 52, 53, 54, 55, 56, 57, 97, 98, 99, 100, 101, 102]⟩
def hx (n : Int) : UInt8 := UInt8.ofNat (byteAt hexS n).toNat
def fmtB : List Int → List UInt8
  | [] => []
  | [a] => [hx (shrD .u8 a 4), hx (bitD .and .u8 a 15)]
  | a :: r => hx (shrD .u8 a 4) :: hx (bitD .and .u8 a 15) :: 58 :: fmtB r
def fmtS (xs : List Int) : ByteArray := ⟨(fmtB xs).toArray⟩
set_option maxRecDepth 1000000 in
theorem fmt_path (a b c d e g : Int) : qcall tab ftab noC 200 55 [intsD .u8 [a, b, c, d, e, g]] ⟨0, []⟩ [(16, .g), (2, .g), (19, .g), (2, .g), (19, .g), (2, .g), (19, .g), (2, .g), (19, .g), (2, .g), (19, .g), (2, .g)] = some ((.str (fmtS [a, b, c, d, e, g]), ⟨0, []⟩, none), [(idxS hexS (shrD .u8 a 4), true), (idxS hexS (bitD .and .u8 a 15), true), (idxS hexS (shrD .u8 b 4), true), (idxS hexS (bitD .and .u8 b 15), true), (idxS hexS (shrD .u8 c 4), true), (idxS hexS (bitD .and .u8 c 15), true), (idxS hexS (shrD .u8 d 4), true), (idxS hexS (bitD .and .u8 d 15), true), (idxS hexS (shrD .u8 e 4), true), (idxS hexS (bitD .and .u8 e 15), true), (idxS hexS (shrD .u8 g 4), true), (idxS hexS (bitD .and .u8 g 15), true)]) := by
  kernel_rfl
def parL (c0 c1 _c2 c3 c4 _c5 c6 c7 _c8 c9 c10 _c11 c12 c13 _c14 c15 c16 : UInt8) : List Int := [bitD .or .u8 (shlD .u8 (digV (c0.toNat : Int)) 4) (digV (c1.toNat : Int)), bitD .or .u8 (shlD .u8 (digV (c3.toNat : Int)) 4) (digV (c4.toNat : Int)), bitD .or .u8 (shlD .u8 (digV (c6.toNat : Int)) 4) (digV (c7.toNat : Int)), bitD .or .u8 (shlD .u8 (digV (c9.toNat : Int)) 4) (digV (c10.toNat : Int)), bitD .or .u8 (shlD .u8 (digV (c12.toNat : Int)) 4) (digV (c13.toNat : Int)), bitD .or .u8 (shlD .u8 (digV (c15.toNat : Int)) 4) (digV (c16.toNat : Int))]
set_option maxRecDepth 1000000 in
theorem par_len (s : ByteArray) : qcall tab ftab cDig 200 47 [.str s] ⟨0, []⟩ [(4, .b true)] = some ((.tuple [intsD .u8 [0, 0, 0, 0, 0, 0], .int .i64 12], ⟨0, []⟩, none), [((lenB s : Int) != 17, true)]) := by
  kernel_rfl
set_option maxRecDepth 1000000 in
theorem par_0 (c0 c1 c2 c3 c4 c5 c6 c7 c8 c9 c10 c11 c12 c13 c14 c15 c16 : UInt8) : qcall tab ftab cDig 200 47 [.str ⟨#[c0, c1, c2, c3, c4, c5, c6, c7, c8, c9, c10, c11, c12, c13, c14, c15, c16]⟩] ⟨0, []⟩ [(19, .b false)] = some ((.tuple [intsD .u8 [0, 0, 0, 0, 0, 0], .int .i64 12], ⟨0, []⟩, none), [(digOk (c0.toNat : Int), false)]) := by
  kernel_rfl
set_option maxRecDepth 1000000 in
theorem par_1 (c0 c1 c2 c3 c4 c5 c6 c7 c8 c9 c10 c11 c12 c13 c14 c15 c16 : UInt8) : qcall tab ftab cDig 200 47 [.str ⟨#[c0, c1, c2, c3, c4, c5, c6, c7, c8, c9, c10, c11, c12, c13, c14, c15, c16]⟩] ⟨0, []⟩ [(19, .b true), (9, .b false)] = some ((.tuple [intsD .u8 [0, 0, 0, 0, 0, 0], .int .i64 12], ⟨0, []⟩, none), [(digOk (c0.toNat : Int), true), (digOk (c1.toNat : Int), false)]) := by
  kernel_rfl
set_option maxRecDepth 1000000 in
theorem par_2 (c0 c1 c2 c3 c4 c5 c6 c7 c8 c9 c10 c11 c12 c13 c14 c15 c16 : UInt8) : qcall tab ftab cDig 200 47 [.str ⟨#[c0, c1, c2, c3, c4, c5, c6, c7, c8, c9, c10, c11, c12, c13, c14, c15, c16]⟩] ⟨0, []⟩ [(19, .b true), (9, .b true), (35, .b false)] = some ((.tuple [intsD .u8 [0, 0, 0, 0, 0, 0], .int .i64 12], ⟨0, []⟩, none), [(digOk (c0.toNat : Int), true), (digOk (c1.toNat : Int), true), (digOk (c3.toNat : Int), false)]) := by
  kernel_rfl
set_option maxRecDepth 1000000 in
theorem par_3 (c0 c1 c2 c3 c4 c5 c6 c7 c8 c9 c10 c11 c12 c13 c14 c15 c16 : UInt8) : qcall tab ftab cDig 200 47 [.str ⟨#[c0, c1, c2, c3, c4, c5, c6, c7, c8, c9, c10, c11, c12, c13, c14, c15, c16]⟩] ⟨0, []⟩ [(19, .b true), (9, .b true), (35, .b true), (9, .b false)] = some ((.tuple [intsD .u8 [0, 0, 0, 0, 0, 0], .int .i64 12], ⟨0, []⟩, none), [(digOk (c0.toNat : Int), true), (digOk (c1.toNat : Int), true), (digOk (c3.toNat : Int), true), (digOk (c4.toNat : Int), false)]) := by
  kernel_rfl
set_option maxRecDepth 1000000 in
theorem par_4 (c0 c1 c2 c3 c4 c5 c6 c7 c8 c9 c10 c11 c12 c13 c14 c15 c16 : UInt8) : qcall tab ftab cDig 200 47 [.str ⟨#[c0, c1, c2, c3, c4, c5, c6, c7, c8, c9, c10, c11, c12, c13, c14, c15, c16]⟩] ⟨0, []⟩ [(19, .b true), (9, .b true), (35, .b true), (9, .b true), (16, .b true)] = some ((.tuple [intsD .u8 [0, 0, 0, 0, 0, 0], .int .i64 12], ⟨0, []⟩, none), [(digOk (c0.toNat : Int), true), (digOk (c1.toNat : Int), true), (digOk (c3.toNat : Int), true), (digOk (c4.toNat : Int), true), (((c2.toNat : Int) != 58), true)]) := by
  kernel_rfl
set_option maxRecDepth 1000000 in
theorem par_5 (c0 c1 c2 c3 c4 c5 c6 c7 c8 c9 c10 c11 c12 c13 c14 c15 c16 : UInt8) : qcall tab ftab cDig 200 47 [.str ⟨#[c0, c1, c2, c3, c4, c5, c6, c7, c8, c9, c10, c11, c12, c13, c14, c15, c16]⟩] ⟨0, []⟩ [(19, .b true), (9, .b true), (35, .b true), (9, .b true), (16, .b false), (23, .b false)] = some ((.tuple [intsD .u8 [0, 0, 0, 0, 0, 0], .int .i64 12], ⟨0, []⟩, none), [(digOk (c0.toNat : Int), true), (digOk (c1.toNat : Int), true), (digOk (c3.toNat : Int), true), (digOk (c4.toNat : Int), true), (((c2.toNat : Int) != 58), false), (digOk (c6.toNat : Int), false)]) := by
  kernel_rfl
set_option maxRecDepth 1000000 in
theorem par_6 (c0 c1 c2 c3 c4 c5 c6 c7 c8 c9 c10 c11 c12 c13 c14 c15 c16 : UInt8) : qcall tab ftab cDig 200 47 [.str ⟨#[c0, c1, c2, c3, c4, c5, c6, c7, c8, c9, c10, c11, c12, c13, c14, c15, c16]⟩] ⟨0, []⟩ [(19, .b true), (9, .b true), (35, .b true), (9, .b true), (16, .b false), (23, .b true), (9, .b false)] = some ((.tuple [intsD .u8 [0, 0, 0, 0, 0, 0], .int .i64 12], ⟨0, []⟩, none), [(digOk (c0.toNat : Int), true), (digOk (c1.toNat : Int), true), (digOk (c3.toNat : Int), true), (digOk (c4.toNat : Int), true), (((c2.toNat : Int) != 58), false), (digOk (c6.toNat : Int), true), (digOk (c7.toNat : Int), false)]) := by
  kernel_rfl
set_option maxRecDepth 1000000 in
theorem par_7 (c0 c1 c2 c3 c4 c5 c6 c7 c8 c9 c10 c11 c12 c13 c14 c15 c16 : UInt8) : qcall tab ftab cDig 200 47 [.str ⟨#[c0, c1, c2, c3, c4, c5, c6, c7, c8, c9, c10, c11, c12, c13, c14, c15, c16]⟩] ⟨0, []⟩ [(19, .b true), (9, .b true), (35, .b true), (9, .b true), (16, .b false), (23, .b true), (9, .b true), (16, .b true)] = some ((.tuple [intsD .u8 [0, 0, 0, 0, 0, 0], .int .i64 12], ⟨0, []⟩, none), [(digOk (c0.toNat : Int), true), (digOk (c1.toNat : Int), true), (digOk (c3.toNat : Int), true), (digOk (c4.toNat : Int), true), (((c2.toNat : Int) != 58), false), (digOk (c6.toNat : Int), true), (digOk (c7.toNat : Int), true), (((c5.toNat : Int) != 58), true)]) := by
  kernel_rfl
set_option maxRecDepth 1000000 in
theorem par_8 (c0 c1 c2 c3 c4 c5 c6 c7 c8 c9 c10 c11 c12 c13 c14 c15 c16 : UInt8) : qcall tab ftab cDig 200 47 [.str ⟨#[c0, c1, c2, c3, c4, c5, c6, c7, c8, c9, c10, c11, c12, c13, c14, c15, c16]⟩] ⟨0, []⟩ [(19, .b true), (9, .b true), (35, .b true), (9, .b true), (16, .b false), (23, .b true), (9, .b true), (16, .b false), (23, .b false)] = some ((.tuple [intsD .u8 [0, 0, 0, 0, 0, 0], .int .i64 12], ⟨0, []⟩, none), [(digOk (c0.toNat : Int), true), (digOk (c1.toNat : Int), true), (digOk (c3.toNat : Int), true), (digOk (c4.toNat : Int), true), (((c2.toNat : Int) != 58), false), (digOk (c6.toNat : Int), true), (digOk (c7.toNat : Int), true), (((c5.toNat : Int) != 58), false), (digOk (c9.toNat : Int), false)]) := by
  kernel_rfl
set_option maxRecDepth 1000000 in
theorem par_9 (c0 c1 c2 c3 c4 c5 c6 c7 c8 c9 c10 c11 c12 c13 c14 c15 c16 : UInt8) : qcall tab ftab cDig 200 47 [.str ⟨#[c0, c1, c2, c3, c4, c5, c6, c7, c8, c9, c10, c11, c12, c13, c14, c15, c16]⟩] ⟨0, []⟩ [(19, .b true), (9, .b true), (35, .b true), (9, .b true), (16, .b false), (23, .b true), (9, .b true), (16, .b false), (23, .b true), (9, .b false)] = some ((.tuple [intsD .u8 [0, 0, 0, 0, 0, 0], .int .i64 12], ⟨0, []⟩, none), [(digOk (c0.toNat : Int), true), (digOk (c1.toNat : Int), true), (digOk (c3.toNat : Int), true), (digOk (c4.toNat : Int), true), (((c2.toNat : Int) != 58), false), (digOk (c6.toNat : Int), true), (digOk (c7.toNat : Int), true), (((c5.toNat : Int) != 58), false), (digOk (c9.toNat : Int), true), (digOk (c10.toNat : Int), false)]) := by
  kernel_rfl
set_option maxRecDepth 1000000 in
theorem par_10 (c0 c1 c2 c3 c4 c5 c6 c7 c8 c9 c10 c11 c12 c13 c14 c15 c16 : UInt8) : qcall tab ftab cDig 200 47 [.str ⟨#[c0, c1, c2, c3, c4, c5, c6, c7, c8, c9, c10, c11, c12, c13, c14, c15, c16]⟩] ⟨0, []⟩ [(19, .b true), (9, .b true), (35, .b true), (9, .b true), (16, .b false), (23, .b true), (9, .b true), (16, .b false), (23, .b true), (9, .b true), (16, .b true)] = some ((.tuple [intsD .u8 [0, 0, 0, 0, 0, 0], .int .i64 12], ⟨0, []⟩, none), [(digOk (c0.toNat : Int), true), (digOk (c1.toNat : Int), true), (digOk (c3.toNat : Int), true), (digOk (c4.toNat : Int), true), (((c2.toNat : Int) != 58), false), (digOk (c6.toNat : Int), true), (digOk (c7.toNat : Int), true), (((c5.toNat : Int) != 58), false), (digOk (c9.toNat : Int), true), (digOk (c10.toNat : Int), true), (((c8.toNat : Int) != 58), true)]) := by
  kernel_rfl
set_option maxRecDepth 1000000 in
theorem par_11 (c0 c1 c2 c3 c4 c5 c6 c7 c8 c9 c10 c11 c12 c13 c14 c15 c16 : UInt8) : qcall tab ftab cDig 200 47 [.str ⟨#[c0, c1, c2, c3, c4, c5, c6, c7, c8, c9, c10, c11, c12, c13, c14, c15, c16]⟩] ⟨0, []⟩ [(19, .b true), (9, .b true), (35, .b true), (9, .b true), (16, .b false), (23, .b true), (9, .b true), (16, .b false), (23, .b true), (9, .b true), (16, .b false), (23, .b false)] = some ((.tuple [intsD .u8 [0, 0, 0, 0, 0, 0], .int .i64 12], ⟨0, []⟩, none), [(digOk (c0.toNat : Int), true), (digOk (c1.toNat : Int), true), (digOk (c3.toNat : Int), true), (digOk (c4.toNat : Int), true), (((c2.toNat : Int) != 58), false), (digOk (c6.toNat : Int), true), (digOk (c7.toNat : Int), true), (((c5.toNat : Int) != 58), false), (digOk (c9.toNat : Int), true), (digOk (c10.toNat : Int), true), (((c8.toNat : Int) != 58), false), (digOk (c12.toNat : Int), false)]) := by
  kernel_rfl
set_option maxRecDepth 1000000 in
theorem par_12 (c0 c1 c2 c3 c4 c5 c6 c7 c8 c9 c10 c11 c12 c13 c14 c15 c16 : UInt8) : qcall tab ftab cDig 200 47 [.str ⟨#[c0, c1, c2, c3, c4, c5, c6, c7, c8, c9, c10, c11, c12, c13, c14, c15, c16]⟩] ⟨0, []⟩ [(19, .b true), (9, .b true), (35, .b true), (9, .b true), (16, .b false), (23, .b true), (9, .b true), (16, .b false), (23, .b true), (9, .b true), (16, .b false), (23, .b true), (9, .b false)] = some ((.tuple [intsD .u8 [0, 0, 0, 0, 0, 0], .int .i64 12], ⟨0, []⟩, none), [(digOk (c0.toNat : Int), true), (digOk (c1.toNat : Int), true), (digOk (c3.toNat : Int), true), (digOk (c4.toNat : Int), true), (((c2.toNat : Int) != 58), false), (digOk (c6.toNat : Int), true), (digOk (c7.toNat : Int), true), (((c5.toNat : Int) != 58), false), (digOk (c9.toNat : Int), true), (digOk (c10.toNat : Int), true), (((c8.toNat : Int) != 58), false), (digOk (c12.toNat : Int), true), (digOk (c13.toNat : Int), false)]) := by
  kernel_rfl
set_option maxRecDepth 1000000 in
theorem par_13 (c0 c1 c2 c3 c4 c5 c6 c7 c8 c9 c10 c11 c12 c13 c14 c15 c16 : UInt8) : qcall tab ftab cDig 200 47 [.str ⟨#[c0, c1, c2, c3, c4, c5, c6, c7, c8, c9, c10, c11, c12, c13, c14, c15, c16]⟩] ⟨0, []⟩ [(19, .b true), (9, .b true), (35, .b true), (9, .b true), (16, .b false), (23, .b true), (9, .b true), (16, .b false), (23, .b true), (9, .b true), (16, .b false), (23, .b true), (9, .b true), (16, .b true)] = some ((.tuple [intsD .u8 [0, 0, 0, 0, 0, 0], .int .i64 12], ⟨0, []⟩, none), [(digOk (c0.toNat : Int), true), (digOk (c1.toNat : Int), true), (digOk (c3.toNat : Int), true), (digOk (c4.toNat : Int), true), (((c2.toNat : Int) != 58), false), (digOk (c6.toNat : Int), true), (digOk (c7.toNat : Int), true), (((c5.toNat : Int) != 58), false), (digOk (c9.toNat : Int), true), (digOk (c10.toNat : Int), true), (((c8.toNat : Int) != 58), false), (digOk (c12.toNat : Int), true), (digOk (c13.toNat : Int), true), (((c11.toNat : Int) != 58), true)]) := by
  kernel_rfl
set_option maxRecDepth 1000000 in
theorem par_14 (c0 c1 c2 c3 c4 c5 c6 c7 c8 c9 c10 c11 c12 c13 c14 c15 c16 : UInt8) : qcall tab ftab cDig 200 47 [.str ⟨#[c0, c1, c2, c3, c4, c5, c6, c7, c8, c9, c10, c11, c12, c13, c14, c15, c16]⟩] ⟨0, []⟩ [(19, .b true), (9, .b true), (35, .b true), (9, .b true), (16, .b false), (23, .b true), (9, .b true), (16, .b false), (23, .b true), (9, .b true), (16, .b false), (23, .b true), (9, .b true), (16, .b false), (23, .b false)] = some ((.tuple [intsD .u8 [0, 0, 0, 0, 0, 0], .int .i64 12], ⟨0, []⟩, none), [(digOk (c0.toNat : Int), true), (digOk (c1.toNat : Int), true), (digOk (c3.toNat : Int), true), (digOk (c4.toNat : Int), true), (((c2.toNat : Int) != 58), false), (digOk (c6.toNat : Int), true), (digOk (c7.toNat : Int), true), (((c5.toNat : Int) != 58), false), (digOk (c9.toNat : Int), true), (digOk (c10.toNat : Int), true), (((c8.toNat : Int) != 58), false), (digOk (c12.toNat : Int), true), (digOk (c13.toNat : Int), true), (((c11.toNat : Int) != 58), false), (digOk (c15.toNat : Int), false)]) := by
  kernel_rfl
set_option maxRecDepth 1000000 in
theorem par_15 (c0 c1 c2 c3 c4 c5 c6 c7 c8 c9 c10 c11 c12 c13 c14 c15 c16 : UInt8) : qcall tab ftab cDig 200 47 [.str ⟨#[c0, c1, c2, c3, c4, c5, c6, c7, c8, c9, c10, c11, c12, c13, c14, c15, c16]⟩] ⟨0, []⟩ [(19, .b true), (9, .b true), (35, .b true), (9, .b true), (16, .b false), (23, .b true), (9, .b true), (16, .b false), (23, .b true), (9, .b true), (16, .b false), (23, .b true), (9, .b true), (16, .b false), (23, .b true), (9, .b false)] = some ((.tuple [intsD .u8 [0, 0, 0, 0, 0, 0], .int .i64 12], ⟨0, []⟩, none), [(digOk (c0.toNat : Int), true), (digOk (c1.toNat : Int), true), (digOk (c3.toNat : Int), true), (digOk (c4.toNat : Int), true), (((c2.toNat : Int) != 58), false), (digOk (c6.toNat : Int), true), (digOk (c7.toNat : Int), true), (((c5.toNat : Int) != 58), false), (digOk (c9.toNat : Int), true), (digOk (c10.toNat : Int), true), (((c8.toNat : Int) != 58), false), (digOk (c12.toNat : Int), true), (digOk (c13.toNat : Int), true), (((c11.toNat : Int) != 58), false), (digOk (c15.toNat : Int), true), (digOk (c16.toNat : Int), false)]) := by
  kernel_rfl
set_option maxRecDepth 1000000 in
theorem par_16 (c0 c1 c2 c3 c4 c5 c6 c7 c8 c9 c10 c11 c12 c13 c14 c15 c16 : UInt8) : qcall tab ftab cDig 200 47 [.str ⟨#[c0, c1, c2, c3, c4, c5, c6, c7, c8, c9, c10, c11, c12, c13, c14, c15, c16]⟩] ⟨0, []⟩ [(19, .b true), (9, .b true), (35, .b true), (9, .b true), (16, .b false), (23, .b true), (9, .b true), (16, .b false), (23, .b true), (9, .b true), (16, .b false), (23, .b true), (9, .b true), (16, .b false), (23, .b true), (9, .b true), (16, .b true)] = some ((.tuple [intsD .u8 [0, 0, 0, 0, 0, 0], .int .i64 12], ⟨0, []⟩, none), [(digOk (c0.toNat : Int), true), (digOk (c1.toNat : Int), true), (digOk (c3.toNat : Int), true), (digOk (c4.toNat : Int), true), (((c2.toNat : Int) != 58), false), (digOk (c6.toNat : Int), true), (digOk (c7.toNat : Int), true), (((c5.toNat : Int) != 58), false), (digOk (c9.toNat : Int), true), (digOk (c10.toNat : Int), true), (((c8.toNat : Int) != 58), false), (digOk (c12.toNat : Int), true), (digOk (c13.toNat : Int), true), (((c11.toNat : Int) != 58), false), (digOk (c15.toNat : Int), true), (digOk (c16.toNat : Int), true), (((c14.toNat : Int) != 58), true)]) := by
  kernel_rfl
set_option maxRecDepth 1000000 in
theorem par_17 (c0 c1 c2 c3 c4 c5 c6 c7 c8 c9 c10 c11 c12 c13 c14 c15 c16 : UInt8) : qcall tab ftab cDig 200 47 [.str ⟨#[c0, c1, c2, c3, c4, c5, c6, c7, c8, c9, c10, c11, c12, c13, c14, c15, c16]⟩] ⟨0, []⟩ [(19, .b true), (9, .b true), (35, .b true), (9, .b true), (16, .b false), (23, .b true), (9, .b true), (16, .b false), (23, .b true), (9, .b true), (16, .b false), (23, .b true), (9, .b true), (16, .b false), (23, .b true), (9, .b true), (16, .b false)] = some ((.tuple [intsD .u8 (parL c0 c1 c2 c3 c4 c5 c6 c7 c8 c9 c10 c11 c12 c13 c14 c15 c16), .int .i64 0], ⟨0, []⟩, none), [(digOk (c0.toNat : Int), true), (digOk (c1.toNat : Int), true), (digOk (c3.toNat : Int), true), (digOk (c4.toNat : Int), true), (((c2.toNat : Int) != 58), false), (digOk (c6.toNat : Int), true), (digOk (c7.toNat : Int), true), (((c5.toNat : Int) != 58), false), (digOk (c9.toNat : Int), true), (digOk (c10.toNat : Int), true), (((c8.toNat : Int) != 58), false), (digOk (c12.toNat : Int), true), (digOk (c13.toNat : Int), true), (((c11.toNat : Int) != 58), false), (digOk (c15.toNat : Int), true), (digOk (c16.toNat : Int), true), (((c14.toNat : Int) != 58), false)]) := by
  kernel_rfl
def parOk (c0 c1 c2 c3 c4 c5 c6 c7 c8 c9 c10 c11 c12 c13 c14 c15 c16 : UInt8) : Bool := digOk (c0.toNat : Int) && digOk (c1.toNat : Int) && digOk (c3.toNat : Int) && digOk (c4.toNat : Int) && !((c2.toNat : Int) != 58) && digOk (c6.toNat : Int) && digOk (c7.toNat : Int) && !((c5.toNat : Int) != 58) && digOk (c9.toNat : Int) && digOk (c10.toNat : Int) && !((c8.toNat : Int) != 58) && digOk (c12.toNat : Int) && digOk (c13.toNat : Int) && !((c11.toNat : Int) != 58) && digOk (c15.toNat : Int) && digOk (c16.toNat : Int) && !((c14.toNat : Int) != 58)
theorem par_run (c0 c1 c2 c3 c4 c5 c6 c7 c8 c9 c10 c11 c12 c13 c14 c15 c16 : UInt8) : callE tab ftab cDig (exec tab ftab cDig 200) 47 [.str ⟨#[c0, c1, c2, c3, c4, c5, c6, c7, c8, c9, c10, c11, c12, c13, c14, c15, c16]⟩] ⟨0, []⟩ =
    some (if parOk c0 c1 c2 c3 c4 c5 c6 c7 c8 c9 c10 c11 c12 c13 c14 c15 c16 then .tuple [intsD .u8 (parL c0 c1 c2 c3 c4 c5 c6 c7 c8 c9 c10 c11 c12 c13 c14 c15 c16), .int .i64 0] else .tuple [intsD .u8 [0, 0, 0, 0, 0, 0], .int .i64 12], ⟨0, []⟩, none) := by
  cases h0 : digOk (c0.toNat : Int) with
  | false => rw [qcall_ok (par_0 c0 c1 c2 c3 c4 c5 c6 c7 c8 c9 c10 c11 c12 c13 c14 c15 c16) (.cons h0 .nil), if_neg (by simp [parOk, h0])]
  | true =>
    cases h1 : digOk (c1.toNat : Int) with
    | false => rw [qcall_ok (par_1 c0 c1 c2 c3 c4 c5 c6 c7 c8 c9 c10 c11 c12 c13 c14 c15 c16) (.cons h0 (.cons h1 .nil)), if_neg (by simp [parOk, h1])]
    | true =>
      cases h2 : digOk (c3.toNat : Int) with
      | false => rw [qcall_ok (par_2 c0 c1 c2 c3 c4 c5 c6 c7 c8 c9 c10 c11 c12 c13 c14 c15 c16) (.cons h0 (.cons h1 (.cons h2 .nil))), if_neg (by simp [parOk, h2])]
      | true =>
        cases h3 : digOk (c4.toNat : Int) with
        | false => rw [qcall_ok (par_3 c0 c1 c2 c3 c4 c5 c6 c7 c8 c9 c10 c11 c12 c13 c14 c15 c16) (.cons h0 (.cons h1 (.cons h2 (.cons h3 .nil)))), if_neg (by simp [parOk, h3])]
        | true =>
          cases h4 : ((c2.toNat : Int) != 58) with
          | true => rw [qcall_ok (par_4 c0 c1 c2 c3 c4 c5 c6 c7 c8 c9 c10 c11 c12 c13 c14 c15 c16) (.cons h0 (.cons h1 (.cons h2 (.cons h3 (.cons h4 .nil))))), if_neg (by simp [parOk, h4])]
          | false =>
            cases h5 : digOk (c6.toNat : Int) with
            | false => rw [qcall_ok (par_5 c0 c1 c2 c3 c4 c5 c6 c7 c8 c9 c10 c11 c12 c13 c14 c15 c16) (.cons h0 (.cons h1 (.cons h2 (.cons h3 (.cons h4 (.cons h5 .nil)))))), if_neg (by simp [parOk, h5])]
            | true =>
              cases h6 : digOk (c7.toNat : Int) with
              | false => rw [qcall_ok (par_6 c0 c1 c2 c3 c4 c5 c6 c7 c8 c9 c10 c11 c12 c13 c14 c15 c16) (.cons h0 (.cons h1 (.cons h2 (.cons h3 (.cons h4 (.cons h5 (.cons h6 .nil))))))), if_neg (by simp [parOk, h6])]
              | true =>
                cases h7 : ((c5.toNat : Int) != 58) with
                | true => rw [qcall_ok (par_7 c0 c1 c2 c3 c4 c5 c6 c7 c8 c9 c10 c11 c12 c13 c14 c15 c16) (.cons h0 (.cons h1 (.cons h2 (.cons h3 (.cons h4 (.cons h5 (.cons h6 (.cons h7 .nil)))))))), if_neg (by simp [parOk, h7])]
                | false =>
                  cases h8 : digOk (c9.toNat : Int) with
                  | false => rw [qcall_ok (par_8 c0 c1 c2 c3 c4 c5 c6 c7 c8 c9 c10 c11 c12 c13 c14 c15 c16) (.cons h0 (.cons h1 (.cons h2 (.cons h3 (.cons h4 (.cons h5 (.cons h6 (.cons h7 (.cons h8 .nil))))))))), if_neg (by simp [parOk, h8])]
                  | true =>
                    cases h9 : digOk (c10.toNat : Int) with
                    | false => rw [qcall_ok (par_9 c0 c1 c2 c3 c4 c5 c6 c7 c8 c9 c10 c11 c12 c13 c14 c15 c16) (.cons h0 (.cons h1 (.cons h2 (.cons h3 (.cons h4 (.cons h5 (.cons h6 (.cons h7 (.cons h8 (.cons h9 .nil)))))))))), if_neg (by simp [parOk, h9])]
                    | true =>
                      cases h10 : ((c8.toNat : Int) != 58) with
                      | true => rw [qcall_ok (par_10 c0 c1 c2 c3 c4 c5 c6 c7 c8 c9 c10 c11 c12 c13 c14 c15 c16) (.cons h0 (.cons h1 (.cons h2 (.cons h3 (.cons h4 (.cons h5 (.cons h6 (.cons h7 (.cons h8 (.cons h9 (.cons h10 .nil))))))))))), if_neg (by simp [parOk, h10])]
                      | false =>
                        cases h11 : digOk (c12.toNat : Int) with
                        | false => rw [qcall_ok (par_11 c0 c1 c2 c3 c4 c5 c6 c7 c8 c9 c10 c11 c12 c13 c14 c15 c16) (.cons h0 (.cons h1 (.cons h2 (.cons h3 (.cons h4 (.cons h5 (.cons h6 (.cons h7 (.cons h8 (.cons h9 (.cons h10 (.cons h11 .nil)))))))))))), if_neg (by simp [parOk, h11])]
                        | true =>
                          cases h12 : digOk (c13.toNat : Int) with
                          | false => rw [qcall_ok (par_12 c0 c1 c2 c3 c4 c5 c6 c7 c8 c9 c10 c11 c12 c13 c14 c15 c16) (.cons h0 (.cons h1 (.cons h2 (.cons h3 (.cons h4 (.cons h5 (.cons h6 (.cons h7 (.cons h8 (.cons h9 (.cons h10 (.cons h11 (.cons h12 .nil))))))))))))), if_neg (by simp [parOk, h12])]
                          | true =>
                            cases h13 : ((c11.toNat : Int) != 58) with
                            | true => rw [qcall_ok (par_13 c0 c1 c2 c3 c4 c5 c6 c7 c8 c9 c10 c11 c12 c13 c14 c15 c16) (.cons h0 (.cons h1 (.cons h2 (.cons h3 (.cons h4 (.cons h5 (.cons h6 (.cons h7 (.cons h8 (.cons h9 (.cons h10 (.cons h11 (.cons h12 (.cons h13 .nil)))))))))))))), if_neg (by simp [parOk, h13])]
                            | false =>
                              cases h14 : digOk (c15.toNat : Int) with
                              | false => rw [qcall_ok (par_14 c0 c1 c2 c3 c4 c5 c6 c7 c8 c9 c10 c11 c12 c13 c14 c15 c16) (.cons h0 (.cons h1 (.cons h2 (.cons h3 (.cons h4 (.cons h5 (.cons h6 (.cons h7 (.cons h8 (.cons h9 (.cons h10 (.cons h11 (.cons h12 (.cons h13 (.cons h14 .nil))))))))))))))), if_neg (by simp [parOk, h14])]
                              | true =>
                                cases h15 : digOk (c16.toNat : Int) with
                                | false => rw [qcall_ok (par_15 c0 c1 c2 c3 c4 c5 c6 c7 c8 c9 c10 c11 c12 c13 c14 c15 c16) (.cons h0 (.cons h1 (.cons h2 (.cons h3 (.cons h4 (.cons h5 (.cons h6 (.cons h7 (.cons h8 (.cons h9 (.cons h10 (.cons h11 (.cons h12 (.cons h13 (.cons h14 (.cons h15 .nil)))))))))))))))), if_neg (by simp [parOk, h15])]
                                | true =>
                                  cases h16 : ((c14.toNat : Int) != 58) with
                                  | true => rw [qcall_ok (par_16 c0 c1 c2 c3 c4 c5 c6 c7 c8 c9 c10 c11 c12 c13 c14 c15 c16) (.cons h0 (.cons h1 (.cons h2 (.cons h3 (.cons h4 (.cons h5 (.cons h6 (.cons h7 (.cons h8 (.cons h9 (.cons h10 (.cons h11 (.cons h12 (.cons h13 (.cons h14 (.cons h15 (.cons h16 .nil))))))))))))))))), if_neg (by simp [parOk, h16])]
                                  | false =>
                                    rw [qcall_ok (par_17 c0 c1 c2 c3 c4 c5 c6 c7 c8 c9 c10 c11 c12 c13 c14 c15 c16) (.cons h0 (.cons h1 (.cons h2 (.cons h3 (.cons h4 (.cons h5 (.cons h6 (.cons h7 (.cons h8 (.cons h9 (.cons h10 (.cons h11 (.cons h12 (.cons h13 (.cons h14 (.cons h15 (.cons h16 .nil))))))))))))))))), if_pos (by simp [parOk, h0, h1, h2, h3, h4, h5, h6, h7, h8, h9, h10, h11, h12, h13, h14, h15, h16])]
end
end Go.Proofs.Ytnhbhdfeenpedaa
