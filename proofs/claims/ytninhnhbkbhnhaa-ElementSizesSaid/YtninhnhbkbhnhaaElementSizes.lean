/- Encodings are as long as the chapter says: the statement returns true. No conditions. -/
import Derived.Test.YtninhnhbkbhnhaaV37
import Derived.Test.YtninhnhbkbhnhaaLw
import Derived.WalkKit
import Derived.ProofKit
import Derived.OpenShut
import Derived.ShutString
import Derived.ChangeOld
import Derived.Below
namespace Go.Proofs.Ytninhnhbkbhnhaa.elementSizes
open Go.ChangeShapes Go.WideShapes Go.ChangeAt Go.RowKit

theorem own : ownKnob Try.prog.godebug = none := by kernel_rfl
theorem laidOut : laidOutB Try.prog = true := by kernel_rfl

noncomputable section
def lawS (m : Int) : Int := IntKind.i64.wrap (m + IntKind.i64.wrap (2 * IntKind.i64.wrap (quoD .i64 m 255 + 1)))
def codS (m : Int) : Int := IntKind.i64.wrap (0 + IntKind.i64.wrap (m + IntKind.i64.wrap (2 * IntKind.i64.wrap (quoD .i64 m 255 + 1))))
theorem wr {m : Int} (h : 0 ≤ m ∧ m ≤ 1000000000) : IntKind.i64.wrap m = m := by
  rw [IntKind.wrap_i64]
  omega
theorem quo_eq {m : Int} (h : 0 ≤ m ∧ m ≤ 1000000) : quoD .i64 m 255 = m / 255 := by
  unfold quoD
  rw [Int.tdiv_eq_ediv_of_nonneg h.1, wr (by omega)]
theorem lawS_eq {m : Int} (h : 0 ≤ m ∧ m ≤ 1000000) : lawS m = m + 2 * (m / 255 + 1) := by
  unfold lawS
  rw [quo_eq h, wr (m := m / 255 + 1) (by omega), wr (m := 2 * (m / 255 + 1)) (by omega), wr (by omega)]
theorem codS_eq {m : Int} (h : 0 ≤ m ∧ m ≤ 1000000) : codS m = m + 2 * (m / 255 + 1) := by
  unfold codS
  rw [quo_eq h, wr (m := m / 255 + 1) (by omega), wr (m := 2 * (m / 255 + 1)) (by omega), wr (m := m + 2 * (m / 255 + 1)) (by omega), wr (by omega)]
  omega
set_option maxRecDepth 1000000 in
theorem alive_ans : zflat (zans Try.prog tab ftab noC 16 [] []) = some (.bool true, []) := by kernel_rfl
def cAl : ConF := fixC 16 (.bool true)
theorem cAl_ok : ConOk Try.prog cAl := fixC_ok (zflat_ok tab_ok mixed fun_ok noC_ok alive_ans .nil) rfl
set_option maxRecDepth 1000000 in
theorem early1 (i e : Int) (xs : List (List DV)) : zflat (zans Try.prog tab ftab cAl 8 [.int .u8 i, .int .u8 e, .list 1 xs] [(16, .b true), (19, .b true)]) = some (.bool true, [decide (i ≥ 200) = true, decide (i < 220) = true]) := by kernel_rfl
set_option maxRecDepth 1000000 in
theorem early2 (i e : Int) (xs : List (List DV)) : zflat (zans Try.prog tab ftab cAl 8 [.int .u8 i, .int .u8 e, .list 1 xs] [(16, .b true), (19, .b false), (23, .b true)]) = some (.bool true, [decide (i ≥ 200) = true, decide (i < 220) = false, (i == 254) = true]) := by kernel_rfl
set_option maxRecDepth 1000000 in
theorem early3h (i e : Int) (xs : List (List DV)) : zflat (zans Try.prog tab ftab cAl 8 [.int .u8 i, .int .u8 e, .list 1 xs] [(16, .b true), (19, .b false), (23, .b false), (28, .b true)]) = some (.bool true, [decide (i ≥ 200) = true, decide (i < 220) = false, (i == 254) = false, decide ((xs.length : Int) > 1024) = true]) := by kernel_rfl
set_option maxRecDepth 1000000 in
theorem early3l (i e : Int) (xs : List (List DV)) : zflat (zans Try.prog tab ftab cAl 8 [.int .u8 i, .int .u8 e, .list 1 xs] [(16, .b false), (23, .b false), (28, .b true)]) = some (.bool true, [decide (i ≥ 200) = false, (i == 254) = false, decide ((xs.length : Int) > 1024) = true]) := by kernel_rfl
set_option maxRecDepth 1000000 in
theorem m_o0 (i : Int) (e : Int) : zflat (zans Try.prog tab ftab cAl 8 [.int .u8 i, .int .u8 e, .list 1 []] [(16, .b false), (23, .b false), (41, .b false), (49, .c [(8, .c [(65534, .c [(5, .c [(18, .c [(41, .b false)])])])]), (11, .c [(20, .c [(4, .b false)]), (35, .c [(4, .b false)])])]), (57, .c [(8, .c [(65534, .c [(5, .c [(18, .c []), (26, .c [(18, .c [(41, .b false)])])])])]), (11, .c [(24, .c [(20, .c [(4, .b false)]), (35, .c [(4, .b false)])])])])]) = some (.bool true, [decide (i ≥ 200) = false, (i == 254) = false, (i == 255) = false, (i == 254) = false, decide (i ≥ 200) = false, (i == 255) = false, (i == 254) = false, decide (i ≥ 200) = false, (i == 255) = false]) := by kernel_rfl
set_option maxRecDepth 1000000 in
theorem m_os (i : Int) (e : Int) (xs : List (List DV)) : zflat (zans Try.prog tab ftab cAl 8 [.int .u8 i, .int .u8 e, .list 1 xs] [(16, .b false), (23, .b false), (28, .b false), (41, .b false), (49, .c [(8, .c [(65534, .c [(5, .c [(18, .c [(23, .b true), (27, .c [(4, .b false)]), (41, .b false)])])])]), (11, .c [(20, .c [(4, .b false)]), (31, .b false), (35, .c [(4, .b false)])])]), (57, .c [(8, .c [(65534, .c [(5, .c [(18, .c []), (26, .c [(18, .c [(23, .b true), (27, .c [(4, .b false)]), (41, .b false)])])])])]), (11, .c [(24, .c [(20, .c [(4, .b false)]), (31, .b false), (35, .c [(4, .b false)])]), (31, .b false)])]), (73, .b true), (86, .b true)]) = some (.bool true, [decide (i ≥ 200) = false, (i == 254) = false, decide ((xs.length : Int) > 1024) = false, (i == 255) = false, decide ((xs.length : Int) > 0) = true, decide (i ≥ 200) = false, (i == 254) = false, decide (i ≥ 200) = false, decide ((xs.length : Int) > 1024) = false, (i == 255) = false, decide ((xs.length : Int) > 0) = true, decide (i ≥ 200) = false, (i == 254) = false, decide (i ≥ 200) = false, decide ((xs.length : Int) > 1024) = false, (i == 255) = false, decide ((codS (IntKind.i64.wrap ((xs.length : Int) + 0))) > 1024) = false, ((codS (IntKind.i64.wrap ((xs.length : Int) + 0))) == lawS (xs.length : Int)) = true, (codS (IntKind.i64.wrap ((codS (IntKind.i64.wrap ((xs.length : Int) + 0))) + 0)) == lawS (codS (IntKind.i64.wrap ((xs.length : Int) + 0)))) = true]) := by kernel_rfl
set_option maxRecDepth 1000000 in
theorem m_ol (i : Int) (e : Int) (xs : List (List DV)) : zflat (zans Try.prog tab ftab cAl 8 [.int .u8 i, .int .u8 e, .list 1 xs] [(16, .b false), (23, .b false), (28, .b false), (41, .b false), (49, .c [(8, .c [(65534, .c [(5, .c [(18, .c [(23, .b true), (27, .c [(4, .b false)]), (41, .b false)])])])]), (11, .c [(20, .c [(4, .b false)]), (31, .b false), (35, .c [(4, .b false)])])]), (57, .c [(8, .c [(65534, .c [(5, .c [(18, .c []), (26, .c [(18, .c [(23, .b true), (27, .c [(4, .b false)]), (41, .b false)])])])])]), (11, .c [(24, .c [(20, .c [(4, .b false)]), (31, .b false), (35, .c [(4, .b false)])]), (31, .b true)])]), (73, .b true), (93, .b true)]) = some (.bool true, [decide (i ≥ 200) = false, (i == 254) = false, decide ((xs.length : Int) > 1024) = false, (i == 255) = false, decide ((xs.length : Int) > 0) = true, decide (i ≥ 200) = false, (i == 254) = false, decide (i ≥ 200) = false, decide ((xs.length : Int) > 1024) = false, (i == 255) = false, decide ((xs.length : Int) > 0) = true, decide (i ≥ 200) = false, (i == 254) = false, decide (i ≥ 200) = false, decide ((xs.length : Int) > 1024) = false, (i == 255) = false, decide ((codS (IntKind.i64.wrap ((xs.length : Int) + 0))) > 1024) = true, ((codS (IntKind.i64.wrap ((xs.length : Int) + 0))) == lawS (xs.length : Int)) = true, decide ((codS (IntKind.i64.wrap ((xs.length : Int) + 0))) > 1024) = true]) := by kernel_rfl
set_option maxRecDepth 1000000 in
theorem m_oh0 (i : Int) (e : Int) : zflat (zans Try.prog tab ftab cAl 8 [.int .u8 i, .int .u8 e, .list 1 []] [(16, .b true), (19, .b false), (23, .b false), (41, .b false), (49, .c [(8, .c [(65534, .c [(5, .c [(18, .c [(41, .b false)])])])]), (11, .c [(20, .c [(4, .b true), (7, .b false)]), (35, .c [(4, .b false)])])]), (57, .c [(8, .c [(65534, .c [(5, .c [(18, .c []), (26, .c [(18, .c [(41, .b false)])])])])]), (11, .c [(24, .c [(20, .c [(4, .b true), (7, .b false)]), (35, .c [(4, .b false)])])])])]) = some (.bool true, [decide (i ≥ 200) = true, decide (i < 220) = false, (i == 254) = false, (i == 255) = false, (i == 254) = false, decide (i ≥ 200) = true, decide (i ≤ 219) = false, (i == 255) = false, (i == 254) = false, decide (i ≥ 200) = true, decide (i ≤ 219) = false, (i == 255) = false]) := by kernel_rfl
set_option maxRecDepth 1000000 in
theorem m_ohs (i : Int) (e : Int) (xs : List (List DV)) : zflat (zans Try.prog tab ftab cAl 8 [.int .u8 i, .int .u8 e, .list 1 xs] [(16, .b true), (19, .b false), (23, .b false), (28, .b false), (41, .b false), (49, .c [(8, .c [(65534, .c [(5, .c [(18, .c [(23, .b true), (27, .c [(4, .b true), (7, .b false)]), (41, .b false)])])])]), (11, .c [(20, .c [(4, .b true), (7, .b false)]), (31, .b false), (35, .c [(4, .b false)])])]), (57, .c [(8, .c [(65534, .c [(5, .c [(18, .c []), (26, .c [(18, .c [(23, .b true), (27, .c [(4, .b true), (7, .b false)]), (41, .b false)])])])])]), (11, .c [(24, .c [(20, .c [(4, .b true), (7, .b false)]), (31, .b false), (35, .c [(4, .b false)])]), (31, .b false)])]), (73, .b true), (86, .b true)]) = some (.bool true, [decide (i ≥ 200) = true, decide (i < 220) = false, (i == 254) = false, decide ((xs.length : Int) > 1024) = false, (i == 255) = false, decide ((xs.length : Int) > 0) = true, decide (i ≥ 200) = true, decide (i ≤ 219) = false, (i == 254) = false, decide (i ≥ 200) = true, decide (i ≤ 219) = false, decide ((xs.length : Int) > 1024) = false, (i == 255) = false, decide ((xs.length : Int) > 0) = true, decide (i ≥ 200) = true, decide (i ≤ 219) = false, (i == 254) = false, decide (i ≥ 200) = true, decide (i ≤ 219) = false, decide ((xs.length : Int) > 1024) = false, (i == 255) = false, decide ((codS (IntKind.i64.wrap ((xs.length : Int) + 0))) > 1024) = false, ((codS (IntKind.i64.wrap ((xs.length : Int) + 0))) == lawS (xs.length : Int)) = true, (codS (IntKind.i64.wrap ((codS (IntKind.i64.wrap ((xs.length : Int) + 0))) + 0)) == lawS (codS (IntKind.i64.wrap ((xs.length : Int) + 0)))) = true]) := by kernel_rfl
set_option maxRecDepth 1000000 in
theorem m_ohl (i : Int) (e : Int) (xs : List (List DV)) : zflat (zans Try.prog tab ftab cAl 8 [.int .u8 i, .int .u8 e, .list 1 xs] [(16, .b true), (19, .b false), (23, .b false), (28, .b false), (41, .b false), (49, .c [(8, .c [(65534, .c [(5, .c [(18, .c [(23, .b true), (27, .c [(4, .b true), (7, .b false)]), (41, .b false)])])])]), (11, .c [(20, .c [(4, .b true), (7, .b false)]), (31, .b false), (35, .c [(4, .b false)])])]), (57, .c [(8, .c [(65534, .c [(5, .c [(18, .c []), (26, .c [(18, .c [(23, .b true), (27, .c [(4, .b true), (7, .b false)]), (41, .b false)])])])])]), (11, .c [(24, .c [(20, .c [(4, .b true), (7, .b false)]), (31, .b false), (35, .c [(4, .b false)])]), (31, .b true)])]), (73, .b true), (93, .b true)]) = some (.bool true, [decide (i ≥ 200) = true, decide (i < 220) = false, (i == 254) = false, decide ((xs.length : Int) > 1024) = false, (i == 255) = false, decide ((xs.length : Int) > 0) = true, decide (i ≥ 200) = true, decide (i ≤ 219) = false, (i == 254) = false, decide (i ≥ 200) = true, decide (i ≤ 219) = false, decide ((xs.length : Int) > 1024) = false, (i == 255) = false, decide ((xs.length : Int) > 0) = true, decide (i ≥ 200) = true, decide (i ≤ 219) = false, (i == 254) = false, decide (i ≥ 200) = true, decide (i ≤ 219) = false, decide ((xs.length : Int) > 1024) = false, (i == 255) = false, decide ((codS (IntKind.i64.wrap ((xs.length : Int) + 0))) > 1024) = true, ((codS (IntKind.i64.wrap ((xs.length : Int) + 0))) == lawS (xs.length : Int)) = true, decide ((codS (IntKind.i64.wrap ((xs.length : Int) + 0))) > 1024) = true]) := by kernel_rfl
set_option maxRecDepth 1000000 in
theorem m_z0 (e : Int) : zflat (zans Try.prog tab ftab cAl 8 [.int .u8 255, .int .u8 e, .list 1 []] [(49, .c [(8, .c [(65534, .c [(5, .c [(18, .c [(14, .b false)])])])]), (11, .c [])]), (57, .c [(8, .c [(65534, .c [(5, .c [(18, .c []), (26, .c [(18, .c [(14, .b false)])])])])]), (11, .c [(24, .c [])])])]) = some (.bool true, [(e != 0) = false, (e != 0) = false]) := by kernel_rfl
set_option maxRecDepth 1000000 in
theorem m_zs (e : Int) (xs : List (List DV)) : zflat (zans Try.prog tab ftab cAl 8 [.int .u8 255, .int .u8 e, .list 1 xs] [(28, .b false), (49, .c [(8, .c [(65534, .c [(5, .c [(18, .c [(14, .b false), (23, .b true)])])])]), (11, .c [(31, .b false)])]), (57, .c [(8, .c [(65534, .c [(5, .c [(18, .c []), (26, .c [(18, .c [(14, .b false), (23, .b true)])])])])]), (11, .c [(24, .c [(31, .b false)]), (31, .b false)])]), (73, .b true), (86, .b true)]) = some (.bool true, [decide ((xs.length : Int) > 1024) = false, (e != 0) = false, decide ((xs.length : Int) > 0) = true, decide ((xs.length : Int) > 1024) = false, (e != 0) = false, decide ((xs.length : Int) > 0) = true, decide ((xs.length : Int) > 1024) = false, decide ((codS (IntKind.i64.wrap ((xs.length : Int) + 1))) > 1024) = false, ((codS (IntKind.i64.wrap ((xs.length : Int) + 1))) == lawS (IntKind.i64.wrap ((xs.length : Int) + 1))) = true, (codS (IntKind.i64.wrap ((codS (IntKind.i64.wrap ((xs.length : Int) + 1))) + 0)) == lawS (codS (IntKind.i64.wrap ((xs.length : Int) + 1)))) = true]) := by kernel_rfl
set_option maxRecDepth 1000000 in
theorem m_zl (e : Int) (xs : List (List DV)) : zflat (zans Try.prog tab ftab cAl 8 [.int .u8 255, .int .u8 e, .list 1 xs] [(28, .b false), (49, .c [(8, .c [(65534, .c [(5, .c [(18, .c [(14, .b false), (23, .b true)])])])]), (11, .c [(31, .b false)])]), (57, .c [(8, .c [(65534, .c [(5, .c [(18, .c []), (26, .c [(18, .c [(14, .b false), (23, .b true)])])])])]), (11, .c [(24, .c [(31, .b false)]), (31, .b true)])]), (73, .b true), (93, .b true)]) = some (.bool true, [decide ((xs.length : Int) > 1024) = false, (e != 0) = false, decide ((xs.length : Int) > 0) = true, decide ((xs.length : Int) > 1024) = false, (e != 0) = false, decide ((xs.length : Int) > 0) = true, decide ((xs.length : Int) > 1024) = false, decide ((codS (IntKind.i64.wrap ((xs.length : Int) + 1))) > 1024) = true, ((codS (IntKind.i64.wrap ((xs.length : Int) + 1))) == lawS (IntKind.i64.wrap ((xs.length : Int) + 1))) = true, decide ((codS (IntKind.i64.wrap ((xs.length : Int) + 1))) > 1024) = true]) := by kernel_rfl
set_option maxRecDepth 1000000 in
theorem m_e0 (e : Int) : zflat (zans Try.prog tab ftab cAl 8 [.int .u8 255, .int .u8 e, .list 1 []] [(49, .c [(8, .c [(65534, .c [(5, .c [(18, .c [(14, .b true)])])])]), (11, .c [])]), (57, .c [(8, .c [(65534, .c [(5, .c [(18, .c []), (26, .c [(18, .c [(14, .b true)])])])])]), (11, .c [(24, .c [])])])]) = some (.bool true, [(e != 0) = true, (e != 0) = true]) := by kernel_rfl
set_option maxRecDepth 1000000 in
theorem m_es (e : Int) (xs : List (List DV)) : zflat (zans Try.prog tab ftab cAl 8 [.int .u8 255, .int .u8 e, .list 1 xs] [(28, .b false), (49, .c [(8, .c [(65534, .c [(5, .c [(18, .c [(14, .b true), (23, .b true)])])])]), (11, .c [(31, .b false)])]), (57, .c [(8, .c [(65534, .c [(5, .c [(18, .c []), (26, .c [(18, .c [(14, .b true), (23, .b true)])])])])]), (11, .c [(24, .c [(31, .b false)]), (31, .b false)])]), (73, .b true), (86, .b true)]) = some (.bool true, [decide ((xs.length : Int) > 1024) = false, (e != 0) = true, decide ((xs.length : Int) > 0) = true, decide ((xs.length : Int) > 1024) = false, (e != 0) = true, decide ((xs.length : Int) > 0) = true, decide ((xs.length : Int) > 1024) = false, decide ((codS (IntKind.i64.wrap ((xs.length : Int) + 1))) > 1024) = false, ((codS (IntKind.i64.wrap ((xs.length : Int) + 1))) == lawS (IntKind.i64.wrap ((xs.length : Int) + 1))) = true, (codS (IntKind.i64.wrap ((codS (IntKind.i64.wrap ((xs.length : Int) + 1))) + 0)) == lawS (codS (IntKind.i64.wrap ((xs.length : Int) + 1)))) = true]) := by kernel_rfl
set_option maxRecDepth 1000000 in
theorem m_el (e : Int) (xs : List (List DV)) : zflat (zans Try.prog tab ftab cAl 8 [.int .u8 255, .int .u8 e, .list 1 xs] [(28, .b false), (49, .c [(8, .c [(65534, .c [(5, .c [(18, .c [(14, .b true), (23, .b true)])])])]), (11, .c [(31, .b false)])]), (57, .c [(8, .c [(65534, .c [(5, .c [(18, .c []), (26, .c [(18, .c [(14, .b true), (23, .b true)])])])])]), (11, .c [(24, .c [(31, .b false)]), (31, .b true)])]), (73, .b true), (93, .b true)]) = some (.bool true, [decide ((xs.length : Int) > 1024) = false, (e != 0) = true, decide ((xs.length : Int) > 0) = true, decide ((xs.length : Int) > 1024) = false, (e != 0) = true, decide ((xs.length : Int) > 0) = true, decide ((xs.length : Int) > 1024) = false, decide ((codS (IntKind.i64.wrap ((xs.length : Int) + 1))) > 1024) = true, ((codS (IntKind.i64.wrap ((xs.length : Int) + 1))) == lawS (IntKind.i64.wrap ((xs.length : Int) + 1))) = true, decide ((codS (IntKind.i64.wrap ((xs.length : Int) + 1))) > 1024) = true]) := by kernel_rfl
theorem beq_of_eq {a b : Int} (h : a = b) : (a == b) = true := by subst h; exact beq_self_eq_true _
theorem all (i e : Int) (hi : 0 ≤ i ∧ i ≤ 255) (xs : List (List DV)) : Ans Try.prog 8 [.int .u8 i, .int .u8 e, .list 1 xs] (.bool true) ⟨0, [], []⟩ := by
  by_cases h1 : 200 ≤ i ∧ i < 220
  · exact zflat_ok tab_ok mixed fun_ok cAl_ok (early1 i e xs) (.cons (decide_eq_true (by omega)) (.cons (decide_eq_true (by omega)) .nil))
  by_cases h2 : i = 254
  · exact zflat_ok tab_ok mixed fun_ok cAl_ok (early2 i e xs) (.cons (decide_eq_true (by omega)) (.cons (decide_eq_false (by omega)) (.cons (beq_of_eq (by omega)) .nil)))
  by_cases h3 : xs.length > 1024
  · by_cases h4 : 200 ≤ i
    · exact zflat_ok tab_ok mixed fun_ok cAl_ok (early3h i e xs) (.cons (decide_eq_true (by omega)) (.cons (decide_eq_false (by omega)) (.cons (beq_false_of_ne (by omega)) (.cons (decide_eq_true (by omega)) .nil))))
    · exact zflat_ok tab_ok mixed fun_ok cAl_ok (early3l i e xs) (.cons (decide_eq_false (by omega)) (.cons (beq_false_of_ne (by omega)) (.cons (decide_eq_true (by omega)) .nil)))
  by_cases h5 : i = 255
  · subst h5
    by_cases he0 : e = 0
    · have he : (e != 0) = false := by subst he0; rfl
      by_cases h0 : xs.length = 0
      · obtain rfl : xs = [] := List.eq_nil_of_length_eq_zero h0
        exact zflat_ok tab_ok mixed fun_ok cAl_ok (m_z0 e) (.cons (he) (.cons (he) .nil))
      have w1 : IntKind.i64.wrap ((xs.length : Int) + 1) = (xs.length : Int) + 1 := wr (by omega)
      have s1 : codS (IntKind.i64.wrap ((xs.length : Int) + 1)) = (xs.length : Int) + 1 + 2 * (((xs.length : Int) + 1) / 255 + 1) := by rw [w1]; exact codS_eq (by omega)
      have s2 : lawS (IntKind.i64.wrap ((xs.length : Int) + 1)) = (xs.length : Int) + 1 + 2 * (((xs.length : Int) + 1) / 255 + 1) := by rw [w1]; exact lawS_eq (by omega)
      have s3 : codS (IntKind.i64.wrap (codS (IntKind.i64.wrap ((xs.length : Int) + 1)) + 0)) = lawS (codS (IntKind.i64.wrap ((xs.length : Int) + 1))) := by
        rw [wr (m := codS (IntKind.i64.wrap ((xs.length : Int) + 1)) + 0) (by omega), Int.add_zero, codS_eq (m := codS (IntKind.i64.wrap ((xs.length : Int) + 1))) (by omega), lawS_eq (m := codS (IntKind.i64.wrap ((xs.length : Int) + 1))) (by omega)]
      by_cases h6 : codS (IntKind.i64.wrap ((xs.length : Int) + 1)) > 1024
      · exact zflat_ok tab_ok mixed fun_ok cAl_ok (m_zl e xs) (.cons (decide_eq_false (by omega)) (.cons (he) (.cons (decide_eq_true (by omega)) (.cons (decide_eq_false (by omega)) (.cons (he) (.cons (decide_eq_true (by omega)) (.cons (decide_eq_false (by omega)) (.cons (decide_eq_true (by omega)) (.cons (beq_of_eq (by omega)) (.cons (decide_eq_true (by omega)) .nil))))))))))
      · exact zflat_ok tab_ok mixed fun_ok cAl_ok (m_zs e xs) (.cons (decide_eq_false (by omega)) (.cons (he) (.cons (decide_eq_true (by omega)) (.cons (decide_eq_false (by omega)) (.cons (he) (.cons (decide_eq_true (by omega)) (.cons (decide_eq_false (by omega)) (.cons (decide_eq_false (by omega)) (.cons (beq_of_eq (by omega)) (.cons (beq_of_eq (by omega)) .nil))))))))))
    · have he : (e != 0) = true := bne_iff_ne.2 he0
      by_cases h0 : xs.length = 0
      · obtain rfl : xs = [] := List.eq_nil_of_length_eq_zero h0
        exact zflat_ok tab_ok mixed fun_ok cAl_ok (m_e0 e) (.cons (he) (.cons (he) .nil))
      have w1 : IntKind.i64.wrap ((xs.length : Int) + 1) = (xs.length : Int) + 1 := wr (by omega)
      have s1 : codS (IntKind.i64.wrap ((xs.length : Int) + 1)) = (xs.length : Int) + 1 + 2 * (((xs.length : Int) + 1) / 255 + 1) := by rw [w1]; exact codS_eq (by omega)
      have s2 : lawS (IntKind.i64.wrap ((xs.length : Int) + 1)) = (xs.length : Int) + 1 + 2 * (((xs.length : Int) + 1) / 255 + 1) := by rw [w1]; exact lawS_eq (by omega)
      have s3 : codS (IntKind.i64.wrap (codS (IntKind.i64.wrap ((xs.length : Int) + 1)) + 0)) = lawS (codS (IntKind.i64.wrap ((xs.length : Int) + 1))) := by
        rw [wr (m := codS (IntKind.i64.wrap ((xs.length : Int) + 1)) + 0) (by omega), Int.add_zero, codS_eq (m := codS (IntKind.i64.wrap ((xs.length : Int) + 1))) (by omega), lawS_eq (m := codS (IntKind.i64.wrap ((xs.length : Int) + 1))) (by omega)]
      by_cases h6 : codS (IntKind.i64.wrap ((xs.length : Int) + 1)) > 1024
      · exact zflat_ok tab_ok mixed fun_ok cAl_ok (m_el e xs) (.cons (decide_eq_false (by omega)) (.cons (he) (.cons (decide_eq_true (by omega)) (.cons (decide_eq_false (by omega)) (.cons (he) (.cons (decide_eq_true (by omega)) (.cons (decide_eq_false (by omega)) (.cons (decide_eq_true (by omega)) (.cons (beq_of_eq (by omega)) (.cons (decide_eq_true (by omega)) .nil))))))))))
      · exact zflat_ok tab_ok mixed fun_ok cAl_ok (m_es e xs) (.cons (decide_eq_false (by omega)) (.cons (he) (.cons (decide_eq_true (by omega)) (.cons (decide_eq_false (by omega)) (.cons (he) (.cons (decide_eq_true (by omega)) (.cons (decide_eq_false (by omega)) (.cons (decide_eq_false (by omega)) (.cons (beq_of_eq (by omega)) (.cons (beq_of_eq (by omega)) .nil))))))))))
  by_cases h4 : 200 ≤ i
  · have h4b : 220 ≤ i := by omega
    by_cases h0 : xs.length = 0
    · obtain rfl : xs = [] := List.eq_nil_of_length_eq_zero h0
      exact zflat_ok tab_ok mixed fun_ok cAl_ok (m_oh0 i e) (.cons (decide_eq_true (by omega)) (.cons (decide_eq_false (by omega)) (.cons (beq_false_of_ne (by omega)) (.cons (beq_false_of_ne (by omega)) (.cons (beq_false_of_ne (by omega)) (.cons (decide_eq_true (by omega)) (.cons (decide_eq_false (by omega)) (.cons (beq_false_of_ne (by omega)) (.cons (beq_false_of_ne (by omega)) (.cons (decide_eq_true (by omega)) (.cons (decide_eq_false (by omega)) (.cons (beq_false_of_ne (by omega)) .nil))))))))))))
    have w1 : IntKind.i64.wrap ((xs.length : Int) + 0) = (xs.length : Int) + 0 := wr (by omega)
    have s1 : codS (IntKind.i64.wrap ((xs.length : Int) + 0)) = (xs.length : Int) + 0 + 2 * (((xs.length : Int) + 0) / 255 + 1) := by rw [w1]; exact codS_eq (by omega)
    have s2 : lawS (xs.length : Int) = (xs.length : Int) + 2 * ((xs.length : Int) / 255 + 1) := lawS_eq (by omega)
    have s3 : codS (IntKind.i64.wrap (codS (IntKind.i64.wrap ((xs.length : Int) + 0)) + 0)) = lawS (codS (IntKind.i64.wrap ((xs.length : Int) + 0))) := by
      rw [wr (m := codS (IntKind.i64.wrap ((xs.length : Int) + 0)) + 0) (by omega), Int.add_zero, codS_eq (m := codS (IntKind.i64.wrap ((xs.length : Int) + 0))) (by omega), lawS_eq (m := codS (IntKind.i64.wrap ((xs.length : Int) + 0))) (by omega)]
    by_cases h6 : codS (IntKind.i64.wrap ((xs.length : Int) + 0)) > 1024
    · exact zflat_ok tab_ok mixed fun_ok cAl_ok (m_ohl i e xs) (.cons (decide_eq_true (by omega)) (.cons (decide_eq_false (by omega)) (.cons (beq_false_of_ne (by omega)) (.cons (decide_eq_false (by omega)) (.cons (beq_false_of_ne (by omega)) (.cons (decide_eq_true (by omega)) (.cons (decide_eq_true (by omega)) (.cons (decide_eq_false (by omega)) (.cons (beq_false_of_ne (by omega)) (.cons (decide_eq_true (by omega)) (.cons (decide_eq_false (by omega)) (.cons (decide_eq_false (by omega)) (.cons (beq_false_of_ne (by omega)) (.cons (decide_eq_true (by omega)) (.cons (decide_eq_true (by omega)) (.cons (decide_eq_false (by omega)) (.cons (beq_false_of_ne (by omega)) (.cons (decide_eq_true (by omega)) (.cons (decide_eq_false (by omega)) (.cons (decide_eq_false (by omega)) (.cons (beq_false_of_ne (by omega)) (.cons (decide_eq_true (by omega)) (.cons (beq_of_eq (by omega)) (.cons (decide_eq_true (by omega)) .nil))))))))))))))))))))))))
    · exact zflat_ok tab_ok mixed fun_ok cAl_ok (m_ohs i e xs) (.cons (decide_eq_true (by omega)) (.cons (decide_eq_false (by omega)) (.cons (beq_false_of_ne (by omega)) (.cons (decide_eq_false (by omega)) (.cons (beq_false_of_ne (by omega)) (.cons (decide_eq_true (by omega)) (.cons (decide_eq_true (by omega)) (.cons (decide_eq_false (by omega)) (.cons (beq_false_of_ne (by omega)) (.cons (decide_eq_true (by omega)) (.cons (decide_eq_false (by omega)) (.cons (decide_eq_false (by omega)) (.cons (beq_false_of_ne (by omega)) (.cons (decide_eq_true (by omega)) (.cons (decide_eq_true (by omega)) (.cons (decide_eq_false (by omega)) (.cons (beq_false_of_ne (by omega)) (.cons (decide_eq_true (by omega)) (.cons (decide_eq_false (by omega)) (.cons (decide_eq_false (by omega)) (.cons (beq_false_of_ne (by omega)) (.cons (decide_eq_false (by omega)) (.cons (beq_of_eq (by omega)) (.cons (beq_of_eq (by omega)) .nil))))))))))))))))))))))))
  by_cases h0 : xs.length = 0
  · obtain rfl : xs = [] := List.eq_nil_of_length_eq_zero h0
    exact zflat_ok tab_ok mixed fun_ok cAl_ok (m_o0 i e) (.cons (decide_eq_false (by omega)) (.cons (beq_false_of_ne (by omega)) (.cons (beq_false_of_ne (by omega)) (.cons (beq_false_of_ne (by omega)) (.cons (decide_eq_false (by omega)) (.cons (beq_false_of_ne (by omega)) (.cons (beq_false_of_ne (by omega)) (.cons (decide_eq_false (by omega)) (.cons (beq_false_of_ne (by omega)) .nil)))))))))
  have w1 : IntKind.i64.wrap ((xs.length : Int) + 0) = (xs.length : Int) + 0 := wr (by omega)
  have s1 : codS (IntKind.i64.wrap ((xs.length : Int) + 0)) = (xs.length : Int) + 0 + 2 * (((xs.length : Int) + 0) / 255 + 1) := by rw [w1]; exact codS_eq (by omega)
  have s2 : lawS (xs.length : Int) = (xs.length : Int) + 2 * ((xs.length : Int) / 255 + 1) := lawS_eq (by omega)
  have s3 : codS (IntKind.i64.wrap (codS (IntKind.i64.wrap ((xs.length : Int) + 0)) + 0)) = lawS (codS (IntKind.i64.wrap ((xs.length : Int) + 0))) := by
    rw [wr (m := codS (IntKind.i64.wrap ((xs.length : Int) + 0)) + 0) (by omega), Int.add_zero, codS_eq (m := codS (IntKind.i64.wrap ((xs.length : Int) + 0))) (by omega), lawS_eq (m := codS (IntKind.i64.wrap ((xs.length : Int) + 0))) (by omega)]
  by_cases h6 : codS (IntKind.i64.wrap ((xs.length : Int) + 0)) > 1024
  · exact zflat_ok tab_ok mixed fun_ok cAl_ok (m_ol i e xs) (.cons (decide_eq_false (by omega)) (.cons (beq_false_of_ne (by omega)) (.cons (decide_eq_false (by omega)) (.cons (beq_false_of_ne (by omega)) (.cons (decide_eq_true (by omega)) (.cons (decide_eq_false (by omega)) (.cons (beq_false_of_ne (by omega)) (.cons (decide_eq_false (by omega)) (.cons (decide_eq_false (by omega)) (.cons (beq_false_of_ne (by omega)) (.cons (decide_eq_true (by omega)) (.cons (decide_eq_false (by omega)) (.cons (beq_false_of_ne (by omega)) (.cons (decide_eq_false (by omega)) (.cons (decide_eq_false (by omega)) (.cons (beq_false_of_ne (by omega)) (.cons (decide_eq_true (by omega)) (.cons (beq_of_eq (by omega)) (.cons (decide_eq_true (by omega)) .nil)))))))))))))))))))
  · exact zflat_ok tab_ok mixed fun_ok cAl_ok (m_os i e xs) (.cons (decide_eq_false (by omega)) (.cons (beq_false_of_ne (by omega)) (.cons (decide_eq_false (by omega)) (.cons (beq_false_of_ne (by omega)) (.cons (decide_eq_true (by omega)) (.cons (decide_eq_false (by omega)) (.cons (beq_false_of_ne (by omega)) (.cons (decide_eq_false (by omega)) (.cons (decide_eq_false (by omega)) (.cons (beq_false_of_ne (by omega)) (.cons (decide_eq_true (by omega)) (.cons (decide_eq_false (by omega)) (.cons (beq_false_of_ne (by omega)) (.cons (decide_eq_false (by omega)) (.cons (decide_eq_false (by omega)) (.cons (beq_false_of_ne (by omega)) (.cons (decide_eq_false (by omega)) (.cons (beq_of_eq (by omega)) (.cons (beq_of_eq (by omega)) .nil)))))))))))))))))))
end

set_option maxRecDepth 100000 in
set_option maxHeartbeats 8000000 in
theorem walk (w : World) (a0 : Int) (r0 : (Lit.int .u8 a0).wf = true) (a1 : Int) (r1 : (Lit.int .u8 a1).wf = true) (A2 : Option Addr) (n2 c2 : Nat) (a2 : _) (r2 : (Ty.slice (Ty.nat .u8)).rep w (· < w.heap.size) a2 [.slice A2 n2 c2]) :
    Calls Try.prog 8 #[.int .u8 a0, .int .u8 a1, .slice A2 n2 c2] w fun e w' => e = .returned (.bool true) ∧ Below w.heap.size w w' := by
  have _ := r1
  obtain ⟨d, vd⟩ := vr_bytes r2
  have hi : 0 ≤ a0 ∧ a0 ≤ 255 := by
    have := r0
    simp [Lit.wf, IntKind.min, IntKind.max, IntKind.signed, IntKind.bits] at this
    omega
  exact law_ok (all a0 a1 hi (by1 d)) (.cons (.int _ _ _) (.cons (.int _ _ _) (.cons vd (.nil _ _))))

set_option maxRecDepth 100000 in
theorem lifted (os : Os) (started : os.Started) (H : Type) (enc : TypeId × Value → H) :
    ReturnsInHanded {} Try.checked os 8 .any (Rows.elementSizesSpec.pre6 enc Try.prog Try.f8 Rows.elementSizesRow.domain false) (Rows.elementSizesSpec.post enc Try.prog Try.f8 false true false false) := by
  refine returnsInHanded_of_change (C := Try.checked) own started (by kernel_rfl) Try.func8
    (ChangeSpec.witness6 (enc := enc) (C := Try.checked) false ⟨#[], #[.int .u8 0, .int .u8 0, .slice none 0 0], []⟩ 8 (by kernel_rfl) (by kernel_rfl) (by kernel_rfl) (by kernel_rfl)) ?_
  intro W base args ds gs before hval0 hW hcnd _
  have hval : ∀ (j : Nat) t v, Try.f8.params[j]? = some t → args[j]? = some v → Value.okWide Try.prog W .any base t v := hval0
  have hW' := hW
  obtain ⟨p, q, hA0, hV, rfl, hfz, hnd⟩ := hW
  have hA : DataW.TrodAll enc Try.prog W 0 (fun _ => true) true Try.f8.params.toList args.toList ds p := hA0
  rw [Try.params8] at hA hval
  obtain ⟨v0, vs0, d0, ds0, p0, q0, hargs, rfl, rfl, h0, r0'⟩ := trodAll_cons hA
  obtain ⟨v1, vs1, d1, ds1, p1, q1, rfl, rfl, rfl, h1, r1'⟩ := trodAll_cons r0'
  obtain ⟨v2, vs2, d2, ds2, p2, q2, rfl, rfl, rfl, h2, r2'⟩ := trodAll_cons r1'
  obtain ⟨rfl, rfl, rfl⟩ := trodAll_nil r2'
  obtain rfl : args = #[v0, v1, v2] := by cases args; simp_all
  obtain ⟨rfl, rfl⟩ := trodVars_none hV
  have k0 := h0
  have lt0 : ∀ x ∈ p0, x.block < W.heap.size := by obtain ⟨m, hm⟩ := k0; exact DataW.trod_lt m _ _ _ hm
  obtain ⟨a0, rfl, rfl, hp0, w0⟩ := open_int Try.underlying5 (hval 0 5 v0 rfl rfl) h0
  have k1 := h1
  have lt1 : ∀ x ∈ p1, x.block < W.heap.size := by obtain ⟨m, hm⟩ := k1; exact DataW.trod_lt m _ _ _ hm
  obtain ⟨a1, rfl, rfl, hp1, w1⟩ := open_int Try.underlying5 (hval 1 5 v1 rfl rfl) h1
  have k2 := h2
  have lt2 : ∀ x ∈ p2, x.block < W.heap.size := by obtain ⟨m, hm⟩ := k2; exact DataW.trod_lt m _ _ _ hm
  obtain ⟨A2, n2, c2, rfl⟩ := okWide_slice Try.underlying22 (hval 2 22 v2 rfl rfl)
  obtain ⟨fu2, hf2⟩ := h2
  obtain ⟨a2, ra2⟩ := (opensBytes).2 hf2
  clear hA0 hval0
  refine (walk W a0 w0 a1 w1 A2 n2 c2 a2 (by simpa [Value.cells] using ra2)).mono fun e W' ⟨he, bel⟩ => ?_
  subst he
  exact ⟨_, rfl, _, _, _, [], _, [], hW', trodAll_mk1 (shut_bool Try.underlying4 _), (trodAll_cons_mk (Below.trod laidOut (by kernel_rfl) (of_decide_eq_true (by kernel_rfl)) k0 bel lt0) (trodAll_cons_mk (Below.trod laidOut (by kernel_rfl) (of_decide_eq_true (by kernel_rfl)) k1 bel lt1) (trodAll_cons_mk (Below.trod laidOut (by kernel_rfl) (of_decide_eq_true (by kernel_rfl)) k2 bel lt2) trodAll_mk0))), rfl, bel.frame _, fun h => by cases h⟩

theorem over : Rows.elementSizesRow.holds Try.pinned (OpenSpec.ofChange Rows.elementSizesSpec) :=
  OpenClaim.holds_of_wide 8 Try.f8 rfl rfl rfl rfl rfl rfl rfl ⟨rfl, rfl, rfl, rfl, rfl⟩ rfl rfl rfl rfl rfl (by kernel_rfl) Try.func8 (by kernel_rfl)
    (of_decide_eq_true (by kernel_rfl)) (by unfold Func.isWrapper; first | (rw [if_pos (by decide +kernel)]; kernel_rfl) | (rw [if_neg (by decide +kernel)]; exact ⟨rfl, rfl⟩))
    (fun os started H enc _ => lifted os started H enc)

theorem proved : Rows.ElementSizesSaid :=
  over
end Go.Proofs.Ytninhnhbkbhnhaa.elementSizes
