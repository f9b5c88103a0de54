/- Join's contract. -/
import Derived.Test.YtioglkmdapghhaaNA
import Derived.Test.YtioglkmdapghhaaMH
namespace Go.Proofs.Ytioglkmdapghhaa
open Go.RowKit

noncomputable section
abbrev tyBB : List TypeId := [22, 22]
abbrev oR (k : Nat) (cl : List DV) : Ob := ⟨k, 0, 5, cl⟩
/-- bytes behind a row of one's own -/
theorem app_row {hp : Hp} {id n m : Nat} {o : Ob} {x : DV} {news : List DV} (hg : hp.get id = some o) (hk : o.k = 1 ∨ o.k = 3) (ht : o.t = 5) (hn : o.cs.length = n) (hx : contD hp 1 x = some (m + 1, news)) (hl : n + (m + 1) ≤ 2 ^ 40) :
    builtinD tab hp .append [.sl id 0 1 n n, x] tyBB = some (.sl hp.n 0 1 (n + (m + 1)) (n + (m + 1)), (hp.put id ⟨2, o.r, o.t, o.cs⟩).push ⟨3, rootOf o.k o.r id, o.t, o.cs ++ news⟩, mmin (some (rootOf o.k o.r id)) (some id)) := by
  rw [app_tab, hx]
  have hf := fitB_le (n := n + (m + 1)) hl
  have hb : Nat.ble (n + (m + 1)) n = false := bleF (by omega)
  have he : Nat.ble (0 + n * 1) o.cs.length = true := bleT (by omega)
  have hq : Nat.beq (0 + n * 1) o.cs.length = true := beqT (by omega)
  have hte : Nat.beq o.t 5 = true := beqT ht
  show appH hp 5 u8TI (.sl id 0 1 n n) (m + 1) news = _
  rcases hk with hk | hk
  · simp only [appH, show Nat.beq 1 1 = true from rfl, hg, hb, he, hf, hk, hq, hte, List.drop_zero]
  · simp only [appH, show Nat.beq 1 1 = true from rfl, hg, hb, he, hf, hk, hq, hte, List.drop_zero]
theorem app_none {hp : Hp} {id n : Nat} {x : DV} (hx : contD hp 1 x = some (0, [])) : builtinD tab hp .append [.sl id 0 1 n n, x] tyBB = some (.sl id 0 1 n n, hp, none) := by
  rw [app_tab, hx]
  rfl
/-- lists of byte strings -/
def fs1 (fs : List (List UInt8)) : List (List DV) := fs.map fun f => [byL f]
def fsD (fs : List (List UInt8)) : DV := .list 1 (fs1 fs)
theorem fs1_length (fs : List (List UInt8)) : (fs1 fs).length = fs.length := by simp [fs1]
theorem fs1_nth {fs : List (List UInt8)} {k : Nat} {f : List UInt8} (h : fs[k]? = some f) : nth (fs1 fs) ((k : Int).toNat) = some [byL f] := by
  rw [nth_eq, Int.toNat_natCast]
  simp [fs1, h]
abbrev fJo : FuncId := 15
abbrev kJo : List (Nat × Nat) := ksF ftab fJo
abbrev jl1 : Code := loopAt (bodyOf ftab fJo) 0
abbrev jl2 : Code := loopAt (bodyOf ftab fJo) 1
abbrev js1 (xs : List (List DV)) (s N k : Nat) : Slots := mkT 42 [(0, .list 1 xs), (4, iN s), (13, .list 1 xs), (14, iN N), (15, iN k)]
abbrev js2 (xs : List (List DV)) (s : Nat) : Slots := mkT 42 [(0, .list 1 xs), (4, iN s)]
abbrev js3 (xs : List (List DV)) (n N k : Nat) : Slots := mkT 42 [(7, .sl 0 0 1 n n), (31, .list 1 xs), (32, iN N), (33, iN k)]
abbrev js4 (n : Nat) : Slots := mkT 42 [(7, .sl 0 0 1 n n)]
abbrev jE (e : Int) : Slots := mkT 42 [(2, .nil), (3, .int .i64 e)]
abbrev J0 (cl : List DV) : Hp := ⟨1, [oR 1 cl], []⟩
abbrev J2 (cl : List DV) (c0 : UInt8) : Hp := ⟨3, [oR 3 (cl ++ [i8 c0]), oR 0 [i8 c0], oR 2 cl], []⟩
abbrev J4 (cl : List DV) (c0 c1 : UInt8) : Hp := ⟨5, [oR 3 ((cl ++ [i8 c0]) ++ [i8 c1]), oR 0 [i8 c1], oR 2 (cl ++ [i8 c0]), oR 0 [i8 c0], oR 2 cl], []⟩
abbrev J5 (cl fl : List DV) (c0 c1 : UInt8) : Hp := ⟨6, [oR 3 (((cl ++ [i8 c0]) ++ [i8 c1]) ++ fl), oR 2 ((cl ++ [i8 c0]) ++ [i8 c1]), oR 0 [i8 c1], oR 2 (cl ++ [i8 c0]), oR 0 [i8 c0], oR 2 cl], []⟩
abbrev jl1L : List Nat := [0, 4, 13, 14, 15]
abbrev jl3L : List Nat := [7, 31, 32, 33]
abbrev ajA (xs ys : List (List DV)) (N k : Nat) (t : List Prop) : List Prop := (decide ((k : Int) < (N : Int)) = true) :: (idxOk (k : Int) xs.length = true) :: (nth xs ((k : Int).toNat) = some [.list 1 ys]) :: t
set_option maxRecDepth 1000000 in
theorem jo1 (xs ys : List (List DV)) (s s' N k : Nat) : zsee Try.prog tab ftab noC kJo jl1L jl1 (js1 xs s N k) ⟨0, [], []⟩ [(16, .b true), (17, .n (.fptr [.list 1 ys])), (21, .b false), (27, .w (iN s')), (28, .w (iN (k + 1)))] =
    some (.normal, js1 xs s' N (k + 1), ⟨0, [], []⟩, ajA xs ys N k ((decide ((ys.length : Int) > 65535) = false) :: (DV.int .i64 (IntKind.i64.wrap ((s : Int) + IntKind.i64.wrap (2 + (ys.length : Int)))) = iN s') :: (DV.int .i64 (IntKind.i64.wrap ((k : Int) + 1)) = iN (k + 1)) :: [])) := by kernel_rfl
set_option maxRecDepth 1000000 in
theorem jo1x (xs ys : List (List DV)) (s N k : Nat) : zsee Try.prog tab ftab noC kJo [2, 3] jl1 (js1 xs s N k) ⟨0, [], []⟩ [(16, .b true), (17, .n (.fptr [.list 1 ys])), (21, .b true)] =
    some (.ret, jE 11, ⟨0, [], []⟩, ajA xs ys N k ((decide ((ys.length : Int) > 65535) = true) :: [])) := by kernel_rfl
set_option maxRecDepth 1000000 in
theorem jo1o (xs : List (List DV)) (s N k : Nat) : zsee Try.prog tab ftab noC kJo [0, 4] jl1 (js1 xs s N k) ⟨0, [], []⟩ [(16, .b false)] = some (.exit 0, js2 xs s, ⟨0, [], []⟩, (decide ((k : Int) < (N : Int)) = false) :: []) := by kernel_rfl
abbrev ajB (cl : List DV) (n q : Nat) (ys : List (List DV)) (c0 c1 : UInt8) (t : List Prop) : List Prop := (DV.int .u16 (IntKind.u16.wrap (ys.length : Int)) = .int .u16 (q : Int)) :: (DV.int .u8 (IntKind.u8.wrap (shrD .u64 (IntKind.u64.wrap (q : Int)) 0)) = i8 c0) :: (builtinD tab ⟨2, [oR 0 [i8 c0], oR 1 cl], []⟩ .append [.sl 0 0 1 n n, .sl 1 0 1 1 1] tyBB = some (.sl 2 0 1 (n + 1) (n + 1), J2 cl c0, some 0)) ::
  (DV.int .u8 (IntKind.u8.wrap (shrD .u64 (IntKind.u64.wrap (q : Int)) 8)) = i8 c1) :: (builtinD tab ⟨4, [oR 0 [i8 c1], oR 3 (cl ++ [i8 c0]), oR 0 [i8 c0], oR 2 cl], []⟩ .append [.sl 2 0 1 (n + 1) (n + 1), .sl 3 0 1 1 1] tyBB = some (.sl 4 0 1 (n + 1 + 1) (n + 1 + 1), J4 cl c0 c1, some 0)) :: t
set_option maxRecDepth 1000000 in
theorem jo2 (xs ys : List (List DV)) (cl fl : List DV) (n N k q m : Nat) (c0 c1 : UInt8) : zgc [5] (zsee Try.prog tab ftab noC kJo jl3L jl2 (js3 xs n N k) (J0 cl) [(34, .b true), (35, .n (.fptr [.list 1 ys])), (39, .c [(8, .w (.int .u16 (q : Int))), (9, .c [(16, .w (i8 c0)), (18, .h (.sl 2 0 1 (n + 1) (n + 1)) (J2 cl c0) (some 0)), (16, .w (i8 c1)), (18, .h (.sl 4 0 1 (n + 1 + 1) (n + 1 + 1)) (J4 cl c0 c1) (some 0))]), (11, .h (.sl 5 0 1 m m) (J5 cl fl c0 c1) (some 0))]), (40, .w (iN (k + 1)))]) =
    some (.normal, js3 xs m N (k + 1), J0 (((cl ++ [i8 c0]) ++ [i8 c1]) ++ fl), Plain (J5 cl fl c0 c1) :: ajA xs ys N k (ajB cl n q ys c0 c1 ((builtinD tab (J4 cl c0 c1) .append [.sl 4 0 1 (n + 1 + 1) (n + 1 + 1), .list 1 ys] tyBB = some (.sl 5 0 1 m m, J5 cl fl c0 c1, some 0)) :: (DV.int .i64 (IntKind.i64.wrap ((k : Int) + 1)) = iN (k + 1)) :: []))) := by kernel_rfl
set_option maxRecDepth 1000000 in
theorem jo2e (xs ys : List (List DV)) (cl : List DV) (n N k q : Nat) (c0 c1 : UInt8) : zgc [4] (zsee Try.prog tab ftab noC kJo jl3L jl2 (js3 xs n N k) (J0 cl) [(34, .b true), (35, .n (.fptr [.list 1 ys])), (39, .c [(8, .w (.int .u16 (q : Int))), (9, .c [(16, .w (i8 c0)), (18, .h (.sl 2 0 1 (n + 1) (n + 1)) (J2 cl c0) (some 0)), (16, .w (i8 c1)), (18, .h (.sl 4 0 1 (n + 1 + 1) (n + 1 + 1)) (J4 cl c0 c1) (some 0))]), (11, .h (.sl 4 0 1 (n + 1 + 1) (n + 1 + 1)) (J4 cl c0 c1) none)]), (40, .w (iN (k + 1)))]) =
    some (.normal, js3 xs (n + 1 + 1) N (k + 1), J0 ((cl ++ [i8 c0]) ++ [i8 c1]), Plain (J4 cl c0 c1) :: ajA xs ys N k (ajB cl n q ys c0 c1 ((builtinD tab (J4 cl c0 c1) .append [.sl 4 0 1 (n + 1 + 1) (n + 1 + 1), .list 1 ys] tyBB = some (.sl 4 0 1 (n + 1 + 1) (n + 1 + 1), J4 cl c0 c1, none)) :: (DV.int .i64 (IntKind.i64.wrap ((k : Int) + 1)) = iN (k + 1)) :: []))) := by kernel_rfl
set_option maxRecDepth 1000000 in
theorem jo2o (xs : List (List DV)) (n N k : Nat) (hp : Hp) : zsee Try.prog tab ftab noC kJo [7] jl2 (js3 xs n N k) hp [(34, .b false)] = some (.exit 2, js4 n, hp, (decide ((k : Int) < (N : Int)) = false) :: []) := by kernel_rfl
set_option maxRecDepth 1000000 in
theorem joM (xs : List (List DV)) : zflat (zans Try.prog tab ftab noC fJo [.list 1 xs] [(12, .b true)]) = some (.tuple [.nil, .int .i64 4], (decide ((xs.length : Int) > 256) = true) :: []) := by kernel_rfl
set_option maxRecDepth 1000000 in
theorem joL (xs : List (List DV)) : zflat (zans Try.prog tab ftab noC fJo [.list 1 xs] [(12, .b false), (0, .l jl1L .ret (jE 11) ⟨0, [], []⟩)]) = some (.tuple [.nil, .int .i64 11], (decide ((xs.length : Int) > 256) = false) :: (Goes Try.prog tab kJo (.loop jl1) (js1 xs 0 xs.length 0) ⟨0, [], []⟩ .ret (jE 11) ⟨0, [], []⟩) :: []) := by kernel_rfl
set_option maxRecDepth 1000000 in
theorem joO (xs : List (List DV)) (s n : Nat) (cl : List DV) : zans Try.prog tab ftab noC fJo [.list 1 xs] [(12, .b false), (0, .l jl1L (.exit 0) (js2 xs s) ⟨0, [], []⟩), (30, .h (.sl 0 0 1 0 0) (J0 []) none), (0, .l jl3L (.exit 2) (js4 n) (J0 cl))] =
    some (.tuple [.sl 0 0 1 n n, .int .i64 0], J0 cl, (decide ((xs.length : Int) > 256) = false) :: (Goes Try.prog tab kJo (.loop jl1) (js1 xs 0 xs.length 0) ⟨0, [], []⟩ (.exit 0) (js2 xs s) ⟨0, [], []⟩) :: ((decide ((0 : Int) ≤ 0) && decide ((0 : Int) ≤ (s : Int)) && fitB ((s : Int).toNat) 1) = true) ::
      (mkRow ⟨0, [], []⟩ 5 1 [.int .u8 0] ((0 : Int).toNat) ((s : Int).toNat) = (.sl 0 0 1 0 0, J0 [], none)) :: (Goes Try.prog tab kJo (.loop jl2) (js3 xs 0 xs.length 0) (J0 []) (.exit 2) (js4 n) (J0 cl)) :: []) := by kernel_rfl
end
end Go.Proofs.Ytioglkmdapghhaa
