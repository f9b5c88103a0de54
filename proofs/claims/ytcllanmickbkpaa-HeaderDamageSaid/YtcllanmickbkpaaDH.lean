/- HeaderDamage, over the data of its arguments: along its paths. -/
import Derived.Test.YtcllanmickbkpaaHk
import Derived.Test.YtcllanmickbkpaaBt
import Derived.Test.YtcllanmickbkpaaB16
namespace Go.Proofs.Ytcllanmickbkpaa
open Go.RowKit

noncomputable section
abbrev fDm : FuncId := 6
abbrev oE : Ob := ⟨0, 0, 5, []⟩
abbrev gH1 (h : Hd) (xs : List (List DV)) (B : List DV) : Hp := ⟨2, [oB B, oF h (.list 1 xs)], []⟩
abbrev gH2 (h : Hd) (xs : List (List DV)) (B : List DV) : Hp := ⟨3, [oE, oB B, oF h (.list 1 xs)], []⟩
abbrev gH3 (h : Hd) (xs : List (List DV)) (B : List DV) : Hp := ⟨4, [oB B, oE, oB B, oF h (.list 1 xs)], []⟩
abbrev gH4 (h : Hd) (xs : List (List DV)) (B : List DV) : Hp := ⟨5, [oE, oB B, oE, oB B, oF h (.list 1 xs)], []⟩
abbrev gHD (h : Hd) (xs : List (List DV)) (B X Y : List DV) : Hp := ⟨6, [oB Y, oE, oB X, oE, oB B, oF h (.list 1 xs)], []⟩
abbrev dl1 : List Nat := [1, 2, 3, 9, 12, 13, 14, 15, 16]
abbrev dl2 : List Nat := [3, 9, 12, 13, 14, 15]
abbrev dl3 : List Nat := [3, 9, 12, 13, 14, 15, 18]
abbrev dl4 : List Nat := [3, 9, 13, 14, 15]
abbrev ds1 (at' n L i : Nat) (p : BitVec 32) (fl : Bool) (zs : List (List DV)) : Slots := mkT 152 [(1, .int .u16 (at' : Int)), (2, w32 p), (3, .list 1 zs), (9, .bool true), (12, iN n), (13, .sl 3 0 1 L L), (14, .sl 5 0 1 L L), (15, .bool fl), (16, iN i)]
abbrev ds2 (n L : Nat) (fl : Bool) (zs : List (List DV)) : Slots := mkT 152 [(3, .list 1 zs), (9, .bool true), (12, iN n), (13, .sl 3 0 1 L L), (14, .sl 5 0 1 L L), (15, .bool fl)]
abbrev ds3 (n L i : Nat) (fl : Bool) (zs : List (List DV)) : Slots := mkT 152 [(3, .list 1 zs), (9, .bool true), (12, iN n), (13, .sl 3 0 1 L L), (14, .sl 5 0 1 L L), (15, .bool fl), (18, iN i)]
abbrev ds4 (L : Nat) (fl : Bool) (zs : List (List DV)) : Slots := mkT 152 [(3, .list 1 zs), (9, .bool true), (13, .sl 3 0 1 L L), (14, .sl 5 0 1 L L), (15, .bool fl)]
abbrev lp1 : Code := loopAt (bodyOf ftab fDm) 0
abbrev lp2 : Code := loopAt (bodyOf ftab fDm) 1
abbrev kD6 : List (Nat × Nat) := ksF ftab fDm
abbrev aRd (at' n i a s : Nat) (v : Bool) (t : List Prop) : List Prop := (decide ((i : Int) < 32) = true) :: (DV.int .i64 (IntKind.i64.wrap (at' : Int)) = iN at') :: (binD tab .rem 3 (iN at') (iN n) = some (iN a)) :: (DV.int .i64 (IntKind.i64.wrap ((a : Int) + (i : Int))) = iN s) :: (decide ((s : Int) < (n : Int)) = v) :: t
abbrev aNx (i : Nat) (t : List Prop) : List Prop := (DV.int .i64 (IntKind.i64.wrap ((i : Int) + 1)) = iN (i + 1)) :: t
abbrev aBi (i q : Nat) (p : BitVec 32) (v : Bool) (t : List Prop) : List Prop := (DV.int .u64 (IntKind.u64.wrap (i : Int)) = .int .u64 (i : Int)) :: (binD tab .shr 60 (w32 p) (.int .u64 (i : Int)) = some (.int .u32 (q : Int))) :: ((Int.tmod (q : Int) 2 == 1) = v) :: t
abbrev aFl (id L s j k : Nat) (c mk c' : UInt8) (X : List DV) (h h' : Hp) (t : List Prop) : List Prop := (DV.int .i64 (quoD .i64 (s : Int) 8) = iN j) :: (DV.int .i64 (quoD .i64 (s : Int) 8) = iN j) :: (idxOk (j : Int) L = true) :: (DV.ptr id (0 + (j : Int).toNat * 1) = .ptr id j) :: (nth X j = some (i8 c)) :: (DV.int .i64 (Int.tmod (s : Int) 8) = iN k) :: (DV.int .u64 (IntKind.u64.wrap (k : Int)) = .int .u64 (k : Int)) :: (binD tab .shr 5 (.int .u8 128) (.int .u64 (k : Int)) = some (i8 mk)) :: (DV.int .u8 (bitD .xor .u8 (c.toNat : Int) (mk.toNat : Int)) = i8 c') :: (idxOk (j : Int) L = true) :: (DV.ptr id (0 + (j : Int).toNat * 1) = .ptr id j) :: (storeH h id j [i8 c'] = some (h', some id)) :: t
set_option maxRecDepth 1000000 in
theorem dmOff (at' n L i a s : Nat) (p : BitVec 32) (fl : Bool) (zs : List (List DV)) (hp : Hp) : zsee Try.prog tab ftab cK kD6 dl1 lp1 (ds1 at' n L i p fl zs) hp [(64, .b true), (68, .w (iN at')), (70, .n (iN a)), (72, .w (iN s)), (75, .b false), (66, .w (iN (i + 1)))] =
    some (.normal, ds1 at' n L (i + 1) p fl zs, hp, aRd at' n i a s false (aNx i [])) := by kernel_rfl
set_option maxRecDepth 1000000 in
theorem dmNo (at' n L i a s q : Nat) (p : BitVec 32) (fl : Bool) (zs : List (List DV)) (hp : Hp) : zsee Try.prog tab ftab cK kD6 dl1 lp1 (ds1 at' n L i p fl zs) hp [(64, .b true), (68, .w (iN at')), (70, .n (iN a)), (72, .w (iN s)), (75, .b true), (79, .w (.int .u64 (i : Int))), (80, .n (.int .u32 (q : Int))), (82, .b false), (66, .w (iN (i + 1)))] =
    some (.normal, ds1 at' n L (i + 1) p fl zs, hp, aRd at' n i a s true (aBi i q p false (aNx i []))) := by kernel_rfl
set_option maxRecDepth 1000000 in
theorem dmYes (h : Hd) (xs : List (List DV)) (B X X' Y : List DV) (at' n L i a s q j k : Nat) (c mk c' : UInt8) (p : BitVec 32) (fl : Bool) (zs : List (List DV)) : zsee Try.prog tab ftab cK kD6 dl1 lp1 (ds1 at' n L i p fl zs) (gHD h xs B X Y) [(64, .b true), (68, .w (iN at')), (70, .n (iN a)), (72, .w (iN s)), (75, .b true), (79, .w (.int .u64 (i : Int))), (80, .n (.int .u32 (q : Int))), (82, .b true),
      (86, .w (iN j)), (89, .w (iN j)), (90, .n (.ptr 3 j)), (91, .n (i8 c)), (93, .w (iN k)), (94, .w (.int .u64 (k : Int))), (95, .n (i8 mk)), (96, .w (i8 c')), (97, .n (.ptr 3 j)), (65535, .h (.tuple []) (gHD h xs B X' Y) (some 3)), (66, .w (iN (i + 1)))] =
    some (.normal, ds1 at' n L (i + 1) p true zs, gHD h xs B X' Y, aRd at' n i a s true (aBi i q p true (aFl 3 L s j k c mk c' X (gHD h xs B X Y) (gHD h xs B X' Y) (aNx i [])))) := by kernel_rfl
set_option maxRecDepth 1000000 in
theorem dmOut (at' n L i : Nat) (p : BitVec 32) (fl : Bool) (zs : List (List DV)) (hp : Hp) : zsee Try.prog tab ftab cK kD6 dl2 lp1 (ds1 at' n L i p fl zs) hp [(64, .b false)] = some (.exit 0, ds2 n L fl zs, hp, [decide ((i : Int) < 32) = false]) := by kernel_rfl
set_option maxRecDepth 1000000 in
theorem doYes (h : Hd) (xs : List (List DV)) (B X Y Y' : List DV) (n L i z s j k : Nat) (c mk c' : UInt8) (fl : Bool) (zs : List (List DV)) : zsee Try.prog tab ftab cK kD6 dl3 lp2 (ds3 n L i fl zs) (gHD h xs B X Y) [(101, .b true), (106, .n (.fptr [.int .u16 (z : Int)])), (108, .w (iN z)), (110, .n (iN s)),
      (113, .w (iN j)), (116, .w (iN j)), (117, .n (.ptr 5 j)), (118, .n (i8 c)), (120, .w (iN k)), (121, .w (.int .u64 (k : Int))), (122, .n (i8 mk)), (123, .w (i8 c')), (124, .n (.ptr 5 j)), (65535, .h (.tuple []) (gHD h xs B X Y') (some 5)), (103, .w (iN (i + 1)))] =
    some (.normal, ds3 n L (i + 1) fl zs, gHD h xs B X Y', (decide ((i : Int) < (zs.length : Int)) = true) :: (idxOk (i : Int) zs.length = true) :: (nth zs ((i : Int).toNat) = some [.int .u16 (z : Int)]) :: (DV.int .i64 (IntKind.i64.wrap (z : Int)) = iN z) :: (binD tab .rem 3 (iN z) (iN n) = some (iN s)) ::
      (aFl 5 L s j k c mk c' Y (gHD h xs B X Y) (gHD h xs B X Y') (aNx i []))) := by kernel_rfl
set_option maxRecDepth 1000000 in
theorem doOut (n L i : Nat) (fl : Bool) (zs : List (List DV)) (hp : Hp) : zsee Try.prog tab ftab cK kD6 dl4 lp2 (ds3 n L i fl zs) hp [(101, .b false)] = some (.exit 2, ds4 L fl zs, hp, [decide ((i : Int) < (zs.length : Int)) = false]) := by kernel_rfl
/-! ### The law -/
abbrev dArgs (h : Hd) (xs : List (List DV)) (at' : Nat) (p : BitVec 32) (zs : List (List DV)) : List DV := [frm h (.list 1 xs), .int .u16 (at' : Int), w32 p, .list 1 zs]
set_option maxRecDepth 1000000 in
theorem dg_far1 (h : Hd) (xs zs : List (List DV)) (at' : Nat) (p : BitVec 32) : zflat (zans Try.prog tab ftab cK fDm (dArgs h xs at' p zs) [(26, .b true)]) = some (.bool true, [decide ((xs.length : Int) > 2400) = true]) := by kernel_rfl
set_option maxRecDepth 1000000 in
theorem dg_far2 (h : Hd) (xs zs : List (List DV)) (at' : Nat) (p : BitVec 32) : zflat (zans Try.prog tab ftab cK fDm (dArgs h xs at' p zs) [(26, .b false), (30, .b true)]) = some (.bool true, [decide ((xs.length : Int) > 2400) = false, decide ((zs.length : Int) > 100) = true]) := by kernel_rfl
abbrev gNear (xs zs : List (List DV)) : List Prop := [decide ((xs.length : Int) > 2400) = false, decide ((zs.length : Int) > 100) = false]
set_option maxRecDepth 1000000 in
theorem dg_err (h : Hd) (xs zs : List (List DV)) (at' : Nat) (p : BitVec 32) (e : Int) : zflat (zans Try.prog tab ftab cK fDm (dArgs h xs at' p zs) [(26, .b false), (30, .b false), (39, .q (.tuple [.nil, .int .i64 e])), (43, .b true), (52, .b true)]) =
    some (.bool true, gNear xs zs ++ [cK 9 [frm h (.list 1 xs)] (kH0 h xs) = some (.tuple [.nil, .int .i64 e], kH0 h xs, none), (e != 0) = true, (e != 0) = true]) := by kernel_rfl
def pDc (k : Nat) (g : Bool) (e : Int) (hp : Hp) (n : Nat) (Y : List DV) (h : Hd) (S m : Nat) : Nat × YE := match g with
  | false => (k, .q (zfr e))
  | true => (k, .r (.tuple [frm h (.sl n S 1 m m), .int .i64 0]) (kC hp Y))
def hDc (g : Bool) (hp : Hp) (n : Nat) (Y : List DV) (h : Hd) (S m : Nat) : Hp := match g with
  | false => hp.push (oF hZ .nil)
  | true => (kC hp Y).push (oF h (.sl n S 1 m m))
def nDc (g : Bool) (n : Nat) : Nat := match g with
  | false => n + 1
  | true => n + 2
def eDc (g : Bool) (e : Int) : Int := match g with
  | false => e
  | true => 0
def aDc (d : DV) (g : Bool) (e : Int) (hp : Hp) (n : Nat) (Y : List DV) (h : Hd) (S m : Nat) : Prop := match g with
  | false => cK 22 [d] hp = some (zfr e, hp, none)
  | true => cK 22 [d] hp = some (.tuple [frm h (.sl n S 1 m m), .int .i64 0], kC hp Y, none)
def pEv (ev : Bool) : Yath := match ev with
  | true => [(146, .b true)]
  | false => [(146, .b false), (149, .b true)]
def aEv (ev : Bool) (zs : List (List DV)) (e : Int) : List Prop := match ev with
  | true => [(Int.tmod (zs.length : Int) 2 == 0) = true]
  | false => [(Int.tmod (zs.length : Int) 2 == 0) = false, (e == 31) = true]
set_option maxRecDepth 1000000 in
theorem dg_run (h : Hd) (xs zs : List (List DV)) (at' : Nat) (p : BitVec 32) (n L : Nat) (B X Y : List DV) (fl g1 g2 ev : Bool) (e1 e2 : Int) (h1 h2 : Hd) (Y1 Y2 : List DV) (S1 m1 S2 m2 : Nat) :
    zflat (zans Try.prog tab ftab cK fDm (dArgs h xs at' p zs) ([(26, .b false), (30, .b false), (39, .r (.tuple [.sl 1 0 1 L L, .int .i64 0]) (gH1 h xs B)), (47, .b false), (56, .w (iN n)), (59, .h (.sl 3 0 1 L L) (gH3 h xs B) none), (62, .h (.sl 5 0 1 L L) (gHD h xs B B B) none),
      (0, .l dl1 (.exit 0) (ds2 n L fl zs) (gHD h xs B X B)), (0, .l dl3 (.exit 2) (ds4 L fl zs) (gHD h xs B X Y)), pDc 127 g1 e1 (gHD h xs B X Y) 6 Y1 h1 S1 m1, pDc 132 g2 e2 (hDc g1 (gHD h xs B X Y) 6 Y1 h1 S1 m1) (nDc g1 6) Y2 h2 S2 m2, (140, .b true)] ++ pEv ev)) =
    some (.bool true, gNear xs zs ++ ([cK 9 [frm h (.list 1 xs)] (kH0 h xs) = some (.tuple [.sl 1 0 1 L L, .int .i64 0], gH1 h xs B, none), ((L : Int) == 0) = false, DV.int .i64 (IntKind.i64.wrap (8 * (L : Int))) = iN n,
      builtinD tab (gH2 h xs B) .append [.sl 2 0 1 0 0, .sl 1 0 1 L L] tyB = some (.sl 3 0 1 L L, gH3 h xs B, none), builtinD tab (gH4 h xs B) .append [.sl 4 0 1 0 0, .sl 1 0 1 L L] tyB = some (.sl 5 0 1 L L, gHD h xs B B B, none),
      Goes Try.prog tab kD6 (.loop lp1) (ds1 at' n L 0 p false zs) (gHD h xs B B B) (.exit 0) (ds2 n L fl zs) (gHD h xs B X B), Goes Try.prog tab kD6 (.loop lp2) (ds3 n L 0 fl zs) (gHD h xs B X B) (.exit 2) (ds4 L fl zs) (gHD h xs B X Y),
      aDc (.sl 3 0 1 L L) g1 e1 (gHD h xs B X Y) 6 Y1 h1 S1 m1, aDc (.sl 5 0 1 L L) g2 e2 (hDc g1 (gHD h xs B X Y) 6 Y1 h1 S1 m1) (nDc g1 6) Y2 h2 S2 m2, ((eDc g1 e1 == 31) == fl) = true] ++ aEv ev zs (eDc g2 e2))) := by
  cases g1 <;> cases g2 <;> cases ev <;> kernel_rfl
end
end Go.Proofs.Ytcllanmickbkpaa
/- HeaderDamage, over the data of its arguments. -/
namespace Go.Proofs.Ytcllanmickbkpaa
open Go.RowKit

noncomputable section
theorem app_newE {hp : Hp} {id : Nat} {x : DV} {bs : List UInt8} (hg : hp.get id = some oE) (hx : contD hp 1 x = some (bs.length, celB bs)) (hne : bs ≠ []) (hl : bs.length ≤ 2 ^ 40) : builtinD tab hp .append [.sl id 0 1 0 0, x] tyB = some (.sl hp.n 0 1 bs.length bs.length, hp.push (oB (celB bs)), none) := by
  rw [app_tab, hx]
  cases bs with
  | nil => exact absurd rfl hne
  | cons b bs =>
    have hf := fitB_le (n := 0 + (b :: bs).length) (by simpa using hl)
    have hb : Nat.ble (0 + (bs.length + 1)) 0 = false := bleF (by omega)
    have h0 : Nat.ble (0 + 0 * 1) ([] : List DV).length = true := rfl
    simp only [List.length_cons] at hf ⊢
    simp only [appH, hg, hb, h0, hf, show Nat.beq 1 1 = true from rfl]
    rw [Nat.zero_add]
    rfl
theorem fl_ask {hp hp' : Hp} {id : Nat} {bs : List UInt8} {s : Nat} (hs : s < 8 * bs.length) (hb : bs.length < 2 ^ 30) (hst : storeH hp id (s / 8) [i8 (bs.getD (s / 8) 0 ^^^ bm (s % 8))] = some (hp', some id)) {t : List Prop} (ht : AskedP t) :
    AskedP (aFl id bs.length s (s / 8) (s % 8) (bs.getD (s / 8) 0) (bm (s % 8)) (bs.getD (s / 8) 0 ^^^ bm (s % 8)) (celB bs) hp hp' t) := by
  have hj : s / 8 < bs.length := by omega
  obtain ⟨c, hc⟩ : ∃ c, bs[s / 8]? = some c := ⟨_, List.getElem?_eq_getElem hj⟩
  have hd : bs.getD (s / 8) 0 = c := by simp [List.getD, hc]
  rw [hd] at hst ⊢
  have hn : nth (celB bs) (s / 8) = some (i8 c) := by
    rw [nth_eq, celB, List.getElem?_map, hc]
    rfl
  have hq : DV.int .i64 (quoD .i64 (s : Int) 8) = iN (s / 8) := by
    unfold quoD
    rw [Int.tdiv_eq_ediv_of_nonneg (by omega), show ((s : Int) / 8) = ((s / 8 : Nat) : Int) from rfl, wrapI (by omega)]
    rfl
  have hk : s % 8 < 8 := Nat.mod_lt _ (by decide)
  have hx : DV.int .u8 (bitD .xor .u8 (c.toNat : Int) ((bm (s % 8)).toNat : Int)) = i8 (c ^^^ bm (s % 8)) := by
    rw [xorU (k := .u8) rfl (UInt8.toNat_lt c) (UInt8.toNat_lt _), i8, UInt8.toNat_xor]
  have hsh : binD tab .shr 5 (.int .u8 128) (.int .u64 ((s % 8 : Nat) : Int)) = some (i8 (bm (s % 8))) := by
    have : decide ((0 : Int) ≤ ((s % 8 : Nat) : Int)) = true := decide_eq_true (by omega)
    simp only [binD, isShift, this, guardO]
    rw [show (128 : Int) = ((128 : Nat) : Int) from rfl, shrU _ (by show s % 8 ≤ 8; omega)]
    congr 2
    show _ = (((128#8 >>> (s % 8)).toNat : Nat) : Int)
    rw [BitVec.toNat_ushiftRight, Nat.shiftRight_eq_div_pow]
    rfl
  have hp2 : DV.ptr id (0 + ((s / 8 : Nat) : Int).toNat * 1) = .ptr id (s / 8) := by rw [Int.toNat_natCast]; simp
  exact .cons hq (.cons hq (.cons (idxOk_lt hj) (.cons hp2 (.cons hn (.cons rfl (.cons (by rw [wrapU rfl, Nat.mod_eq_of_lt (by show _ < 2 ^ 64; omega)]) (.cons hsh (.cons hx (.cons (idxOk_lt hj) (.cons hp2 (.cons hst ht)))))))))))
theorem lay_flip (bs : List UInt8) (s : Nat) (hs : s < 8 * bs.length) : layD (celB bs) (s / 8) [i8 (bs.getD (s / 8) 0 ^^^ bm (s % 8))] = celB (flip bs s) := by
  rw [flip, celB, celB, List.map_set, layD, List.set_eq_take_append_cons_drop, if_pos (by rw [List.length_map]; omega)]
  simp
theorem st3 (h : Hd) (xs : List (List DV)) (B Y : List DV) (bs : List UInt8) (s : Nat) (hs : s < 8 * bs.length) : storeH (gHD h xs B (celB bs) Y) 3 (s / 8) [i8 (bs.getD (s / 8) 0 ^^^ bm (s % 8))] = some (gHD h xs B (celB (flip bs s)) Y, some 3) := by
  have hg : (gHD h xs B (celB bs) Y).get 3 = some (oB (celB bs)) := rfl
  have hb1 : Nat.ble (s / 8 + 1) (celB bs).length = true := bleT (by rw [celB_length]; omega)
  simp only [storeH, hg, List.length_singleton, hb1]
  rw [lay_flip bs s hs]
  rfl
theorem st5 (h : Hd) (xs : List (List DV)) (B X : List DV) (bs : List UInt8) (s : Nat) (hs : s < 8 * bs.length) : storeH (gHD h xs B X (celB bs)) 5 (s / 8) [i8 (bs.getD (s / 8) 0 ^^^ bm (s % 8))] = some (gHD h xs B X (celB (flip bs s)), some 5) := by
  have hg : (gHD h xs B X (celB bs)).get 5 = some (oB (celB bs)) := rfl
  have hb1 : Nat.ble (s / 8 + 1) (celB bs).length = true := bleT (by rw [celB_length]; omega)
  simp only [storeH, hg, List.length_singleton, hb1]
  rw [lay_flip bs s hs]
  rfl
theorem burst_loop (h : Hd) (xs zs : List (List DV)) (W : List UInt8) (hW : W.length < 2 ^ 30) (hne : 0 < W.length) (at' : Nat) (hat : at' < 65536) (p : BitVec 32) : ∃ X fl, Goes Try.prog tab kD6 (.loop lp1) (ds1 at' (8 * W.length) W.length 0 p false zs) (gHD h xs (celB W) (celB W) (celB W)) (.exit 0) (ds2 (8 * W.length) W.length fl zs) (gHD h xs (celB W) (celB X) (celB W)) ∧
    X.length = W.length ∧ bitsB X = xr (bitsB W) (eK (at' % (8 * W.length)) p (8 * W.length) 32) ∧ fl = (eK (at' % (8 * W.length)) p (8 * W.length) 32).any id ∧ (fl = false → X = W) := by
  have hL : (bitsB W).length = 8 * W.length := bitsB_length W
  have ha : at' % (8 * W.length) < 8 * W.length := Nat.mod_lt _ (by omega)
  generalize hae : at' % (8 * W.length) = a at *
  have loop := Goes.loopI (P := Try.prog) (T := tab) (ks := kD6) (x := lp1) (e := .exit 0) 32
    (fun k sl hp => ∃ X fl, sl = ds1 at' (8 * W.length) W.length k p fl zs ∧ hp = gHD h xs (celB W) (celB X) (celB W) ∧ X.length = W.length ∧ bitsB X = xr (bitsB W) (eK a p (8 * W.length) k) ∧ fl = (eK a p (8 * W.length) k).any id ∧ (fl = false → X = W))
    (fun sl hp => ∃ X fl, sl = ds2 (8 * W.length) W.length fl zs ∧ hp = gHD h xs (celB W) (celB X) (celB W) ∧ X.length = W.length ∧ bitsB X = xr (bitsB W) (eK a p (8 * W.length) 32) ∧ fl = (eK a p (8 * W.length) 32).any id ∧ (fl = false → X = W)) (by intro h; cases h) ?_ ?_
    (sl := ds1 at' (8 * W.length) W.length 0 p false zs) (hp := gHD h xs (celB W) (celB W) (celB W)) ⟨W, false, rfl, rfl, rfl, by rw [eK_zero, ← hL, xr_rep], by rw [eK_zero]; simp, fun _ => rfl⟩
  · obtain ⟨s1, h1, g, X, fl, rfl, rfl, l, bt, an, nn⟩ := loop
    exact ⟨X, fl, g, l, bt, an, nn⟩
  · rintro k sl hp hk ⟨X, fl, rfl, rfl, l, bt, an, nn⟩
    have n0 : decide ((k : Int) < 32) = true := decide_eq_true (by omega)
    have m0 : DV.int .i64 (IntKind.i64.wrap (at' : Int)) = iN at' := congrArg (DV.int .i64) (wrapI (by omega))
    have m1 : binD tab .rem 3 (iN at') (iN (8 * W.length)) = some (iN a) := by rw [← hae]; exact rem_n (by omega)
    have m2 : DV.int .i64 (IntKind.i64.wrap ((a : Int) + (k : Int))) = iN (a + k) := by
      rw [show (a : Int) + (k : Int) = ((a + k : Nat) : Int) by omega, wrapI (by omega)]
      rfl
    have n1 : DV.int .u64 (IntKind.u64.wrap (k : Int)) = .int .u64 (k : Int) := by rw [wrapU rfl, Nat.mod_eq_of_lt (by show k < 2 ^ 64; omega)]
    have n2 : binD tab .shr 60 (w32 p) (.int .u64 (k : Int)) = some (.int .u32 ((p.toNat / 2 ^ k : Nat) : Int)) := by
      have : decide ((0 : Int) ≤ (k : Int)) = true := decide_eq_true (by omega)
      simp only [binD, w32, isShift, this, guardO]
      rw [shrU _ (by show k ≤ 32; omega)]
    have hb : p.getLsbD k = decide (p.toNat / 2 ^ k % 2 = 1) := Nat.testBit_eq_decide_div_mod_eq
    have n3 : (Int.tmod ((p.toNat / 2 ^ k : Nat) : Int) 2 == 1) = p.getLsbD k := by
      rw [hb, show Int.tmod ((p.toNat / 2 ^ k : Nat) : Int) 2 = ((p.toNat / 2 ^ k % 2 : Nat) : Int) from rfl]
      rcases Nat.mod_two_eq_zero_or_one (p.toNat / 2 ^ k) with e | e <;> rw [e] <;> rfl
    have n4 : AskedP (aNx k []) := .cons (congrArg (DV.int .i64) (wrapI (n := k + 1) (by omega))) .nil
    by_cases hlt : a + k < 8 * W.length
    · have rd : ∀ {t : List Prop}, AskedP t → AskedP (aRd at' (8 * W.length) k a (a + k) true t) := fun ht => .cons n0 (.cons m0 (.cons m1 (.cons m2 (.cons (decide_eq_true (by omega)) ht))))
      cases hv : p.getLsbD k with
      | false =>
        rw [hv] at n3
        have e : eK a p (8 * W.length) (k + 1) = eK a p (8 * W.length) k := eK_no fun h => by rw [hv] at h; cases h
        exact ⟨_, _, zsee_ok tab_ok mixed fun_ok cK_ok (dmNo at' (8 * W.length) W.length k a (a + k) _ p fl zs _) (rd (.cons n1 (.cons n2 (.cons n3 n4)))), X, fl, rfl, rfl, l, by rw [e]; exact bt, by rw [e]; exact an, nn⟩
      | true =>
        rw [hv] at n3
        have e : eK a p (8 * W.length) (k + 1) = tog (eK a p (8 * W.length) k) (a + k) := eK_yes hv hlt
        have hx : a + k < 8 * X.length := by omega
        have hd : (eK a p (8 * W.length) k).getD (a + k) false = false := by
          rw [List.getD_eq_getElem?_getD, List.getElem?_eq_getElem (by rw [eK_length]; exact hlt)]
          simp [eK]
        have fa := fl_ask hx (by omega) (st3 h xs (celB W) (celB W) X (a + k) hx) n4
        rw [l] at fa
        refine ⟨_, _, zsee_ok tab_ok mixed fun_ok cK_ok (dmYes h xs (celB W) (celB X) (celB (flip X (a + k))) (celB W) at' (8 * W.length) W.length k a (a + k) _ _ _ _ _ _ p fl zs) (rd (.cons n1 (.cons n2 (.cons n3 fa)))), _, true, rfl, rfl, by rw [flip_length]; exact l, ?_, ?_, fun h => by cases h⟩
        · rw [flip_bits X _ hx, bt, e, xr_tog (by rw [hL, eK_length]) (by omega)]
        · rw [e, tog_any (by rw [eK_length]; exact hlt) hd]
    · have e : eK a p (8 * W.length) (k + 1) = eK a p (8 * W.length) k := eK_no fun _ => hlt
      have rd : ∀ {t : List Prop}, AskedP t → AskedP (aRd at' (8 * W.length) k a (a + k) false t) := fun ht => .cons n0 (.cons m0 (.cons m1 (.cons m2 (.cons (decide_eq_false (by omega)) ht))))
      exact ⟨_, _, zsee_ok tab_ok mixed fun_ok cK_ok (dmOff at' (8 * W.length) W.length k a (a + k) p fl zs _) (rd n4), X, fl, rfl, rfl, l, by rw [e]; exact bt, by rw [e]; exact an, nn⟩
  · rintro sl hp ⟨X, fl, rfl, rfl, l, bt, an, nn⟩
    exact ⟨_, _, zsee_ok tab_ok mixed fun_ok cK_ok (dmOut at' (8 * W.length) W.length 32 p fl zs _) (.cons rfl .nil), X, fl, rfl, rfl, l, bt, an, nn⟩
theorem odd_loop (h : Hd) (xs : List (List DV)) (vs : List Nat) (hvs : ∀ v ∈ vs, v < 65536) (hn : vs.length ≤ 100) (W : List UInt8) (B X : List DV) (hW : W.length < 2 ^ 30) (hne : 0 < W.length) (fl : Bool) : ∃ Y, Goes Try.prog tab kD6 (.loop lp2) (ds3 (8 * W.length) W.length 0 fl (w16s vs)) (gHD h xs B X (celB W)) (.exit 2) (ds4 W.length fl (w16s vs)) (gHD h xs B X (celB Y)) ∧
    Y.length = W.length ∧ par (bitsB Y) = (par (bitsB W) ^^ decide (vs.length % 2 = 1)) := by
  have hlen := w16s_length vs
  have loop := Goes.loopI (P := Try.prog) (T := tab) (ks := kD6) (x := lp2) (e := .exit 2) vs.length
    (fun k sl hp => ∃ Y, sl = ds3 (8 * W.length) W.length k fl (w16s vs) ∧ hp = gHD h xs B X (celB Y) ∧ Y.length = W.length ∧ par (bitsB Y) = (par (bitsB W) ^^ decide (k % 2 = 1)))
    (fun sl hp => ∃ Y, sl = ds4 W.length fl (w16s vs) ∧ hp = gHD h xs B X (celB Y) ∧ Y.length = W.length ∧ par (bitsB Y) = (par (bitsB W) ^^ decide (vs.length % 2 = 1))) (by intro h; cases h) ?_ ?_
    (sl := ds3 (8 * W.length) W.length 0 fl (w16s vs)) (hp := gHD h xs B X (celB W)) ⟨W, rfl, rfl, rfl, by simp⟩
  · obtain ⟨s1, h1, g, Y, rfl, rfl, l, pp⟩ := loop
    exact ⟨Y, g, l, pp⟩
  · rintro k sl hp hk ⟨Y, rfl, rfl, l, pp⟩
    obtain ⟨z, hz⟩ : ∃ z, vs[k]? = some z := ⟨_, List.getElem?_eq_getElem hk⟩
    have hz2 := hvs z (List.mem_of_getElem? hz)
    have hs : z % (8 * W.length) < 8 * Y.length := by
      rw [l]
      exact Nat.mod_lt _ (by omega)
    have fa := fl_ask hs (by omega) (st5 h xs B X Y (z % (8 * W.length)) hs) (t := aNx k []) (.cons (congrArg (DV.int .i64) (wrapI (n := k + 1) (by omega))) .nil)
    rw [l] at fa
    refine ⟨_, _, zsee_ok tab_ok mixed fun_ok cK_ok (doYes h xs B X (celB Y) (celB (flip Y (z % (8 * W.length)))) (8 * W.length) W.length k z (z % (8 * W.length)) _ _ _ _ _ fl (w16s vs)) (.cons (decide_eq_true (by omega)) (.cons (idxOk_lt (by omega)) (.cons (w16s_nth hz) (.cons (congrArg (DV.int .i64) (wrapI (by omega))) (.cons (rem_n (by omega)) fa))))), _, rfl, rfl, by rw [flip_length]; exact l, ?_⟩
    · rw [flip_bits Y _ hs, par_tog _ _ (by rw [bitsB_length]; exact hs), pp]
      rcases Nat.mod_two_eq_zero_or_one k with e | e
      · rw [e, show (k + 1) % 2 = 1 by omega]
        cases par (bitsB W) <;> rfl
      · rw [e, show (k + 1) % 2 = 0 by omega]
        cases par (bitsB W) <;> rfl
  · rintro sl hp ⟨Y, rfl, rfl, l, pp⟩
    exact ⟨_, _, zsee_ok tab_ok mixed fun_ok cK_ok (doOut (8 * W.length) W.length vs.length fl (w16s vs) _) (.cons (decide_eq_false (by omega)) .nil), Y, rfl, rfl, l, pp⟩
/-! ### Decoded -/
theorem dec_31 {x : List UInt8} (h : verL x = (.tuple [.nil, .int .i64 31], ⟨0, [], []⟩)) : decB x = (zfr 31, ⟨0, [], []⟩) := by
  unfold verL at h
  unfold decB
  by_cases h4 : x.length < 4
  · rw [if_pos h4] at h
    simp at h
  · rw [if_neg h4] at h ⊢
    by_cases hw : withL (x.take (x.length - 4)) = x
    · rw [if_pos hw] at h
      simp at h
    · rw [if_neg hw]
theorem ask_bad {hp : Hp} {d : DV} {n : Nat} (b : Bs) (s : Sh hp d b.1) (e : Int) (hv : decB b.1 = (zfr e, ⟨0, [], []⟩)) : aDc d false e hp n [] hZ 0 0 := by
  have := cK_dec (hp := hp) (d := d) b s.frz
  simp only [hv, sh3_zfr] at this
  exact this
theorem ask_ok {hp : Hp} {d : DV} {n : Nat} (hn : hp.n = n) (b : Bs) (s : Sh hp d b.1) {h : Hd} {S m : Nat} (hv : decB b.1 = (.tuple [frm h (.sl 0 S 1 m m), .int .i64 0], ownH 5 1 (celB b.1))) : aDc d true 0 hp n (celB b.1) h S m := by
  have := cK_dec (hp := hp) (d := d) b s.frz
  simp only [hv, sh3_dec] at this
  rw [Nat.add_zero, hn] at this
  exact this
theorem ask_any {hp : Hp} {d : DV} {n : Nat} (hn : hp.n = n) (b : Bs) (s : Sh hp d b.1) : ∃ g e Y h S m, aDc d g e hp n Y h S m := by
  rcases dec_cases b.1 with ⟨e, _, e1⟩ | ⟨h2, b2, ho2, hok2, hl2, hb⟩
  · exact ⟨false, e, [], hZ, 0, 0, ask_bad b s e e1⟩
  · have e1 := dec_enc ho2 hok2 hl2
    rw [← hb] at e1
    exact ⟨true, 0, _, h2, _, _, ask_ok hn b s e1⟩
theorem get_hDc {g : Bool} {hp : Hp} {n : Nat} {Y : List DV} {h : Hd} {S m id : Nat} {o : Ob} (hg : hp.get id = some o) : (hDc g hp n Y h S m).get id = some o := by
  have hlt := Hp.get_lt hg
  cases g with
  | false =>
    show (hp.push _).get id = _
    rw [Hp.get_push, if_neg (by omega)]
    exact hg
  | true =>
    show ((hp.push _).push _).get id = _
    rw [Hp.get_push, if_neg (by show ¬ id = hp.n + 1; omega), Hp.get_push, if_neg (by omega)]
    exact hg
theorem n_hDc (g : Bool) (h : Hd) (xs : List (List DV)) (B X Y Z : List DV) (k : Hd) (S m : Nat) : (hDc g (gHD h xs B X Y) 6 Z k S m).n = nDc g 6 := by cases g <;> rfl
theorem dg_all (h : Hd) (ho : HdOk h) (b : Bs) (at' : Nat) (hat : at' < 65536) (p : BitVec 32) (vs : List Nat) (hvs : ∀ v ∈ vs, v < 65536) : Ans Try.prog fDm [frm h (byL b.1), .int .u16 (at' : Int), w32 p, .list 1 (w16s vs)] (.bool true) ⟨0, [], []⟩ := by
  obtain ⟨bs, hb⟩ := b
  have lb := by1_length bs
  have lv := w16s_length vs
  by_cases hb1 : bs.length > 2400
  · exact zflat_ok tab_ok mixed fun_ok cK_ok (dg_far1 h (by1 bs) (w16s vs) at' p) (.cons (decide_eq_true (by omega)) .nil)
  have n1 : decide (((by1 bs).length : Int) > 2400) = false := decide_eq_false (by omega)
  by_cases hv1 : vs.length > 100
  · exact zflat_ok tab_ok mixed fun_ok cK_ok (dg_far2 h (by1 bs) (w16s vs) at' p) (.cons n1 (.cons (decide_eq_true (by omega)) .nil))
  have n2 : decide (((w16s vs).length : Int) > 100) = false := decide_eq_false (by omega)
  have k := cEnc_at (hp := kH0 h (by1 bs)) h ho ⟨bs, hb⟩
  by_cases hok : okF h bs = true ∧ bs.length ≤ 2304
  case neg =>
    obtain ⟨e, he, e1⟩ := encB_no hok
    simp only [e1] at k
    have he2 : (e != 0) = true := by rw [bne, he]; rfl
    exact zflat_ok tab_ok mixed fun_ok cK_ok (dg_err h (by1 bs) (w16s vs) at' p e) (askApp (.cons n1 (.cons n2 .nil)) (.cons (cK_enc k) (.cons he2 (.cons he2 .nil))))
  obtain ⟨hok, hl⟩ := hok
  obtain ⟨q1, _⟩ := okF_of hok
  obtain ⟨q2, q3⟩ := okH_of q1
  have hle := hb_le (lay_good h q2)
  have de := dec_enc ho hok hl
  have hwl := withL_len4 (hbB h (layOf h).1 ++ bs)
  rw [List.length_append] at hwl
  simp only [encB_ok hok hl, sh3_enc] at k
  obtain ⟨X, fl, g1, lx, btx, anx, nnx⟩ := burst_loop h (by1 bs) (w16s vs) (withL (hbB h (layOf h).1 ++ bs)) (by omega) (by omega) at' hat p
  obtain ⟨Y, g2, ly, py⟩ := odd_loop h (by1 bs) vs hvs (by omega) (withL (hbB h (layOf h).1 ++ bs)) (celB (withL (hbB h (layOf h).1 ++ bs))) (celB X) (by omega) (by omega) fl
  have f1 : fl = true → decB X = (zfr 31, ⟨0, [], []⟩) := fun e => by
    have hal : at' % (8 * (withL (hbB h (layOf h).1 ++ bs)).length) < 8 * (withL (hbB h (layOf h).1 ++ bs)).length := Nat.mod_lt _ (by omega)
    have hb := btx
    rw [eK_split (Nat.le_of_lt hal)] at hb
    refine dec_31 (found_burst32 lx hb (by simp only [List.length_map, List.length_range]; omega) (by simp only [List.length_map, List.length_range]; omega) (mem_bits (Nat.le_of_lt hal) ?_))
    rw [← anx, e]
  have f2 : vs.length % 2 = 1 → decB Y = (zfr 31, ⟨0, [], []⟩) := fun e => by
    refine dec_31 (found_odd32 ly ?_)
    rw [py, e]
    cases par (bitsB (withL (hbB h (layOf h).1 ++ bs))) <;> rfl
  generalize hW : withL (hbB h (layOf h).1 ++ bs) = W at *
  have hne : W ≠ [] := fun e => by rw [e] at hwl; simp at hwl
  have s3 : Sh (gHD h (by1 bs) (celB W) (celB X) (celB Y)) (.sl 3 0 1 W.length W.length) X := by
    rw [← lx]
    exact own_sh rfl 0 X (fun i x hx => by rw [Nat.zero_add]; exact hx) _
  have a1 : ∃ g e Z k S m, aDc (.sl 3 0 1 W.length W.length) g e (gHD h (by1 bs) (celB W) (celB X) (celB Y)) 6 Z k S m ∧ ((eDc g e == 31) == fl) = true := by
    cases fl with
    | true => exact ⟨false, 31, [], hZ, 0, 0, ask_bad ⟨X, by omega⟩ s3 31 (f1 rfl), rfl⟩
    | false =>
      obtain rfl := nnx rfl
      exact ⟨true, 0, celB X, h, _, _, ask_ok rfl ⟨X, by omega⟩ s3 de, rfl⟩
  obtain ⟨c1, e1, Z1, k1, S1, m1, a1, a2⟩ := a1
  have s5 : Sh (hDc c1 (gHD h (by1 bs) (celB W) (celB X) (celB Y)) 6 Z1 k1 S1 m1) (.sl 5 0 1 W.length W.length) Y := by
    rw [← ly]
    exact own_sh (get_hDc rfl) 0 Y (fun i x hx => by rw [Nat.zero_add]; exact hx) _
  have a3 : ∃ g e Z k S m, aDc (.sl 5 0 1 W.length W.length) g e (hDc c1 (gHD h (by1 bs) (celB W) (celB X) (celB Y)) 6 Z1 k1 S1 m1) (nDc c1 6) Z k S m ∧ AskedP (aEv (decide (vs.length % 2 = 0)) (w16s vs) (eDc g e)) := by
    have hm : (Int.tmod ((w16s vs).length : Int) 2 == 0) = decide (vs.length % 2 = 0) := by
      rw [lv, show Int.tmod (vs.length : Int) 2 = ((vs.length % 2 : Nat) : Int) from rfl]
      rcases Nat.mod_two_eq_zero_or_one vs.length with e | e <;> rw [e] <;> rfl
    rcases Nat.mod_two_eq_zero_or_one vs.length with e | e
    · obtain ⟨g, e2, Z, k2, S, m, q⟩ := ask_any (n_hDc c1 h (by1 bs) (celB W) (celB X) (celB Y) Z1 k1 S1 m1) ⟨Y, by omega⟩ s5
      rw [e] at hm ⊢
      exact ⟨g, e2, Z, k2, S, m, q, .cons hm .nil⟩
    · rw [e] at hm ⊢
      exact ⟨false, 31, [], hZ, 0, 0, ask_bad ⟨Y, by omega⟩ s5 31 (f2 e), .cons hm (.cons rfl .nil)⟩
  obtain ⟨c2, e2, Z2, k2, S2, m2, a3, a4⟩ := a3
  have sw : ∀ hp : Hp, hp.get 1 = some (oB (celB W)) → contD hp 1 (.sl 1 0 1 W.length W.length) = some (W.length, celB W) := fun hp hg => (own_sh hg 0 W (fun i x hx => by rw [Nat.zero_add]; exact hx) _).cont
  refine zflat_ok tab_ok mixed fun_ok cK_ok (dg_run h (by1 bs) (w16s vs) at' p (8 * W.length) W.length (celB W) (celB X) (celB Y) fl c1 c2 (decide (vs.length % 2 = 0)) e1 e2 k1 k2 Z1 Z2 S1 m1 S2 m2) (askApp (.cons n1 (.cons n2 .nil)) (askApp ?_ a4))
  refine .cons (cK_enc k) (.cons (eq0 (by omega)) (.cons (mul8 (by omega)) (.cons ?_ (.cons ?_ (.cons g1 (.cons g2 (.cons a1 (.cons a3 (.cons a2 .nil)))))))))
  · exact app_newE (hp := gH2 h (by1 bs) (celB W)) (id := 2) rfl (sw _ rfl) hne (by omega)
  · exact app_newE (hp := gH4 h (by1 bs) (celB W)) (id := 4) rfl (sw _ rfl) hne (by omega)
end
end Go.Proofs.Ytcllanmickbkpaa
