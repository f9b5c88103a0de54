/- slices.Clone of bytes, as a contract. -/
import Derived.Test.YtejlbkhddehaiaaWB
import Derived.Test.YtejlbkhddehaiaaNA
import Derived.WalkKit
import Derived.WalkSpells
import Derived.WalkLawsBesides
import Derived.Deep.QuietTactic
import Derived.Deep.RegionWith
import Derived.BigQuiet
import Derived.BigRegion
import Derived.RegionTactic
import Derived.Lib.Hide
namespace Go.Proofs.Ytejlbkhddehaiaa
open Go.RowKit

theorem clone_any (S : Nat → Prop) (A : Option Addr) (n c : Nat) (xs : List Nat) (w : World) (h : Row (Ty.nat .u8) w S A n xs) (hS : ∀ b, S b → b < w.heap.size) (hn : n ≤ 70368744177664) :
    Calls Try.prog 118 #[.slice A n c] w fun e w' => ∃ v, e = .returned v ∧ (Ty.slice (Ty.nat .u8)).rep w' (fun b => w.heap.size ≤ b ∧ b < w'.heap.size) xs [v] ∧ Below w.heap.size w w' := by
  have H := Lib.hid h
  have HS := Lib.hid hS
  clear h hS
  have he := fun W : World => Lib.run_eql_slice_nil (P := Try.prog) W 37 5 A n c 0 0 Try.underlying37
  rcases A with _ | ad
  · go_enter Try.func118, Try.ntmps118
    go_wp2_with fail
    go_ret
    have hx : xs = [] := by
      rcases Nat.eq_zero_or_pos n with h0 | h0
      · exact List.eq_nil_of_length_eq_zero (H.out.1.trans h0)
      · obtain ⟨_, _, h, _⟩ := H.out.2 h0
        cases h
    subst hx
    exact ⟨_, rfl, ⟨none, 0, 0, rfl, Nat.le_refl _, Nat.zero_le _, fun _ => rfl, Row.nil _ _ _ _⟩, Below.refl _ _⟩
  · obtain ⟨i0, hi, hz0, hz1, hz2⟩ := info_parts info_u8
    go_enter Try.func118, Try.ntmps118
    go_wp2_with (at_builtin; refine wpList_append_src _ rfl _ _ _ rfl w.heap.size 5 i0 _ 1 1 Try.underlying37 hi hz0 hz1 hz2 rfl (by decide) (.slice (some ⟨w.heap.size, 0, none⟩) 0 0) 0 [] rfl (World.ownsRow_lit w #[] 0 (Nat.le_refl _) (Nat.zero_le _) rfl) (some ad) n c (xs.map fun x : Nat => Value.int .u8 (x : Int)) rfl H.out.src_len (Row.src (H.out.alloc _ HS.out)) (oneCell_ints xs) (by simp only [maxLen]; omega) (by omega) (by simp) ?_; intro v1 w1 hown1 hg1 hat1)
    go_ret
    simp only [Nat.zero_add, List.nil_append] at hown1
    have hb : Bel w.heap.size w w1 := Bel.grown ((Bel.refl (Nat.le_refl _)).alloc _) hg1 (fun g hg => by simp [Value.ownBlock] at hg; omega)
    exact ⟨_, rfl, rep_of_own hown1 H.out.ints_wf (fun b h1 h2 => ⟨h1, h2⟩), hb.below⟩
noncomputable section
set_option maxRecDepth 1000000 in
theorem clone_nil : zflat (zans Try.prog tab ftab noC 118 [.nil] []) = some (.nil, []) := by
  kernel_rfl
theorem ansClone (b : Bs) : Ans Try.prog 118 [byL b.1] (byL b.1) ⟨0, [], []⟩ := by
  refine ⟨(zflat_ok tab_ok mixed fun_ok noC_ok clone_nil .nil).1, fun W0 S0 E w vs hs hv => ?_⟩
  obtain ⟨v, vs', rfl, h1, h2⟩ := hv.uncons
  rw [h2.unnil]
  obtain ⟨A, c, rfl, hrow⟩ := vr_row h1
  refine (clone_any E.S A b.1.length c (b.1.map UInt8.toNat) w hrow hs.ro (by have := b.2; omega)).mono ?_
  rintro e w' ⟨v, rfl, hr, hb⟩
  obtain ⟨A', n', c', rfl, _⟩ := rep_slice hr
  obtain ⟨hvr, _⟩ := vr_rep hr
  have hm : (b.1.map UInt8.toNat).map UInt8.ofNat = b.1 := by
    rw [List.map_map]
    conv => rhs; rw [← List.map_id b.1]
    refine List.map_congr_left fun x _ => ?_
    simp
  rw [hm] at hvr
  refine ⟨ro fun x => E.S x ∨ (w.heap.size ≤ x ∧ x < w'.heap.size), _, rfl, ⟨⟨fun x hx => .inl hx, fun _ h => h.elim, fun p hp => hb.cell (hs.ro _ hp), fun _ _ h => (by cases h)⟩, .of_below hb, funext fun id => (yb_none hs.ys rfl id).symm, fun _ => rfl⟩, ⟨hs.bel.trans (hb.mono hs.bel.size), fun _ h => h.elim, fun _ h => h.elim, fun _ h => h.elim, fun _ _ _ _ h => h.elim, fun x hx => ?_, fun x hx => ?_, Nat.le_refl _, .none rfl (fun _ => rfl) (hs.gl.mono (fun x hx => .inl hx) fun p hp => hb.cell (hs.ro _ hp))⟩, hvr.later ⟨fun x hx => .inr hx, fun _ h => h.elim, fun _ _ => rfl, fun _ _ h => (by cases h)⟩⟩
  · rcases hx with hx | hx
    · exact Nat.lt_of_lt_of_le (hs.ro x hx) hb.size
    · exact hx.2
  · rcases hx with hx | hx
    · exact hs.olds x hx
    · exact .inr (Nat.le_trans hs.bel.size hx.1)
def cBc : ConF := liftC (eqC 118 (fun x : Bs => [byL x.1]) fun x => (byL x.1, ⟨0, [], []⟩))
theorem cBc_ok : ConOk Try.prog cBc := liftC_ok (eqC_ok ansClone fun _ => rfl)
theorem cBc_at (hp : Hp) (bs : List UInt8) (h : bs.length < 2 ^ 30) : cBc 118 [byL bs] hp = some (byL bs, hp, none) :=
  lift_at (A := fun x : Bs => [byL x.1]) (D := fun x => byL x.1) (fun x y hxy => by
    simp only [List.cons.injEq, and_true] at hxy
    exact hxy) hp ⟨bs, h⟩ rfl rfl
end
end Go.Proofs.Ytejlbkhddehaiaa
/- octet.Take: a contract. -/
namespace Go.Proofs.Ytejlbkhddehaiaa
open Go.RowKit

noncomputable section
theorem pc_len (b : Bs) (x n : Int) : (pcB b.1 x n).length < 2 ^ 30 := by
  have := b.2
  unfold pcB
  split
  · rw [List.length_take, List.length_drop]
    omega
  · exact Nat.two_pow_pos 30
theorem af_len (b : Bs) (x n : Int) : (afB b.1 x n).length < 2 ^ 30 := by
  have := b.2
  unfold afB
  split
  · exact this
  · exact Nat.two_pow_pos 30
def pcS (b : Bs) (x n : Int) : Bs := ⟨pcB b.1 x n, pc_len b x n⟩
def afS (b : Bs) (x n : Int) : Bs := ⟨afB b.1 x n, af_len b x n⟩
def cT1 : ConF := orK cKu cBc
theorem cT1_ok : ConOk Try.prog cT1 := orK_ok cKu_ok cBc_ok
set_option maxRecDepth 1000000 in
theorem tk (xs ps ys : List (List DV)) (x n y e : Int) : zflat (zans Try.prog tab ftab cT1 95 [.agg [.list 1 xs, .int .i64 x], .int .i64 n] [(13, .q (.tuple [.list 1 ps, .agg [.list 1 ys, .int .i64 y], .int .i64 e])), (18, .q (.list 1 ps))]) =
    some (.tuple [.list 1 ps, .agg [.list 1 ys, .int .i64 y], .int .i64 e], [cT1 117 [.agg [.list 1 xs, .int .i64 x], .int .i64 n] ⟨2, [⟨0, 0, 126, [.nil, .int .i64 0]⟩, ⟨0, 0, 126, [.list 1 xs, .int .i64 x]⟩], []⟩ = some (.tuple [.list 1 ps, .agg [.list 1 ys, .int .i64 y], .int .i64 e], ⟨2, [⟨0, 0, 126, [.nil, .int .i64 0]⟩, ⟨0, 0, 126, [.list 1 xs, .int .i64 x]⟩], []⟩, none), cT1 118 [.list 1 ps] ⟨3, [⟨0, 0, 126, [.list 1 ys, .int .i64 y]⟩, ⟨0, 0, 126, [.nil, .int .i64 0]⟩, ⟨0, 0, 126, [.list 1 xs, .int .i64 x]⟩], []⟩ = some (.list 1 ps, ⟨3, [⟨0, 0, 126, [.list 1 ys, .int .i64 y]⟩, ⟨0, 0, 126, [.nil, .int .i64 0]⟩, ⟨0, 0, 126, [.list 1 xs, .int .i64 x]⟩], []⟩, none)]) := by
  kernel_rfl
theorem ans_cTk (x : BII) : Ans Try.prog 95 [rd x.1.1 x.2.1, .int .i64 x.2.2] (d3 x.1.1 x.2.1 x.2.2) ⟨0, [], []⟩ :=
  zflat_ok tab_ok mixed fun_ok cT1_ok (tk (by1 x.1.1) (by1 (pcB x.1.1 x.2.1 x.2.2)) (by1 (afB x.1.1 x.2.1 x.2.2)) x.2.1 x.2.2 (afX x.1.1 x.2.1 x.2.2) (cutE x.1.1.length x.2.1 x.2.2)) (.cons (orK_left (cKu_at _ x)) (.cons (orK_right (lift_oth (eqC_other (by kernel_rfl))) (cBc_at _ (pcB x.1.1 x.2.1 x.2.2) (pc_len x.1 x.2.1 x.2.2))) .nil))
def cTk : ConF := liftC (eqC 95 (fun x : BII => [rd x.1.1 x.2.1, .int .i64 x.2.2]) fun x => (d3 x.1.1 x.2.1 x.2.2, ⟨0, [], []⟩))
theorem cTk_ok : ConOk Try.prog cTk := liftC_ok (eqC_ok ans_cTk (fun _ => rfl))
theorem cTk_at (hp : Hp) (x : BII) : cTk 95 [rd x.1.1 x.2.1, .int .i64 x.2.2] hp = some (d3 x.1.1 x.2.1 x.2.2, hp, none) :=
  lift_at (A := fun x : BII => [rd x.1.1 x.2.1, .int .i64 x.2.2]) (D := fun x => d3 x.1.1 x.2.1 x.2.2) (fun x y hxy => by
    obtain ⟨x1, x2, x3⟩ := x
    obtain ⟨y1, y2, y3⟩ := y
    simp only [List.cons.injEq, and_true, DV.int.injEq, true_and] at hxy
    obtain ⟨rfl, rfl⟩ := rd_inj hxy.1
    obtain rfl := hxy.2
    rfl) hp x rfl rfl

end
end Go.Proofs.Ytejlbkhddehaiaa
/- Actions, decoded: a contract. -/
namespace Go.Proofs.Ytejlbkhddehaiaa
open Go.RowKit

noncomputable section
abbrev fG1 : FuncId := 119
abbrev fTk : FuncId := 95
abbrev fDAc : FuncId := 34
def cRa : ConF := orK cG1 cTk
theorem cRa_ok : ConOk Try.prog cRa := orK_ok cG1_ok cTk_ok
abbrev daZ : Ob := ⟨0, 0, 39, [.int .u8 0, .int .u8 0, .int .u8 0, .nil]⟩
abbrev daH1 (fs : List (List DV)) (x : Nat) : Hp := ⟨4, [rcO, raO fs x, rdO fs x, daZ], []⟩
abbrev daH2 (fs : List (List DV)) (a b c m : Nat) : Hp := ⟨6, [rcO, raO fs 3, ⟨0, 0, 3, [iN m]⟩, ⟨0, 0, 39, [.int .u8 (a : Int), .int .u8 (b : Int), .int .u8 (c : Int), .nil]⟩, rdO fs 3, daZ], []⟩
set_option maxRecDepth 1000000 in
theorem da1 (fs : List (List DV)) : zflat (zans Try.prog tab ftab cRa fDAc [.list 1 fs] [(8, .c [(10, .b true)])]) = some (.tuple [.agg [.int .u8 0, .int .u8 0, .int .u8 0, .nil], iN 11], (decide ((fs.length : Int) > 2304) = true) :: []) := by kernel_rfl
set_option maxRecDepth 1000000 in
theorem dan0 (fs : List (List DV)) : zflat (zans Try.prog tab ftab cRa fDAc [.list 1 fs] [(8, .c [(10, .b false)]), (12, .c [(4, .c [(20, .c [(6, .q (.tuple [.int .u8 0, .agg [.list 1 [], iN 0], iN 10]))])])])]) = some (.tuple [.agg [.int .u8 0, .int .u8 0, .int .u8 0, .nil], iN 10], (decide ((fs.length : Int) > 2304) = false) :: (cRa fG1 [.agg [.list 1 fs, iN 0]] (daH1 fs 0) = some (.tuple [.int .u8 0, .agg [.list 1 [], iN 0], iN 10], daH1 fs 0, none)) :: []) := by kernel_rfl
set_option maxRecDepth 1000000 in
theorem dan1 (fs : List (List DV)) (a : Nat) : zflat (zans Try.prog tab ftab cRa fDAc [.list 1 fs] [(8, .c [(10, .b false)]), (12, .c [(4, .c [(20, .c [(6, .q (.tuple [.int .u8 (a : Int), .agg [.list 1 fs, iN 1], iN 0]))])])]), (14, .c [(4, .c [(20, .c [(6, .q (.tuple [.int .u8 0, .agg [.list 1 [], iN 0], iN 10]))])])])]) = some (.tuple [.agg [.int .u8 0, .int .u8 0, .int .u8 0, .nil], iN 10], (decide ((fs.length : Int) > 2304) = false) :: (cRa fG1 [.agg [.list 1 fs, iN 0]] (daH1 fs 0) = some (.tuple [.int .u8 (a : Int), .agg [.list 1 fs, iN 1], iN 0], daH1 fs 0, none)) :: (cRa fG1 [.agg [.list 1 fs, iN 1]] (daH1 fs 1) = some (.tuple [.int .u8 0, .agg [.list 1 [], iN 0], iN 10], daH1 fs 1, none)) :: []) := by kernel_rfl
set_option maxRecDepth 1000000 in
theorem dan2 (fs : List (List DV)) (a b : Nat) : zflat (zans Try.prog tab ftab cRa fDAc [.list 1 fs] [(8, .c [(10, .b false)]), (12, .c [(4, .c [(20, .c [(6, .q (.tuple [.int .u8 (a : Int), .agg [.list 1 fs, iN 1], iN 0]))])])]), (14, .c [(4, .c [(20, .c [(6, .q (.tuple [.int .u8 (b : Int), .agg [.list 1 fs, iN 2], iN 0]))])])]), (16, .c [(4, .c [(20, .c [(6, .q (.tuple [.int .u8 0, .agg [.list 1 [], iN 0], iN 10]))])])])]) = some (.tuple [.agg [.int .u8 0, .int .u8 0, .int .u8 0, .nil], iN 10], (decide ((fs.length : Int) > 2304) = false) :: (cRa fG1 [.agg [.list 1 fs, iN 0]] (daH1 fs 0) = some (.tuple [.int .u8 (a : Int), .agg [.list 1 fs, iN 1], iN 0], daH1 fs 0, none)) :: (cRa fG1 [.agg [.list 1 fs, iN 1]] (daH1 fs 1) = some (.tuple [.int .u8 (b : Int), .agg [.list 1 fs, iN 2], iN 0], daH1 fs 1, none)) :: (cRa fG1 [.agg [.list 1 fs, iN 2]] (daH1 fs 2) = some (.tuple [.int .u8 0, .agg [.list 1 [], iN 0], iN 10], daH1 fs 2, none)) :: []) := by kernel_rfl
set_option maxRecDepth 1000000 in
theorem daO (fs ps : List (List DV)) (a b c m : Nat) : zflat (zans Try.prog tab ftab cRa fDAc [.list 1 fs] [(8, .c [(10, .b false)]), (12, .c [(4, .c [(20, .c [(6, .q (.tuple [.int .u8 (a : Int), .agg [.list 1 fs, iN 1], iN 0]))])])]), (14, .c [(4, .c [(20, .c [(6, .q (.tuple [.int .u8 (b : Int), .agg [.list 1 fs, iN 2], iN 0]))])])]), (16, .c [(4, .c [(20, .c [(6, .q (.tuple [.int .u8 (c : Int), .agg [.list 1 fs, iN 3], iN 0]))])])]), (30, .w (iN m)), (31, .c [(7, .c [(20, .c [(8, .q (.tuple [.list 1 ps, .agg [.list 1 fs, iN (3 + m)], iN 0]))])])])]) = some (.tuple [.agg [.int .u8 (a : Int), .int .u8 (b : Int), .int .u8 (c : Int), .list 1 ps], iN 0], (decide ((fs.length : Int) > 2304) = false) :: (cRa fG1 [.agg [.list 1 fs, iN 0]] (daH1 fs 0) = some (.tuple [.int .u8 (a : Int), .agg [.list 1 fs, iN 1], iN 0], daH1 fs 0, none)) :: (cRa fG1 [.agg [.list 1 fs, iN 1]] (daH1 fs 1) = some (.tuple [.int .u8 (b : Int), .agg [.list 1 fs, iN 2], iN 0], daH1 fs 1, none)) :: (cRa fG1 [.agg [.list 1 fs, iN 2]] (daH1 fs 2) = some (.tuple [.int .u8 (c : Int), .agg [.list 1 fs, iN 3], iN 0], daH1 fs 2, none)) :: (DV.int .i64 (IntKind.i64.wrap ((fs.length : Int) - ((3 : Nat) : Int))) = iN m) :: (cRa fTk [.agg [.list 1 fs, iN 3], iN m] (daH2 fs a b c m) = some (.tuple [.list 1 ps, .agg [.list 1 fs, iN (3 + m)], iN 0], daH2 fs a b c m, none)) :: []) := by kernel_rfl
def g8 (b : List UInt8) (x : Nat) : Nat := leN ((b.drop x).take 1)
theorem g1_ok (hp : Hp) (b : Bs) (x : Nat) (h : x + 1 ≤ b.1.length) : cRa fG1 [.agg [byL b.1, iN x]] hp = some (.tuple [.int .u8 (g8 b.1 x : Int), .agg [byL b.1, iN (x + 1)], iN 0], hp, none) := by
  have g := orK_left (C2 := cTk) (cG1_at hp (b, (x : Int)))
  have hc : cutE b.1.length (x : Int) 1 = 0 := by
    unfold cutE
    rw [if_neg (by omega), if_neg (by omega), if_neg (by omega)]
  unfold dn vA afB afX pcB at g
  rw [hc, if_pos rfl, if_pos rfl, if_pos rfl] at g
  exact g
theorem g1_no (hp : Hp) (b : Bs) (x : Nat) (h1 : x ≤ b.1.length) (h : ¬ x + 1 ≤ b.1.length) : cRa fG1 [.agg [byL b.1, iN x]] hp = some (.tuple [.int .u8 0, .agg [.list 1 [], iN 0], iN 10], hp, none) := by
  have g := orK_left (C2 := cTk) (cG1_at hp (b, (x : Int)))
  have hc : cutE b.1.length (x : Int) 1 = 10 := by
    unfold cutE
    rw [if_neg (by omega), if_neg (by omega), if_pos (by omega)]
  unfold dn vA afB afX pcB at g
  rw [hc, if_neg (by decide), if_neg (by decide), if_neg (by decide)] at g
  exact g
theorem tk_ok {C : ConF} (hC : ∀ (b : Bs) (x n : Int) (hp : Hp), C fTk [rd b.1 x, .int .i64 n] hp = some (d3 b.1 x n, hp, none)) (hp : Hp) (b : Bs) (x m : Nat) (h : x + m ≤ b.1.length) : C fTk [.agg [byL b.1, iN x], iN m] hp = some (.tuple [byL ((b.1.drop x).take m), .agg [byL b.1, iN (x + m)], iN 0], hp, none) := by
  have g := hC b (x : Int) (m : Int) hp
  have hc : cutE b.1.length (x : Int) (m : Int) = 0 := by
    unfold cutE
    rw [if_neg (by omega), if_neg (by omega), if_neg (by omega)]
  unfold d3 afB afX pcB at g
  rw [hc, if_pos rfl, if_pos rfl, if_pos rfl] at g
  exact g
theorem tk_no {C : ConF} (hC : ∀ (b : Bs) (x n : Int) (hp : Hp), C fTk [rd b.1 x, .int .i64 n] hp = some (d3 b.1 x n, hp, none)) (hp : Hp) (b : Bs) (x m : Nat) (h1 : x ≤ b.1.length) (h : ¬ x + m ≤ b.1.length) : C fTk [.agg [byL b.1, iN x], iN m] hp = some (.tuple [byL [], .agg [.list 1 [], iN 0], iN 10], hp, none) := by
  have g := hC b (x : Int) (m : Int) hp
  have hc : cutE b.1.length (x : Int) (m : Int) = 10 := by
    unfold cutE
    rw [if_neg (by omega), if_neg (by omega), if_pos (by omega)]
  unfold d3 afB afX pcB at g
  rw [hc, if_neg (by decide), if_neg (by decide), if_neg (by decide)] at g
  exact g
theorem cRa_tk (b : Bs) (x n : Int) (hp : Hp) : cRa fTk [rd b.1 x, .int .i64 n] hp = some (d3 b.1 x n, hp, none) := orK_right (lift_oth (eqC_other (by kernel_rfl))) (cTk_at hp (b, x, n))
/-- what DecodeAction answers -/
def daD (b : List UInt8) : DV := match Nat.ble b.length 2304, Nat.ble 3 b.length with
  | false, _ => .tuple [.agg [.int .u8 0, .int .u8 0, .int .u8 0, .nil], iN 11]
  | true, false => .tuple [.agg [.int .u8 0, .int .u8 0, .int .u8 0, .nil], iN 10]
  | true, true => .tuple [.agg [.int .u8 (g8 b 0 : Int), .int .u8 (g8 b 1 : Int), .int .u8 (g8 b 2 : Int), byL (b.drop 3)], iN 0]
theorem da_ans (x : Bs) : Ans Try.prog fDAc [byL x.1] (daD x.1) ⟨0, [], []⟩ := by
  obtain ⟨b, hb⟩ := x
  have hl := by1_length b
  show Ans _ _ _ (daD b) _
  unfold daD
  cases h1 : Nat.ble b.length 2304 with
  | false =>
    have hgt : ¬ b.length ≤ 2304 := fun h => by rw [bleT h] at h1; cases h1
    exact zflat_ok tab_ok mixed fun_ok cRa_ok (da1 (by1 b)) (.cons (decide_eq_true (by omega)) .nil)
  | true =>
    have hle : b.length ≤ 2304 := Nat.le_of_ble_eq_true h1
    have m1 : decide (((by1 b).length : Int) > 2304) = false := decide_eq_false (by omega)
    cases h2 : Nat.ble 3 b.length with
    | false =>
      have hlt : ¬ 3 ≤ b.length := fun h => by rw [bleT h] at h2; cases h2
      by_cases c0 : 1 ≤ b.length
      case neg => exact zflat_ok tab_ok mixed fun_ok cRa_ok (dan0 (by1 b)) (.cons m1 (.cons (g1_no _ ⟨b, hb⟩ 0 (by show _ ≤ b.length; omega) (by show ¬ _ ≤ b.length; omega)) .nil))
      by_cases c1 : 2 ≤ b.length
      case neg => exact zflat_ok tab_ok mixed fun_ok cRa_ok (dan1 (by1 b) (g8 b 0)) (.cons m1 (.cons (g1_ok _ ⟨b, hb⟩ 0 (by show _ ≤ b.length; omega)) (.cons (g1_no _ ⟨b, hb⟩ 1 (by show _ ≤ b.length; omega) (by show ¬ _ ≤ b.length; omega)) .nil)))
      exact zflat_ok tab_ok mixed fun_ok cRa_ok (dan2 (by1 b) (g8 b 0) (g8 b 1)) (.cons m1 (.cons (g1_ok _ ⟨b, hb⟩ 0 (by show _ ≤ b.length; omega)) (.cons (g1_ok _ ⟨b, hb⟩ 1 (by show _ ≤ b.length; omega)) (.cons (g1_no _ ⟨b, hb⟩ 2 (by show _ ≤ b.length; omega) (by show ¬ _ ≤ b.length; omega)) .nil))))
    | true =>
      have h2 : 3 ≤ b.length := Nat.le_of_ble_eq_true h2
      have w0 : DV.int .i64 (IntKind.i64.wrap (((by1 b).length : Int) - ((3 : Nat) : Int))) = iN (b.length - 3) := by
        rw [show ((by1 b).length : Int) - ((3 : Nat) : Int) = ((b.length - 3 : Nat) : Int) by omega]
        exact congrArg (DV.int .i64) (wrapI (by omega))
      have t := tk_ok cRa_tk (daH2 (by1 b) (g8 b 0) (g8 b 1) (g8 b 2) (b.length - 3)) ⟨b, hb⟩ 3 (b.length - 3) (by show _ ≤ b.length; omega)
      rw [show ((b.drop 3).take (b.length - 3)) = b.drop 3 from List.take_of_length_le (by rw [List.length_drop]; omega)] at t
      exact zflat_ok tab_ok mixed fun_ok cRa_ok (daO (by1 b) (by1 (b.drop 3)) (g8 b 0) (g8 b 1) (g8 b 2) (b.length - 3)) (.cons m1 (.cons (g1_ok _ ⟨b, hb⟩ 0 (by show _ ≤ b.length; omega)) (.cons (g1_ok _ ⟨b, hb⟩ 1 (by show _ ≤ b.length; omega)) (.cons (g1_ok _ ⟨b, hb⟩ 2 (by show _ ≤ b.length; omega)) (.cons w0 (.cons t .nil))))))
theorem daD_flat (b : List UInt8) : flatD (daD b) = true := by
  unfold daD
  repeat' split
  all_goals rfl
def cDAc : ConF := liftC (eqC fDAc (fun x : Bs => [byL x.1]) fun x => (daD x.1, ⟨0, [], []⟩))
theorem cDAc_ok : ConOk Try.prog cDAc := liftC_ok (eqC_ok da_ans fun _ => rfl)
theorem cDAc_at (hp : Hp) (b : List UInt8) (h : b.length < 2 ^ 30) : cDAc fDAc [byL b] hp = some (daD b, hp, none) :=
  lift_at (A := fun x : Bs => [byL x.1]) (D := fun x => daD x.1) (fun x y hxy => by
    simp only [List.cons.injEq, and_true] at hxy
    rw [byL_in hxy]) hp ⟨b, h⟩ rfl (daD_flat b)
end
end Go.Proofs.Ytejlbkhddehaiaa
/- Requests for association, decoded: a contract. -/
namespace Go.Proofs.Ytejlbkhddehaiaa
open Go.RowKit

noncomputable section
abbrev fDAq : FuncId := 28
def cRq : ConF := orK cTk cRd
theorem cRq_ok : ConOk Try.prog cRq := orK_ok cTk_ok cRd_ok
abbrev dqZ : Ob := ⟨0, 0, 32, [.int .u16 0, .int .u16 0, .int .u8 0, .int .u8 0, .int .u8 0, .int .u8 0, .int .u8 0, .int .u8 0, .nil]⟩
abbrev dqOb (a b : Nat) (o0 o1 o2 o3 o4 o5 : UInt8) : Ob := ⟨0, 0, 32, [w16 a, w16 b, i8 o0, i8 o1, i8 o2, i8 o3, i8 o4, i8 o5, .nil]⟩
abbrev dqH1 (fs : List (List DV)) (x : Nat) : Hp := ⟨4, [rcO, raO fs x, rdO fs x, dqZ], []⟩
abbrev dqT (fs : List (List DV)) (a b : Nat) : Hp := ⟨6, [rcO, raO fs 4, ⟨0, 0, 3, [iN 6]⟩, dqOb a b 0 0 0 0 0 0, rdO fs 4, dqZ], []⟩
abbrev dqEh (fs : List (List DV)) (a b x : Nat) (o0 o1 o2 o3 o4 o5 : UInt8) : Hp := ⟨3, [dqOb a b o0 o1 o2 o3 o4 o5, rdO fs x, dqZ], []⟩
abbrev dqET (fs : List (List DV)) (a b x : Nat) (o0 o1 o2 o3 o4 o5 : UInt8) : Hp := ⟨4, [⟨0, 0, 3, [iN 6]⟩, dqOb a b o0 o1 o2 o3 o4 o5, rdO fs x, dqZ], []⟩
set_option maxRecDepth 1000000 in
theorem dq1t (fs : List (List DV)) : zflat (zans Try.prog tab ftab cRq fDAq [.list 1 fs, .bool true] [(10, .c [(10, .b true)])]) = some (.tuple [.agg [.int .u16 0, .int .u16 0, .int .u8 0, .int .u8 0, .int .u8 0, .int .u8 0, .int .u8 0, .int .u8 0, .nil], iN 11], (decide ((fs.length : Int) > 2304) = true) :: []) := by kernel_rfl
set_option maxRecDepth 1000000 in
theorem dqn0t (fs : List (List DV)) : zflat (zans Try.prog tab ftab cRq fDAq [.list 1 fs, .bool true] [(10, .c [(10, .b false)]), (14, .c [(4, .c [(20, .c [(6, .q (.tuple [w16 0, .agg [.list 1 [], iN 0], iN 10]))])])])]) = some (.tuple [.agg [.int .u16 0, .int .u16 0, .int .u8 0, .int .u8 0, .int .u8 0, .int .u8 0, .int .u8 0, .int .u8 0, .nil], iN 10], (decide ((fs.length : Int) > 2304) = false) :: (cRq fG2 [.agg [.list 1 fs, iN 0]] (dqH1 fs 0) = some (.tuple [w16 0, .agg [.list 1 [], iN 0], iN 10], dqH1 fs 0, none)) :: []) := by kernel_rfl
set_option maxRecDepth 1000000 in
theorem dqn1t (fs : List (List DV)) (a : Nat) : zflat (zans Try.prog tab ftab cRq fDAq [.list 1 fs, .bool true] [(10, .c [(10, .b false)]), (14, .c [(4, .c [(20, .c [(6, .q (.tuple [w16 a, .agg [.list 1 fs, iN 2], iN 0]))])])]), (16, .c [(4, .c [(20, .c [(6, .q (.tuple [w16 0, .agg [.list 1 [], iN 0], iN 10]))])])])]) = some (.tuple [.agg [.int .u16 0, .int .u16 0, .int .u8 0, .int .u8 0, .int .u8 0, .int .u8 0, .int .u8 0, .int .u8 0, .nil], iN 10], (decide ((fs.length : Int) > 2304) = false) :: (cRq fG2 [.agg [.list 1 fs, iN 0]] (dqH1 fs 0) = some (.tuple [w16 a, .agg [.list 1 fs, iN 2], iN 0], dqH1 fs 0, none)) :: (cRq fG2 [.agg [.list 1 fs, iN 2]] (dqH1 fs 2) = some (.tuple [w16 0, .agg [.list 1 [], iN 0], iN 10], dqH1 fs 2, none)) :: []) := by kernel_rfl
set_option maxRecDepth 1000000 in
theorem dqn2t (fs : List (List DV)) (a b : Nat) : zflat (zans Try.prog tab ftab cRq fDAq [.list 1 fs, .bool true] [(10, .c [(10, .b false)]), (14, .c [(4, .c [(20, .c [(6, .q (.tuple [w16 a, .agg [.list 1 fs, iN 2], iN 0]))])])]), (16, .c [(4, .c [(20, .c [(6, .q (.tuple [w16 b, .agg [.list 1 fs, iN 4], iN 0]))])])]), (22, .c [(7, .c [(20, .c [(8, .q (.tuple [.list 1 [], .agg [.list 1 [], iN 0], iN 10]))])])])]) = some (.tuple [.agg [.int .u16 0, .int .u16 0, .int .u8 0, .int .u8 0, .int .u8 0, .int .u8 0, .int .u8 0, .int .u8 0, .nil], iN 10], (decide ((fs.length : Int) > 2304) = false) :: (cRq fG2 [.agg [.list 1 fs, iN 0]] (dqH1 fs 0) = some (.tuple [w16 a, .agg [.list 1 fs, iN 2], iN 0], dqH1 fs 0, none)) :: (cRq fG2 [.agg [.list 1 fs, iN 2]] (dqH1 fs 2) = some (.tuple [w16 b, .agg [.list 1 fs, iN 4], iN 0], dqH1 fs 2, none)) :: (cRq fTk [.agg [.list 1 fs, iN 4], iN 6] (dqT fs a b) = some (.tuple [.list 1 [], .agg [.list 1 [], iN 0], iN 10], dqT fs a b, none)) :: (cRq fTk [.agg [.list 1 fs, iN 4], iN 6] (dqT fs a b) = some (.tuple [.list 1 [], .agg [.list 1 [], iN 0], iN 10], dqT fs a b, none)) :: []) := by kernel_rfl
set_option maxRecDepth 1000000 in
theorem dqOt (fs rs es : List (List DV)) (a b : Nat) (o0 o1 o2 o3 o4 o5 : UInt8) : zflat (zans Try.prog tab ftab cRq fDAq [.list 1 fs, .bool true] [(10, .c [(10, .b false)]), (14, .c [(4, .c [(20, .c [(6, .q (.tuple [w16 a, .agg [.list 1 fs, iN 2], iN 0]))])])]), (16, .c [(4, .c [(20, .c [(6, .q (.tuple [w16 b, .agg [.list 1 fs, iN 4], iN 0]))])])]), (22, .c [(7, .c [(20, .c [(8, .q (.tuple [.list 1 [[i8 o0], [i8 o1], [i8 o2], [i8 o3], [i8 o4], [i8 o5]], .agg [.list 1 fs, iN 10], iN 0]))])])]), (25, .c [(21, .n (.list 1 rs)), (22, .q (.tuple [.list 4 es, iN 0]))])]) = some (.tuple [.agg [w16 a, w16 b, i8 o0, i8 o1, i8 o2, i8 o3, i8 o4, i8 o5, .list 4 es], iN 0], (decide ((fs.length : Int) > 2304) = false) :: (cRq fG2 [.agg [.list 1 fs, iN 0]] (dqH1 fs 0) = some (.tuple [w16 a, .agg [.list 1 fs, iN 2], iN 0], dqH1 fs 0, none)) :: (cRq fG2 [.agg [.list 1 fs, iN 2]] (dqH1 fs 2) = some (.tuple [w16 b, .agg [.list 1 fs, iN 4], iN 0], dqH1 fs 2, none)) :: (cRq fTk [.agg [.list 1 fs, iN 4], iN 6] (dqT fs a b) = some (.tuple [.list 1 [[i8 o0], [i8 o1], [i8 o2], [i8 o3], [i8 o4], [i8 o5]], .agg [.list 1 fs, iN 10], iN 0], dqT fs a b, none)) :: (cRq fTk [.agg [.list 1 fs, iN 4], iN 6] (dqT fs a b) = some (.tuple [.list 1 [[i8 o0], [i8 o1], [i8 o2], [i8 o3], [i8 o4], [i8 o5]], .agg [.list 1 fs, iN 10], iN 0], dqT fs a b, none)) :: (sliceD tab (dqET fs a b 10 o0 o1 o2 o3 o4 o5) bTI (.list 1 fs) (some (iN 10)) none none = some (.list 1 rs)) :: (cRq fDe [.list 1 rs] (dqET fs a b 10 o0 o1 o2 o3 o4 o5) = some (.tuple [.list 4 es, iN 0], (dqET fs a b 10 o0 o1 o2 o3 o4 o5), none)) :: []) := by kernel_rfl
set_option maxRecDepth 1000000 in
theorem dqEt (fs rs es : List (List DV)) (a b : Nat) (o0 o1 o2 o3 o4 o5 : UInt8) (e : Nat) : zflat (zans Try.prog tab ftab cRq fDAq [.list 1 fs, .bool true] [(10, .c [(10, .b false)]), (14, .c [(4, .c [(20, .c [(6, .q (.tuple [w16 a, .agg [.list 1 fs, iN 2], iN 0]))])])]), (16, .c [(4, .c [(20, .c [(6, .q (.tuple [w16 b, .agg [.list 1 fs, iN 4], iN 0]))])])]), (22, .c [(7, .c [(20, .c [(8, .q (.tuple [.list 1 [[i8 o0], [i8 o1], [i8 o2], [i8 o3], [i8 o4], [i8 o5]], .agg [.list 1 fs, iN 10], iN 0]))])])]), (25, .c [(21, .n (.list 1 rs)), (22, .q (.tuple [.list 4 es, iN e]))]), (29, .c [(11, .b true)])]) = some (.tuple [.agg [.int .u16 0, .int .u16 0, .int .u8 0, .int .u8 0, .int .u8 0, .int .u8 0, .int .u8 0, .int .u8 0, .nil], iN e], (decide ((fs.length : Int) > 2304) = false) :: (cRq fG2 [.agg [.list 1 fs, iN 0]] (dqH1 fs 0) = some (.tuple [w16 a, .agg [.list 1 fs, iN 2], iN 0], dqH1 fs 0, none)) :: (cRq fG2 [.agg [.list 1 fs, iN 2]] (dqH1 fs 2) = some (.tuple [w16 b, .agg [.list 1 fs, iN 4], iN 0], dqH1 fs 2, none)) :: (cRq fTk [.agg [.list 1 fs, iN 4], iN 6] (dqT fs a b) = some (.tuple [.list 1 [[i8 o0], [i8 o1], [i8 o2], [i8 o3], [i8 o4], [i8 o5]], .agg [.list 1 fs, iN 10], iN 0], dqT fs a b, none)) :: (cRq fTk [.agg [.list 1 fs, iN 4], iN 6] (dqT fs a b) = some (.tuple [.list 1 [[i8 o0], [i8 o1], [i8 o2], [i8 o3], [i8 o4], [i8 o5]], .agg [.list 1 fs, iN 10], iN 0], dqT fs a b, none)) :: (sliceD tab (dqET fs a b 10 o0 o1 o2 o3 o4 o5) bTI (.list 1 fs) (some (iN 10)) none none = some (.list 1 rs)) :: (cRq fDe [.list 1 rs] (dqET fs a b 10 o0 o1 o2 o3 o4 o5) = some (.tuple [.list 4 es, iN e], (dqET fs a b 10 o0 o1 o2 o3 o4 o5), none)) :: (((e : Int) != 0) = true) :: []) := by kernel_rfl
set_option maxRecDepth 1000000 in
theorem dq1f (fs : List (List DV)) : zflat (zans Try.prog tab ftab cRq fDAq [.list 1 fs, .bool false] [(10, .c [(10, .b true)])]) = some (.tuple [.agg [.int .u16 0, .int .u16 0, .int .u8 0, .int .u8 0, .int .u8 0, .int .u8 0, .int .u8 0, .int .u8 0, .nil], iN 11], (decide ((fs.length : Int) > 2304) = true) :: []) := by kernel_rfl
set_option maxRecDepth 1000000 in
theorem dqn0f (fs : List (List DV)) : zflat (zans Try.prog tab ftab cRq fDAq [.list 1 fs, .bool false] [(10, .c [(10, .b false)]), (14, .c [(4, .c [(20, .c [(6, .q (.tuple [w16 0, .agg [.list 1 [], iN 0], iN 10]))])])])]) = some (.tuple [.agg [.int .u16 0, .int .u16 0, .int .u8 0, .int .u8 0, .int .u8 0, .int .u8 0, .int .u8 0, .int .u8 0, .nil], iN 10], (decide ((fs.length : Int) > 2304) = false) :: (cRq fG2 [.agg [.list 1 fs, iN 0]] (dqH1 fs 0) = some (.tuple [w16 0, .agg [.list 1 [], iN 0], iN 10], dqH1 fs 0, none)) :: []) := by kernel_rfl
set_option maxRecDepth 1000000 in
theorem dqn1f (fs : List (List DV)) (a : Nat) : zflat (zans Try.prog tab ftab cRq fDAq [.list 1 fs, .bool false] [(10, .c [(10, .b false)]), (14, .c [(4, .c [(20, .c [(6, .q (.tuple [w16 a, .agg [.list 1 fs, iN 2], iN 0]))])])]), (16, .c [(4, .c [(20, .c [(6, .q (.tuple [w16 0, .agg [.list 1 [], iN 0], iN 10]))])])])]) = some (.tuple [.agg [.int .u16 0, .int .u16 0, .int .u8 0, .int .u8 0, .int .u8 0, .int .u8 0, .int .u8 0, .int .u8 0, .nil], iN 10], (decide ((fs.length : Int) > 2304) = false) :: (cRq fG2 [.agg [.list 1 fs, iN 0]] (dqH1 fs 0) = some (.tuple [w16 a, .agg [.list 1 fs, iN 2], iN 0], dqH1 fs 0, none)) :: (cRq fG2 [.agg [.list 1 fs, iN 2]] (dqH1 fs 2) = some (.tuple [w16 0, .agg [.list 1 [], iN 0], iN 10], dqH1 fs 2, none)) :: []) := by kernel_rfl
set_option maxRecDepth 1000000 in
theorem dqOf (fs rs es : List (List DV)) (a b : Nat) : zflat (zans Try.prog tab ftab cRq fDAq [.list 1 fs, .bool false] [(10, .c [(10, .b false)]), (14, .c [(4, .c [(20, .c [(6, .q (.tuple [w16 a, .agg [.list 1 fs, iN 2], iN 0]))])])]), (16, .c [(4, .c [(20, .c [(6, .q (.tuple [w16 b, .agg [.list 1 fs, iN 4], iN 0]))])])]), (25, .c [(21, .n (.list 1 rs)), (22, .q (.tuple [.list 4 es, iN 0]))])]) = some (.tuple [.agg [w16 a, w16 b, .int .u8 0, .int .u8 0, .int .u8 0, .int .u8 0, .int .u8 0, .int .u8 0, .list 4 es], iN 0], (decide ((fs.length : Int) > 2304) = false) :: (cRq fG2 [.agg [.list 1 fs, iN 0]] (dqH1 fs 0) = some (.tuple [w16 a, .agg [.list 1 fs, iN 2], iN 0], dqH1 fs 0, none)) :: (cRq fG2 [.agg [.list 1 fs, iN 2]] (dqH1 fs 2) = some (.tuple [w16 b, .agg [.list 1 fs, iN 4], iN 0], dqH1 fs 2, none)) :: (sliceD tab (dqEh fs a b 4 0 0 0 0 0 0) bTI (.list 1 fs) (some (iN 4)) none none = some (.list 1 rs)) :: (cRq fDe [.list 1 rs] (dqEh fs a b 4 0 0 0 0 0 0) = some (.tuple [.list 4 es, iN 0], (dqEh fs a b 4 0 0 0 0 0 0), none)) :: []) := by kernel_rfl
set_option maxRecDepth 1000000 in
theorem dqEf (fs rs es : List (List DV)) (a b : Nat) (e : Nat) : zflat (zans Try.prog tab ftab cRq fDAq [.list 1 fs, .bool false] [(10, .c [(10, .b false)]), (14, .c [(4, .c [(20, .c [(6, .q (.tuple [w16 a, .agg [.list 1 fs, iN 2], iN 0]))])])]), (16, .c [(4, .c [(20, .c [(6, .q (.tuple [w16 b, .agg [.list 1 fs, iN 4], iN 0]))])])]), (25, .c [(21, .n (.list 1 rs)), (22, .q (.tuple [.list 4 es, iN e]))]), (29, .c [(11, .b true)])]) = some (.tuple [.agg [.int .u16 0, .int .u16 0, .int .u8 0, .int .u8 0, .int .u8 0, .int .u8 0, .int .u8 0, .int .u8 0, .nil], iN e], (decide ((fs.length : Int) > 2304) = false) :: (cRq fG2 [.agg [.list 1 fs, iN 0]] (dqH1 fs 0) = some (.tuple [w16 a, .agg [.list 1 fs, iN 2], iN 0], dqH1 fs 0, none)) :: (cRq fG2 [.agg [.list 1 fs, iN 2]] (dqH1 fs 2) = some (.tuple [w16 b, .agg [.list 1 fs, iN 4], iN 0], dqH1 fs 2, none)) :: (sliceD tab (dqEh fs a b 4 0 0 0 0 0 0) bTI (.list 1 fs) (some (iN 4)) none none = some (.list 1 rs)) :: (cRq fDe [.list 1 rs] (dqEh fs a b 4 0 0 0 0 0 0) = some (.tuple [.list 4 es, iN e], (dqEh fs a b 4 0 0 0 0 0 0), none)) :: (((e : Int) != 0) = true) :: []) := by kernel_rfl
theorem cRq_tk (b : Bs) (x n : Int) (hp : Hp) : cRq fTk [rd b.1 x, .int .i64 n] hp = some (d3 b.1 x n, hp, none) := orK_left (cTk_at hp (b, x, n))
theorem q2_ok (hp : Hp) (b : Bs) (x : Nat) (h : x + 2 ≤ b.1.length) : cRq fG2 [.agg [byL b.1, iN x]] hp = some (.tuple [w16 (g16 b.1 x), .agg [byL b.1, iN (x + 2)], iN 0], hp, none) := orK_right (lift_oth (eqC_other (by kernel_rfl))) (g2_ok hp b x h)
theorem q2_no (hp : Hp) (b : Bs) (x : Nat) (h1 : x ≤ b.1.length) (h : ¬ x + 2 ≤ b.1.length) : cRq fG2 [.agg [byL b.1, iN x]] hp = some (.tuple [w16 0, .agg [.list 1 [], iN 0], iN 10], hp, none) := orK_right (lift_oth (eqC_other (by kernel_rfl))) (g2_no hp b x h1 h)
theorem q_d (hp : Hp) (b : List UInt8) (h : b.length ≤ 2 ^ 29) : cRq fDe [byL b] hp = some (deD b, hp, none) := orK_right (lift_oth (eqC_other (by kernel_rfl))) (cRd_d hp b h)
/-- a request out of bytes -/
def rqB (b : List UInt8) : Bool → Rq
  | true => ⟨g16 b 0, g16 b 2, b.getD 4 0, b.getD 5 0, b.getD 6 0, b.getD 7 0, b.getD 8 0, b.getD 9 0, deL (b.drop 10)⟩
  | false => ⟨g16 b 0, g16 b 2, 0, 0, 0, 0, 0, 0, deL (b.drop 4)⟩
def rqN : Bool → Nat
  | true => 10
  | false => 4
def dqD (b : List UInt8) (ag : Bool) : DV := match Nat.ble b.length 2304, Nat.ble (rqN ag) b.length with
  | false, _ => .tuple [.agg [.int .u16 0, .int .u16 0, .int .u8 0, .int .u8 0, .int .u8 0, .int .u8 0, .int .u8 0, .int .u8 0, .nil], iN 11]
  | true, false => .tuple [.agg [.int .u16 0, .int .u16 0, .int .u8 0, .int .u8 0, .int .u8 0, .int .u8 0, .int .u8 0, .int .u8 0, .nil], iN 10]
  | true, true => match deE (b.drop (rqN ag)) with
    | 0 => .tuple [rqD (rqB b ag), iN 0]
    | e => .tuple [.agg [.int .u16 0, .int .u16 0, .int .u8 0, .int .u8 0, .int .u8 0, .int .u8 0, .int .u8 0, .int .u8 0, .nil], iN e]
theorem dq_anst (x : Bs) : Ans Try.prog fDAq [byL x.1, .bool true] (dqD x.1 true) ⟨0, [], []⟩ := by
  obtain ⟨b, hb⟩ := x
  have hl := by1_length b
  show Ans _ _ _ (dqD b true) _
  unfold dqD
  cases h1 : Nat.ble b.length 2304 with
  | false =>
    have hgt : ¬ b.length ≤ 2304 := fun h => by rw [bleT h] at h1; cases h1
    exact zflat_ok tab_ok mixed fun_ok cRq_ok (dq1t (by1 b)) (.cons (decide_eq_true (by omega)) .nil)
  | true =>
    have hle : b.length ≤ 2304 := Nat.le_of_ble_eq_true h1
    have m1 : decide (((by1 b).length : Int) > 2304) = false := decide_eq_false (by omega)
    by_cases c0 : 2 ≤ b.length
    case neg =>
      rw [show Nat.ble (rqN true) b.length = false from bleF (by simp only [rqN]; omega)]
      exact zflat_ok tab_ok mixed fun_ok cRq_ok (dqn0t (by1 b)) (.cons m1 (.cons (q2_no _ ⟨b, hb⟩ 0 (by show _ ≤ b.length; omega) (by show ¬ _ ≤ b.length; omega)) .nil))
    have r0 := q2_ok (dqH1 (by1 b) 0) ⟨b, hb⟩ 0 (by show _ ≤ b.length; omega)
    by_cases c1 : 4 ≤ b.length
    case neg =>
      rw [show Nat.ble (rqN true) b.length = false from bleF (by simp only [rqN]; omega)]
      exact zflat_ok tab_ok mixed fun_ok cRq_ok (dqn1t (by1 b) (g16 b 0)) (.cons m1 (.cons r0 (.cons (q2_no _ ⟨b, hb⟩ 2 (by show _ ≤ b.length; omega) (by show ¬ _ ≤ b.length; omega)) .nil)))
    have r1 := q2_ok (dqH1 (by1 b) 2) ⟨b, hb⟩ 2 (by show _ ≤ b.length; omega)
    by_cases c2 : 10 ≤ b.length
    case neg =>
      rw [show Nat.ble (rqN true) b.length = false from bleF (by simp only [rqN]; omega)]
      exact zflat_ok tab_ok mixed fun_ok cRq_ok (dqn2t (by1 b) (g16 b 0) (g16 b 2)) (.cons m1 (.cons r0 (.cons r1 (.cons (tk_no cRq_tk _ ⟨b, hb⟩ 4 6 (by show _ ≤ b.length; omega) (by show ¬ _ ≤ b.length; omega)) (.cons (tk_no cRq_tk _ ⟨b, hb⟩ 4 6 (by show _ ≤ b.length; omega) (by show ¬ _ ≤ b.length; omega)) .nil)))))
    have t := tk_ok cRq_tk (dqT (by1 b) (g16 b 0) (g16 b 2)) ⟨b, hb⟩ 4 6 (by show _ ≤ b.length; omega)
    have ht : (b.drop 4).take 6 = [b.getD 4 0, b.getD 5 0, b.getD 6 0, b.getD 7 0, b.getD 8 0, b.getD 9 0] := by
      match b, c2 with
      | _ :: _ :: _ :: _ :: _ :: _ :: _ :: _ :: _ :: _ :: _, _ => rfl
    rw [ht] at t
    have d := q_d (dqET (by1 b) (g16 b 0) (g16 b 2) 10 (b.getD 4 0) (b.getD 5 0) (b.getD 6 0) (b.getD 7 0) (b.getD 8 0) (b.getD 9 0)) (b.drop 10) (by rw [List.length_drop]; omega)
    unfold deD at d
    rw [show Nat.ble (rqN true) b.length = true from bleT (by simp only [rqN]; omega)]
    show Ans _ _ _ (match deE (b.drop 10) with | 0 => _ | e => _) _
    cases he : deE (b.drop 10) with
    | zero =>
      rw [he] at d
      exact zflat_ok tab_ok mixed fun_ok cRq_ok (dqOt (by1 b) (by1 (b.drop 10)) (elR (deL (b.drop 10))) (g16 b 0) (g16 b 2) (b.getD 4 0) (b.getD 5 0) (b.getD 6 0) (b.getD 7 0) (b.getD 8 0) (b.getD 9 0)) (.cons m1 (.cons r0 (.cons r1 (.cons t (.cons t (.cons (sl_from _ b 10 (by omega)) (.cons d .nil)))))))
    | succ e =>
      rw [he] at d
      exact zflat_ok tab_ok mixed fun_ok cRq_ok (dqEt (by1 b) (by1 (b.drop 10)) (elR (deL (b.drop 10))) (g16 b 0) (g16 b 2) (b.getD 4 0) (b.getD 5 0) (b.getD 6 0) (b.getD 7 0) (b.getD 8 0) (b.getD 9 0) (e + 1)) (.cons m1 (.cons r0 (.cons r1 (.cons t (.cons t (.cons (sl_from _ b 10 (by omega)) (.cons d (.cons (bne_iff_ne.2 (by omega)) .nil))))))))
theorem dq_ansf (x : Bs) : Ans Try.prog fDAq [byL x.1, .bool false] (dqD x.1 false) ⟨0, [], []⟩ := by
  obtain ⟨b, hb⟩ := x
  have hl := by1_length b
  show Ans _ _ _ (dqD b false) _
  unfold dqD
  cases h1 : Nat.ble b.length 2304 with
  | false =>
    have hgt : ¬ b.length ≤ 2304 := fun h => by rw [bleT h] at h1; cases h1
    exact zflat_ok tab_ok mixed fun_ok cRq_ok (dq1f (by1 b)) (.cons (decide_eq_true (by omega)) .nil)
  | true =>
    have hle : b.length ≤ 2304 := Nat.le_of_ble_eq_true h1
    have m1 : decide (((by1 b).length : Int) > 2304) = false := decide_eq_false (by omega)
    by_cases c0 : 2 ≤ b.length
    case neg =>
      rw [show Nat.ble (rqN false) b.length = false from bleF (by simp only [rqN]; omega)]
      exact zflat_ok tab_ok mixed fun_ok cRq_ok (dqn0f (by1 b)) (.cons m1 (.cons (q2_no _ ⟨b, hb⟩ 0 (by show _ ≤ b.length; omega) (by show ¬ _ ≤ b.length; omega)) .nil))
    have r0 := q2_ok (dqH1 (by1 b) 0) ⟨b, hb⟩ 0 (by show _ ≤ b.length; omega)
    by_cases c1 : 4 ≤ b.length
    case neg =>
      rw [show Nat.ble (rqN false) b.length = false from bleF (by simp only [rqN]; omega)]
      exact zflat_ok tab_ok mixed fun_ok cRq_ok (dqn1f (by1 b) (g16 b 0)) (.cons m1 (.cons r0 (.cons (q2_no _ ⟨b, hb⟩ 2 (by show _ ≤ b.length; omega) (by show ¬ _ ≤ b.length; omega)) .nil)))
    have r1 := q2_ok (dqH1 (by1 b) 2) ⟨b, hb⟩ 2 (by show _ ≤ b.length; omega)
    have d := q_d (dqEh (by1 b) (g16 b 0) (g16 b 2) 4 0 0 0 0 0 0) (b.drop 4) (by rw [List.length_drop]; omega)
    unfold deD at d
    rw [show Nat.ble (rqN false) b.length = true from bleT (by simp only [rqN]; omega)]
    show Ans _ _ _ (match deE (b.drop 4) with | 0 => _ | e => _) _
    cases he : deE (b.drop 4) with
    | zero =>
      rw [he] at d
      exact zflat_ok tab_ok mixed fun_ok cRq_ok (dqOf (by1 b) (by1 (b.drop 4)) (elR (deL (b.drop 4))) (g16 b 0) (g16 b 2)) (.cons m1 (.cons r0 (.cons r1 (.cons (sl_from _ b 4 (by omega)) (.cons d .nil)))))
    | succ e =>
      rw [he] at d
      exact zflat_ok tab_ok mixed fun_ok cRq_ok (dqEf (by1 b) (by1 (b.drop 4)) (elR (deL (b.drop 4))) (g16 b 0) (g16 b 2) (e + 1)) (.cons m1 (.cons r0 (.cons r1 (.cons (sl_from _ b 4 (by omega)) (.cons d (.cons (bne_iff_ne.2 (by omega)) .nil))))))
theorem dqD_flat (b : List UInt8) (ag : Bool) : flatD (dqD b ag) = true := by
  unfold dqD
  repeat' split
  all_goals rfl
def cDAq : ConF := liftC (eqC fDAq (fun x : Bs × Bool => [byL x.1.1, .bool x.2]) fun x => (dqD x.1.1 x.2, ⟨0, [], []⟩))
theorem cDAq_ok : ConOk Try.prog cDAq := liftC_ok (eqC_ok (fun x => by
  obtain ⟨b, ag⟩ := x
  cases ag with
  | true => exact dq_anst b
  | false => exact dq_ansf b) fun _ => rfl)
theorem cDAq_at (hp : Hp) (b : List UInt8) (ag : Bool) (h : b.length < 2 ^ 30) : cDAq fDAq [byL b, .bool ag] hp = some (dqD b ag, hp, none) :=
  lift_at (A := fun x : Bs × Bool => [byL x.1.1, .bool x.2]) (D := fun x => dqD x.1.1 x.2) (fun x y hxy => by
    simp only [List.cons.injEq, and_true, DV.bool.injEq] at hxy
    rw [byL_in hxy.1, hxy.2]) hp (⟨b, h⟩, ag) rfl (dqD_flat b ag)
end
end Go.Proofs.Ytejlbkhddehaiaa
/- What is decoded is encoded again: numbers and elements. -/
namespace Go.Proofs.Ytejlbkhddehaiaa
open Go.RowKit

noncomputable section
theorem u8_eq {n : Nat} {c : UInt8} (h : n % 256 = c.toNat) : UInt8.ofNat (n % 256) = c := by
  refine UInt8.toNat_inj.1 ?_
  rw [UInt8.toNat_ofNat_of_lt' (Nat.mod_lt _ (by decide))]
  exact h
theorem by2_le (c0 c1 : UInt8) : by2 (leN [c0, c1]) = [c0, c1] := by
  have h0 := UInt8.toNat_lt c0
  have h1 := UInt8.toNat_lt c1
  have e : leN [c0, c1] = c0.toNat + 256 * (c1.toNat + 256 * 0) := rfl
  unfold by2
  rw [e, u8_eq (c := c0) (by omega), u8_eq (c := c1) (by omega)]
theorem by2_take {b : List UInt8} {x : Nat} (h : x + 2 ≤ b.length) : by2 (g16 b x) = (b.drop x).take 2 := by
  have hl : ((b.drop x).take 2).length = 2 := by rw [List.length_take, List.length_drop]; omega
  unfold g16
  generalize (b.drop x).take 2 = l at *
  match l, hl with
  | [c0, c1], _ => exact by2_le c0 c1
theorem by8_le (c0 c1 c2 c3 c4 c5 c6 c7 : UInt8) : by8 (leN [c0, c1, c2, c3, c4, c5, c6, c7]) = [c0, c1, c2, c3, c4, c5, c6, c7] := by
  have h0 := UInt8.toNat_lt c0
  have h1 := UInt8.toNat_lt c1
  have h2 := UInt8.toNat_lt c2
  have h3 := UInt8.toNat_lt c3
  have h4 := UInt8.toNat_lt c4
  have h5 := UInt8.toNat_lt c5
  have h6 := UInt8.toNat_lt c6
  have h7 := UInt8.toNat_lt c7
  have e : leN [c0, c1, c2, c3, c4, c5, c6, c7] = c0.toNat + 256 * (c1.toNat + 256 * (c2.toNat + 256 * (c3.toNat + 256 * (c4.toNat + 256 * (c5.toNat + 256 * (c6.toNat + 256 * (c7.toNat + 256 * 0))))))) := rfl
  unfold by8
  rw [e, u8_eq (c := c0) (by omega), u8_eq (c := c1) (by omega), u8_eq (c := c2) (by omega), u8_eq (c := c3) (by omega), u8_eq (c := c4) (by omega), u8_eq (c := c5) (by omega), u8_eq (c := c6) (by omega), u8_eq (c := c7) (by omega)]
theorem by8_take {b : List UInt8} {x : Nat} (h : x + 8 ≤ b.length) : by8 (g64 b x) = (b.drop x).take 8 := by
  have hl : ((b.drop x).take 8).length = 8 := by rw [List.length_take, List.length_drop]; omega
  unfold g64
  generalize (b.drop x).take 8 = l at *
  match l, hl with
  | [c0, c1, c2, c3, c4, c5, c6, c7], _ => exact by8_le c0 c1 c2 c3 c4 c5 c6 c7
theorem take_two (b : List UInt8) (x k m : Nat) : (b.drop x).take k ++ (b.drop (x + k)).take m = (b.drop x).take (k + m) := by
  rw [← List.drop_drop, List.take_add]
theorem wi_back {b f : List UInt8} {k : Nat} (hb : b.length ≤ 2304) (_hk : k ≤ b.length) (hf : f = b.take k) (h : deE (b.drop k) = 0) : wiD f (deL (b.drop k)) = .tuple [byL b, iN 0] ∧ SmL (deL (b.drop k)) ∧ depA (deL (b.drop k)) ≤ 2 ^ 39 := by
  obtain ⟨e1, e2⟩ := en_de h
  refine ⟨?_, good_sm e2⟩
  have hfl : f ++ encA (deL (b.drop k)) = b := by rw [hf, ← e1, List.take_append_drop]
  have hl : f.length + (encA (deL (b.drop k))).length = b.length := by rw [← List.length_append, hfl]
  unfold wiD
  rw [e2, hl, bleT hb, hfl]
  rfl
/-! ### Empty fields, seen as lists -/
def nl1 (s : Nat) : DV → DV
  | .nil => .list s []
  | d => d
def nlD (s : Nat) : DV → DV
  | .tuple [.agg cs, x] => .tuple [.agg (cs.map (nl1 s)), x]
  | d => d
theorem seeL_map (s : Nat) (w : World) (E : Env) : ∀ cs : List DV, SeeL w E E cs (cs.map (nl1 s))
  | [] => trivial
  | d :: r => ⟨fun _ h => by cases d <;> first | exact vr_nl h | exact h, seeL_map s w E r⟩
theorem Ans.nlD {P : Program} {f : FuncId} {args : List DV} {d : DV} (s : Nat) (h : Ans P f args d ⟨0, [], []⟩) : Ans P f args (nlD s d) ⟨0, [], []⟩ := by
  unfold Go.Proofs.Ytejlbkhddehaiaa.nlD
  split
  · rename_i cs x
    exact h.seeH rfl fun _ _ E w _ hs hv => ⟨E, fun _ h => h, yb_none hs.ys rfl, rfl, hs, see_tuple (w := w) (E := E) (E' := E) (ds := [.agg cs, x]) (bs := [.agg (cs.map (nl1 s)), x]) ⟨fun _ h => see_agg (seeL_map s w E cs) h, fun _ h => h, trivial⟩ hv⟩
  · exact h
end
end Go.Proofs.Ytejlbkhddehaiaa
