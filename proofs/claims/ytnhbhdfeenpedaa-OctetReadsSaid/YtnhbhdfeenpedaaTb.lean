/- Addresses as the reference sees them: Format, Match. -/
import Derived.Test.YtnhbhdfeenpedaaTa
namespace Go.Proofs.Ytnhbhdfeenpedaa
open Go.RowKit

noncomputable section
/-- a table whose calls are carried out -/
theorem eqC_call {P : Program} {T : Tab} {F : FTab} {C : CallF} (hT : TabOk P T) (hmix : P.follows .mixedOrders = true) (hF : FunOk P T F) (hC : CallOk P C) {α : Type} {f0 : FuncId} {A : α → List DV} {B : α → DV × Hp} {n : Nat} (h : ∀ x, callE T F C (exec T F C n) f0 (A x) ⟨0, []⟩ = some ((B x).1, (B x).2, none)) : CallOk P (eqC f0 A B) :=
  grow_ok hT hmix hF hC fun f args hp r heq => by
    unfold eqC at heq
    split at heq
    · rename_i hb
      have hb := Nat.eq_of_beq_eq_true hb
      subst hb
      by_cases hex : ∃ x, args = A x ∧ hp = ⟨0, []⟩
      · have key : ∀ y, args = A y ∧ hp = ⟨0, []⟩ → callE T F C (exec T F C n) f args hp = some ((B y).1, (B y).2, none) := by
          rintro y ⟨rfl, rfl⟩
          exact h y
        rw [dif_pos hex] at heq
        cases heq
        exact .inr ⟨n, key _ hex.choose_spec⟩
      · rw [dif_neg hex] at heq
        cases heq
    · cases heq
theorem lift_at {α : Type} {f0 : FuncId} {A : α → List DV} {D : α → DV} (hinj : ∀ x y, A x = A y → D x = D y) (hp : Hp) (x : α) (ha : flats2 (A x) = true) (hd : flatD (D x) = true) : liftC (eqC f0 A fun x => (D x, ⟨0, []⟩)) f0 (A x) hp = some (D x, hp, none) := by
  unfold liftC
  rw [ha, eqC_at (fun x y h => by rw [hinj x y h]) x]
  simp only [liftR, hd]
/-! ### Format -/
def byt (n : Nat) : List Int := [((n / 1099511627776 % 256 : Nat) : Int), ((n / 4294967296 % 256 : Nat) : Int), ((n / 16777216 % 256 : Nat) : Int), ((n / 65536 % 256 : Nat) : Int), ((n / 256 % 256 : Nat) : Int), ((n % 256 : Nat) : Int)]
def fmtN (n : Nat) : DV := .str (fmtS (byt n))
theorem fm_run (x : Adr) : callE tab ftab noC (exec tab ftab noC 200) 55 [aD x.1] ⟨0, []⟩ = some (fmtN x.1, ⟨0, []⟩, none) :=
  qcall_ok (fmt_path _ _ _ _ _ _) (.cons (byteF (Nat.mod_lt _ (by decide) : x.1 / 1099511627776 % 256 < 256)).h6 (.cons (byteF (Nat.mod_lt _ (by decide) : x.1 / 1099511627776 % 256 < 256)).h7 (.cons (byteF (Nat.mod_lt _ (by decide) : x.1 / 4294967296 % 256 < 256)).h6 (.cons (byteF (Nat.mod_lt _ (by decide) : x.1 / 4294967296 % 256 < 256)).h7 (.cons (byteF (Nat.mod_lt _ (by decide) : x.1 / 16777216 % 256 < 256)).h6 (.cons (byteF (Nat.mod_lt _ (by decide) : x.1 / 16777216 % 256 < 256)).h7 (.cons (byteF (Nat.mod_lt _ (by decide) : x.1 / 65536 % 256 < 256)).h6 (.cons (byteF (Nat.mod_lt _ (by decide) : x.1 / 65536 % 256 < 256)).h7 (.cons (byteF (Nat.mod_lt _ (by decide) : x.1 / 256 % 256 < 256)).h6 (.cons (byteF (Nat.mod_lt _ (by decide) : x.1 / 256 % 256 < 256)).h7 (.cons (byteF (Nat.mod_lt _ (by decide) : x.1 % 256 < 256)).h6 (.cons (byteF (Nat.mod_lt _ (by decide) : x.1 % 256 < 256)).h7 .nil))))))))))))
def cFm : CallF := liftC (eqC 55 (fun x : Adr => [aD x.1]) fun x => (fmtN x.1, ⟨0, []⟩))
theorem cFm_ok : CallOk Try.prog cFm := liftC_ok (eqC_call tab_ok mixed fun_ok noC_ok fm_run)
theorem cFm_at (hp : Hp) (x : Adr) : cFm 55 [aD x.1] hp = some (fmtN x.1, hp, none) :=
  lift_at (A := fun x : Adr => [aD x.1]) (D := fun x => fmtN x.1) (fun x y hxy => by
    simp only [List.cons.injEq, and_true] at hxy
    rw [aD_inj hxy]) hp x rfl rfl
def slS (h : Hp) (lo hi : Int) : Option DV := match tab 9 with
  | some i => sliceD tab h i (.str hexS) (some (.int .u8 lo)) (some (.int .u8 hi)) none
  | none => none
def isS (b : UInt8) : Option DV → Bool
  | some (.str s) => eqBytes s.data.toList [b]
  | _ => false
theorem isS_eq {b : UInt8} {d : Option DV} (h : isS b d = true) : d = some (.str ⟨#[b]⟩) := by
  unfold isS at h
  split at h
  · rename_i s
    obtain ⟨⟨l⟩⟩ := s
    rw [eqBytes_eq, beq_iff_eq] at h
    simp only at h
    rw [h]
  · cases h
def fmC (n : Nat) : Bool := isS (hi (n : Int)) (slS ⟨0, []⟩ (quoD .u8 (n : Int) 16) (IntKind.u8.wrap (quoD .u8 (n : Int) 16 + 1))) && isS (lo (n : Int)) (slS ⟨0, []⟩ ((n : Int).tmod 16) (IntKind.u8.wrap ((n : Int).tmod 16 + 1)))
set_option maxRecDepth 100000 in
theorem fmC_all : (List.range 256).all fmC = true := by kernel_rfl
theorem slS_hp (h : Hp) (lo hi : Int) : slS h lo hi = slS ⟨0, []⟩ lo hi := by kernel_rfl
theorem sl_hi (h : Hp) {n : Nat} (hn : n < 256) : slS h (quoD .u8 (n : Int) 16) (IntKind.u8.wrap (quoD .u8 (n : Int) 16 + 1)) = some (.str ⟨#[hi (n : Int)]⟩) := by
  have q := all_at fmC_all hn
  simp only [fmC, Bool.and_eq_true] at q
  rw [slS_hp]
  exact isS_eq q.1
theorem sl_lo (h : Hp) {n : Nat} (hn : n < 256) : slS h ((n : Int).tmod 16) (IntKind.u8.wrap ((n : Int).tmod 16 + 1)) = some (.str ⟨#[lo (n : Int)]⟩) := by
  have q := all_at fmC_all hn
  simp only [fmC, Bool.and_eq_true] at q
  rw [slS_hp]
  exact isS_eq q.2
set_option maxRecDepth 1000000 in
theorem rfmt (n : Nat) (h0 h1 h2 h3 h4 h5 l0 l1 l2 l3 l4 l5 : UInt8) : zflat (zans Try.prog tab ftab noC 59 [aD n] [(23, .n (.str ⟨#[h0]⟩)), (34, .n (.str ⟨#[l0]⟩)), (23, .n (.str ⟨#[h1]⟩)), (34, .n (.str ⟨#[l1]⟩)), (23, .n (.str ⟨#[h2]⟩)), (34, .n (.str ⟨#[l2]⟩)), (23, .n (.str ⟨#[h3]⟩)), (34, .n (.str ⟨#[l3]⟩)), (23, .n (.str ⟨#[h4]⟩)), (34, .n (.str ⟨#[l4]⟩)), (23, .n (.str ⟨#[h5]⟩)), (34, .n (.str ⟨#[l5]⟩))]) =
    some (.str ⟨#[h0, l0, 58, h1, l1, 58, h2, l2, 58, h3, l3, 58, h4, l4, 58, h5, l5]⟩, [slS ⟨1, [⟨0, 0, 77, aC n⟩]⟩ (quoD .u8 ((n / 1099511627776 % 256 : Nat) : Int) 16) (IntKind.u8.wrap (quoD .u8 ((n / 1099511627776 % 256 : Nat) : Int) 16 + 1)) = some (.str ⟨#[h0]⟩), slS ⟨1, [⟨0, 0, 77, aC n⟩]⟩ (((n / 1099511627776 % 256 : Nat) : Int).tmod 16) (IntKind.u8.wrap (((n / 1099511627776 % 256 : Nat) : Int).tmod 16 + 1)) = some (.str ⟨#[l0]⟩), slS ⟨1, [⟨0, 0, 77, aC n⟩]⟩ (quoD .u8 ((n / 4294967296 % 256 : Nat) : Int) 16) (IntKind.u8.wrap (quoD .u8 ((n / 4294967296 % 256 : Nat) : Int) 16 + 1)) = some (.str ⟨#[h1]⟩), slS ⟨1, [⟨0, 0, 77, aC n⟩]⟩ (((n / 4294967296 % 256 : Nat) : Int).tmod 16) (IntKind.u8.wrap (((n / 4294967296 % 256 : Nat) : Int).tmod 16 + 1)) = some (.str ⟨#[l1]⟩), slS ⟨1, [⟨0, 0, 77, aC n⟩]⟩ (quoD .u8 ((n / 16777216 % 256 : Nat) : Int) 16) (IntKind.u8.wrap (quoD .u8 ((n / 16777216 % 256 : Nat) : Int) 16 + 1)) = some (.str ⟨#[h2]⟩), slS ⟨1, [⟨0, 0, 77, aC n⟩]⟩ (((n / 16777216 % 256 : Nat) : Int).tmod 16) (IntKind.u8.wrap (((n / 16777216 % 256 : Nat) : Int).tmod 16 + 1)) = some (.str ⟨#[l2]⟩), slS ⟨1, [⟨0, 0, 77, aC n⟩]⟩ (quoD .u8 ((n / 65536 % 256 : Nat) : Int) 16) (IntKind.u8.wrap (quoD .u8 ((n / 65536 % 256 : Nat) : Int) 16 + 1)) = some (.str ⟨#[h3]⟩), slS ⟨1, [⟨0, 0, 77, aC n⟩]⟩ (((n / 65536 % 256 : Nat) : Int).tmod 16) (IntKind.u8.wrap (((n / 65536 % 256 : Nat) : Int).tmod 16 + 1)) = some (.str ⟨#[l3]⟩), slS ⟨1, [⟨0, 0, 77, aC n⟩]⟩ (quoD .u8 ((n / 256 % 256 : Nat) : Int) 16) (IntKind.u8.wrap (quoD .u8 ((n / 256 % 256 : Nat) : Int) 16 + 1)) = some (.str ⟨#[h4]⟩), slS ⟨1, [⟨0, 0, 77, aC n⟩]⟩ (((n / 256 % 256 : Nat) : Int).tmod 16) (IntKind.u8.wrap (((n / 256 % 256 : Nat) : Int).tmod 16 + 1)) = some (.str ⟨#[l4]⟩), slS ⟨1, [⟨0, 0, 77, aC n⟩]⟩ (quoD .u8 ((n % 256 : Nat) : Int) 16) (IntKind.u8.wrap (quoD .u8 ((n % 256 : Nat) : Int) 16 + 1)) = some (.str ⟨#[h5]⟩), slS ⟨1, [⟨0, 0, 77, aC n⟩]⟩ (((n % 256 : Nat) : Int).tmod 16) (IntKind.u8.wrap (((n % 256 : Nat) : Int).tmod 16 + 1)) = some (.str ⟨#[l5]⟩)]) := by
  kernel_rfl
theorem ans_cRf (x : Adr) : Ans Try.prog 59 [aD x.1] (fmtN x.1) ⟨0, []⟩ :=
  zflat_ok tab_ok mixed fun_ok noC_ok (rfmt x.1 _ _ _ _ _ _ _ _ _ _ _ _) (.cons (sl_hi _ (Nat.mod_lt _ (by decide) : x.1 / 1099511627776 % 256 < 256)) (.cons (sl_lo _ (Nat.mod_lt _ (by decide) : x.1 / 1099511627776 % 256 < 256)) (.cons (sl_hi _ (Nat.mod_lt _ (by decide) : x.1 / 4294967296 % 256 < 256)) (.cons (sl_lo _ (Nat.mod_lt _ (by decide) : x.1 / 4294967296 % 256 < 256)) (.cons (sl_hi _ (Nat.mod_lt _ (by decide) : x.1 / 16777216 % 256 < 256)) (.cons (sl_lo _ (Nat.mod_lt _ (by decide) : x.1 / 16777216 % 256 < 256)) (.cons (sl_hi _ (Nat.mod_lt _ (by decide) : x.1 / 65536 % 256 < 256)) (.cons (sl_lo _ (Nat.mod_lt _ (by decide) : x.1 / 65536 % 256 < 256)) (.cons (sl_hi _ (Nat.mod_lt _ (by decide) : x.1 / 256 % 256 < 256)) (.cons (sl_lo _ (Nat.mod_lt _ (by decide) : x.1 / 256 % 256 < 256)) (.cons (sl_hi _ (Nat.mod_lt _ (by decide) : x.1 % 256 < 256)) (.cons (sl_lo _ (Nat.mod_lt _ (by decide) : x.1 % 256 < 256)) .nil))))))))))))
def cRf : CallF := conC 59 (fun x : Adr => [aD x.1]) fun x => (fmtN x.1, ⟨0, []⟩)
theorem cRf_ok : CallOk Try.prog cRf := conC_ok ans_cRf fun _ => fine0 rfl
theorem cRf_at (hp : Hp) (x : Adr) : cRf 59 [aD x.1] hp = some (fmtN x.1, hp, none) :=
  conC0_at (f0 := 59) (A := fun x : Adr => [aD x.1]) (D := fun x => fmtN x.1) (fun x y hxy => by
    simp only [List.cons.injEq, and_true] at hxy
    rw [aD_inj hxy]) hp x ⟨frz_aD _ _, trivial⟩ rfl
/-! ### Match -/
def mtB (a b c : Nat) : Bool := Nat.beq ((a ^^^ b) &&& c) 0
theorem cMatch_at (hp : Hp) (a b c : Adr) : cMatch 56 [aD a.1, aD b.1, aD c.1] hp = some (.bool (mtB a.1 b.1 c.1), hp, none) := by
  have e : matchB (byt a.1) (byt b.1) (byt c.1) = mtB a.1 b.1 c.1 := by
    rw [matchB_eq (x := byt a.1) (y := byt b.1) (m := byt c.1) (numL_of a.2) a.2 (numL_of b.2) b.2 (numL_of c.2) c.2, mtB, Bool.eq_iff_iff, decide_eq_true_eq, Nat.beq_eq]
  rw [← e]
  rfl
def bN (n q : Nat) : Nat := n / 2 ^ (8 * (5 - q)) % 256
def bitA (n i : Nat) : Bool := Nat.testBit n (8 * (5 - i / 8) + i % 8)
set_option maxRecDepth 1000000 in
theorem mInn (a b c i k p r p2 : Nat) : zsee Try.prog tab ftab noC (ksF ftab 67) [3, 4, 5, 7, 8, 9] (loopAt (loopAt (bodyOf ftab 67) 0) 0) (mkT 47 [(3, .ptr 0 0), (4, .ptr 1 0), (5, .ptr 2 0), (7, iN i), (8, .int .u8 (p : Int)), (9, iN k)]) ⟨3, [⟨0, 0, 77, aC c⟩, ⟨0, 0, 77, aC b⟩, ⟨0, 0, 77, aC a⟩]⟩ [(16, .w (iN r)), (17, .b true), (21, .w (.int .u8 (p2 : Int))), (19, .w (iN (k + 1)))] =
    some (.normal, (mkT 47 [(3, .ptr 0 0), (4, .ptr 1 0), (5, .ptr 2 0), (7, iN i), (8, .int .u8 (p2 : Int)), (9, iN (k + 1))]), ⟨3, [⟨0, 0, 77, aC c⟩, ⟨0, 0, 77, aC b⟩, ⟨0, 0, 77, aC a⟩]⟩, [DV.int .i64 ((i : Int).tmod 8) = iN r, decide ((k : Int) < (r : Int)) = true, DV.int .u8 (IntKind.u8.wrap ((p : Int) * 2)) = .int .u8 (p2 : Int), DV.int .i64 (IntKind.i64.wrap ((k : Int) + 1)) = iN (k + 1)]) := by
  kernel_rfl
set_option maxRecDepth 1000000 in
theorem mOut (a b c i k p r : Nat) : zsee Try.prog tab ftab noC (ksF ftab 67) [3, 4, 5, 7, 8] (loopAt (loopAt (bodyOf ftab 67) 0) 0) (mkT 47 [(3, .ptr 0 0), (4, .ptr 1 0), (5, .ptr 2 0), (7, iN i), (8, .int .u8 (p : Int)), (9, iN k)]) ⟨3, [⟨0, 0, 77, aC c⟩, ⟨0, 0, 77, aC b⟩, ⟨0, 0, 77, aC a⟩]⟩ [(16, .w (iN r)), (17, .b false)] =
    some (.exit 2, (mkT 47 [(3, .ptr 0 0), (4, .ptr 1 0), (5, .ptr 2 0), (7, iN i), (8, .int .u8 (p : Int))]), ⟨3, [⟨0, 0, 77, aC c⟩, ⟨0, 0, 77, aC b⟩, ⟨0, 0, 77, aC a⟩]⟩, [DV.int .i64 ((i : Int).tmod 8) = iN r, decide ((k : Int) < (r : Int)) = false]) := by
  kernel_rfl
set_option maxRecDepth 1000000 in
theorem mSkip (a b c i p q m m1 : Nat) : zsee Try.prog tab ftab noC (ksF ftab 67) [3, 4, 5, 7] (loopAt (bodyOf ftab 67) 0) (mkT 47 [(3, .ptr 0 0), (4, .ptr 1 0), (5, .ptr 2 0), (7, iN i)]) ⟨3, [⟨0, 0, 77, aC c⟩, ⟨0, 0, 77, aC b⟩, ⟨0, 0, 77, aC a⟩]⟩ [(11, .b true), (0, .l [3, 4, 5, 7, 8, 9] (.exit 2) (mkT 47 [(3, .ptr 0 0), (4, .ptr 1 0), (5, .ptr 2 0), (7, iN i), (8, .int .u8 (p : Int))]) ⟨3, [⟨0, 0, 77, aC c⟩, ⟨0, 0, 77, aC b⟩, ⟨0, 0, 77, aC a⟩]⟩), (23, .w (iN q)), (24, .n (.ptr 2 q)), (25, .n (.int .u8 (m : Int))), (27, .n (.int .u8 (m1 : Int))), (29, .b false), (13, .w (iN (i + 1)))] =
    some (.normal, (mkT 47 [(3, .ptr 0 0), (4, .ptr 1 0), (5, .ptr 2 0), (7, iN (i + 1))]), ⟨3, [⟨0, 0, 77, aC c⟩, ⟨0, 0, 77, aC b⟩, ⟨0, 0, 77, aC a⟩]⟩, [decide ((i : Int) < 48) = true, Goes Try.prog tab (ksF ftab 67) (.loop (loopAt (loopAt (bodyOf ftab 67) 0) 0)) (mkT 47 [(3, .ptr 0 0), (4, .ptr 1 0), (5, .ptr 2 0), (7, iN i), (8, .int .u8 (1 : Int)), (9, iN 0)]) ⟨3, [⟨0, 0, 77, aC c⟩, ⟨0, 0, 77, aC b⟩, ⟨0, 0, 77, aC a⟩]⟩ (.exit 2) (mkT 47 [(3, .ptr 0 0), (4, .ptr 1 0), (5, .ptr 2 0), (7, iN i), (8, .int .u8 (p : Int))]) ⟨3, [⟨0, 0, 77, aC c⟩, ⟨0, 0, 77, aC b⟩, ⟨0, 0, 77, aC a⟩]⟩, DV.int .i64 (quoD .i64 (i : Int) 8) = iN q, idxOk (q : Int) 6 = true, DV.ptr 2 (0 + (q : Int).toNat * 1) = .ptr 2 q, nth (aC c) q = some (.int .u8 (m : Int)), binD tab .quo 5 (.int .u8 (m : Int)) (.int .u8 (p : Int)) = some (.int .u8 (m1 : Int)), ((m1 : Int).tmod 2 == 1) = false, DV.int .i64 (IntKind.i64.wrap ((i : Int) + 1)) = iN (i + 1)]) := by
  kernel_rfl
set_option maxRecDepth 1000000 in
theorem mSame (a b c i p q m m1 x x1 y y1 : Nat) : zsee Try.prog tab ftab noC (ksF ftab 67) [3, 4, 5, 7] (loopAt (bodyOf ftab 67) 0) (mkT 47 [(3, .ptr 0 0), (4, .ptr 1 0), (5, .ptr 2 0), (7, iN i)]) ⟨3, [⟨0, 0, 77, aC c⟩, ⟨0, 0, 77, aC b⟩, ⟨0, 0, 77, aC a⟩]⟩ [(11, .b true), (0, .l [3, 4, 5, 7, 8, 9] (.exit 2) (mkT 47 [(3, .ptr 0 0), (4, .ptr 1 0), (5, .ptr 2 0), (7, iN i), (8, .int .u8 (p : Int))]) ⟨3, [⟨0, 0, 77, aC c⟩, ⟨0, 0, 77, aC b⟩, ⟨0, 0, 77, aC a⟩]⟩), (23, .w (iN q)), (24, .n (.ptr 2 q)), (25, .n (.int .u8 (m : Int))), (27, .n (.int .u8 (m1 : Int))), (29, .b true), (32, .w (iN q)), (33, .n (.ptr 0 q)), (34, .n (.int .u8 (x : Int))), (36, .n (.int .u8 (x1 : Int))), (39, .w (iN q)), (40, .n (.ptr 1 q)), (41, .n (.int .u8 (y : Int))), (43, .n (.int .u8 (y1 : Int))), (45, .b false), (13, .w (iN (i + 1)))] =
    some (.normal, (mkT 47 [(3, .ptr 0 0), (4, .ptr 1 0), (5, .ptr 2 0), (7, iN (i + 1))]), ⟨3, [⟨0, 0, 77, aC c⟩, ⟨0, 0, 77, aC b⟩, ⟨0, 0, 77, aC a⟩]⟩, [decide ((i : Int) < 48) = true, Goes Try.prog tab (ksF ftab 67) (.loop (loopAt (loopAt (bodyOf ftab 67) 0) 0)) (mkT 47 [(3, .ptr 0 0), (4, .ptr 1 0), (5, .ptr 2 0), (7, iN i), (8, .int .u8 (1 : Int)), (9, iN 0)]) ⟨3, [⟨0, 0, 77, aC c⟩, ⟨0, 0, 77, aC b⟩, ⟨0, 0, 77, aC a⟩]⟩ (.exit 2) (mkT 47 [(3, .ptr 0 0), (4, .ptr 1 0), (5, .ptr 2 0), (7, iN i), (8, .int .u8 (p : Int))]) ⟨3, [⟨0, 0, 77, aC c⟩, ⟨0, 0, 77, aC b⟩, ⟨0, 0, 77, aC a⟩]⟩, DV.int .i64 (quoD .i64 (i : Int) 8) = iN q, idxOk (q : Int) 6 = true, DV.ptr 2 (0 + (q : Int).toNat * 1) = .ptr 2 q, nth (aC c) q = some (.int .u8 (m : Int)), binD tab .quo 5 (.int .u8 (m : Int)) (.int .u8 (p : Int)) = some (.int .u8 (m1 : Int)), ((m1 : Int).tmod 2 == 1) = true, DV.int .i64 (quoD .i64 (i : Int) 8) = iN q, idxOk (q : Int) 6 = true, DV.ptr 0 (0 + (q : Int).toNat * 1) = .ptr 0 q, nth (aC a) q = some (.int .u8 (x : Int)), binD tab .quo 5 (.int .u8 (x : Int)) (.int .u8 (p : Int)) = some (.int .u8 (x1 : Int)), DV.int .i64 (quoD .i64 (i : Int) 8) = iN q, idxOk (q : Int) 6 = true, DV.ptr 1 (0 + (q : Int).toNat * 1) = .ptr 1 q, nth (aC b) q = some (.int .u8 (y : Int)), binD tab .quo 5 (.int .u8 (y : Int)) (.int .u8 (p : Int)) = some (.int .u8 (y1 : Int)), (((x1 : Int).tmod 2) != ((y1 : Int).tmod 2)) = false, DV.int .i64 (IntKind.i64.wrap ((i : Int) + 1)) = iN (i + 1)]) := by
  kernel_rfl
set_option maxRecDepth 1000000 in
theorem mStop (a b c i p q m m1 x x1 y y1 : Nat) : zsee Try.prog tab ftab noC (ksF ftab 67) [6] (loopAt (bodyOf ftab 67) 0) (mkT 47 [(3, .ptr 0 0), (4, .ptr 1 0), (5, .ptr 2 0), (7, iN i)]) ⟨3, [⟨0, 0, 77, aC c⟩, ⟨0, 0, 77, aC b⟩, ⟨0, 0, 77, aC a⟩]⟩ [(11, .b true), (0, .l [3, 4, 5, 7, 8, 9] (.exit 2) (mkT 47 [(3, .ptr 0 0), (4, .ptr 1 0), (5, .ptr 2 0), (7, iN i), (8, .int .u8 (p : Int))]) ⟨3, [⟨0, 0, 77, aC c⟩, ⟨0, 0, 77, aC b⟩, ⟨0, 0, 77, aC a⟩]⟩), (23, .w (iN q)), (24, .n (.ptr 2 q)), (25, .n (.int .u8 (m : Int))), (27, .n (.int .u8 (m1 : Int))), (29, .b true), (32, .w (iN q)), (33, .n (.ptr 0 q)), (34, .n (.int .u8 (x : Int))), (36, .n (.int .u8 (x1 : Int))), (39, .w (iN q)), (40, .n (.ptr 1 q)), (41, .n (.int .u8 (y : Int))), (43, .n (.int .u8 (y1 : Int))), (45, .b true)] =
    some (.ret, mkT 47 [(6, .bool false)], ⟨3, [⟨0, 0, 77, aC c⟩, ⟨0, 0, 77, aC b⟩, ⟨0, 0, 77, aC a⟩]⟩, [decide ((i : Int) < 48) = true, Goes Try.prog tab (ksF ftab 67) (.loop (loopAt (loopAt (bodyOf ftab 67) 0) 0)) (mkT 47 [(3, .ptr 0 0), (4, .ptr 1 0), (5, .ptr 2 0), (7, iN i), (8, .int .u8 (1 : Int)), (9, iN 0)]) ⟨3, [⟨0, 0, 77, aC c⟩, ⟨0, 0, 77, aC b⟩, ⟨0, 0, 77, aC a⟩]⟩ (.exit 2) (mkT 47 [(3, .ptr 0 0), (4, .ptr 1 0), (5, .ptr 2 0), (7, iN i), (8, .int .u8 (p : Int))]) ⟨3, [⟨0, 0, 77, aC c⟩, ⟨0, 0, 77, aC b⟩, ⟨0, 0, 77, aC a⟩]⟩, DV.int .i64 (quoD .i64 (i : Int) 8) = iN q, idxOk (q : Int) 6 = true, DV.ptr 2 (0 + (q : Int).toNat * 1) = .ptr 2 q, nth (aC c) q = some (.int .u8 (m : Int)), binD tab .quo 5 (.int .u8 (m : Int)) (.int .u8 (p : Int)) = some (.int .u8 (m1 : Int)), ((m1 : Int).tmod 2 == 1) = true, DV.int .i64 (quoD .i64 (i : Int) 8) = iN q, idxOk (q : Int) 6 = true, DV.ptr 0 (0 + (q : Int).toNat * 1) = .ptr 0 q, nth (aC a) q = some (.int .u8 (x : Int)), binD tab .quo 5 (.int .u8 (x : Int)) (.int .u8 (p : Int)) = some (.int .u8 (x1 : Int)), DV.int .i64 (quoD .i64 (i : Int) 8) = iN q, idxOk (q : Int) 6 = true, DV.ptr 1 (0 + (q : Int).toNat * 1) = .ptr 1 q, nth (aC b) q = some (.int .u8 (y : Int)), binD tab .quo 5 (.int .u8 (y : Int)) (.int .u8 (p : Int)) = some (.int .u8 (y1 : Int)), (((x1 : Int).tmod 2) != ((y1 : Int).tmod 2)) = true]) := by
  kernel_rfl
set_option maxRecDepth 1000000 in
theorem mEnd (a b c i : Nat) : zsee Try.prog tab ftab noC (ksF ftab 67) [] (loopAt (bodyOf ftab 67) 0) (mkT 47 [(3, .ptr 0 0), (4, .ptr 1 0), (5, .ptr 2 0), (7, iN i)]) ⟨3, [⟨0, 0, 77, aC c⟩, ⟨0, 0, 77, aC b⟩, ⟨0, 0, 77, aC a⟩]⟩ [(11, .b false)] =
    some (.exit 0, mkT 47 [], ⟨3, [⟨0, 0, 77, aC c⟩, ⟨0, 0, 77, aC b⟩, ⟨0, 0, 77, aC a⟩]⟩, [decide ((i : Int) < 48) = false]) := by
  kernel_rfl
set_option maxRecDepth 1000000 in
theorem mYes (a b c : Nat) : zflat (zans Try.prog tab ftab noC 67 [aD a, aD b, aD c] [(0, .l [3, 4, 5, 7] (.exit 0) (mkT 47 []) ⟨3, [⟨0, 0, 77, aC c⟩, ⟨0, 0, 77, aC b⟩, ⟨0, 0, 77, aC a⟩]⟩)]) = some (.bool true, [Goes Try.prog tab (ksF ftab 67) (.loop (loopAt (bodyOf ftab 67) 0)) (mkT 47 [(3, .ptr 0 0), (4, .ptr 1 0), (5, .ptr 2 0), (7, iN 0)]) ⟨3, [⟨0, 0, 77, aC c⟩, ⟨0, 0, 77, aC b⟩, ⟨0, 0, 77, aC a⟩]⟩ (.exit 0) (mkT 47 []) ⟨3, [⟨0, 0, 77, aC c⟩, ⟨0, 0, 77, aC b⟩, ⟨0, 0, 77, aC a⟩]⟩]) := by
  kernel_rfl
set_option maxRecDepth 1000000 in
theorem mNo (a b c : Nat) : zflat (zans Try.prog tab ftab noC 67 [aD a, aD b, aD c] [(0, .l [3, 4, 5, 7] (.ret) (mkT 47 [(6, .bool false)]) ⟨3, [⟨0, 0, 77, aC c⟩, ⟨0, 0, 77, aC b⟩, ⟨0, 0, 77, aC a⟩]⟩)]) = some (.bool false, [Goes Try.prog tab (ksF ftab 67) (.loop (loopAt (bodyOf ftab 67) 0)) (mkT 47 [(3, .ptr 0 0), (4, .ptr 1 0), (5, .ptr 2 0), (7, iN 0)]) ⟨3, [⟨0, 0, 77, aC c⟩, ⟨0, 0, 77, aC b⟩, ⟨0, 0, 77, aC a⟩]⟩ (.ret) (mkT 47 [(6, .bool false)]) ⟨3, [⟨0, 0, 77, aC c⟩, ⟨0, 0, 77, aC b⟩, ⟨0, 0, 77, aC a⟩]⟩]) := by
  kernel_rfl
theorem p2_wrap {k : Nat} (h : k < 7) : IntKind.u8.wrap (((2 ^ k : Nat) : Int) * 2) = ((2 ^ (k + 1) : Nat) : Int) := by
  have : ∀ j, j < 7 → IntKind.u8.wrap (((2 ^ j : Nat) : Int) * 2) = ((2 ^ (j + 1) : Nat) : Int) := by decide
  exact this k h
theorem rem8 (i : Nat) : (i : Int).tmod 8 = ((i % 8 : Nat) : Int) := by
  rw [Int.tmod_eq_emod_of_nonneg (by omega)]
  omega
theorem mod2 (i : Nat) : (i : Int).tmod 2 = ((i % 2 : Nat) : Int) := by
  rw [Int.tmod_eq_emod_of_nonneg (by omega)]
  omega
/-- the mask of a bit -/
theorem m_inner (a b c i : Nat) : (fun p => Goes Try.prog tab (ksF ftab 67) (.loop (loopAt (loopAt (bodyOf ftab 67) 0) 0)) (mkT 47 [(3, .ptr 0 0), (4, .ptr 1 0), (5, .ptr 2 0), (7, iN i), (8, .int .u8 (1 : Int)), (9, iN 0)]) ⟨3, [⟨0, 0, 77, aC c⟩, ⟨0, 0, 77, aC b⟩, ⟨0, 0, 77, aC a⟩]⟩ (.exit 2) (mkT 47 [(3, .ptr 0 0), (4, .ptr 1 0), (5, .ptr 2 0), (7, iN i), (8, .int .u8 (p : Int))]) ⟨3, [⟨0, 0, 77, aC c⟩, ⟨0, 0, 77, aC b⟩, ⟨0, 0, 77, aC a⟩]⟩) (2 ^ (i % 8) : Nat) := by
  have loop := Goes.loop (P := Try.prog) (T := tab) (ks := (ksF ftab 67)) (x := (loopAt (loopAt (bodyOf ftab 67) 0) 0)) (e := .exit 2) (i % 8) (fun k => (fun p => (mkT 47 [(3, .ptr 0 0), (4, .ptr 1 0), (5, .ptr 2 0), (7, iN i), (8, .int .u8 (p : Int)), (9, iN k)])) (2 ^ k : Nat)) (fun _ => ⟨3, [⟨0, 0, 77, aC c⟩, ⟨0, 0, 77, aC b⟩, ⟨0, 0, 77, aC a⟩]⟩) (s1 := (fun p => (mkT 47 [(3, .ptr 0 0), (4, .ptr 1 0), (5, .ptr 2 0), (7, iN i), (8, .int .u8 (p : Int))])) (2 ^ (i % 8) : Nat)) (h1 := ⟨3, [⟨0, 0, 77, aC c⟩, ⟨0, 0, 77, aC b⟩, ⟨0, 0, 77, aC a⟩]⟩) (fun k hk => ?_) ?_ (by intro h; cases h)
  · exact loop
  · refine zsee_ok tab_ok mixed fun_ok noC_ok (mInn a b c i k (2 ^ k) (i % 8) (2 ^ (k + 1))) (.cons (congrArg (DV.int .i64) (rem8 i)) (.cons (decide_eq_true (by omega)) (.cons (congrArg (DV.int .u8) (p2_wrap (by omega))) (.cons (congrArg (DV.int .i64) (wrapI (n := k + 1) (by omega))) .nil))))
  · exact zsee_ok tab_ok mixed fun_ok noC_ok (mOut a b c i (i % 8) (2 ^ (i % 8)) (i % 8)) (.cons (congrArg (DV.int .i64) (rem8 i)) (.cons (decide_eq_false (by omega)) .nil))
theorem bN_nth (n : Nat) {q : Nat} (hq : q < 6) : nth (aC n) q = some (.int .u8 (bN n q : Int)) := by
  rw [nth_eq]
  match q, hq with
  | 0, _ => rfl
  | 1, _ => rfl
  | 2, _ => rfl
  | 3, _ => rfl
  | 4, _ => rfl
  | 5, _ => simp [aC, bN]
theorem quoB {m p : Nat} (hm : m < 256) (hp : 0 < p) : binD tab .quo 5 (.int .u8 (m : Int)) (.int .u8 (p : Int)) = some (.int .u8 ((m / p : Nat) : Int)) := by
  show guardO ((p : Int) != 0) (.int .u8 (quoD .u8 (m : Int) (p : Int))) = _
  rw [show ((p : Int) != 0) = true by rw [bne_iff_ne]; omega]
  show some (DV.int .u8 (quoD .u8 (m : Int) (p : Int))) = _
  unfold quoD
  have := Nat.div_le_self m p
  rw [show ((m : Int).tdiv (p : Int)) = ((m / p : Nat) : Int) by rw [Int.tdiv_eq_ediv_of_nonneg (by omega)]; exact (Int.natCast_ediv m p).symm, wrapU rfl, Nat.mod_eq_of_lt (by show m / p < 256; omega)]
theorem bN_lt (n q : Nat) : bN n q < 256 := Nat.mod_lt _ (by decide)
theorem bN_bit (n i : Nat) : (bN n (i / 8) / 2 ^ (i % 8)) % 2 = if bitA n i = true then 1 else 0 := by
  unfold bN bitA
  rw [Nat.add_comm, ← Nat.testBit_div_two_pow, Nat.testBit_eq_decide_div_mod_eq]
  have hr : i % 8 < 8 := Nat.mod_lt _ (by decide)
  generalize n / 2 ^ (8 * (5 - i / 8)) = N
  have : N % 256 / 2 ^ (i % 8) % 2 = N / 2 ^ (i % 8) % 2 := by
    have : ∀ r, r < 8 → N % 256 / 2 ^ r % 2 = N / 2 ^ r % 2 := fun r hr => by
      have : r = 0 ∨ r = 1 ∨ r = 2 ∨ r = 3 ∨ r = 4 ∨ r = 5 ∨ r = 6 ∨ r = 7 := by omega
      rcases this with rfl | rfl | rfl | rfl | rfl | rfl | rfl | rfl <;> simp only [Nat.reducePow] <;> omega
    exact this _ hr
  rw [this]
  by_cases h : N / 2 ^ (i % 8) % 2 = 1
  · simp [h]
  · simp [h]
    omega
def okA (a b c i : Nat) : Bool := !(bitA c i) || (bitA a i == bitA b i)
theorem m_round (a b c : Nat) {i : Nat} (hi : i < 48) (h : okA a b c i = true) : Goes Try.prog tab (ksF ftab 67) (loopAt (bodyOf ftab 67) 0) (mkT 47 [(3, .ptr 0 0), (4, .ptr 1 0), (5, .ptr 2 0), (7, iN i)]) ⟨3, [⟨0, 0, 77, aC c⟩, ⟨0, 0, 77, aC b⟩, ⟨0, 0, 77, aC a⟩]⟩ .normal (mkT 47 [(3, .ptr 0 0), (4, .ptr 1 0), (5, .ptr 2 0), (7, iN (i + 1))]) ⟨3, [⟨0, 0, 77, aC c⟩, ⟨0, 0, 77, aC b⟩, ⟨0, 0, 77, aC a⟩]⟩ := by
  have hq : i / 8 < 6 := by omega
  have hp : 0 < 2 ^ (i % 8) := Nat.two_pow_pos _
  have g := m_inner a b c i
  have i0 : decide ((i : Int) < 48) = true := decide_eq_true (by omega)
  have i1 : DV.int .i64 (quoD .i64 (i : Int) 8) = iN (i / 8) := by
    unfold quoD
    rw [show ((i : Int).tdiv 8) = ((i / 8 : Nat) : Int) by rw [Int.tdiv_eq_ediv_of_nonneg (by omega)]; omega, wrapI (by omega)]
    rfl
  have i2 := idxOk_lt hq
  have i3 : ∀ k, DV.ptr k (0 + ((i / 8 : Nat) : Int).toNat * 1) = .ptr k (i / 8) := fun k => by rw [Int.toNat_natCast, Nat.zero_add, Nat.mul_one]
  have i4 := congrArg (DV.int .i64) (wrapI (n := i + 1) (by omega))
  have bc := bN_bit c i
  have ba := bN_bit a i
  have bb := bN_bit b i
  cases hc : bitA c i with
  | false =>
    rw [hc] at bc
    refine zsee_ok tab_ok mixed fun_ok noC_ok (mSkip a b c i (2 ^ (i % 8)) (i / 8) (bN c (i / 8)) (bN c (i / 8) / 2 ^ (i % 8))) (.cons i0 (.cons g (.cons i1 (.cons i2 (.cons (i3 _) (.cons (bN_nth c hq) (.cons (quoB (bN_lt _ _) hp) (.cons ?_ (.cons i4 .nil)))))))))
    rw [mod2, bc]
    rfl
  | true =>
    rw [hc] at bc
    have hab : bitA a i = bitA b i := by simpa [okA, hc] using h
    refine zsee_ok tab_ok mixed fun_ok noC_ok (mSame a b c i (2 ^ (i % 8)) (i / 8) (bN c (i / 8)) (bN c (i / 8) / 2 ^ (i % 8)) (bN a (i / 8)) (bN a (i / 8) / 2 ^ (i % 8)) (bN b (i / 8)) (bN b (i / 8) / 2 ^ (i % 8))) (.cons i0 (.cons g (.cons i1 (.cons i2 (.cons (i3 _) (.cons (bN_nth c hq) (.cons (quoB (bN_lt _ _) hp) (.cons ?_ (.cons i1 (.cons i2 (.cons (i3 _) (.cons (bN_nth a hq) (.cons (quoB (bN_lt _ _) hp) (.cons i1 (.cons i2 (.cons (i3 _) (.cons (bN_nth b hq) (.cons (quoB (bN_lt _ _) hp) (.cons ?_ (.cons i4 .nil))))))))))))))))))))
    · rw [mod2, bc]
      rfl
    · rw [mod2, mod2, ba, bb, hab]
      simp
theorem m_stop (a b c : Nat) {i : Nat} (hi : i < 48) (h : okA a b c i = false) : Goes Try.prog tab (ksF ftab 67) (loopAt (bodyOf ftab 67) 0) (mkT 47 [(3, .ptr 0 0), (4, .ptr 1 0), (5, .ptr 2 0), (7, iN i)]) ⟨3, [⟨0, 0, 77, aC c⟩, ⟨0, 0, 77, aC b⟩, ⟨0, 0, 77, aC a⟩]⟩ .ret (mkT 47 [(6, .bool false)]) ⟨3, [⟨0, 0, 77, aC c⟩, ⟨0, 0, 77, aC b⟩, ⟨0, 0, 77, aC a⟩]⟩ := by
  have hq : i / 8 < 6 := by omega
  have hp : 0 < 2 ^ (i % 8) := Nat.two_pow_pos _
  have g := m_inner a b c i
  have i0 : decide ((i : Int) < 48) = true := decide_eq_true (by omega)
  have i1 : DV.int .i64 (quoD .i64 (i : Int) 8) = iN (i / 8) := by
    unfold quoD
    rw [show ((i : Int).tdiv 8) = ((i / 8 : Nat) : Int) by rw [Int.tdiv_eq_ediv_of_nonneg (by omega)]; omega, wrapI (by omega)]
    rfl
  have i2 := idxOk_lt hq
  have i3 : ∀ k, DV.ptr k (0 + ((i / 8 : Nat) : Int).toNat * 1) = .ptr k (i / 8) := fun k => by rw [Int.toNat_natCast, Nat.zero_add, Nat.mul_one]
  have bc := bN_bit c i
  have ba := bN_bit a i
  have bb := bN_bit b i
  have hc : bitA c i = true := by
    cases hc : bitA c i with
    | true => rfl
    | false => simp [okA, hc] at h
  have hab : bitA a i ≠ bitA b i := by simpa [okA, hc] using h
  rw [hc] at bc
  refine zsee_ok tab_ok mixed fun_ok noC_ok (mStop a b c i (2 ^ (i % 8)) (i / 8) (bN c (i / 8)) (bN c (i / 8) / 2 ^ (i % 8)) (bN a (i / 8)) (bN a (i / 8) / 2 ^ (i % 8)) (bN b (i / 8)) (bN b (i / 8) / 2 ^ (i % 8))) (.cons i0 (.cons g (.cons i1 (.cons i2 (.cons (i3 _) (.cons (bN_nth c hq) (.cons (quoB (bN_lt _ _) hp) (.cons ?_ (.cons i1 (.cons i2 (.cons (i3 _) (.cons (bN_nth a hq) (.cons (quoB (bN_lt _ _) hp) (.cons i1 (.cons i2 (.cons (i3 _) (.cons (bN_nth b hq) (.cons (quoB (bN_lt _ _) hp) (.cons ?_ .nil)))))))))))))))))))
  · rw [mod2, bc]
    rfl
  · rw [mod2, mod2, ba, bb]
    revert hab
    cases bitA a i <;> cases bitA b i <;> decide
theorem mt_all {a b c : Nat} (hc : c < 2 ^ 48) : mtB a b c = true ↔ ∀ i, i < 48 → okA a b c i = true := by
  unfold mtB
  rw [Nat.beq_eq]
  constructor
  · intro h i hi
    have q : Nat.testBit ((a ^^^ b) &&& c) (8 * (5 - i / 8) + i % 8) = false := by rw [h]; simp
    rw [Nat.testBit_and, Nat.testBit_xor] at q
    unfold okA bitA
    revert q
    cases Nat.testBit a (8 * (5 - i / 8) + i % 8) <;> cases Nat.testBit b (8 * (5 - i / 8) + i % 8) <;> cases Nat.testBit c (8 * (5 - i / 8) + i % 8) <;> decide
  · intro h
    refine Nat.eq_of_testBit_eq fun j => ?_
    rw [Nat.zero_testBit, Nat.testBit_and, Nat.testBit_xor]
    by_cases hj : j < 48
    · have q := h (8 * (5 - j / 8) + j % 8) (by omega)
      unfold okA bitA at q
      rw [show 8 * (5 - (8 * (5 - j / 8) + j % 8) / 8) + (8 * (5 - j / 8) + j % 8) % 8 = j by omega] at q
      revert q
      cases Nat.testBit a j <;> cases Nat.testBit b j <;> cases Nat.testBit c j <;> decide
    · rw [Nat.testBit_lt_two_pow (x := c) (i := j) (Nat.lt_of_lt_of_le hc (Nat.pow_le_pow_right (by decide) (by omega)))]
      simp
theorem ans_cRm (x : Adr × Adr × Adr) : Ans Try.prog 67 [aD x.1.1, aD x.2.1.1, aD x.2.2.1] (.bool (mtB x.1.1 x.2.1.1 x.2.2.1)) ⟨0, []⟩ := by
  obtain ⟨⟨a, _⟩, ⟨b, _⟩, ⟨c, hc⟩⟩ := x
  simp only
  by_cases h : ∀ i, i < 48 → okA a b c i = true
  · rw [(mt_all hc).2 h]
    refine zflat_ok tab_ok mixed fun_ok noC_ok (mYes a b c) (.cons ?_ .nil)
    exact Goes.loop 48 (fun i => (mkT 47 [(3, .ptr 0 0), (4, .ptr 1 0), (5, .ptr 2 0), (7, iN i)])) (fun _ => ⟨3, [⟨0, 0, 77, aC c⟩, ⟨0, 0, 77, aC b⟩, ⟨0, 0, 77, aC a⟩]⟩) (fun i hi => m_round a b c hi (h i hi)) (zsee_ok tab_ok mixed fun_ok noC_ok (mEnd a b c 48) (.cons rfl .nil)) (by intro h; cases h)
  · have hf : mtB a b c = false := by
      cases hm : mtB a b c with
      | false => rfl
      | true => exact absurd ((mt_all hc).1 hm) h
    rw [hf]
    have hex : ∃ i, i < 48 ∧ okA a b c i = false := by
      refine Classical.byContradiction fun hn => h fun i hi => ?_
      cases hk : okA a b c i with
      | true => rfl
      | false => exact absurd ⟨i, hi, hk⟩ hn
    obtain ⟨j, hj, hmin⟩ : ∃ j, (j < 48 ∧ okA a b c j = false) ∧ ∀ i, i < j → okA a b c i = true := by
      obtain ⟨i, hi⟩ := hex
      induction i using Nat.strongRecOn with
      | ind i ih =>
        by_cases hc : ∃ q, q < i ∧ okA a b c q = false
        · obtain ⟨q, hq, hn⟩ := hc
          exact ih q hq ⟨by omega, hn⟩
        · refine ⟨i, hi, fun q hq => ?_⟩
          cases hk : okA a b c q with
          | true => rfl
          | false => exact absurd ⟨q, hq, hk⟩ hc
    refine zflat_ok tab_ok mixed fun_ok noC_ok (mNo a b c) (.cons ?_ .nil)
    exact Goes.loop j (fun i => (mkT 47 [(3, .ptr 0 0), (4, .ptr 1 0), (5, .ptr 2 0), (7, iN i)])) (fun _ => ⟨3, [⟨0, 0, 77, aC c⟩, ⟨0, 0, 77, aC b⟩, ⟨0, 0, 77, aC a⟩]⟩) (fun i hi => m_round a b c (by omega) (hmin i hi)) (m_stop a b c hj.1 hj.2) (by intro h; cases h)
theorem vr_adr {w : World} {E : Env} {xs : List Int} (l : xs.length = 6) (hw : ∀ a ∈ xs, (Lit.int .u8 a).wf = true) : ∃ n, n < 2 ^ 48 ∧ VR w E (aD n) (intsV .u8 xs) := by
  obtain ⟨a, b, c, d, e, g, rfl⟩ := list6 l
  have pa := isB_of (hw a (by simp))
  have pb := isB_of (hw b (by simp))
  have pc := isB_of (hw c (by simp))
  have pd := isB_of (hw d (by simp))
  have pe := isB_of (hw e (by simp))
  have pg := isB_of (hw g (by simp))
  obtain ⟨a, rfl⟩ := Int.eq_ofNat_of_zero_le pa.1
  obtain ⟨b, rfl⟩ := Int.eq_ofNat_of_zero_le pb.1
  obtain ⟨c, rfl⟩ := Int.eq_ofNat_of_zero_le pc.1
  obtain ⟨d, rfl⟩ := Int.eq_ofNat_of_zero_le pd.1
  obtain ⟨e, rfl⟩ := Int.eq_ofNat_of_zero_le pe.1
  obtain ⟨g, rfl⟩ := Int.eq_ofNat_of_zero_le pg.1
  have pa := pa.2; have pb := pb.2; have pc := pc.2; have pd := pd.2; have pe := pe.2; have pg := pg.2
  refine ⟨num6 a b c d e g, num6_lt (by omega) (by omega) (by omega) (by omega) (by omega) (by omega), ?_⟩
  have h : aC (num6 a b c d e g) = [.int .u8 a, .int .u8 b, .int .u8 c, .int .u8 d, .int .u8 e, .int .u8 g] := by
    simp only [aC, List.cons.injEq, DV.int.injEq, true_and, and_true, num6, Int.natCast_inj]
    omega
  rw [aD, h]
  exact VRs.agg (.cons (.int _ _ _) (.cons (.int _ _ _) (.cons (.int _ _ _) (.cons (.int _ _ _) (.cons (.int _ _ _) (.cons (.int _ _ _) (.nil _ _)))))))
def cRm : CallF := conC 67 (fun x : Adr × Adr × Adr => [aD x.1.1, aD x.2.1.1, aD x.2.2.1]) fun x => (.bool (mtB x.1.1 x.2.1.1 x.2.2.1), ⟨0, []⟩)
theorem cRm_ok : CallOk Try.prog cRm := conC_ok ans_cRm fun _ => fine0 rfl
theorem cRm_at (hp : Hp) (a b c : Adr) : cRm 67 [aD a.1, aD b.1, aD c.1] hp = some (.bool (mtB a.1 b.1 c.1), hp, none) :=
  conC0_at (f0 := 67) (A := fun x : Adr × Adr × Adr => [aD x.1.1, aD x.2.1.1, aD x.2.2.1]) (D := fun x => .bool (mtB x.1.1 x.2.1.1 x.2.2.1)) (fun x y hxy => by
    obtain ⟨x1, x2, x3⟩ := x
    obtain ⟨y1, y2, y3⟩ := y
    simp only [List.cons.injEq, and_true] at hxy
    rw [aD_inj hxy.1, aD_inj hxy.2.1, aD_inj hxy.2.2]) hp (a, b, c) ⟨frz_aD _ _, frz_aD _ _, frz_aD _ _, trivial⟩ rfl
end
end Go.Proofs.Ytnhbhdfeenpedaa
