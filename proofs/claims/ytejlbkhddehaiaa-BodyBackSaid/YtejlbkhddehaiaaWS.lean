/- Small facts on what body's functions answer; a contract for one call; the example. -/
import Derived.Test.YtejlbkhddehaiaaWC
import Derived.Test.YtejlbkhddehaiaaZd
import Derived.Test.YtejlbkhddehaiaaEm
import Derived.Test.YtejlbkhddehaiaaEs
namespace Go.Proofs.Ytejlbkhddehaiaa
open Go.RowKit

noncomputable section
theorem wiD_fl (f : List UInt8) (l : List El) : flatD (wiD f l) = true := by
  unfold wiD
  repeat' split
  all_goals rfl
theorem nlD_fl {d : DV} (s : Nat) (h : flatD d = true) : flatD (nlD s d) = true := by
  unfold nlD
  split
  · rename_i cs x
    have h1 : (flats1 cs && (flat2 x && true)) = true := h
    simp only [Bool.and_eq_true] at h1
    show (flats1 (cs.map (nl1 s)) && (flat2 x && true)) = true
    rw [h1.2.1]
    have : ∀ l : List DV, flats1 l = true → flats1 (l.map (nl1 s)) = true := by
      intro l
      induction l with
      | nil => exact fun _ => rfl
      | cons d r ih =>
        intro hl
        have h2 : (flat1 d && flats1 r) = true := hl
        simp only [Bool.and_eq_true] at h2
        show (flat1 (nl1 s d) && flats1 (r.map (nl1 s))) = true
        rw [ih h2.2]
        cases d <;> first | rfl | simpa [nl1] using h2.1
    rw [this cs h1.1]
    rfl
  · exact h
theorem eq_tt : ∀ (l : List UInt8), eqBytes l l = true
  | [] => rfl
  | b :: l => by
    simp only [eqBytes, beqT (rfl : b.toNat = b.toNat)]
    exact eq_tt l
theorem g64_lt (b : List UInt8) (x : Nat) : g64 b x < 18446744073709551616 := by
  have h := leN_lt ((b.drop x).take 8)
  have h2 : ((b.drop x).take 8).length ≤ 8 := by rw [List.length_take]; omega
  have h3 : 256 ^ ((b.drop x).take 8).length ≤ 256 ^ 8 := Nat.pow_le_pow_right (by decide) h2
  show leN _ < _
  omega
theorem drD_fl (b : List UInt8) : flatD (drD b) = true := by
  unfold drD
  repeat' split
  all_goals rfl
theorem okTS_ok {a s : Nat} (h1 : a ≤ 7) (h2 : s ≤ 4095) : okTS (a : Int) (s : Int) = true := by
  unfold okTS
  rw [decide_eq_true (show (a : Int) ≥ 0 by omega), decide_eq_true (show (a : Int) ≤ 7 by omega), decide_eq_true (show (s : Int) ≥ 0 by omega), decide_eq_true (show (s : Int) ≤ 4095 by omega)]
  rfl
theorem eacD_fl (a b c : UInt8) (g : List UInt8) : flatD (eacD a b c g) = true := by
  unfold eacD
  split <;> rfl
abbrev fAl : FuncId := 41
set_option maxRecDepth 1000000 in
theorem al_run : zflat (zans Try.prog tab ftab noC fAl [] []) = some (.bool true, []) := by kernel_rfl
def cAl : ConF := fixC fAl (.bool true)
theorem cAl_ok : ConOk Try.prog cAl := fixC_ok (zflat_ok tab_ok mixed fun_ok noC_ok al_run .nil) rfl

/-- one call's contract -/
def calC (f : FuncId) (args : List DV) (d : DV) : ConF := liftC (eqC f (fun _ : Unit => args) fun _ => (d, ⟨0, [], []⟩))
theorem calC_ok {P : Program} {f : FuncId} {args : List DV} {d : DV} (h : Ans P f args d ⟨0, [], []⟩) : ConOk P (calC f args d) := liftC_ok (eqC_ok (fun _ => h) fun _ => rfl)
theorem calC_at {f : FuncId} {args : List DV} {d : DV} (hp : Hp) (ha : flats2 args = true) (hd : flatD d = true) : calC f args d f args hp = some (d, hp, none) :=
  lift_at (A := fun _ : Unit => args) (D := fun _ => d) (fun _ _ _ => rfl) hp () ha hd
theorem calC_oth {f g : FuncId} {args as2 : List DV} {d : DV} {hp : Hp} (h : Nat.beq g f = false) : calC f args d g as2 hp = none := lift_oth (eqC_other h)
/-! ### Numbers of bytes, read again -/
def digs : Nat → Nat → List UInt8
  | 0, _ => []
  | n + 1, t => UInt8.ofNat (t % 256) :: digs n (t / 256)
theorem leN_digs : ∀ (n t : Nat), leN (digs n t) = t % 256 ^ n
  | 0, t => by rw [Nat.pow_zero, Nat.mod_one]; rfl
  | n + 1, t => by
    show (UInt8.ofNat (t % 256)).toNat + 256 * leN (digs n (t / 256)) = _
    rw [leN_digs n (t / 256), UInt8.toNat_ofNat_of_lt' (Nat.mod_lt _ (by decide)), Nat.pow_succ, Nat.mul_comm (256 ^ n) 256, Nat.mod_mul]
theorem leN_by2 {t : Nat} (h : t < 65536) : leN (by2 t) = t := by
  have e : by2 t = digs 2 t := by simp [by2, digs]
  rw [e, leN_digs]
  exact Nat.mod_eq_of_lt h
theorem leN_by8 {t : Nat} (h : t < 18446744073709551616) : leN (by8 t) = t := by
  have e : by8 t = digs 8 t := by simp [by8, digs, Nat.div_div_eq_div_mul]
  rw [e, leN_digs]
  exact Nat.mod_eq_of_lt h
theorem leN_by1 (c : UInt8) : leN [c] = c.toNat := by simp [leN]
theorem de_en2 {l : List El} (h : (szR l).2 = 0) : deE (encA l) = 0 ∧ deL (encA l) = l := by
  have := de_en h
  simp only [deD, DV.tuple.injEq, List.cons.injEq, and_true, iN, DV.int.injEq, true_and] at this
  exact ⟨by omega, els_inj this.1⟩
theorem wi_cases (f : List UInt8) (l : List El) : (∃ e : Nat, wiD f l = .tuple [.list 1 [], iN (e + 1)]) ∨ (wiD f l = .tuple [byL (f ++ encA l), iN 0] ∧ (szR l).2 = 0 ∧ f.length + (encA l).length ≤ 2304) := by
  unfold wiD
  cases h : (szR l).2 with
  | succ e => exact .inl ⟨e, rfl⟩
  | zero =>
    cases h2 : Nat.ble (f.length + (encA l).length) 2304 with
    | false => exact .inl ⟨10, rfl⟩
    | true => exact .inr ⟨rfl, rfl, Nat.le_of_ble_eq_true h2⟩
theorem drop_frt {f r : List UInt8} {n : Nat} (h : f.length = n) : (f ++ r).drop n = r := by
  subst h
  exact List.drop_left
end
end Go.Proofs.Ytejlbkhddehaiaa
/- BodyBack, in groups of statements. -/
namespace Go.Proofs.Ytejlbkhddehaiaa
open Go.RowKit

noncomputable section
structure Al where
  t : Nat
  i : Nat
  c : Nat
  e0 : List El
  a0 : Nat
  a1 : Nat
  a2 : Nat
  e1 : List El
  rq : Rq
  ag : Bool
  r0 : Nat
  r1 : Nat
  r2 : Int
  e3 : List El
  q : Nat
  e4 : List El
  k0 : UInt8
  k1 : UInt8
  k2 : UInt8
  da : List UInt8
  b0 : Int
  b1 : Int
  c0 : Int
  c1 : Int
  m : Nat
abbrev fBb : FuncId := 5
abbrev kBb : List (Nat × Nat) := ksF ftab fBb
def bbL : List Code := spine (bodyOf ftab fBb)
abbrev bbS : Slots := mkT 218 [(1, .ptr 0 0), (3, .bool true), (4, .ptr 1 0)]
def xC (x : Al) : List DV := [.int .u64 (x.t : Int), w16 x.i, w16 x.c, elsD x.e0, w16 x.a0, w16 x.a1, w16 x.a2, elsD x.e1, w16 x.rq.c, w16 x.rq.l, i8 x.rq.o0, i8 x.rq.o1, i8 x.rq.o2, i8 x.rq.o3, i8 x.rq.o4, i8 x.rq.o5, elsD x.rq.es, .bool x.ag, w16 x.r0, w16 x.r1, .int .i64 x.r2, elsD x.e3, w16 x.q, elsD x.e4, i8 x.k0, i8 x.k1, i8 x.k2, byL x.da, .int .i64 x.b0, .int .i64 x.b1, .int .i64 x.c0, .int .i64 x.c1, .int .u64 (x.m : Int)]
abbrev oAl (cs : List DV) : Ob := ⟨0, 0, 45, cs⟩
def yC0 (x : Al) : List DV := [.int .u64 0, .int .u16 0, .int .u16 0, .nil, .int .u16 0, .int .u16 0, .int .u16 0, .nil, .int .u16 0, .int .u16 0, .int .u8 0, .int .u8 0, .int .u8 0, .int .u8 0, .int .u8 0, .int .u8 0, .nil, .bool false, .int .u16 0, .int .u16 0, .int .i64 0, .nil, .int .u16 0, .nil, .int .u8 0, .int .u8 0, .int .u8 0, .nil, .int .i64 0, .int .i64 0, .int .i64 0, .int .i64 0, .int .u64 0]
abbrev bbH0 (x : Al) : Hp := ⟨2, [oAl (yC0 x), oAl (xC x)], []⟩
def yC1 (x : Al) : List DV := [.int .u64 (x.t : Int), w16 x.i, w16 x.c, elsD x.e0, .int .u16 0, .int .u16 0, .int .u16 0, .nil, .int .u16 0, .int .u16 0, .int .u8 0, .int .u8 0, .int .u8 0, .int .u8 0, .int .u8 0, .int .u8 0, .nil, .bool false, .int .u16 0, .int .u16 0, .int .i64 0, .nil, .int .u16 0, .nil, .int .u8 0, .int .u8 0, .int .u8 0, .nil, .int .i64 0, .int .i64 0, .int .i64 0, .int .i64 0, .int .u64 0]
abbrev bbH1 (x : Al) : Hp := ⟨2, [oAl (yC1 x), oAl (xC x)], []⟩
def yC2 (x : Al) : List DV := [.int .u64 (x.t : Int), w16 x.i, w16 x.c, elsD x.e0, w16 x.a0, w16 x.a1, w16 x.a2, elsD x.e1, .int .u16 0, .int .u16 0, .int .u8 0, .int .u8 0, .int .u8 0, .int .u8 0, .int .u8 0, .int .u8 0, .nil, .bool false, .int .u16 0, .int .u16 0, .int .i64 0, .nil, .int .u16 0, .nil, .int .u8 0, .int .u8 0, .int .u8 0, .nil, .int .i64 0, .int .i64 0, .int .i64 0, .int .i64 0, .int .u64 0]
abbrev bbH2 (x : Al) : Hp := ⟨2, [oAl (yC2 x), oAl (xC x)], []⟩
def yC3 (x : Al) : List DV := [.int .u64 (x.t : Int), w16 x.i, w16 x.c, elsD x.e0, w16 x.a0, w16 x.a1, w16 x.a2, elsD x.e1, w16 x.rq.c, w16 x.rq.l, i8 x.rq.o0, i8 x.rq.o1, i8 x.rq.o2, i8 x.rq.o3, i8 x.rq.o4, i8 x.rq.o5, elsD x.rq.es, .bool false, .int .u16 0, .int .u16 0, .int .i64 0, .nil, .int .u16 0, .nil, .int .u8 0, .int .u8 0, .int .u8 0, .nil, .int .i64 0, .int .i64 0, .int .i64 0, .int .i64 0, .int .u64 0]
abbrev bbH3 (x : Al) : Hp := ⟨2, [oAl (yC3 x), oAl (xC x)], []⟩
def yC4 (x : Al) : List DV := [.int .u64 (x.t : Int), w16 x.i, w16 x.c, elsD x.e0, w16 x.a0, w16 x.a1, w16 x.a2, elsD x.e1, w16 x.rq.c, w16 x.rq.l, i8 x.rq.o0, i8 x.rq.o1, i8 x.rq.o2, i8 x.rq.o3, i8 x.rq.o4, i8 x.rq.o5, elsD x.rq.es, .bool false, w16 x.r0, w16 x.r1, .int .i64 x.r2, elsD x.e3, .int .u16 0, .nil, .int .u8 0, .int .u8 0, .int .u8 0, .nil, .int .i64 0, .int .i64 0, .int .i64 0, .int .i64 0, .int .u64 0]
abbrev bbH4 (x : Al) : Hp := ⟨2, [oAl (yC4 x), oAl (xC x)], []⟩
def yC5 (x : Al) : List DV := [.int .u64 (x.t : Int), w16 x.i, w16 x.c, elsD x.e0, w16 x.a0, w16 x.a1, w16 x.a2, elsD x.e1, w16 x.rq.c, w16 x.rq.l, i8 x.rq.o0, i8 x.rq.o1, i8 x.rq.o2, i8 x.rq.o3, i8 x.rq.o4, i8 x.rq.o5, elsD x.rq.es, .bool false, w16 x.r0, w16 x.r1, .int .i64 x.r2, elsD x.e3, w16 x.q, elsD x.e4, .int .u8 0, .int .u8 0, .int .u8 0, .nil, .int .i64 0, .int .i64 0, .int .i64 0, .int .i64 0, .int .u64 0]
abbrev bbH5 (x : Al) : Hp := ⟨2, [oAl (yC5 x), oAl (xC x)], []⟩
def yC6 (x : Al) : List DV := [.int .u64 (x.t : Int), w16 x.i, w16 x.c, elsD x.e0, w16 x.a0, w16 x.a1, w16 x.a2, elsD x.e1, w16 x.rq.c, w16 x.rq.l, i8 x.rq.o0, i8 x.rq.o1, i8 x.rq.o2, i8 x.rq.o3, i8 x.rq.o4, i8 x.rq.o5, elsD x.rq.es, .bool false, w16 x.r0, w16 x.r1, .int .i64 x.r2, elsD x.e3, w16 x.q, elsD x.e4, i8 x.k0, i8 x.k1, i8 x.k2, byL x.da, .int .i64 0, .int .i64 0, .int .i64 0, .int .i64 0, .int .u64 0]
abbrev bbH6 (x : Al) : Hp := ⟨2, [oAl (yC6 x), oAl (xC x)], []⟩
def yC7 (x : Al) : List DV := [.int .u64 (x.t : Int), w16 x.i, w16 x.c, elsD x.e0, w16 x.a0, w16 x.a1, w16 x.a2, elsD x.e1, w16 x.rq.c, w16 x.rq.l, i8 x.rq.o0, i8 x.rq.o1, i8 x.rq.o2, i8 x.rq.o3, i8 x.rq.o4, i8 x.rq.o5, elsD x.rq.es, .bool false, w16 x.r0, w16 x.r1, .int .i64 x.r2, elsD x.e3, w16 x.q, elsD x.e4, i8 x.k0, i8 x.k1, i8 x.k2, byL x.da, .int .i64 x.b0, .int .i64 x.b1, .int .i64 0, .int .i64 0, .int .u64 0]
abbrev bbH7 (x : Al) : Hp := ⟨2, [oAl (yC7 x), oAl (xC x)], []⟩
def yC8 (x : Al) : List DV := [.int .u64 (x.t : Int), w16 x.i, w16 x.c, elsD x.e0, w16 x.a0, w16 x.a1, w16 x.a2, elsD x.e1, w16 x.rq.c, w16 x.rq.l, i8 x.rq.o0, i8 x.rq.o1, i8 x.rq.o2, i8 x.rq.o3, i8 x.rq.o4, i8 x.rq.o5, elsD x.rq.es, .bool false, w16 x.r0, w16 x.r1, .int .i64 x.r2, elsD x.e3, w16 x.q, elsD x.e4, i8 x.k0, i8 x.k1, i8 x.k2, byL x.da, .int .i64 x.b0, .int .i64 x.b1, .int .i64 x.c0, .int .i64 x.c1, .int .u64 (x.m : Int)]
abbrev bbH8 (x : Al) : Hp := ⟨2, [oAl (yC8 x), oAl (xC x)], []⟩
theorem flat_two {h : Hp} {c0 c1 : List DV} (h0 : h.get 0 = some (oAl c0)) (h1 : h.get 1 = some (oAl c1)) (k0 : c0.all flat0 = true) (k1 : c1.all flat0 = true) : FlatIn [0, 1] h := by
  intro id o hid ho a ha
  rcases List.mem_cons.1 hid with rfl | hid
  · rw [h0] at ho
    cases ho
    exact List.all_eq_true.1 k0 a ha
  · obtain rfl := List.mem_singleton.1 hid
    rw [h1] at ho
    cases ho
    exact List.all_eq_true.1 k1 a ha
theorem xC_fl (x : Al) : (xC x).all flat0 = true := rfl
theorem yC0_fl (x : Al) : (yC0 x).all flat0 = true := rfl
theorem yC1_fl (x : Al) : (yC1 x).all flat0 = true := rfl
theorem yC2_fl (x : Al) : (yC2 x).all flat0 = true := rfl
theorem yC3_fl (x : Al) : (yC3 x).all flat0 = true := rfl
theorem yC4_fl (x : Al) : (yC4 x).all flat0 = true := rfl
theorem yC5_fl (x : Al) : (yC5 x).all flat0 = true := rfl
theorem yC6_fl (x : Al) : (yC6 x).all flat0 = true := rfl
theorem yC7_fl (x : Al) : (yC7 x).all flat0 = true := rfl
theorem yC8_fl (x : Al) : (yC8 x).all flat0 = true := rfl
section
variable (C : ConF) (x : Al)
set_option maxRecDepth 1000000 in
theorem bbBeE (d0 d1 d2 : Int) (ds : List (List DV)) (cs : List (List DV)) (e f : Nat) : zlm [0, 1] [0, 1] [1, 3, 4] (zl Try.prog tab ftab C kBb ((bbL.drop 4).take 3) bbS (bbH0 x) [(27, .q (.tuple [.list 1 cs, iN e])), (32, .q (.tuple [.agg [.int .u64 d0, .int .u16 d1, .int .u16 d2, .list 4 ds], iN f])), (36, .b false)]) =
    some (bbS, bbH1 x, FlatIn [0, 1] ⟨3, [⟨0, 0, 26, [.int .u64 d0, .int .u16 d1, .int .u16 d2, .list 4 ds]⟩, oAl (yC1 x), oAl (xC x)], []⟩ :: (C fEBe [.agg [.int .u64 (x.t : Int), w16 x.i, w16 x.c, elsD x.e0]] (bbH0 x) = some (.tuple [.list 1 cs, iN e], bbH0 x, none)) :: (C fDDn [.list 1 cs] (bbH0 x) = some (.tuple [.agg [.int .u64 d0, .int .u16 d1, .int .u16 d2, .list 4 ds], iN f], bbH0 x, none)) :: (((e : Int) == 0) = false) :: []) := by kernel_rfl
set_option maxRecDepth 1000000 in
theorem bbBeO (cs : List (List DV)) : zlm [0, 1] [0, 1] [1, 3, 4] (zl Try.prog tab ftab C kBb ((bbL.drop 4).take 3) bbS (bbH0 x) [(27, .q (.tuple [.list 1 cs, iN 0])), (32, .q (.tuple [.agg [.int .u64 (x.t : Int), w16 x.i, w16 x.c, elsD x.e0], iN 0]))]) =
    some (bbS, bbH1 x, FlatIn [0, 1] ⟨3, [⟨0, 0, 26, [.int .u64 (x.t : Int), w16 x.i, w16 x.c, elsD x.e0]⟩, oAl (yC1 x), oAl (xC x)], []⟩ :: (C fEBe [.agg [.int .u64 (x.t : Int), w16 x.i, w16 x.c, elsD x.e0]] (bbH0 x) = some (.tuple [.list 1 cs, iN 0], bbH0 x, none)) :: (C fDDn [.list 1 cs] (bbH0 x) = some (.tuple [.agg [.int .u64 (x.t : Int), w16 x.i, w16 x.c, elsD x.e0], iN 0], bbH0 x, none)) :: []) := by kernel_rfl
set_option maxRecDepth 1000000 in
theorem bbAuE (d0 d1 d2 : Int) (ds : List (List DV)) (cs : List (List DV)) (e f : Nat) : zlm [0, 1] [0, 1] [1, 3, 4] (zl Try.prog tab ftab C kBb ((bbL.drop 7).take 4) bbS (bbH1 x) [(50, .q (.tuple [.list 1 cs, iN e])), (55, .q (.tuple [.agg [.int .u16 d0, .int .u16 d1, .int .u16 d2, .list 4 ds], iN f])), (62, .b false)]) =
    some (bbS, bbH2 x, FlatIn [0, 1] ⟨3, [⟨0, 0, 28, [.int .u16 d0, .int .u16 d1, .int .u16 d2, .list 4 ds]⟩, oAl (yC2 x), oAl (xC x)], []⟩ :: (C fEAu [.agg [w16 x.a0, w16 x.a1, w16 x.a2, elsD x.e1]] (bbH1 x) = some (.tuple [.list 1 cs, iN e], bbH1 x, none)) :: (C fDDa [.list 1 cs] (bbH1 x) = some (.tuple [.agg [.int .u16 d0, .int .u16 d1, .int .u16 d2, .list 4 ds], iN f], bbH1 x, none)) :: (((e : Int) == 0) = false) :: []) := by kernel_rfl
set_option maxRecDepth 1000000 in
theorem bbAuO (cs : List (List DV)) : zlm [0, 1] [0, 1] [1, 3, 4] (zl Try.prog tab ftab C kBb ((bbL.drop 7).take 4) bbS (bbH1 x) [(50, .q (.tuple [.list 1 cs, iN 0])), (55, .q (.tuple [.agg [w16 x.a0, w16 x.a1, w16 x.a2, elsD x.e1], iN 0]))]) =
    some (bbS, bbH2 x, FlatIn [0, 1] ⟨3, [⟨0, 0, 28, [w16 x.a0, w16 x.a1, w16 x.a2, elsD x.e1]⟩, oAl (yC2 x), oAl (xC x)], []⟩ :: (C fEAu [.agg [w16 x.a0, w16 x.a1, w16 x.a2, elsD x.e1]] (bbH1 x) = some (.tuple [.list 1 cs, iN 0], bbH1 x, none)) :: (C fDDa [.list 1 cs] (bbH1 x) = some (.tuple [.agg [w16 x.a0, w16 x.a1, w16 x.a2, elsD x.e1], iN 0], bbH1 x, none)) :: []) := by kernel_rfl
set_option maxRecDepth 1000000 in
theorem bbRqE (d0 d1 d2 d3 d4 d5 d6 d7 : Int) (ds : List (List DV)) (cs : List (List DV)) (e f : Nat) : zlm [0, 1] [0, 1] [1, 3, 4] (zl Try.prog tab ftab C kBb ((bbL.drop 11).take 4) bbS (bbH2 x) [(75, .q (.tuple [.list 1 cs, iN e])), (82, .q (.tuple [.agg [.int .u16 d0, .int .u16 d1, .int .u8 d2, .int .u8 d3, .int .u8 d4, .int .u8 d5, .int .u8 d6, .int .u8 d7, .list 4 ds], iN f])), (89, .b false)]) =
    some (bbS, bbH3 x, FlatIn [0, 1] ⟨3, [⟨0, 0, 32, [.int .u16 d0, .int .u16 d1, .int .u8 d2, .int .u8 d3, .int .u8 d4, .int .u8 d5, .int .u8 d6, .int .u8 d7, .list 4 ds]⟩, oAl (yC3 x), oAl (xC x)], []⟩ :: (C fAr [.agg [w16 x.rq.c, w16 x.rq.l, i8 x.rq.o0, i8 x.rq.o1, i8 x.rq.o2, i8 x.rq.o3, i8 x.rq.o4, i8 x.rq.o5, elsD x.rq.es], .bool x.ag] (bbH2 x) = some (.tuple [.list 1 cs, iN e], bbH2 x, none)) :: (C fDAq [.list 1 cs, .bool x.ag] (bbH2 x) = some (.tuple [.agg [.int .u16 d0, .int .u16 d1, .int .u8 d2, .int .u8 d3, .int .u8 d4, .int .u8 d5, .int .u8 d6, .int .u8 d7, .list 4 ds], iN f], bbH2 x, none)) :: (((e : Int) == 0) = false) :: []) := by kernel_rfl
set_option maxRecDepth 1000000 in
theorem bbRqO (cs : List (List DV)) : zlm [0, 1] [0, 1] [1, 3, 4] (zl Try.prog tab ftab C kBb ((bbL.drop 11).take 4) bbS (bbH2 x) [(75, .q (.tuple [.list 1 cs, iN 0])), (82, .q (.tuple [.agg [w16 x.rq.c, w16 x.rq.l, i8 x.rq.o0, i8 x.rq.o1, i8 x.rq.o2, i8 x.rq.o3, i8 x.rq.o4, i8 x.rq.o5, elsD x.rq.es], iN 0]))]) =
    some (bbS, bbH3 x, FlatIn [0, 1] ⟨3, [⟨0, 0, 32, [w16 x.rq.c, w16 x.rq.l, i8 x.rq.o0, i8 x.rq.o1, i8 x.rq.o2, i8 x.rq.o3, i8 x.rq.o4, i8 x.rq.o5, elsD x.rq.es]⟩, oAl (yC3 x), oAl (xC x)], []⟩ :: (C fAr [.agg [w16 x.rq.c, w16 x.rq.l, i8 x.rq.o0, i8 x.rq.o1, i8 x.rq.o2, i8 x.rq.o3, i8 x.rq.o4, i8 x.rq.o5, elsD x.rq.es], .bool x.ag] (bbH2 x) = some (.tuple [.list 1 cs, iN 0], bbH2 x, none)) :: (C fDAq [.list 1 cs, .bool x.ag] (bbH2 x) = some (.tuple [.agg [w16 x.rq.c, w16 x.rq.l, i8 x.rq.o0, i8 x.rq.o1, i8 x.rq.o2, i8 x.rq.o3, i8 x.rq.o4, i8 x.rq.o5, elsD x.rq.es], iN 0], bbH2 x, none)) :: []) := by kernel_rfl
set_option maxRecDepth 1000000 in
theorem bbReE (d0 d1 d2 : Int) (ds : List (List DV)) (cs : List (List DV)) (e f : Nat) : zlm [0, 1] [0, 1] [1, 3, 4] (zl Try.prog tab ftab C kBb ((bbL.drop 15).take 4) bbS (bbH3 x) [(100, .q (.tuple [.list 1 cs, iN e])), (105, .q (.tuple [.agg [.int .u16 d0, .int .u16 d1, .int .i64 d2, .list 4 ds], iN f])), (112, .b false)]) =
    some (bbS, bbH4 x, FlatIn [0, 1] ⟨3, [⟨0, 0, 34, [.int .u16 d0, .int .u16 d1, .int .i64 d2, .list 4 ds]⟩, oAl (yC4 x), oAl (xC x)], []⟩ :: (C fERe [.agg [w16 x.r0, w16 x.r1, .int .i64 x.r2, elsD x.e3]] (bbH3 x) = some (.tuple [.list 1 cs, iN e], bbH3 x, none)) :: (C fDDp [.list 1 cs] (bbH3 x) = some (.tuple [.agg [.int .u16 d0, .int .u16 d1, .int .i64 d2, .list 4 ds], iN f], bbH3 x, none)) :: (((e : Int) == 0) = false) :: []) := by kernel_rfl
set_option maxRecDepth 1000000 in
theorem bbReO (cs : List (List DV)) : zlm [0, 1] [0, 1] [1, 3, 4] (zl Try.prog tab ftab C kBb ((bbL.drop 15).take 4) bbS (bbH3 x) [(100, .q (.tuple [.list 1 cs, iN 0])), (105, .q (.tuple [.agg [w16 x.r0, w16 x.r1, .int .i64 x.r2, elsD x.e3], iN 0]))]) =
    some (bbS, bbH4 x, FlatIn [0, 1] ⟨3, [⟨0, 0, 34, [w16 x.r0, w16 x.r1, .int .i64 x.r2, elsD x.e3]⟩, oAl (yC4 x), oAl (xC x)], []⟩ :: (C fERe [.agg [w16 x.r0, w16 x.r1, .int .i64 x.r2, elsD x.e3]] (bbH3 x) = some (.tuple [.list 1 cs, iN 0], bbH3 x, none)) :: (C fDDp [.list 1 cs] (bbH3 x) = some (.tuple [.agg [w16 x.r0, w16 x.r1, .int .i64 x.r2, elsD x.e3], iN 0], bbH3 x, none)) :: []) := by kernel_rfl
set_option maxRecDepth 1000000 in
theorem bbErE (d0 : Int) (ds : List (List DV)) (cs : List (List DV)) (e f : Nat) : zlm [0, 1] [0, 1] [1, 3, 4] (zl Try.prog tab ftab C kBb ((bbL.drop 19).take 4) bbS (bbH4 x) [(123, .q (.tuple [.list 1 cs, iN e])), (128, .q (.tuple [.agg [.int .u16 d0, .list 4 ds], iN f])), (135, .b false)]) =
    some (bbS, bbH5 x, FlatIn [0, 1] ⟨3, [⟨0, 0, 36, [.int .u16 d0, .list 4 ds]⟩, oAl (yC5 x), oAl (xC x)], []⟩ :: (C fEr [.agg [w16 x.q, elsD x.e4]] (bbH4 x) = some (.tuple [.list 1 cs, iN e], bbH4 x, none)) :: (C fDr [.list 1 cs] (bbH4 x) = some (.tuple [.agg [.int .u16 d0, .list 4 ds], iN f], bbH4 x, none)) :: (((e : Int) == 0) = false) :: []) := by kernel_rfl
set_option maxRecDepth 1000000 in
theorem bbErO (cs : List (List DV)) : zlm [0, 1] [0, 1] [1, 3, 4] (zl Try.prog tab ftab C kBb ((bbL.drop 19).take 4) bbS (bbH4 x) [(123, .q (.tuple [.list 1 cs, iN 0])), (128, .q (.tuple [.agg [w16 x.q, elsD x.e4], iN 0]))]) =
    some (bbS, bbH5 x, FlatIn [0, 1] ⟨3, [⟨0, 0, 36, [w16 x.q, elsD x.e4]⟩, oAl (yC5 x), oAl (xC x)], []⟩ :: (C fEr [.agg [w16 x.q, elsD x.e4]] (bbH4 x) = some (.tuple [.list 1 cs, iN 0], bbH4 x, none)) :: (C fDr [.list 1 cs] (bbH4 x) = some (.tuple [.agg [w16 x.q, elsD x.e4], iN 0], bbH4 x, none)) :: []) := by kernel_rfl
set_option maxRecDepth 1000000 in
theorem bbAcE (d0 d1 d2 : Int) (ds : List (List DV)) (cs : List (List DV)) (e f : Nat) : zlm [0, 1] [0, 1] [1, 3, 4] (zl Try.prog tab ftab C kBb ((bbL.drop 23).take 4) bbS (bbH5 x) [(146, .q (.tuple [.list 1 cs, iN e])), (151, .q (.tuple [.agg [.int .u8 d0, .int .u8 d1, .int .u8 d2, .list 1 ds], iN f])), (158, .b false)]) =
    some (bbS, bbH6 x, FlatIn [0, 1] ⟨3, [⟨0, 0, 39, [.int .u8 d0, .int .u8 d1, .int .u8 d2, .list 1 ds]⟩, oAl (yC6 x), oAl (xC x)], []⟩ :: (C fEAc [.agg [i8 x.k0, i8 x.k1, i8 x.k2, byL x.da]] (bbH5 x) = some (.tuple [.list 1 cs, iN e], bbH5 x, none)) :: (C fDAc [.list 1 cs] (bbH5 x) = some (.tuple [.agg [.int .u8 d0, .int .u8 d1, .int .u8 d2, .list 1 ds], iN f], bbH5 x, none)) :: (((e : Int) == 0) = false) :: []) := by kernel_rfl
set_option maxRecDepth 1000000 in
theorem bbAcO (cs : List (List DV)) : zlm [0, 1] [0, 1] [1, 3, 4] (zl Try.prog tab ftab C kBb ((bbL.drop 23).take 4) bbS (bbH5 x) [(146, .q (.tuple [.list 1 cs, iN 0])), (151, .q (.tuple [.agg [i8 x.k0, i8 x.k1, i8 x.k2, byL x.da], iN 0]))]) =
    some (bbS, bbH6 x, FlatIn [0, 1] ⟨3, [⟨0, 0, 39, [i8 x.k0, i8 x.k1, i8 x.k2, byL x.da]⟩, oAl (yC6 x), oAl (xC x)], []⟩ :: (C fEAc [.agg [i8 x.k0, i8 x.k1, i8 x.k2, byL x.da]] (bbH5 x) = some (.tuple [.list 1 cs, iN 0], bbH5 x, none)) :: (C fDAc [.list 1 cs] (bbH5 x) = some (.tuple [.agg [i8 x.k0, i8 x.k1, i8 x.k2, byL x.da], iN 0], bbH5 x, none)) :: []) := by kernel_rfl
set_option maxRecDepth 1000000 in
theorem bbBrE (d0 d1 : Int) (cs : List (List DV)) (e f : Nat) : zlm [0, 1] [0, 1] [1, 3, 4] (zl Try.prog tab ftab C kBb ((bbL.drop 27).take 4) bbS (bbH6 x) [(169, .q (.tuple [.list 1 cs, iN e])), (174, .q (.tuple [.agg [.int .i64 d0, .int .i64 d1], iN f])), (181, .b false)]) =
    some (bbS, bbH7 x, FlatIn [0, 1] ⟨3, [⟨0, 0, 41, [.int .i64 d0, .int .i64 d1]⟩, oAl (yC7 x), oAl (xC x)], []⟩ :: (C fEBr [.agg [.int .i64 x.b0, .int .i64 x.b1]] (bbH6 x) = some (.tuple [.list 1 cs, iN e], bbH6 x, none)) :: (C fDBr [.list 1 cs] (bbH6 x) = some (.tuple [.agg [.int .i64 d0, .int .i64 d1], iN f], bbH6 x, none)) :: (((e : Int) == 0) = false) :: []) := by kernel_rfl
set_option maxRecDepth 1000000 in
theorem bbBrO (cs : List (List DV)) : zlm [0, 1] [0, 1] [1, 3, 4] (zl Try.prog tab ftab C kBb ((bbL.drop 27).take 4) bbS (bbH6 x) [(169, .q (.tuple [.list 1 cs, iN 0])), (174, .q (.tuple [.agg [.int .i64 x.b0, .int .i64 x.b1], iN 0]))]) =
    some (bbS, bbH7 x, FlatIn [0, 1] ⟨3, [⟨0, 0, 41, [.int .i64 x.b0, .int .i64 x.b1]⟩, oAl (yC7 x), oAl (xC x)], []⟩ :: (C fEBr [.agg [.int .i64 x.b0, .int .i64 x.b1]] (bbH6 x) = some (.tuple [.list 1 cs, iN 0], bbH6 x, none)) :: (C fDBr [.list 1 cs] (bbH6 x) = some (.tuple [.agg [.int .i64 x.b0, .int .i64 x.b1], iN 0], bbH6 x, none)) :: []) := by kernel_rfl
set_option maxRecDepth 1000000 in
theorem bbBkE (d0 d1 d2 : Int) (cs : List (List DV)) (e f : Nat) : zlm [0, 1] [0, 1] [1, 3, 4] (zl Try.prog tab ftab C kBb ((bbL.drop 31).take 4) bbS (bbH7 x) [(192, .q (.tuple [.list 1 cs, iN e])), (197, .q (.tuple [.agg [.int .i64 d0, .int .i64 d1, .int .u64 d2], iN f])), (204, .b false)]) =
    some (bbS, bbH8 x, FlatIn [0, 1] ⟨3, [⟨0, 0, 43, [.int .i64 d0, .int .i64 d1, .int .u64 d2]⟩, oAl (yC8 x), oAl (xC x)], []⟩ :: (C fEBk [.agg [.int .i64 x.c0, .int .i64 x.c1, .int .u64 (x.m : Int)]] (bbH7 x) = some (.tuple [.list 1 cs, iN e], bbH7 x, none)) :: (C fDBk [.list 1 cs] (bbH7 x) = some (.tuple [.agg [.int .i64 d0, .int .i64 d1, .int .u64 d2], iN f], bbH7 x, none)) :: (((e : Int) == 0) = false) :: []) := by kernel_rfl
set_option maxRecDepth 1000000 in
theorem bbBkO (cs : List (List DV)) : zlm [0, 1] [0, 1] [1, 3, 4] (zl Try.prog tab ftab C kBb ((bbL.drop 31).take 4) bbS (bbH7 x) [(192, .q (.tuple [.list 1 cs, iN 0])), (197, .q (.tuple [.agg [.int .i64 x.c0, .int .i64 x.c1, .int .u64 (x.m : Int)], iN 0]))]) =
    some (bbS, bbH8 x, FlatIn [0, 1] ⟨3, [⟨0, 0, 43, [.int .i64 x.c0, .int .i64 x.c1, .int .u64 (x.m : Int)]⟩, oAl (yC8 x), oAl (xC x)], []⟩ :: (C fEBk [.agg [.int .i64 x.c0, .int .i64 x.c1, .int .u64 (x.m : Int)]] (bbH7 x) = some (.tuple [.list 1 cs, iN 0], bbH7 x, none)) :: (C fDBk [.list 1 cs] (bbH7 x) = some (.tuple [.agg [.int .i64 x.c0, .int .i64 x.c1, .int .u64 (x.m : Int)], iN 0], bbH7 x, none)) :: []) := by kernel_rfl
set_option maxRecDepth 1000000 in
theorem bb_fin : zlm [0, 1] [0, 1] [2] (zl Try.prog tab ftab C kBb ((bbL.drop 35).take 1) bbS (bbH8 x) [(216, .q (.bool true))]) =
    some (mkT 218 [(2, .bool true)], bbH8 x, FlatIn [0, 1] (bbH8 x) :: (C 40 [.agg (xC x), .agg (yC8 x)] (bbH8 x) = some (.bool true, bbH8 x, none)) :: []) := by kernel_rfl
set_option maxRecDepth 1000000 in
theorem bb_pre : zlm [0, 1] [0, 1] [1, 3, 4] (zl Try.prog tab ftab C kBb (bbL.take 4) (initS 218 [.agg (xC x)]) ⟨0, [], []⟩ [(16, .q (.bool true)), (18, .q (.bool false))]) =
    some (bbS, bbH0 x, FlatIn [0, 1] (bbH0 x) :: (C 41 [] ⟨1, [oAl (xC x)], []⟩ = some (.bool true, ⟨1, [oAl (xC x)], []⟩, none)) :: (C 6 [.agg (xC x)] ⟨1, [oAl (xC x)], []⟩ = some (.bool false, ⟨1, [oAl (xC x)], []⟩, none)) :: []) := by kernel_rfl
set_option maxRecDepth 1000000 in
theorem bb_gt : zflat (zans Try.prog tab ftab C fBb [.agg (xC x)] [(16, .q (.bool true)), (18, .q (.bool true))]) =
    some (.bool true, (C 41 [] ⟨1, [oAl (xC x)], []⟩ = some (.bool true, ⟨1, [oAl (xC x)], []⟩, none)) :: (C 6 [.agg (xC x)] ⟨1, [oAl (xC x)], []⟩ = some (.bool true, ⟨1, [oAl (xC x)], []⟩, none)) :: []) := by kernel_rfl
end
end
end Go.Proofs.Ytejlbkhddehaiaa
/- BodyBack over data: what is encoded is decoded again; the groups; the law. -/
namespace Go.Proofs.Ytejlbkhddehaiaa
open Go.RowKit

noncomputable section
structure OkAl (x : Al) : Prop where
  t : x.t < 18446744073709551616
  i : x.i < 65536
  c : x.c < 65536
  e0 : x.e0.length < 2 ^ 63 ∧ okL x.e0
  a0 : x.a0 < 65536
  a1 : x.a1 < 65536
  a2 : x.a2 < 65536
  e1 : x.e1.length < 2 ^ 63 ∧ okL x.e1
  rq : okRq x.rq
  r0 : x.r0 < 65536
  r1 : x.r1 < 65536
  e3 : x.e3.length < 2 ^ 63 ∧ okL x.e3
  q : x.q < 65536
  e4 : x.e4.length < 2 ^ 63 ∧ okL x.e4
  m : x.m < 18446744073709551616
abbrev Sm (l : List El) : Prop := SmL l ∧ depA l ≤ 2 ^ 39
structure SmAl (x : Al) : Prop where
  e0 : Sm x.e0
  e1 : Sm x.e1
  e2 : Sm x.rq.es
  e3 : Sm x.e3
  e4 : Sm x.e4
  da : x.da.length ≤ 2400
theorem sm_of {l : List El} (h : l.length < 2 ^ 63 ∧ okL l) (hg : grB l = false) : Sm l := ⟨(small_of h.2 hg).1, Nat.le_trans (dep_of hg) (by decide)⟩
/-! ### great -/
abbrev fGt : FuncId := 6
def grA (x : Al) : Bool := grB x.e0 || (grB x.e1 || (grB x.rq.es || (grB x.e3 || (grB x.e4 || decide (x.da.length > 2400)))))
abbrev hB (x : Al) : Hp := ⟨1, [oAl (xC x)], []⟩
set_option maxRecDepth 1000000 in
theorem bg0 (x : Al) : zflat (zans Try.prog tab ftab cGr fGt [.agg (xC x)] [(6, .q (.bool true))]) = some (.bool true, (cGr fGr [elsD x.e0] (hB x) = some (.bool true, hB x, none)) :: []) := by kernel_rfl
set_option maxRecDepth 1000000 in
theorem bg1 (x : Al) : zflat (zans Try.prog tab ftab cGr fGt [.agg (xC x)] [(6, .q (.bool false)), (11, .q (.bool true))]) = some (.bool true, (cGr fGr [elsD x.e0] (hB x) = some (.bool false, hB x, none)) :: (cGr fGr [elsD x.e1] (hB x) = some (.bool true, hB x, none)) :: []) := by kernel_rfl
set_option maxRecDepth 1000000 in
theorem bg2 (x : Al) : zflat (zans Try.prog tab ftab cGr fGt [.agg (xC x)] [(6, .q (.bool false)), (11, .q (.bool false)), (17, .q (.bool true))]) = some (.bool true, (cGr fGr [elsD x.e0] (hB x) = some (.bool false, hB x, none)) :: (cGr fGr [elsD x.e1] (hB x) = some (.bool false, hB x, none)) :: (cGr fGr [elsD x.rq.es] (hB x) = some (.bool true, hB x, none)) :: []) := by kernel_rfl
set_option maxRecDepth 1000000 in
theorem bg3 (x : Al) : zflat (zans Try.prog tab ftab cGr fGt [.agg (xC x)] [(6, .q (.bool false)), (11, .q (.bool false)), (17, .q (.bool false)), (23, .q (.bool true))]) = some (.bool true, (cGr fGr [elsD x.e0] (hB x) = some (.bool false, hB x, none)) :: (cGr fGr [elsD x.e1] (hB x) = some (.bool false, hB x, none)) :: (cGr fGr [elsD x.rq.es] (hB x) = some (.bool false, hB x, none)) :: (cGr fGr [elsD x.e3] (hB x) = some (.bool true, hB x, none)) :: []) := by kernel_rfl
set_option maxRecDepth 1000000 in
theorem bg4 (x : Al) : zflat (zans Try.prog tab ftab cGr fGt [.agg (xC x)] [(6, .q (.bool false)), (11, .q (.bool false)), (17, .q (.bool false)), (23, .q (.bool false)), (29, .q (.bool true))]) = some (.bool true, (cGr fGr [elsD x.e0] (hB x) = some (.bool false, hB x, none)) :: (cGr fGr [elsD x.e1] (hB x) = some (.bool false, hB x, none)) :: (cGr fGr [elsD x.rq.es] (hB x) = some (.bool false, hB x, none)) :: (cGr fGr [elsD x.e3] (hB x) = some (.bool false, hB x, none)) :: (cGr fGr [elsD x.e4] (hB x) = some (.bool true, hB x, none)) :: []) := by kernel_rfl
set_option maxRecDepth 1000000 in
theorem bg5 (x : Al) (v : Bool) : zflat (zans Try.prog tab ftab cGr fGt [.agg (xC x)] [(6, .q (.bool false)), (11, .q (.bool false)), (17, .q (.bool false)), (23, .q (.bool false)), (29, .q (.bool false)), (36, .b v)]) = some (.bool v, (cGr fGr [elsD x.e0] (hB x) = some (.bool false, hB x, none)) :: (cGr fGr [elsD x.e1] (hB x) = some (.bool false, hB x, none)) :: (cGr fGr [elsD x.rq.es] (hB x) = some (.bool false, hB x, none)) :: (cGr fGr [elsD x.e3] (hB x) = some (.bool false, hB x, none)) :: (cGr fGr [elsD x.e4] (hB x) = some (.bool false, hB x, none)) :: (decide (((by1 x.da).length : Int) > 2400) = v) :: []) := by kernel_rfl
theorem gr_call (h : Hp) {l : List El} (hl : l.length < 2 ^ 63 ∧ okL l) {v : Bool} (hv : grB l = v) : cGr fGr [elsD l] h = some (.bool v, h, none) := by
  rw [← hv]
  exact cGr_at h ⟨l, hl⟩
theorem gt_ans (x : Al) (ox : OkAl x) : Ans Try.prog fGt [.agg (xC x)] (.bool (grA x)) ⟨0, [], []⟩ := by
  have o2 : x.rq.es.length < 2 ^ 63 ∧ okL x.rq.es := ⟨ox.rq.2.2.1, ox.rq.2.2.2⟩
  unfold grA
  cases h0 : grB x.e0 with
  | true => exact zflat_ok tab_ok mixed fun_ok cGr_ok (bg0 x) (.cons (gr_call _ ox.e0 h0) .nil)
  | false =>
    cases h1 : grB x.e1 with
    | true => exact zflat_ok tab_ok mixed fun_ok cGr_ok (bg1 x) (.cons (gr_call _ ox.e0 h0) (.cons (gr_call _ ox.e1 h1) .nil))
    | false =>
      cases h2 : grB x.rq.es with
      | true => exact zflat_ok tab_ok mixed fun_ok cGr_ok (bg2 x) (.cons (gr_call _ ox.e0 h0) (.cons (gr_call _ ox.e1 h1) (.cons (gr_call _ o2 h2) .nil)))
      | false =>
        cases h3 : grB x.e3 with
        | true => exact zflat_ok tab_ok mixed fun_ok cGr_ok (bg3 x) (.cons (gr_call _ ox.e0 h0) (.cons (gr_call _ ox.e1 h1) (.cons (gr_call _ o2 h2) (.cons (gr_call _ ox.e3 h3) .nil))))
        | false =>
          cases h4 : grB x.e4 with
          | true => exact zflat_ok tab_ok mixed fun_ok cGr_ok (bg4 x) (.cons (gr_call _ ox.e0 h0) (.cons (gr_call _ ox.e1 h1) (.cons (gr_call _ o2 h2) (.cons (gr_call _ ox.e3 h3) (.cons (gr_call _ ox.e4 h4) .nil)))))
          | false =>
            show Ans _ _ _ (.bool (decide (x.da.length > 2400))) _
            exact zflat_ok tab_ok mixed fun_ok cGr_ok (bg5 x _) (.cons (gr_call _ ox.e0 h0) (.cons (gr_call _ ox.e1 h1) (.cons (gr_call _ o2 h2) (.cons (gr_call _ ox.e3 h3) (.cons (gr_call _ ox.e4 h4) (.cons (by rw [by1_length]; exact decide_eq_decide.2 (by omega)) .nil))))))
theorem gr_sm {x : Al} (ox : OkAl x) (h : grA x = false) : SmAl x := by
  unfold grA at h
  simp only [Bool.or_eq_false_iff, decide_eq_false_iff_not] at h
  obtain ⟨h0, h1, h2, h3, h4, h5⟩ := h
  exact ⟨sm_of ox.e0 h0, sm_of ox.e1 h1, sm_of ⟨ox.rq.2.2.1, ox.rq.2.2.2⟩ h2, sm_of ox.e3 h3, sm_of ox.e4 h4, by omega⟩
theorem dBe {t i c : Nat} {l : List El} (ht : t < 18446744073709551616) (hi : i < 65536) (hc : c < 65536) (h : (szR l).2 = 0) (hl : (frBe t i c).length + (encA l).length ≤ 2304) : nlD 4 (DnD (frBe t i c ++ encA l)) = .tuple [.agg [.int .u64 (t : Int), w16 i, w16 c, elsD l], iN 0] := by
  obtain ⟨q1, q2⟩ := de_en2 h
  have hn : (frBe t i c).length = 12 := rfl
  have hd : (frBe t i c ++ encA l).drop 12 = encA l := drop_frt rfl
  have hs : (frBe t i c ++ encA l).length = 12 + (encA l).length := by rw [List.length_append, hn]
  have g0 : g64 (frBe t i c ++ encA l) 0 = t := leN_by8 ht
  have g1 : g16 (frBe t i c ++ encA l) 8 = i := leN_by2 hi
  have g2 : g16 (frBe t i c ++ encA l) 10 = c := leN_by2 hc
  unfold DnD
  rw [bleT (show (frBe t i c ++ encA l).length ≤ 2304 by omega), bleT (show 12 ≤ (frBe t i c ++ encA l).length by omega)]
  dsimp only
  rw [hd, q1, q2, g0, g1, g2]
  rfl
theorem dAu {a b c : Nat} {l : List El} (ha : a < 65536) (hb : b < 65536) (hc : c < 65536) (h : (szR l).2 = 0) (hl : (frAu a b c).length + (encA l).length ≤ 2304) : nlD 4 (DaD (frAu a b c ++ encA l)) = .tuple [.agg [w16 a, w16 b, w16 c, elsD l], iN 0] := by
  obtain ⟨q1, q2⟩ := de_en2 h
  have hn : (frAu a b c).length = 6 := rfl
  have hd : (frAu a b c ++ encA l).drop 6 = encA l := drop_frt rfl
  have hs : (frAu a b c ++ encA l).length = 6 + (encA l).length := by rw [List.length_append, hn]
  have g0 : g16 (frAu a b c ++ encA l) 0 = a := leN_by2 ha
  have g1 : g16 (frAu a b c ++ encA l) 2 = b := leN_by2 hb
  have g2 : g16 (frAu a b c ++ encA l) 4 = c := leN_by2 hc
  unfold DaD
  rw [bleT (show (frAu a b c ++ encA l).length ≤ 2304 by omega), bleT (show 6 ≤ (frAu a b c ++ encA l).length by omega)]
  dsimp only
  rw [hd, q1, q2, g0, g1, g2]
  rfl
theorem dRe {a b c : Nat} {l : List El} (ha : a < 65536) (hb : b < 65536) (hc : c ≤ 255) (h : (szR l).2 = 0) (hl : (frRe a b c).length + (encA l).length ≤ 2304) : nlD 4 (DpD (frRe a b c ++ encA l)) = .tuple [.agg [w16 a, w16 b, iN c, elsD l], iN 0] := by
  obtain ⟨q1, q2⟩ := de_en2 h
  have hn : (frRe a b c).length = 6 := rfl
  have hd : (frRe a b c ++ encA l).drop 6 = encA l := drop_frt rfl
  have hs : (frRe a b c ++ encA l).length = 6 + (encA l).length := by rw [List.length_append, hn]
  have g0 : g16 (frRe a b c ++ encA l) 0 = a := leN_by2 ha
  have g1 : g16 (frRe a b c ++ encA l) 2 = b := leN_by2 hb
  have g2 : g16 (frRe a b c ++ encA l) 4 = c := leN_by2 (Nat.lt_of_le_of_lt hc (by decide))
  unfold DpD
  rw [bleT (show (frRe a b c ++ encA l).length ≤ 2304 by omega), bleT (show 6 ≤ (frRe a b c ++ encA l).length by omega)]
  dsimp only
  rw [g2, bleT hc]
  dsimp only
  rw [hd, q1, q2, g0, g1]
  rfl
theorem dEr {a : Nat} {l : List El} (ha : a < 65536) (h : (szR l).2 = 0) (hl : (frE a).length + (encA l).length ≤ 2304) : nlD 4 (drD (frE a ++ encA l)) = .tuple [.agg [w16 a, elsD l], iN 0] := by
  obtain ⟨q1, q2⟩ := de_en2 h
  have hn : (frE a).length = 2 := rfl
  have hd : (frE a ++ encA l).drop 2 = encA l := drop_frt rfl
  have hs : (frE a ++ encA l).length = 2 + (encA l).length := by rw [List.length_append, hn]
  have g0 : leN ((frE a ++ encA l).take 2) = a := leN_by2 ha
  unfold drD
  rw [bleT (show (frE a ++ encA l).length ≤ 2304 by omega), bleT (show 2 ≤ (frE a ++ encA l).length by omega)]
  dsimp only
  rw [hd, q1, q2, g0]
  rfl
theorem dRqt {x : Rq} (hc : x.c < 65536) (hl' : x.l < 65536) (h : (szR x.es).2 = 0) (hl : (frR x true).length + (encA x.es).length ≤ 2304) : nlD 4 (dqD (frR x true ++ encA x.es) true) = .tuple [rqD x, iN 0] := by
  obtain ⟨q1, q2⟩ := de_en2 h
  have hn : (frR x true).length = 10 := rfl
  have hd : (frR x true ++ encA x.es).drop 10 = encA x.es := drop_frt rfl
  have hs : (frR x true ++ encA x.es).length = 10 + (encA x.es).length := by rw [List.length_append, hn]
  have g0 : g16 (frR x true ++ encA x.es) 0 = x.c := leN_by2 hc
  have g1 : g16 (frR x true ++ encA x.es) 2 = x.l := leN_by2 hl'
  unfold dqD rqB rqN
  rw [bleT (show (frR x true ++ encA x.es).length ≤ 2304 by omega), bleT (show 10 ≤ (frR x true ++ encA x.es).length by omega)]
  dsimp only
  rw [hd, q1, q2, g0, g1]
  rfl
theorem dRqf {x : Rq} (hc : x.c < 65536) (hl' : x.l < 65536) (h : (szR x.es).2 = 0) (hl : (frR x false).length + (encA x.es).length ≤ 2304) : nlD 4 (dqD (frR x false ++ encA x.es) false) = .tuple [rqD (z0 x), iN 0] := by
  obtain ⟨q1, q2⟩ := de_en2 h
  have hn : (frR x false).length = 4 := rfl
  have hd : (frR x false ++ encA x.es).drop 4 = encA x.es := drop_frt rfl
  have hs : (frR x false ++ encA x.es).length = 4 + (encA x.es).length := by rw [List.length_append, hn]
  have g0 : g16 (frR x false ++ encA x.es) 0 = x.c := leN_by2 hc
  have g1 : g16 (frR x false ++ encA x.es) 2 = x.l := leN_by2 hl'
  unfold dqD rqB rqN
  rw [bleT (show (frR x false ++ encA x.es).length ≤ 2304 by omega), bleT (show 4 ≤ (frR x false ++ encA x.es).length by omega)]
  dsimp only
  rw [hd, q1, q2, g0, g1]
  rfl
theorem dAc {a b c : UInt8} {g : List UInt8} (hl : [a, b, c].length + g.length ≤ 2304) : nlD 1 (daD ([a, b, c] ++ g)) = .tuple [.agg [i8 a, i8 b, i8 c, byL g], iN 0] := by
  have hs : ([a, b, c] ++ g).length = 3 + g.length := by rw [List.length_append]; rfl
  have hn : [a, b, c].length = 3 := rfl
  have g0 : g8 ([a, b, c] ++ g) 0 = a.toNat := leN_by1 a
  have g1 : g8 ([a, b, c] ++ g) 1 = b.toNat := leN_by1 b
  have g2 : g8 ([a, b, c] ++ g) 2 = c.toNat := leN_by1 c
  unfold daD
  rw [bleT (show ([a, b, c] ++ g).length ≤ 2304 by omega), bleT (show 3 ≤ ([a, b, c] ++ g).length by omega)]
  dsimp only
  rw [g0, g1, g2]
  rfl
theorem okTS_t {a s : Int} (h : okTS a s = true) : 0 ≤ a ∧ a ≤ 7 ∧ 0 ≤ s ∧ s ≤ 4095 := by
  simp only [okTS, Bool.and_eq_true, decide_eq_true_eq] at h
  omega
theorem dBr {a s : Int} (h : okTS a s = true) : BxD (by2 (a.toNat + 16 * s.toNat)) = .tuple [.agg [.int .i64 a, .int .i64 s], iN 0] := by
  obtain ⟨h1, h2, h3, h4⟩ := okTS_t h
  have g0 : g16 (by2 (a.toNat + 16 * s.toNat)) 0 = a.toNat + 16 * s.toNat := leN_by2 (by omega)
  have e0 : (a.toNat + 16 * s.toNat) % 16 = a.toNat := by omega
  have e1 : (a.toNat + 16 * s.toNat) / 16 = s.toNat := by omega
  unfold BxD
  rw [g0, e0, e1, bleT (show a.toNat ≤ 7 by omega)]
  show DV.tuple [.agg [.int .i64 (a.toNat : Int), .int .i64 (s.toNat : Int)], iN 0] = _
  rw [Int.toNat_of_nonneg h1, Int.toNat_of_nonneg h3]
theorem dBk {a s : Int} {q : Nat} (h : okTS a s = true) (hq : q < 18446744073709551616) : ByD (by2 (a.toNat + 16 * s.toNat) ++ by8 q) = .tuple [.agg [.int .i64 a, .int .i64 s, .int .u64 (q : Int)], iN 0] := by
  obtain ⟨h1, h2, h3, h4⟩ := okTS_t h
  have g0 : g16 (by2 (a.toNat + 16 * s.toNat) ++ by8 q) 0 = a.toNat + 16 * s.toNat := leN_by2 (by omega)
  have g1 : g64 (by2 (a.toNat + 16 * s.toNat) ++ by8 q) 2 = q := leN_by8 hq
  have e0 : (a.toNat + 16 * s.toNat) % 16 = a.toNat := by omega
  have e1 : (a.toNat + 16 * s.toNat) / 16 = s.toNat := by omega
  unfold ByD
  rw [g0, g1, e0, e1, bleT (show a.toNat ≤ 7 by omega)]
  show DV.tuple [.agg [.int .i64 (a.toNat : Int), .int .i64 (s.toNat : Int), .int .u64 (q : Int)], iN 0] = _
  rw [Int.toNat_of_nonneg h1, Int.toNat_of_nonneg h3]
/-! ### What cannot be encoded -/
abbrev oldZ (x : Rq) : Bool := (((x.o0.toNat : Int) == 0) && (((x.o1.toNat : Int) == 0) && (((x.o2.toNat : Int) == 0) && (((x.o3.toNat : Int) == 0) && (((x.o4.toNat : Int) == 0) && (((x.o5.toNat : Int) == 0) && true))))))
set_option maxRecDepth 1000000 in
theorem arX_run (x : Rq) : zflat (zans Try.prog tab ftab noC fAr [.agg (rqC x.c x.l x.o0 x.o1 x.o2 x.o3 x.o4 x.o5 (elsD x.es)), .bool false] [(13, .b true)]) = some (.tuple [.nil, iN 8], ((!oldZ x) = true) :: []) := by kernel_rfl
theorem u8_z {a : UInt8} (h : ((a.toNat : Int) == 0) = true) : a = 0 := by
  have := beq_iff_eq.1 h
  exact UInt8.toNat_inj.1 (by show a.toNat = 0; omega)
theorem oldZ_t {x : Rq} (h : oldZ x = true) : z0 x = x := by
  obtain ⟨c, l, o0, o1, o2, o3, o4, o5, es⟩ := x
  simp only [oldZ, Bool.and_eq_true] at h
  obtain ⟨h0, h1, h2, h3, h4, h5, _⟩ := h
  rw [u8_z h0, u8_z h1, u8_z h2, u8_z h3, u8_z h4, u8_z h5]
  rfl
theorem arX_ans (x : Rq) (h : oldZ x = false) : Ans Try.prog fAr [rqD x, .bool false] (.tuple [.list 1 [], iN 8]) ⟨0, [], []⟩ := Ans.nil1 (zflat_ok tab_ok mixed fun_ok noC_ok (arX_run x) (.cons (by rw [h]; rfl) .nil))
set_option maxRecDepth 1000000 in
theorem reX1 (a b : Nat) (z : Int) (es : List (List DV)) : zflat (zans Try.prog tab ftab noC fERe [.agg [w16 a, w16 b, .int .i64 z, .list 4 es]] [(6, .c [(6, .b false)])]) = some (.tuple [.nil, iN 8], (decide (z ≥ 0) = false) :: []) := by kernel_rfl
set_option maxRecDepth 1000000 in
theorem reX2 (a b : Nat) (z : Int) (es : List (List DV)) : zflat (zans Try.prog tab ftab noC fERe [.agg [w16 a, w16 b, .int .i64 z, .list 4 es]] [(6, .c [(6, .b true), (10, .b false)])]) = some (.tuple [.nil, iN 8], (decide (z ≥ 0) = true) :: (decide (z ≤ 255) = false) :: []) := by kernel_rfl
theorem reX_ans (a b : Nat) (z : Int) (l : List El) (h : z < 0 ∨ 255 < z) : Ans Try.prog fERe [.agg [w16 a, w16 b, .int .i64 z, elsD l]] (.tuple [.list 1 [], iN 8]) ⟨0, [], []⟩ := by
  by_cases h0 : z < 0
  · exact Ans.nil1 (zflat_ok tab_ok mixed fun_ok noC_ok (reX1 a b z (elR l)) (.cons (decide_eq_false (by omega)) .nil))
  · exact Ans.nil1 (zflat_ok tab_ok mixed fun_ok noC_ok (reX2 a b z (elR l)) (.cons (decide_eq_true (by omega)) (.cons (decide_eq_false (by omega)) .nil)))
/-! ### The groups -/
theorem nz (e : Nat) : (((e + 1 : Nat) : Int) == 0) = false := beq_eq_false_iff_ne.2 (by omega)
theorem b30 {f : List UInt8} {l : List El} (h : f.length + (encA l).length ≤ 2304) : (f ++ encA l).length < 2 ^ 30 := by
  rw [List.length_append]
  omega
section
variable {x : Al} {B : List Code} {e : Ex} {s2 : Slots} {h2 : Hp}
abbrev GrBe (x : Al) (B : List Code) (e : Ex) (s2 : Slots) (h2 : Hp) : Prop := GL Try.prog tab kBb ((bbL.drop 4).take 3 ++ B) bbS (bbH0 x) e s2 h2
theorem gEBe (n : Nat) (a : Ans Try.prog fEBe [.agg [.int .u64 (x.t : Int), w16 x.i, w16 x.c, elsD x.e0]] (.tuple [.list 1 [], iN (n + 1)]) ⟨0, [], []⟩) (d : Ans Try.prog fDDn [byL []] (.tuple [.agg [.int .u64 0, .int .u16 0, .int .u16 0, .list 4 []], iN 10]) ⟨0, [], []⟩) (k : GL Try.prog tab kBb B bbS (bbH1 x) e s2 h2) : GrBe x B e s2 h2 :=
  zlm_ok tab_ok mixed fun_ok (orK_ok (calC_ok a) (calC_ok d)) (bbBeE _ x 0 0 0 [] [] (n + 1) 10) (.cons (flat_two rfl rfl (yC1_fl x) (xC_fl x)) (.cons (orK_left (calC_at _ rfl rfl)) (.cons (orK_right (calC_oth (by kernel_rfl)) (calC_at _ rfl rfl)) (.cons (nz n) .nil)))) k
theorem gOBe (b : List UInt8) (a : Ans Try.prog fEBe [.agg [.int .u64 (x.t : Int), w16 x.i, w16 x.c, elsD x.e0]] (.tuple [byL b, iN 0]) ⟨0, [], []⟩) (d : Ans Try.prog fDDn [byL b] (.tuple [.agg [.int .u64 (x.t : Int), w16 x.i, w16 x.c, elsD x.e0], iN 0]) ⟨0, [], []⟩) (k : GL Try.prog tab kBb B bbS (bbH1 x) e s2 h2) : GrBe x B e s2 h2 :=
  zlm_ok tab_ok mixed fun_ok (orK_ok (calC_ok a) (calC_ok d)) (bbBeO _ x (by1 b)) (.cons (flat_two rfl rfl (yC1_fl x) (xC_fl x)) (.cons (orK_left (calC_at _ rfl rfl)) (.cons (orK_right (calC_oth (by kernel_rfl)) (calC_at _ rfl rfl)) .nil))) k
abbrev GrAu (x : Al) (B : List Code) (e : Ex) (s2 : Slots) (h2 : Hp) : Prop := GL Try.prog tab kBb ((bbL.drop 7).take 4 ++ B) bbS (bbH1 x) e s2 h2
theorem gEAu (n : Nat) (a : Ans Try.prog fEAu [.agg [w16 x.a0, w16 x.a1, w16 x.a2, elsD x.e1]] (.tuple [.list 1 [], iN (n + 1)]) ⟨0, [], []⟩) (d : Ans Try.prog fDDa [byL []] (.tuple [.agg [.int .u16 0, .int .u16 0, .int .u16 0, .list 4 []], iN 10]) ⟨0, [], []⟩) (k : GL Try.prog tab kBb B bbS (bbH2 x) e s2 h2) : GrAu x B e s2 h2 :=
  zlm_ok tab_ok mixed fun_ok (orK_ok (calC_ok a) (calC_ok d)) (bbAuE _ x 0 0 0 [] [] (n + 1) 10) (.cons (flat_two rfl rfl (yC2_fl x) (xC_fl x)) (.cons (orK_left (calC_at _ rfl rfl)) (.cons (orK_right (calC_oth (by kernel_rfl)) (calC_at _ rfl rfl)) (.cons (nz n) .nil)))) k
theorem gOAu (b : List UInt8) (a : Ans Try.prog fEAu [.agg [w16 x.a0, w16 x.a1, w16 x.a2, elsD x.e1]] (.tuple [byL b, iN 0]) ⟨0, [], []⟩) (d : Ans Try.prog fDDa [byL b] (.tuple [.agg [w16 x.a0, w16 x.a1, w16 x.a2, elsD x.e1], iN 0]) ⟨0, [], []⟩) (k : GL Try.prog tab kBb B bbS (bbH2 x) e s2 h2) : GrAu x B e s2 h2 :=
  zlm_ok tab_ok mixed fun_ok (orK_ok (calC_ok a) (calC_ok d)) (bbAuO _ x (by1 b)) (.cons (flat_two rfl rfl (yC2_fl x) (xC_fl x)) (.cons (orK_left (calC_at _ rfl rfl)) (.cons (orK_right (calC_oth (by kernel_rfl)) (calC_at _ rfl rfl)) .nil))) k
abbrev GrRq (x : Al) (B : List Code) (e : Ex) (s2 : Slots) (h2 : Hp) : Prop := GL Try.prog tab kBb ((bbL.drop 11).take 4 ++ B) bbS (bbH2 x) e s2 h2
theorem gERq (n : Nat) (a : Ans Try.prog fAr [.agg [w16 x.rq.c, w16 x.rq.l, i8 x.rq.o0, i8 x.rq.o1, i8 x.rq.o2, i8 x.rq.o3, i8 x.rq.o4, i8 x.rq.o5, elsD x.rq.es], .bool x.ag] (.tuple [.list 1 [], iN (n + 1)]) ⟨0, [], []⟩) (d : Ans Try.prog fDAq [byL [], .bool x.ag] (.tuple [.agg [.int .u16 0, .int .u16 0, .int .u8 0, .int .u8 0, .int .u8 0, .int .u8 0, .int .u8 0, .int .u8 0, .list 4 []], iN 10]) ⟨0, [], []⟩) (k : GL Try.prog tab kBb B bbS (bbH3 x) e s2 h2) : GrRq x B e s2 h2 :=
  zlm_ok tab_ok mixed fun_ok (orK_ok (calC_ok a) (calC_ok d)) (bbRqE _ x 0 0 0 0 0 0 0 0 [] [] (n + 1) 10) (.cons (flat_two rfl rfl (yC3_fl x) (xC_fl x)) (.cons (orK_left (calC_at _ rfl rfl)) (.cons (orK_right (calC_oth (by kernel_rfl)) (calC_at _ rfl rfl)) (.cons (nz n) .nil)))) k
theorem gORq (b : List UInt8) (a : Ans Try.prog fAr [.agg [w16 x.rq.c, w16 x.rq.l, i8 x.rq.o0, i8 x.rq.o1, i8 x.rq.o2, i8 x.rq.o3, i8 x.rq.o4, i8 x.rq.o5, elsD x.rq.es], .bool x.ag] (.tuple [byL b, iN 0]) ⟨0, [], []⟩) (d : Ans Try.prog fDAq [byL b, .bool x.ag] (.tuple [.agg [w16 x.rq.c, w16 x.rq.l, i8 x.rq.o0, i8 x.rq.o1, i8 x.rq.o2, i8 x.rq.o3, i8 x.rq.o4, i8 x.rq.o5, elsD x.rq.es], iN 0]) ⟨0, [], []⟩) (k : GL Try.prog tab kBb B bbS (bbH3 x) e s2 h2) : GrRq x B e s2 h2 :=
  zlm_ok tab_ok mixed fun_ok (orK_ok (calC_ok a) (calC_ok d)) (bbRqO _ x (by1 b)) (.cons (flat_two rfl rfl (yC3_fl x) (xC_fl x)) (.cons (orK_left (calC_at _ rfl rfl)) (.cons (orK_right (calC_oth (by kernel_rfl)) (calC_at _ rfl rfl)) .nil))) k
abbrev GrRe (x : Al) (B : List Code) (e : Ex) (s2 : Slots) (h2 : Hp) : Prop := GL Try.prog tab kBb ((bbL.drop 15).take 4 ++ B) bbS (bbH3 x) e s2 h2
theorem gERe (n : Nat) (a : Ans Try.prog fERe [.agg [w16 x.r0, w16 x.r1, .int .i64 x.r2, elsD x.e3]] (.tuple [.list 1 [], iN (n + 1)]) ⟨0, [], []⟩) (d : Ans Try.prog fDDp [byL []] (.tuple [.agg [.int .u16 0, .int .u16 0, .int .i64 0, .list 4 []], iN 10]) ⟨0, [], []⟩) (k : GL Try.prog tab kBb B bbS (bbH4 x) e s2 h2) : GrRe x B e s2 h2 :=
  zlm_ok tab_ok mixed fun_ok (orK_ok (calC_ok a) (calC_ok d)) (bbReE _ x 0 0 0 [] [] (n + 1) 10) (.cons (flat_two rfl rfl (yC4_fl x) (xC_fl x)) (.cons (orK_left (calC_at _ rfl rfl)) (.cons (orK_right (calC_oth (by kernel_rfl)) (calC_at _ rfl rfl)) (.cons (nz n) .nil)))) k
theorem gORe (b : List UInt8) (a : Ans Try.prog fERe [.agg [w16 x.r0, w16 x.r1, .int .i64 x.r2, elsD x.e3]] (.tuple [byL b, iN 0]) ⟨0, [], []⟩) (d : Ans Try.prog fDDp [byL b] (.tuple [.agg [w16 x.r0, w16 x.r1, .int .i64 x.r2, elsD x.e3], iN 0]) ⟨0, [], []⟩) (k : GL Try.prog tab kBb B bbS (bbH4 x) e s2 h2) : GrRe x B e s2 h2 :=
  zlm_ok tab_ok mixed fun_ok (orK_ok (calC_ok a) (calC_ok d)) (bbReO _ x (by1 b)) (.cons (flat_two rfl rfl (yC4_fl x) (xC_fl x)) (.cons (orK_left (calC_at _ rfl rfl)) (.cons (orK_right (calC_oth (by kernel_rfl)) (calC_at _ rfl rfl)) .nil))) k
abbrev GrEr (x : Al) (B : List Code) (e : Ex) (s2 : Slots) (h2 : Hp) : Prop := GL Try.prog tab kBb ((bbL.drop 19).take 4 ++ B) bbS (bbH4 x) e s2 h2
theorem gEEr (n : Nat) (a : Ans Try.prog fEr [.agg [w16 x.q, elsD x.e4]] (.tuple [.list 1 [], iN (n + 1)]) ⟨0, [], []⟩) (d : Ans Try.prog fDr [byL []] (.tuple [.agg [.int .u16 0, .list 4 []], iN 10]) ⟨0, [], []⟩) (k : GL Try.prog tab kBb B bbS (bbH5 x) e s2 h2) : GrEr x B e s2 h2 :=
  zlm_ok tab_ok mixed fun_ok (orK_ok (calC_ok a) (calC_ok d)) (bbErE _ x 0 [] [] (n + 1) 10) (.cons (flat_two rfl rfl (yC5_fl x) (xC_fl x)) (.cons (orK_left (calC_at _ rfl rfl)) (.cons (orK_right (calC_oth (by kernel_rfl)) (calC_at _ rfl rfl)) (.cons (nz n) .nil)))) k
theorem gOEr (b : List UInt8) (a : Ans Try.prog fEr [.agg [w16 x.q, elsD x.e4]] (.tuple [byL b, iN 0]) ⟨0, [], []⟩) (d : Ans Try.prog fDr [byL b] (.tuple [.agg [w16 x.q, elsD x.e4], iN 0]) ⟨0, [], []⟩) (k : GL Try.prog tab kBb B bbS (bbH5 x) e s2 h2) : GrEr x B e s2 h2 :=
  zlm_ok tab_ok mixed fun_ok (orK_ok (calC_ok a) (calC_ok d)) (bbErO _ x (by1 b)) (.cons (flat_two rfl rfl (yC5_fl x) (xC_fl x)) (.cons (orK_left (calC_at _ rfl rfl)) (.cons (orK_right (calC_oth (by kernel_rfl)) (calC_at _ rfl rfl)) .nil))) k
abbrev GrAc (x : Al) (B : List Code) (e : Ex) (s2 : Slots) (h2 : Hp) : Prop := GL Try.prog tab kBb ((bbL.drop 23).take 4 ++ B) bbS (bbH5 x) e s2 h2
theorem gEAc (n : Nat) (a : Ans Try.prog fEAc [.agg [i8 x.k0, i8 x.k1, i8 x.k2, byL x.da]] (.tuple [.list 1 [], iN (n + 1)]) ⟨0, [], []⟩) (d : Ans Try.prog fDAc [byL []] (.tuple [.agg [.int .u8 0, .int .u8 0, .int .u8 0, .list 1 []], iN 10]) ⟨0, [], []⟩) (k : GL Try.prog tab kBb B bbS (bbH6 x) e s2 h2) : GrAc x B e s2 h2 :=
  zlm_ok tab_ok mixed fun_ok (orK_ok (calC_ok a) (calC_ok d)) (bbAcE _ x 0 0 0 [] [] (n + 1) 10) (.cons (flat_two rfl rfl (yC6_fl x) (xC_fl x)) (.cons (orK_left (calC_at _ rfl rfl)) (.cons (orK_right (calC_oth (by kernel_rfl)) (calC_at _ rfl rfl)) (.cons (nz n) .nil)))) k
theorem gOAc (b : List UInt8) (a : Ans Try.prog fEAc [.agg [i8 x.k0, i8 x.k1, i8 x.k2, byL x.da]] (.tuple [byL b, iN 0]) ⟨0, [], []⟩) (d : Ans Try.prog fDAc [byL b] (.tuple [.agg [i8 x.k0, i8 x.k1, i8 x.k2, byL x.da], iN 0]) ⟨0, [], []⟩) (k : GL Try.prog tab kBb B bbS (bbH6 x) e s2 h2) : GrAc x B e s2 h2 :=
  zlm_ok tab_ok mixed fun_ok (orK_ok (calC_ok a) (calC_ok d)) (bbAcO _ x (by1 b)) (.cons (flat_two rfl rfl (yC6_fl x) (xC_fl x)) (.cons (orK_left (calC_at _ rfl rfl)) (.cons (orK_right (calC_oth (by kernel_rfl)) (calC_at _ rfl rfl)) .nil))) k
abbrev GrBr (x : Al) (B : List Code) (e : Ex) (s2 : Slots) (h2 : Hp) : Prop := GL Try.prog tab kBb ((bbL.drop 27).take 4 ++ B) bbS (bbH6 x) e s2 h2
theorem gEBr (n : Nat) (a : Ans Try.prog fEBr [.agg [.int .i64 x.b0, .int .i64 x.b1]] (.tuple [.list 1 [], iN (n + 1)]) ⟨0, [], []⟩) (d : Ans Try.prog fDBr [byL []] (.tuple [.agg [.int .i64 0, .int .i64 0], iN 10]) ⟨0, [], []⟩) (k : GL Try.prog tab kBb B bbS (bbH7 x) e s2 h2) : GrBr x B e s2 h2 :=
  zlm_ok tab_ok mixed fun_ok (orK_ok (calC_ok a) (calC_ok d)) (bbBrE _ x 0 0 [] (n + 1) 10) (.cons (flat_two rfl rfl (yC7_fl x) (xC_fl x)) (.cons (orK_left (calC_at _ rfl rfl)) (.cons (orK_right (calC_oth (by kernel_rfl)) (calC_at _ rfl rfl)) (.cons (nz n) .nil)))) k
theorem gOBr (b : List UInt8) (a : Ans Try.prog fEBr [.agg [.int .i64 x.b0, .int .i64 x.b1]] (.tuple [byL b, iN 0]) ⟨0, [], []⟩) (d : Ans Try.prog fDBr [byL b] (.tuple [.agg [.int .i64 x.b0, .int .i64 x.b1], iN 0]) ⟨0, [], []⟩) (k : GL Try.prog tab kBb B bbS (bbH7 x) e s2 h2) : GrBr x B e s2 h2 :=
  zlm_ok tab_ok mixed fun_ok (orK_ok (calC_ok a) (calC_ok d)) (bbBrO _ x (by1 b)) (.cons (flat_two rfl rfl (yC7_fl x) (xC_fl x)) (.cons (orK_left (calC_at _ rfl rfl)) (.cons (orK_right (calC_oth (by kernel_rfl)) (calC_at _ rfl rfl)) .nil))) k
abbrev GrBk (x : Al) (B : List Code) (e : Ex) (s2 : Slots) (h2 : Hp) : Prop := GL Try.prog tab kBb ((bbL.drop 31).take 4 ++ B) bbS (bbH7 x) e s2 h2
theorem gEBk (n : Nat) (a : Ans Try.prog fEBk [.agg [.int .i64 x.c0, .int .i64 x.c1, .int .u64 (x.m : Int)]] (.tuple [.list 1 [], iN (n + 1)]) ⟨0, [], []⟩) (d : Ans Try.prog fDBk [byL []] (.tuple [.agg [.int .i64 0, .int .i64 0, .int .u64 0], iN 10]) ⟨0, [], []⟩) (k : GL Try.prog tab kBb B bbS (bbH8 x) e s2 h2) : GrBk x B e s2 h2 :=
  zlm_ok tab_ok mixed fun_ok (orK_ok (calC_ok a) (calC_ok d)) (bbBkE _ x 0 0 0 [] (n + 1) 10) (.cons (flat_two rfl rfl (yC8_fl x) (xC_fl x)) (.cons (orK_left (calC_at _ rfl rfl)) (.cons (orK_right (calC_oth (by kernel_rfl)) (calC_at _ rfl rfl)) (.cons (nz n) .nil)))) k
theorem gOBk (b : List UInt8) (a : Ans Try.prog fEBk [.agg [.int .i64 x.c0, .int .i64 x.c1, .int .u64 (x.m : Int)]] (.tuple [byL b, iN 0]) ⟨0, [], []⟩) (d : Ans Try.prog fDBk [byL b] (.tuple [.agg [.int .i64 x.c0, .int .i64 x.c1, .int .u64 (x.m : Int)], iN 0]) ⟨0, [], []⟩) (k : GL Try.prog tab kBb B bbS (bbH8 x) e s2 h2) : GrBk x B e s2 h2 :=
  zlm_ok tab_ok mixed fun_ok (orK_ok (calC_ok a) (calC_ok d)) (bbBkO _ x (by1 b)) (.cons (flat_two rfl rfl (yC8_fl x) (xC_fl x)) (.cons (orK_left (calC_at _ rfl rfl)) (.cons (orK_right (calC_oth (by kernel_rfl)) (calC_at _ rfl rfl)) .nil))) k
theorem grpBe (ox : OkAl x) (sx : SmAl x) (k : GL Try.prog tab kBb B bbS (bbH1 x) e s2 h2) : GrBe x B e s2 h2 := by
  have a := Be_ans ⟨((x.t, x.i, x.c), x.e0), ⟨ox.t, ox.i, ox.c⟩, sx.e0⟩
  dsimp only at a
  rcases wi_cases (frBe x.t x.i x.c) x.e0 with ⟨n, he⟩ | ⟨he, hs, hl⟩
  · rw [he] at a
    exact gEBe n a (Ans.nlD 4 (Dnd_ans ⟨[], by decide⟩)) k
  · rw [he] at a
    have d := Ans.nlD 4 (Dnd_ans ⟨frBe x.t x.i x.c ++ encA x.e0, b30 hl⟩)
    dsimp only at d
    rw [dBe ox.t ox.i ox.c hs hl] at d
    exact gOBe _ a d k
theorem grpAu (ox : OkAl x) (sx : SmAl x) (k : GL Try.prog tab kBb B bbS (bbH2 x) e s2 h2) : GrAu x B e s2 h2 := by
  have a := Au_ans ⟨((x.a0, x.a1, x.a2), x.e1), ⟨ox.a0, ox.a1, ox.a2⟩, sx.e1⟩
  dsimp only at a
  rcases wi_cases (frAu x.a0 x.a1 x.a2) x.e1 with ⟨n, he⟩ | ⟨he, hs, hl⟩
  · rw [he] at a
    exact gEAu n a (Ans.nlD 4 (Dad_ans ⟨[], by decide⟩)) k
  · rw [he] at a
    have d := Ans.nlD 4 (Dad_ans ⟨frAu x.a0 x.a1 x.a2 ++ encA x.e1, b30 hl⟩)
    dsimp only at d
    rw [dAu ox.a0 ox.a1 ox.a2 hs hl] at d
    exact gOAu _ a d k
theorem grpEr (ox : OkAl x) (sx : SmAl x) (k : GL Try.prog tab kBb B bbS (bbH5 x) e s2 h2) : GrEr x B e s2 h2 := by
  have a := er_ans ⟨(x.q, x.e4), ox.q, sx.e4⟩
  dsimp only at a
  rcases wi_cases (frE x.q) x.e4 with ⟨n, he⟩ | ⟨he, hs, hl⟩
  · rw [he] at a
    exact gEEr n a (Ans.nlD 4 (dr_ans ⟨[], by decide⟩)) k
  · rw [he] at a
    have d := Ans.nlD 4 (dr_ans ⟨frE x.q ++ encA x.e4, b30 hl⟩)
    dsimp only at d
    rw [dEr ox.q hs hl] at d
    exact gOEr _ a d k
theorem grpRe (ox : OkAl x) (sx : SmAl x) (k : GL Try.prog tab kBb B bbS (bbH4 x) e s2 h2) : GrRe x B e s2 h2 := by
  by_cases h : x.r2 < 0 ∨ 255 < x.r2
  · exact gERe 7 (reX_ans x.r0 x.r1 x.r2 x.e3 h) (Ans.nlD 4 (Dpd_ans ⟨[], by decide⟩)) k
  obtain ⟨n, hn⟩ : ∃ n : Nat, x.r2 = (n : Int) := ⟨x.r2.toNat, by omega⟩
  have a := Re_ans ⟨((x.r0, x.r1, n), x.e3), ⟨ox.r0, ox.r1, by show n ≤ 255; omega⟩, sx.e3⟩
  dsimp only at a
  rw [show (iN n : DV) = .int .i64 x.r2 by rw [hn]; rfl] at a
  rcases wi_cases (frRe x.r0 x.r1 n) x.e3 with ⟨m, he⟩ | ⟨he, hs, hl⟩
  · rw [he] at a
    exact gERe m a (Ans.nlD 4 (Dpd_ans ⟨[], by decide⟩)) k
  · rw [he] at a
    have d := Ans.nlD 4 (Dpd_ans ⟨frRe x.r0 x.r1 n ++ encA x.e3, b30 hl⟩)
    dsimp only at d
    rw [dRe ox.r0 ox.r1 (by omega) hs hl, show (iN n : DV) = .int .i64 x.r2 by rw [hn]; rfl] at d
    exact gORe _ a d k
theorem grpRq (ox : OkAl x) (sx : SmAl x) (k : GL Try.prog tab kBb B bbS (bbH3 x) e s2 h2) : GrRq x B e s2 h2 := by
  have hX : okRq x.rq ∧ SmL x.rq.es ∧ depA x.rq.es ≤ 2 ^ 39 := ⟨ox.rq, sx.e2⟩
  have dz : Ans Try.prog fDAq [byL [], .bool x.ag] (.tuple [.agg [.int .u16 0, .int .u16 0, .int .u8 0, .int .u8 0, .int .u8 0, .int .u8 0, .int .u8 0, .int .u8 0, .list 4 []], iN 10]) ⟨0, [], []⟩ := by
    cases x.ag with
    | true => exact Ans.nlD 4 (dq_anst ⟨[], by decide⟩)
    | false => exact Ans.nlD 4 (dq_ansf ⟨[], by decide⟩)
  cases hag : x.ag with
  | true =>
    have a := ar_ans (⟨x.rq, hX⟩, true)
    dsimp only at a
    rw [← hag] at a
    rcases wi_cases (frR x.rq x.ag) x.rq.es with ⟨m, he⟩ | ⟨he, hs, hl⟩
    · rw [he] at a
      exact gERq m (by rw [hag] at a ⊢; exact a) dz k
    · rw [he] at a
      rw [hag] at hl
      have d := Ans.nlD 4 (dq_anst ⟨frR x.rq true ++ encA x.rq.es, b30 hl⟩)
      dsimp only at d
      rw [dRqt ox.rq.1 ox.rq.2.1 hs hl] at d
      exact gORq (frR x.rq true ++ encA x.rq.es) (by rw [hag] at a ⊢; exact a) (by rw [hag]; exact d) k
  | false =>
    cases hz : oldZ x.rq with
    | false => exact gERq 7 (by rw [hag]; exact arX_ans x.rq hz) dz k
    | true =>
      have z := oldZ_t hz
      have a := ar_ans (⟨x.rq, hX⟩, false)
      dsimp only at a
      rw [show arA x.rq false = x.rq from z] at a
      rcases wi_cases (frR x.rq false) x.rq.es with ⟨m, he⟩ | ⟨he, hs, hl⟩
      · rw [he] at a
        exact gERq m (by rw [hag]; exact a) dz k
      · rw [he] at a
        have d := Ans.nlD 4 (dq_ansf ⟨frR x.rq false ++ encA x.rq.es, b30 hl⟩)
        dsimp only at d
        rw [dRqf ox.rq.1 ox.rq.2.1 hs hl, z] at d
        exact gORq (frR x.rq false ++ encA x.rq.es) (by rw [hag]; exact a) (by rw [hag]; exact d) k
theorem grpAc (sx : SmAl x) (k : GL Try.prog tab kBb B bbS (bbH6 x) e s2 h2) : GrAc x B e s2 h2 := by
  have a := eac_ans ⟨((x.k0, x.k1, x.k2), x.da), Nat.lt_of_le_of_lt sx.da (by decide)⟩
  dsimp only at a
  unfold eacD at a
  cases h : Nat.ble ([x.k0, x.k1, x.k2].length + x.da.length) 2304 with
  | false =>
    rw [h] at a
    exact gEAc 10 a (Ans.nlD 1 (da_ans ⟨[], by decide⟩)) k
  | true =>
    rw [h] at a
    have hl := Nat.le_of_ble_eq_true h
    have d := Ans.nlD 1 (da_ans ⟨[x.k0, x.k1, x.k2] ++ x.da, by rw [List.length_append]; omega⟩)
    dsimp only at d
    rw [dAc hl] at d
    exact gOAc _ a d k
theorem grpBr (k : GL Try.prog tab kBb B bbS (bbH7 x) e s2 h2) : GrBr x B e s2 h2 := by
  have a := ebr_ans (x.b0, x.b1)
  dsimp only at a
  unfold ebrD at a
  cases h : okTS x.b0 x.b1 with
  | false =>
    rw [h] at a
    exact gEBr 7 a (Bx_ans ⟨[], by decide⟩) k
  | true =>
    rw [h] at a
    have d := Bx_ans ⟨by2 (x.b0.toNat + 16 * x.b1.toNat), by show 2 < 2 ^ 30; decide⟩
    dsimp only at d
    rw [dBr h] at d
    exact gOBr _ a d k
theorem grpBk (ox : OkAl x) (k : GL Try.prog tab kBb B bbS (bbH8 x) e s2 h2) : GrBk x B e s2 h2 := by
  have a := ebk_ans ((x.c0, x.c1), ⟨x.m, ox.m⟩)
  dsimp only at a
  unfold ebkD at a
  cases h : okTS x.c0 x.c1 with
  | false =>
    rw [h] at a
    exact gEBk 7 a (By_ans ⟨[], by decide⟩) k
  | true =>
    rw [h] at a
    have d := By_ans ⟨by2 (x.c0.toNat + 16 * x.c1.toNat) ++ by8 x.m, by show 10 < 2 ^ 30; decide⟩
    dsimp only at d
    rw [dBk h ox.m] at d
    exact gOBk _ a d k
end
end
end Go.Proofs.Ytejlbkhddehaiaa
/- BodyBack over data: equal; the law. -/
namespace Go.Proofs.Ytejlbkhddehaiaa
open Go.RowKit

noncomputable section
abbrev fEls : FuncId := 77
abbrev fEqu : FuncId := 40
set_option maxRecDepth 1000000 in
theorem els_run (C : ConF) (xs : List (List DV)) : zflat (zans Try.prog tab ftab C fEls [.list 4 xs, .list 4 xs] [(7, .q (.bool true))]) = some (.bool true, (C fSa [.list 4 xs, .list 4 xs] ⟨0, [], []⟩ = some (.bool true, ⟨0, [], []⟩, none)) :: []) := by kernel_rfl
theorem els_ans (l : ElS) : Ans Try.prog fEls [elsD l.1, elsD l.1] (.bool true) ⟨0, [], []⟩ := by
  have a := sa_ans (depA l.1) (⟨l.1, Nat.le_refl _, l.2⟩, l)
  dsimp only at a
  rw [eqB_t rfl] at a
  exact zflat_ok tab_ok mixed fun_ok (calC_ok a) (els_run _ (elR l.1)) (.cons (calC_at _ rfl rfl) .nil)
def cEls : ConF := liftC (eqC fEls (fun l : ElS => [elsD l.1, elsD l.1]) fun _ => (.bool true, ⟨0, [], []⟩))
theorem cEls_ok : ConOk Try.prog cEls := liftC_ok (eqC_ok els_ans fun _ => rfl)
theorem cEls_at (hp : Hp) {l : List El} (h : SmL l) : cEls fEls [elsD l, elsD l] hp = some (.bool true, hp, none) :=
  lift_at (A := fun l : ElS => [elsD l.1, elsD l.1]) (D := fun _ => .bool true) (fun _ _ _ => rfl) hp ⟨l, h⟩ rfl rfl
set_option maxRecDepth 1000000 in
theorem equ_run (C : ConF) (x : Al) (s : ByteArray) : zflat (zans Try.prog tab ftab C fEqu [.agg (xC x), .agg (yC8 x)] [(14, .q (.bool true)), (22, .q (.bool true)), (31, .q (.bool true)), (40, .q (.bool true)), (49, .q (.bool true)), (57, .b true), (65, .b true), (74, .b true), (83, .b true), (92, .b true), (101, .b true), (110, .b true), (119, .b true), (128, .b true), (137, .b true), (146, .b true), (155, .b true), (164, .b true), (172, .b true), (180, .b true), (189, .b true), (195, .h (.str s) ⟨2, [oAl (yC8 x), oAl (xC x)], []⟩ none), (199, .h (.str s) ⟨2, [oAl (yC8 x), oAl (xC x)], []⟩ none), (200, .b true), (214, .b true), (221, .b true)]) = some (.bool true, (C fEls [elsD x.e0, elsD x.e0] ⟨2, [oAl (yC8 x), oAl (xC x)], []⟩ = some (.bool true, ⟨2, [oAl (yC8 x), oAl (xC x)], []⟩, none)) :: (C fEls [elsD x.e1, elsD x.e1] ⟨2, [oAl (yC8 x), oAl (xC x)], []⟩ = some (.bool true, ⟨2, [oAl (yC8 x), oAl (xC x)], []⟩, none)) :: (C fEls [elsD x.rq.es, elsD x.rq.es] ⟨2, [oAl (yC8 x), oAl (xC x)], []⟩ = some (.bool true, ⟨2, [oAl (yC8 x), oAl (xC x)], []⟩, none)) :: (C fEls [elsD x.e3, elsD x.e3] ⟨2, [oAl (yC8 x), oAl (xC x)], []⟩ = some (.bool true, ⟨2, [oAl (yC8 x), oAl (xC x)], []⟩, none)) :: (C fEls [elsD x.e4, elsD x.e4] ⟨2, [oAl (yC8 x), oAl (xC x)], []⟩ = some (.bool true, ⟨2, [oAl (yC8 x), oAl (xC x)], []⟩, none)) :: (((x.t : Int) == (x.t : Int)) = true) :: (((x.i : Int) == (x.i : Int)) = true) :: (((x.c : Int) == (x.c : Int)) = true) :: (((x.a0 : Int) == (x.a0 : Int)) = true) :: (((x.a1 : Int) == (x.a1 : Int)) = true) :: (((x.a2 : Int) == (x.a2 : Int)) = true) :: (((x.rq.c : Int) == (x.rq.c : Int)) = true) :: (((x.rq.l : Int) == (x.rq.l : Int)) = true) :: ((((x.rq.o0.toNat : Int) == (x.rq.o0.toNat : Int)) && (((x.rq.o1.toNat : Int) == (x.rq.o1.toNat : Int)) && (((x.rq.o2.toNat : Int) == (x.rq.o2.toNat : Int)) && (((x.rq.o3.toNat : Int) == (x.rq.o3.toNat : Int)) && (((x.rq.o4.toNat : Int) == (x.rq.o4.toNat : Int)) && (((x.rq.o5.toNat : Int) == (x.rq.o5.toNat : Int)) && true)))))) = true) :: (((x.r0 : Int) == (x.r0 : Int)) = true) :: (((x.r1 : Int) == (x.r1 : Int)) = true) :: ((x.r2 == x.r2) = true) :: (((x.q : Int) == (x.q : Int)) = true) :: (((x.k0.toNat : Int) == (x.k0.toNat : Int)) = true) :: (((x.k1.toNat : Int) == (x.k1.toNat : Int)) = true) :: (((x.k2.toNat : Int) == (x.k2.toNat : Int)) = true) :: (convD tab ⟨2, [oAl (yC8 x), oAl (xC x)], []⟩ 37 9 (byL x.da) = some (.str s, ⟨2, [oAl (yC8 x), oAl (xC x)], []⟩, none)) :: (convD tab ⟨2, [oAl (yC8 x), oAl (xC x)], []⟩ 37 9 (byL x.da) = some (.str s, ⟨2, [oAl (yC8 x), oAl (xC x)], []⟩, none)) :: (eqBytes s.data.toList s.data.toList = true) :: (((x.b0 == x.b0) && ((x.b1 == x.b1) && true)) = true) :: (((x.c0 == x.c0) && ((x.c1 == x.c1) && (((x.m : Int) == (x.m : Int)) && true))) = true) :: []) := by kernel_rfl
theorem ieq (a : Int) : (a == a) = true := beq_iff_eq.2 rfl
theorem equ_ans (x : Al) (sx : SmAl x) : Ans Try.prog fEqu [.agg (xC x), .agg (yC8 x)] (.bool true) ⟨0, [], []⟩ := by
  have cv : ∀ h, convD tab h 37 9 (byL x.da) = some (.str ⟨x.da.toArray⟩, h, none) := fun h => conv_str (.inl rfl)
  exact zflat_ok tab_ok mixed fun_ok cEls_ok (equ_run cEls x ⟨x.da.toArray⟩) (.cons (cEls_at _ sx.e0.1) (.cons (cEls_at _ sx.e1.1) (.cons (cEls_at _ sx.e2.1) (.cons (cEls_at _ sx.e3.1) (.cons (cEls_at _ sx.e4.1) (.cons (ieq _) (.cons (ieq _) (.cons (ieq _) (.cons (ieq _) (.cons (ieq _) (.cons (ieq _) (.cons (ieq _) (.cons (ieq _) (.cons (by simp only [ieq, Bool.and_self]) (.cons (ieq _) (.cons (ieq _) (.cons (ieq _) (.cons (ieq _) (.cons (ieq _) (.cons (ieq _) (.cons (ieq _) (.cons (cv _) (.cons (cv _) (.cons (eq_tt _) (.cons (by simp only [ieq, Bool.and_self]) (.cons (by simp only [ieq, Bool.and_self]) .nil))))))))))))))))))))))))))
set_option maxRecDepth 1000000 in
def fnB : FnT := (ftab fBb).get (by kernel_rfl)
set_option maxRecDepth 1000000 in
theorem fnB_eq : ftab fBb = some fnB := (Option.some_get _).symm
set_option maxRecDepth 1000000 in
theorem bb_split : spine fnB.body = bbL.take 4 ++ ((bbL.drop 4).take 3 ++ ((bbL.drop 7).take 4 ++ ((bbL.drop 11).take 4 ++ ((bbL.drop 15).take 4 ++ ((bbL.drop 19).take 4 ++ ((bbL.drop 23).take 4 ++ ((bbL.drop 27).take 4 ++ ((bbL.drop 31).take 4 ++ ((bbL.drop 35).take 1 ++ [.ret]))))))))) := by kernel_rfl
set_option maxRecDepth 1000000 in
theorem bb_init (x : Al) : initS fnB.nt [.agg (xC x)] = initS 218 [.agg (xC x)] := by kernel_rfl
set_option maxRecDepth 1000000 in
theorem bb_ks : fnB.ks = kBb := by kernel_rfl
set_option maxRecDepth 1000000 in
theorem bb_res (x : Al) : resD tab (bbH8 x) (mkT 218 [(2, .bool true)]) fnB.res = some [.bool true] := by kernel_rfl
theorem bb_ret (x : Al) : Goes Try.prog tab kBb .ret (mkT 218 [(2, .bool true)]) (bbH8 x) .ret (mkT 218 [(2, .bool true)]) (bbH8 x) := zsee_ok tab_ok mixed fun_ok noC_ok (live := [2]) (p := []) (cs := []) (by kernel_rfl) .nil
theorem bb_all (x : Al) (ox : OkAl x) : Ans Try.prog fBb [.agg (xC x)] (.bool true) ⟨0, [], []⟩ := by
  have al : ∀ (d : DV) (h : Hp), orK cAl (calC fGt [.agg (xC x)] d) fAl [] h = some (.bool true, h, none) := fun _ _ => orK_left rfl
  have g := gt_ans x ox
  cases hg : grA x with
  | true =>
    rw [hg] at g
    exact zflat_ok tab_ok mixed fun_ok (orK_ok cAl_ok (calC_ok g)) (bb_gt _ x) (.cons (al _ _) (.cons (orK_right rfl (calC_at _ rfl rfl)) .nil))
  | false =>
    rw [hg] at g
    have sx := gr_sm ox hg
    have z : Ans Try.prog fBb [.agg (xC x)] (.bool true) (bbH8 x) := by
      refine ans_of_goes (ds := [.bool true]) tab_ok fun_ok fnB_eq (by kernel_rfl) (e := .ret) (sl' := mkT 218 [(2, .bool true)]) ?_ (by intro i h; cases h) (bb_res x)
      refine goes_spine _ ?_
      rw [bb_split, bb_ks]
      show GL _ _ _ _ (initS fnB.nt [.agg (xC x)]) _ _ _ _
      rw [bb_init]
      refine zlm_ok tab_ok mixed fun_ok (orK_ok cAl_ok (calC_ok g)) (bb_pre _ x) (.cons (flat_two rfl rfl (yC0_fl x) (xC_fl x)) (.cons (al _ _) (.cons (orK_right rfl (calC_at _ rfl rfl)) .nil))) ?_
      refine grpBe ox sx (grpAu ox sx (grpRq ox sx (grpRe ox sx (grpEr ox sx (grpAc sx (grpBr (grpBk ox ?_)))))))
      exact zlm_ok tab_ok mixed fun_ok (calC_ok (equ_ans x sx)) (bb_fin _ x) (.cons (flat_two rfl rfl (yC8_fl x) (xC_fl x)) (.cons (calC_at _ rfl rfl) .nil)) (.one _ _ _ _ _ _ (bb_ret x))
    exact AnsH.frz z rfl (.flat _ rfl)
end
end Go.Proofs.Ytejlbkhddehaiaa
