/- The program's sets of addresses: Union, Meet, Add, Has, Remove, in every case. -/
import Derived.Test.YtnhbhdfeenpedaaTd
namespace Go.Proofs.Ytnhbhdfeenpedaa
open Go.RowKit

noncomputable section
theorem chk_8 {ns : List Nat} (h : ¬ chk ns = 0) : chk ns = 8 := by
  unfold chk at h ⊢
  split at h
  · exact absurd rfl h
  · rename_i hn
    rw [if_neg hn]
theorem conC0_fr {α : Type} {f0 : FuncId} {A : α → List DV} {D : α → DV} (hinj : ∀ x y, A x = A y → D x = D y) {hp : Hp} {args : List DV} (x : α) (hfr : Frz hp args (A x)) (hsh : sh3 hp.n (D x) = D x) : conC f0 A (fun x => (D x, ⟨0, []⟩)) f0 args hp = some (D x, hp, none) := by
  rw [conC_at (fun x y h => by rw [hinj x y h]) x hfr]
  show some (sh3 hp.n (D x), layH hp ⟨0, []⟩, none) = _
  rw [hsh]
  cases hp
  rfl
theorem conC_other' {α : Type} {f0 : FuncId} {A : α → List DV} {B : α → DV × Hp} {args : List DV} {hp : Hp} (h : ¬ ∃ x, Frz hp args (A x)) : conC f0 A B f0 args hp = none := by
  have hb : Nat.beq f0 f0 = true := beqT rfl
  unfold conC
  rw [hb]
  show @dite _ (∃ x, Frz hp args (A x)) (Classical.propDecidable _) _ _ = _
  rw [dif_neg h]
theorem adL_frz (hp : Hp) (ns : List Nat) : frz1 hp (adL ns) (adL ns) := ⟨rfl, rfl⟩
theorem room_frz (ns : List Nat) (N : Nat) : frz1 ⟨1, [⟨0, 0, 77, room ns N⟩]⟩ (.sl 0 0 6 ns.length N) (adL ns) := ShA.frz (.inr ⟨0, ⟨0, 0, 77, room ns N⟩, N, N, rfl, rfl, rfl⟩)
/-! ### Union -/
set_option maxRecDepth 1000000 in
theorem pUb1 (xs ys : List (List DV)) : zflat (zans Try.prog tab ftab cSU 72 [.list 6 xs, .list 6 ys] [(10, .c [(7, .q (.int .i64 8))])]) =
    some (.tuple [.nil, .int .i64 8], [cSU 76 [.list 6 xs] ⟨0, []⟩ = some (.int .i64 8, ⟨0, []⟩, none)]) := by
  kernel_rfl
set_option maxRecDepth 1000000 in
theorem pUb2 (xs ys : List (List DV)) : zflat (zans Try.prog tab ftab cSU 72 [.list 6 xs, .list 6 ys] [(10, .c [(7, .q (.int .i64 0)), (12, .q (.int .i64 8))])]) =
    some (.tuple [.nil, .int .i64 8], [cSU 76 [.list 6 xs] ⟨0, []⟩ = some (.int .i64 0, ⟨0, []⟩, none), cSU 76 [.list 6 ys] ⟨0, []⟩ = some (.int .i64 8, ⟨0, []⟩, none)]) := by
  kernel_rfl
set_option maxRecDepth 1000000 in
theorem pUf (xs ys : List (List DV)) (n N : Nat) (cl : List DV) : zflat (zans Try.prog tab ftab cSU 72 [.list 6 xs, .list 6 ys] [(10, .c [(7, .q (.int .i64 0)), (12, .q (.int .i64 0))]), (16, .r (.sl 0 0 6 n N) ⟨1, [⟨0, 0, 77, cl⟩]⟩), (19, .b true)]) =
    some (.tuple [.nil, .int .i64 22], [cSU 76 [.list 6 xs] ⟨0, []⟩ = some (.int .i64 0, ⟨0, []⟩, none), cSU 76 [.list 6 ys] ⟨0, []⟩ = some (.int .i64 0, ⟨0, []⟩, none), cSU 118 [.list 6 xs, .list 6 ys, .fn 127 [] []] ⟨0, []⟩ = some (.sl 0 0 6 n N, ⟨1, [⟨0, 0, 77, cl⟩]⟩, none), decide ((n : Int) > 256) = true]) := by
  kernel_rfl
abbrev Pu1 : Type := {x : Pr2 // (uniR x.1.1.1 x.1.2.1).2 = 0}
abbrev Pu2 : Type := {x : Pr2 // ¬ (uniR x.1.1.1 x.1.2.1).2 = 0}
theorem uniR_ok {s t : List Nat} (h : (uniR s t).2 = 0) : chk s = 0 ∧ chk t = 0 ∧ (uni s t).length ≤ 256 ∧ (uniR s t).1 = uni s t := by
  unfold uniR at h ⊢
  split at h
  · rename_i hc
    split at h
    · rename_i hl
      rw [if_pos hc, if_pos hl]
      exact ⟨hc.1, hc.2, hl, rfl⟩
    · cases h
  · cases h
theorem uniR_no {s t : List Nat} (h : ¬ (uniR s t).2 = 0) : (uniR s t).1 = [] := by
  unfold uniR at h ⊢
  split
  · split
    · rename_i hc hl
      rw [if_pos hc, if_pos hl] at h
      exact absurd rfl h
    · rfl
  · rfl
def bU1 (x : Pu1) : DV × Hp := (.tuple [.sl 0 0 6 (uniR x.1.1.1.1 x.1.1.2.1).1.length (x.1.1.1.1.length + x.1.1.2.1.length), .int .i64 0], ⟨1, [⟨0, 0, 77, room (uniR x.1.1.1.1 x.1.1.2.1).1 (x.1.1.1.1.length + x.1.1.2.1.length)⟩]⟩)
theorem ansU1 (x : Pu1) : Ans Try.prog 72 [adL x.1.1.1.1, adL x.1.1.2.1] (bU1 x).1 (bU1 x).2 := by
  obtain ⟨⟨⟨⟨s, hs, hls⟩, t, ht, hlt⟩, hl⟩, hx⟩ := x
  obtain ⟨h1, h2, h3, h4⟩ := uniR_ok hx
  simp only [bU1] at h1 h2 h3 h4 ⊢
  rw [h4]
  have q1 := cCk_at (hp := ⟨0, []⟩) (d := adL s) ⟨s, hs, hls⟩ ⟨rfl, rfl⟩
  have q2 := cCk_at (hp := ⟨0, []⟩) (d := adL t) ⟨t, ht, hlt⟩ ⟨rfl, rfl⟩
  rw [h1] at q1
  rw [h2] at q2
  exact zans_ok tab_ok mixed fun_ok cSU_ok (runU (rows s) (rows t) (uni s t).length (s.length + t.length) (room (uni s t) (s.length + t.length)))
    (.cons (orK_left q1) (.cons (orK_left q2) (.cons (orK_right (conC_other (by kernel_rfl)) (cMgU_at (hp := ⟨0, []⟩) ⟨s, hs, hls⟩ ⟨t, ht, hlt⟩ ⟨rfl, rfl⟩ ⟨rfl, rfl⟩)) (.cons (decide_eq_false (by omega)) .nil))))
theorem pr2_inj {x y : Pr2} (h1 : adL x.1.1.1 = adL y.1.1.1) (h2 : adL x.1.2.1 = adL y.1.2.1) : x = y := by
  obtain ⟨⟨x1, x2⟩, _⟩ := x
  obtain ⟨⟨y1, y2⟩, _⟩ := y
  have e1 := adL_inj h1
  have e2 := adL_inj h2
  subst e1 e2
  rfl
def cU1 : CallF := conC 72 (fun x : Pu1 => [adL x.1.1.1.1, adL x.1.1.2.1]) bU1
theorem cU1_ok : CallOk Try.prog cU1 := conC_ok ansU1 fun x => ⟨rfl, plain_of fun o ho => by
  simp only [bU1, List.mem_cons, List.not_mem_nil, or_false] at ho
  subst ho
  exact room_plain _ _, rfl⟩
theorem cU1_at {hp : Hp} {d e : DV} (x : Pu1) (h : frz1 hp d (adL x.1.1.1.1)) (k : frz1 hp e (adL x.1.1.2.1)) : cU1 72 [d, e] hp = some (.tuple [.sl (hp.n + 0) 0 6 (uniR x.1.1.1.1 x.1.1.2.1).1.length (x.1.1.1.1.length + x.1.1.2.1.length), .int .i64 0], layH hp (bU1 x).2, none) :=
  conC_at (f0 := 72) (A := fun x : Pu1 => [adL x.1.1.1.1, adL x.1.1.2.1]) (B := bU1) (fun x y hxy => by
    obtain ⟨x, _⟩ := x
    obtain ⟨y, _⟩ := y
    simp only [List.cons.injEq, and_true] at hxy
    obtain rfl := pr2_inj hxy.1 hxy.2
    rfl) x ⟨h, k, trivial⟩
theorem ansU2 (x : Pu2) : Ans Try.prog 72 [adL x.1.1.1.1, adL x.1.1.2.1] (.tuple [.nil, .int .i64 (uniR x.1.1.1.1 x.1.1.2.1).2]) ⟨0, []⟩ := by
  obtain ⟨⟨⟨⟨s, hs, hls⟩, t, ht, hlt⟩, hl⟩, hx⟩ := x
  have q1 := cCk_at (hp := ⟨0, []⟩) (d := adL s) ⟨s, hs, hls⟩ ⟨rfl, rfl⟩
  have q2 := cCk_at (hp := ⟨0, []⟩) (d := adL t) ⟨t, ht, hlt⟩ ⟨rfl, rfl⟩
  simp only [uniR] at q1 q2 hx ⊢
  by_cases h1 : chk s = 0
  · rw [h1] at q1
    by_cases h2 : chk t = 0
    · rw [h2] at q2
      rw [if_pos ⟨h1, h2⟩] at hx ⊢
      by_cases h3 : (uni s t).length ≤ 256
      · rw [if_pos h3] at hx
        exact absurd rfl hx
      · rw [if_neg h3]
        exact zflat_ok tab_ok mixed fun_ok cSU_ok (pUf (rows s) (rows t) (uni s t).length (s.length + t.length) (room (uni s t) (s.length + t.length)))
          (.cons (orK_left q1) (.cons (orK_left q2) (.cons (orK_right (conC_other (by kernel_rfl)) (cMgU_at (hp := ⟨0, []⟩) ⟨s, hs, hls⟩ ⟨t, ht, hlt⟩ ⟨rfl, rfl⟩ ⟨rfl, rfl⟩)) (.cons (decide_eq_true (by omega)) .nil))))
    · rw [chk_8 h2] at q2
      rw [if_neg fun h => h2 h.2]
      exact zflat_ok tab_ok mixed fun_ok cSU_ok (pUb2 (rows s) (rows t)) (.cons (orK_left q1) (.cons (orK_left q2) .nil))
  · rw [chk_8 h1] at q1
    rw [if_neg fun h => h1 h.1]
    exact zflat_ok tab_ok mixed fun_ok cSU_ok (pUb1 (rows s) (rows t)) (.cons (orK_left q1) .nil)
def cU2 : CallF := conC 72 (fun x : Pu2 => [adL x.1.1.1.1, adL x.1.1.2.1]) fun x => (.tuple [.nil, .int .i64 (uniR x.1.1.1.1 x.1.1.2.1).2], ⟨0, []⟩)
theorem cU2_ok : CallOk Try.prog cU2 := conC_ok ansU2 fun _ => fine0 rfl
theorem pu2_inj {x y : Pu2} (h1 : adL x.1.1.1.1 = adL y.1.1.1.1) (h2 : adL x.1.1.2.1 = adL y.1.1.2.1) : x = y := Subtype.ext (pr2_inj h1 h2)
theorem cU2_at {hp : Hp} {d e : DV} (x : Pu2) (h : frz1 hp d (adL x.1.1.1.1)) (k : frz1 hp e (adL x.1.1.2.1)) : cU2 72 [d, e] hp = some (.tuple [.nil, .int .i64 (uniR x.1.1.1.1 x.1.1.2.1).2], hp, none) :=
  conC0_fr (f0 := 72) (A := fun x : Pu2 => [adL x.1.1.1.1, adL x.1.1.2.1]) (D := fun x => .tuple [.nil, .int .i64 (uniR x.1.1.1.1 x.1.1.2.1).2]) (fun x y hxy => by
    simp only [List.cons.injEq, and_true] at hxy
    rw [pu2_inj hxy.1 hxy.2]) x ⟨h, k, trivial⟩ rfl
def cU3 : CallF := liftC (eqC 72 (fun x : Pu2 => [adL x.1.1.1.1, adL x.1.1.2.1]) fun x => (.tuple [.list 6 [], .int .i64 (uniR x.1.1.1.1 x.1.1.2.1).2], ⟨0, []⟩))
theorem cU3_ok : CallOk Try.prog cU3 := liftC_ok (eqC_ok fun x => (ansU2 x).nilT)
theorem cU3_at (hp : Hp) (x : Pu2) : cU3 72 [adL x.1.1.1.1, adL x.1.1.2.1] hp = some (.tuple [.list 6 [], .int .i64 (uniR x.1.1.1.1 x.1.1.2.1).2], hp, none) :=
  lift_at (A := fun x : Pu2 => [adL x.1.1.1.1, adL x.1.1.2.1]) (D := fun x => .tuple [.list 6 [], .int .i64 (uniR x.1.1.1.1 x.1.1.2.1).2]) (fun x y hxy => by
    simp only [List.cons.injEq, and_true] at hxy
    rw [pu2_inj hxy.1 hxy.2]) hp x rfl rfl
/-! ### Meet -/
set_option maxRecDepth 1000000 in
theorem pMb1 (xs ys : List (List DV)) : zflat (zans Try.prog tab ftab cSM 74 [.list 6 xs, .list 6 ys] [(9, .c [(7, .q (.int .i64 8))])]) =
    some (.tuple [.nil, .int .i64 8], [cSM 76 [.list 6 xs] ⟨0, []⟩ = some (.int .i64 8, ⟨0, []⟩, none)]) := by
  kernel_rfl
set_option maxRecDepth 1000000 in
theorem pMb2 (xs ys : List (List DV)) : zflat (zans Try.prog tab ftab cSM 74 [.list 6 xs, .list 6 ys] [(9, .c [(7, .q (.int .i64 0)), (12, .q (.int .i64 8))])]) =
    some (.tuple [.nil, .int .i64 8], [cSM 76 [.list 6 xs] ⟨0, []⟩ = some (.int .i64 0, ⟨0, []⟩, none), cSM 76 [.list 6 ys] ⟨0, []⟩ = some (.int .i64 8, ⟨0, []⟩, none)]) := by
  kernel_rfl
theorem ans_cPt (x : Pr2) : Ans Try.prog 74 [adL x.1.1.1, adL x.1.2.1] (lsD (meeR x.1.1.1 x.1.2.1)) ⟨0, []⟩ := by
  obtain ⟨⟨⟨s, hs, hls⟩, t, ht, hlt⟩, hl⟩ := x
  have q1 := cCk_at (hp := ⟨0, []⟩) (d := adL s) ⟨s, hs, hls⟩ ⟨rfl, rfl⟩
  have q2 := cCk_at (hp := ⟨0, []⟩) (d := adL t) ⟨t, ht, hlt⟩ ⟨rfl, rfl⟩
  simp only [meeR] at q1 q2 ⊢
  by_cases h1 : chk s = 0
  · rw [h1] at q1
    by_cases h2 : chk t = 0
    · rw [h2] at q2
      rw [if_pos ⟨h1, h2⟩]
      exact (zans_ok tab_ok mixed fun_ok cSM_ok (runM (rows s) (rows t) (mee s t).length (s.length + t.length) (room (mee s t) (s.length + t.length)))
        (.cons (orK_left q1) (.cons (orK_left q2) (.cons (orK_right (conC_other (by kernel_rfl)) (cMgM_at (hp := ⟨0, []⟩) ⟨s, hs, hls⟩ ⟨t, ht, hlt⟩ ⟨rfl, rfl⟩ ⟨rfl, rfl⟩)) .nil)))).frzT (room_frz _ _)
    · rw [chk_8 h2] at q2
      rw [if_neg fun h => h2 h.2]
      exact (zflat_ok tab_ok mixed fun_ok cSM_ok (pMb2 (rows s) (rows t)) (.cons (orK_left q1) (.cons (orK_left q2) .nil))).nilT
  · rw [chk_8 h1] at q1
    rw [if_neg fun h => h1 h.1]
    exact (zflat_ok tab_ok mixed fun_ok cSM_ok (pMb1 (rows s) (rows t)) (.cons (orK_left q1) .nil)).nilT
def cPt : CallF := liftC (eqC 74 (fun x : Pr2 => [adL x.1.1.1, adL x.1.2.1]) fun x => (lsD (meeR x.1.1.1 x.1.2.1), ⟨0, []⟩))
theorem cPt_ok : CallOk Try.prog cPt := liftC_ok (eqC_ok ans_cPt)
theorem cPt_at (hp : Hp) (x : Pr2) : cPt 74 [adL x.1.1.1, adL x.1.2.1] hp = some (lsD (meeR x.1.1.1 x.1.2.1), hp, none) :=
  lift_at (A := fun x : Pr2 => [adL x.1.1.1, adL x.1.2.1]) (D := fun x => lsD (meeR x.1.1.1 x.1.2.1)) (fun x y hxy => by
    simp only [List.cons.injEq, and_true] at hxy
    rw [pr2_inj hxy.1 hxy.2]) hp x rfl rfl
/-! ### Add -/
def cUA : CallF := orK cU1 cU2
theorem cUA_ok : CallOk Try.prog cUA := orK_ok cU1_ok cU2_ok
set_option maxRecDepth 1000000 in
theorem pAy (xs : List (List DV)) (a n N : Nat) (cl : List DV) : zkeep [2] (zans Try.prog tab ftab cUA 49 [.list 6 xs, aD a] [(9, .r (.tuple [.sl 2 0 6 n N, .int .i64 0]) (H3o a cl))]) =
    some (.tuple [.sl 0 0 6 n N, .int .i64 0], ⟨1, [⟨0, 0, 77, cl⟩]⟩, [Plain (H3o a cl), cUA 72 [.list 6 xs, .sl 1 0 6 1 1] (H2 a) = some (.tuple [.sl 2 0 6 n N, .int .i64 0], H3o a cl, none)]) := by
  kernel_rfl
set_option maxRecDepth 1000000 in
theorem pAn (xs : List (List DV)) (a : Nat) (e : Int) : zflat (zans Try.prog tab ftab cUA 49 [.list 6 xs, aD a] [(9, .q (.tuple [.nil, .int .i64 e]))]) =
    some (.tuple [.nil, .int .i64 e], [cUA 72 [.list 6 xs, .sl 1 0 6 1 1] (H2 a) = some (.tuple [.nil, .int .i64 e], H2 a, none)]) := by
  kernel_rfl
theorem add_uni (s : List Nat) (a : Nat) : addR s a = uniR s [a] := by
  unfold addR uniR
  by_cases h : chk s = 0
  · rw [if_pos h, if_pos (show chk s = 0 ∧ chk [a] = 0 from ⟨h, one_chk a⟩)]
  · rw [if_neg h, if_neg fun k => h k.1]
theorem ans_cPa (x : InW) (hl : x.1.1.1.length < 2 ^ 20) : Ans Try.prog 49 [adL x.1.1.1, aD x.1.2.1] (lsD (addR x.1.1.1 x.1.2.1)) ⟨0, []⟩ := by
  obtain ⟨⟨⟨ns, hb, hl'⟩, a, ha⟩, hx⟩ := x
  have hl : ns.length < 2 ^ 20 := hl
  have hone : ∀ n ∈ [a], n < 2 ^ 48 := fun n hn => by
    simp at hn
    subst hn
    exact ha
  have h1 : ([a] : List Nat).length < 2 ^ 30 := by show (1 : Nat) < 2 ^ 30; decide
  have h2 : ([a] : List Nat).length < 2 ^ 20 := by show (1 : Nat) < 2 ^ 20; decide
  have hsh := (sh_one (H2 a) a 1 rfl).frz
  show Ans _ _ [adL ns, aD a] (lsD (addR ns a)) _
  rw [add_uni]
  by_cases hc : (uniR ns [a]).2 = 0
  · have q := orK_left (C2 := cU2) (cU1_at (hp := H2 a) (d := adL ns) ⟨⟨(⟨ns, hb, hl'⟩, ⟨[a], hone, h1⟩), hl, h2⟩, hc⟩ ⟨rfl, rfl⟩ hsh)
    have key := (zkeep_ok tab_ok mixed fun_ok cUA_ok (pAy (rows ns) a (uniR ns [a]).1.length (ns.length + 1) (room (uniR ns [a]).1 (ns.length + 1))) (.cons (plainO a a _ _) (.cons q .nil))).frzT (room_frz _ _)
    unfold lsD
    rw [hc]
    exact key
  · have hno : ¬ ∃ x : Pu1, Frz (H2 a) [adL ns, .sl 1 0 6 1 1] [adL x.1.1.1.1, adL x.1.1.2.1] := by
      rintro ⟨⟨x, hx⟩, hf⟩
      have hf : frz1 (H2 a) (adL ns) (adL x.1.1.1) ∧ frz1 (H2 a) (.sl 1 0 6 1 1) (adL x.1.2.1) ∧ True := hf
      have e1 : adL ns = adL x.1.1.1 := frz1_fun (adL_frz (H2 a) ns) hf.1
      have e2 : adL [a] = adL x.1.2.1 := frz1_fun hsh hf.2.1
      have := pr2_inj (x := ⟨(⟨ns, hb, hl'⟩, ⟨[a], hone, h1⟩), hl, h2⟩) (y := x) e1 e2
      subst this
      exact hc hx
    have q := orK_right (C1 := cU1) (conC_other' (B := bU1) hno) (cU2_at (hp := H2 a) (d := adL ns) ⟨⟨(⟨ns, hb, hl'⟩, ⟨[a], hone, h1⟩), hl, h2⟩, hc⟩ ⟨rfl, rfl⟩ hsh)
    have key := (zflat_ok tab_ok mixed fun_ok cUA_ok (pAn (rows ns) a (uniR ns [a]).2) (.cons q .nil)).nilT
    unfold lsD
    rw [uniR_no hc]
    exact key
abbrev InV : Type := {x : InW // x.1.1.1.length < 2 ^ 20}
def cPa : CallF := liftC (eqC 49 (fun x : InV => [adL x.1.1.1.1, aD x.1.1.2.1]) fun x => (lsD (addR x.1.1.1.1 x.1.1.2.1), ⟨0, []⟩))
theorem cPa_ok : CallOk Try.prog cPa := liftC_ok (eqC_ok fun x => ans_cPa x.1 x.2)
theorem inW_inj {x y : InW} (h1 : adL x.1.1.1 = adL y.1.1.1) (h2 : aD x.1.2.1 = aD y.1.2.1) : x = y := by
  obtain ⟨⟨x1, x2⟩, _⟩ := x
  obtain ⟨⟨y1, y2⟩, _⟩ := y
  have e1 := adL_inj h1
  have e2 := aD_inj h2
  subst e1 e2
  rfl
theorem cPa_at (hp : Hp) (x : InV) : cPa 49 [adL x.1.1.1.1, aD x.1.1.2.1] hp = some (lsD (addR x.1.1.1.1 x.1.1.2.1), hp, none) :=
  lift_at (A := fun x : InV => [adL x.1.1.1.1, aD x.1.1.2.1]) (D := fun x => lsD (addR x.1.1.1.1 x.1.1.2.1)) (fun x y hxy => by
    simp only [List.cons.injEq, and_true] at hxy
    rw [inW_inj hxy.1 hxy.2]) hp x rfl rfl
/-! ### Has -/
set_option maxRecDepth 1000000 in
theorem pHb (xs : List (List DV)) (a : Nat) : zflat (zans Try.prog tab ftab cH0 70 [.list 6 xs, aD a] [(10, .q (.int .i64 8))]) =
    some (.tuple [.bool false, .int .i64 8], [cH0 76 [.list 6 xs] ⟨1, [⟨0, 0, 77, aC a⟩]⟩ = some (.int .i64 8, ⟨1, [⟨0, 0, 77, aC a⟩]⟩, none)]) := by
  kernel_rfl
theorem ans_cPh (x : InW) : Ans Try.prog 70 [adL x.1.1.1, aD x.1.2.1] (.tuple [.bool (hasR x.1.1.1 x.1.2.1).1, .int .i64 (hasR x.1.1.1 x.1.2.1).2]) ⟨0, []⟩ := by
  unfold hasR
  by_cases h : chk x.1.1.1 = 0
  · rw [if_pos h]
    exact ansHas ⟨x.1, h⟩
  · rw [if_neg h]
    have k := cCk_at (hp := (fun a => ⟨1, [⟨0, 0, 77, aC a⟩]⟩) x.1.2.1) (d := adL x.1.1.1) x.1.1 ⟨rfl, rfl⟩
    rw [chk_8 h] at k
    exact zflat_ok tab_ok mixed fun_ok cH0_ok (pHb (rows x.1.1.1) x.1.2.1) (.cons (orK_left k) .nil)
def cPh : CallF := liftC (eqC 70 (fun x : InW => [adL x.1.1.1, aD x.1.2.1]) fun x => (.tuple [.bool (hasR x.1.1.1 x.1.2.1).1, .int .i64 (hasR x.1.1.1 x.1.2.1).2], ⟨0, []⟩))
theorem cPh_ok : CallOk Try.prog cPh := liftC_ok (eqC_ok ans_cPh)
theorem cPh_at (hp : Hp) (x : InW) : cPh 70 [adL x.1.1.1, aD x.1.2.1] hp = some (.tuple [.bool (hasR x.1.1.1 x.1.2.1).1, .int .i64 (hasR x.1.1.1 x.1.2.1).2], hp, none) :=
  lift_at (A := fun x : InW => [adL x.1.1.1, aD x.1.2.1]) (D := fun x => .tuple [.bool (hasR x.1.1.1 x.1.2.1).1, .int .i64 (hasR x.1.1.1 x.1.2.1).2]) (fun x y hxy => by
    simp only [List.cons.injEq, and_true] at hxy
    rw [inW_inj hxy.1 hxy.2]) hp x rfl rfl
/-! ### Remove -/
set_option maxRecDepth 1000000 in
theorem pR8 (xs : List (List DV)) (a : Nat) : zflat (zans Try.prog tab ftab cPh 50 [.list 6 xs, aD a] [(11, .q (.tuple [.bool false, .int .i64 8]))]) =
    some (.tuple [.nil, .int .i64 8], [cPh 70 [.list 6 xs, aD a] ⟨1, [⟨0, 0, 77, aC a⟩]⟩ = some (.tuple [.bool false, .int .i64 8], ⟨1, [⟨0, 0, 77, aC a⟩]⟩, none)]) := by
  kernel_rfl
set_option maxRecDepth 1000000 in
theorem pR6 (xs : List (List DV)) (a : Nat) : zflat (zans Try.prog tab ftab cPh 50 [.list 6 xs, aD a] [(11, .q (.tuple [.bool false, .int .i64 0]))]) =
    some (.tuple [.nil, .int .i64 6], [cPh 70 [.list 6 xs, aD a] ⟨1, [⟨0, 0, 77, aC a⟩]⟩ = some (.tuple [.bool false, .int .i64 0], ⟨1, [⟨0, 0, 77, aC a⟩]⟩, none)]) := by
  kernel_rfl
abbrev Ir2 : Type := {x : InW // ¬ (remR x.1.1.1 x.1.2.1).2 = 0}
theorem remR_ok {s : List Nat} {a : Nat} (h : (remR s a).2 = 0) : chk s = 0 ∧ a ∈ s ∧ (remR s a).1 = dif s [a] := by
  unfold remR at h ⊢
  split at h
  · rename_i hc
    split at h
    · rename_i hm
      rw [if_pos hc, if_pos hm]
      exact ⟨hc, hm, rfl⟩
    · cases h
  · cases h
theorem remR_no {s : List Nat} {a : Nat} (h : ¬ (remR s a).2 = 0) : (remR s a).1 = [] := by
  unfold remR at h ⊢
  split
  · split
    · rename_i hc hm
      rw [if_pos hc, if_pos hm] at h
      exact absurd rfl h
    · rfl
  · rfl
theorem ansR2 (x : Ir2) : Ans Try.prog 50 [adL x.1.1.1.1, aD x.1.1.2.1] (.tuple [.list 6 [], .int .i64 (remR x.1.1.1.1 x.1.1.2.1).2]) ⟨0, []⟩ := by
  obtain ⟨x, hx⟩ := x
  have q := cPh_at ((fun a => ⟨1, [⟨0, 0, 77, aC a⟩]⟩) x.1.2.1) x
  simp only [remR] at hx ⊢
  unfold hasR at q
  by_cases h : chk x.1.1.1 = 0
  · rw [if_pos h] at q hx
    rw [if_pos h]
    by_cases hm : x.1.2.1 ∈ x.1.1.1
    · rw [if_pos hm] at hx
      exact absurd rfl hx
    · rw [if_neg hm]
      rw [decide_eq_false hm] at q
      exact (zflat_ok tab_ok mixed fun_ok cPh_ok (pR6 (rows x.1.1.1) x.1.2.1) (.cons q .nil)).nilT
  · rw [if_neg h] at q
    rw [if_neg h]
    exact (zflat_ok tab_ok mixed fun_ok cPh_ok (pR8 (rows x.1.1.1) x.1.2.1) (.cons q .nil)).nilT
def cR2 : CallF := liftC (eqC 50 (fun x : Ir2 => [adL x.1.1.1.1, aD x.1.1.2.1]) fun x => (.tuple [.list 6 [], .int .i64 (remR x.1.1.1.1 x.1.1.2.1).2], ⟨0, []⟩))
theorem cR2_ok : CallOk Try.prog cR2 := liftC_ok (eqC_ok ansR2)
theorem cR2_at (hp : Hp) (x : Ir2) : cR2 50 [adL x.1.1.1.1, aD x.1.1.2.1] hp = some (.tuple [.list 6 [], .int .i64 (remR x.1.1.1.1 x.1.1.2.1).2], hp, none) :=
  lift_at (A := fun x : Ir2 => [adL x.1.1.1.1, aD x.1.1.2.1]) (D := fun x => .tuple [.list 6 [], .int .i64 (remR x.1.1.1.1 x.1.1.2.1).2]) (fun x y hxy => by
    simp only [List.cons.injEq, and_true] at hxy
    rw [inW_inj hxy.1 hxy.2]) hp x rfl rfl
end
end Go.Proofs.Ytnhbhdfeenpedaa
