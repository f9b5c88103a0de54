/- The reference's Put: a contract. -/
import Derived.Test.YtioglkmdapghhaaPa
namespace Go.Proofs.Ytioglkmdapghhaa
open Go.RowKit

noncomputable section
/-! ### Copy, as a row of one's own -/
abbrev fCp : FuncId := 12
theorem cpO_ans (b : Bs) : Ans Try.prog fCp [byL b.1] (flB b.1).1 (flB b.1).2 := by
  obtain ⟨b, hb⟩ := b
  have s0 : SbO 5 ⟨1, [⟨0, 0, 5, []⟩], []⟩ (.sl 0 0 1 0 0) (celB []) := ⟨0, _, rfl, rfl, .inl rfl, rfl, rfl⟩
  obtain ⟨d1, h1, m1, e1, s1, l1⟩ := app_own (cs := b) s0 (contD_list _ b) (by simp only [List.length_nil]; omega)
  rw [List.nil_append] at s1
  exact AnsH.see (zans_ok tab_ok mixed fun_ok noC_ok (cpRun (by1 b) d1 h1 m1) (.cons e1 .nil)) (s1.seenV (by rw [l1]))
def cCo : ConF := conC fCp (fun b : Bs => [byL b.1]) fun b => flB b.1
theorem cCo_ok : ConOk Try.prog cCo := conC_ok cpO_ans fun _ => fine_flB _
theorem cCo_at {hp : Hp} {d : DV} (b : Bs) (h : frz1 hp d (byL b.1)) : cCo fCp [d] hp = some (.sl (hp.n + 0) 0 1 b.1.length b.1.length, layH hp (flB b.1).2, none) :=
  conC_at (f0 := fCp) (A := fun b : Bs => [byL b.1]) (B := fun b => flB b.1) (fun x y hxy => by
    simp only [List.cons.injEq, and_true] at hxy
    rw [byL_inj hxy]) b ⟨h, trivial⟩
/-! ### Put -/
abbrev fRp : FuncId := 21
abbrev kRp : List (Nat × Nat) := ksF ftab fRp
abbrev rpL : Code := loopAt (bodyOf ftab fRp) 0
abbrev i64u (v : Nat) : DV := .int .u64 (v : Int)
abbrev rps (v n m k : Nat) : Slots := mkT 25 [(1, i64u v), (2, iN n), (7, .sl 0 0 1 m m), (8, iN k)]
abbrev rpE (m : Nat) : Slots := mkT 25 [(7, .sl 0 0 1 m m)]
set_option maxRecDepth 1000000 in
theorem rp1 (v v' n m k : Nat) (c : UInt8) (cl : List DV) : zgc [2] (zsee Try.prog tab ftab noC kRp [1, 2, 7, 8] rpL (rps v n m k) (J0 cl) [(13, .b true), (19, .w (i8 c)), (21, .h (.sl 2 0 1 (m + 1) (m + 1)) (J2 cl c) (some 0)), (23, .w (i64u v')), (15, .w (iN (k + 1)))]) =
    some (.normal, rps v' n (m + 1) (k + 1), J0 (cl ++ [i8 c]), Plain (J2 cl c) :: (decide ((k : Int) < (n : Int)) = true) :: (DV.int .u8 (IntKind.u8.wrap ((v : Int).tmod 256)) = i8 c) :: (builtinD tab ⟨2, [oR 0 [i8 c], oR 1 cl], []⟩ .append [.sl 0 0 1 m m, .sl 1 0 1 1 1] tyBB = some (.sl 2 0 1 (m + 1) (m + 1), J2 cl c, some 0)) :: (DV.int .u64 (quoD .u64 (v : Int) 256) = i64u v') :: (DV.int .i64 (IntKind.i64.wrap ((k : Int) + 1)) = iN (k + 1)) :: []) := by kernel_rfl
set_option maxRecDepth 1000000 in
theorem rpO (v n m k : Nat) (h : Hp) : zsee Try.prog tab ftab noC kRp [7] rpL (rps v n m k) h [(13, .b false)] = some (.exit 0, rpE m, h, (decide ((k : Int) < (n : Int)) = false) :: []) := by kernel_rfl
set_option maxRecDepth 1000000 in
theorem rpA (xs : List (List DV)) (v n m m' : Nat) (cl cl' : List DV) : zans Try.prog tab ftab cCo fRp [.list 1 xs, i64u v, iN n] [(10, .r (.sl 0 0 1 m m) (J0 cl)), (0, .l [1, 2, 7, 8] (.exit 0) (rpE m') (J0 cl'))] =
    some (.sl 0 0 1 m' m', J0 cl', (cCo fCp [.list 1 xs] ⟨0, [], []⟩ = some (.sl 0 0 1 m m, J0 cl, none)) :: (Goes Try.prog tab kRp (.loop rpL) (rps v n m 0) (J0 cl) (.exit 0) (rpE m') (J0 cl')) :: []) := by kernel_rfl
theorem plain_J2 (bs : List UInt8) (c : UInt8) : Plain (J2 (celB bs) c) := plain_of fun o ho => by
  simp only [List.mem_cons, List.not_mem_nil, or_false] at ho
  rcases ho with rfl | rfl | rfl
  · show ∀ d ∈ celB bs ++ [i8 c], _
    rw [cel1]
    exact plain_cel
  · exact plain_one c
  · exact plain_cel
theorem rp_byte {v : Nat} : DV.int .u8 (IntKind.u8.wrap ((v : Int).tmod 256)) = i8 (UInt8.ofNat (v % 256)) := by
  have e : (v : Int).tmod 256 = ((v % 256 : Nat) : Int) := rfl
  rw [e, wrapU rfl, i8, UInt8.toNat_ofNat_of_lt' (Nat.mod_lt _ (by decide)), Nat.mod_eq_of_lt (show v % 256 < 2 ^ IntKind.u8.bits from Nat.mod_lt _ (by decide))]
theorem rp_quo {v : Nat} (hv : v < 2 ^ 64) : DV.int .u64 (quoD .u64 (v : Int) 256) = i64u (v / 256) := by
  unfold quoD
  have e : (v : Int).tdiv 256 = ((v / 256 : Nat) : Int) := rfl
  rw [e, wrapU rfl, Nat.mod_eq_of_lt (show v / 256 < 2 ^ IntKind.u64.bits from Nat.lt_of_le_of_lt (Nat.div_le_self _ _) hv)]
theorem rp_loop (b : List UInt8) (v n : Nat) (hb : b.length < 2 ^ 30) (hv : v < 2 ^ 64) (hn : n ≤ 8) : Goes Try.prog tab kRp (.loop rpL) (rps v n b.length 0) (J0 (celB b)) (.exit 0) (rpE (b ++ leB v n).length) (J0 (celB (b ++ leB v n))) := by
  have key := Goes.loop (P := Try.prog) (T := tab) (ks := kRp) (x := rpL) n (fun k => rps (v / 256 ^ k) n (b.length + k) k) (fun k => J0 (celB (b ++ leB v k))) (e := .exit 0) (s1 := rpE (b.length + n)) (h1 := J0 (celB (b ++ leB v n))) (fun k hk => ?_) ?_ (by intro h; cases h)
  · have e0 : celB (b ++ leB v 0) = celB b := by simp [leB]
    rw [e0, Nat.pow_zero, Nat.div_one] at key
    rw [List.length_append, leB_length]
    exact key
  · have hv' : v / 256 ^ k < 2 ^ 64 := Nat.lt_of_le_of_lt (Nat.div_le_self _ _) hv
    have hlen : (celB (b ++ leB v k)).length = b.length + k := by rw [celB_length, List.length_append, leB_length]
    have z := zgc_ok tab_ok mixed fun_ok noC_ok (rp1 (v / 256 ^ k) (v / 256 ^ k / 256) n (b.length + k) k (UInt8.ofNat (v / 256 ^ k % 256)) (celB (b ++ leB v k))) (.cons (plain_J2 _ _) (.cons (decide_eq_true (by omega)) (.cons rp_byte (.cons ?_ (.cons (rp_quo hv') (.cons (congrArg (DV.int .i64) (wrapI (n := k + 1) (by omega))) .nil))))))
    · rw [cel1, List.append_assoc, Nat.div_div_eq_div_mul, ← Nat.pow_succ] at z
      exact z
    · exact app_row (hp := ⟨2, [oR 0 [i8 (UInt8.ofNat (v / 256 ^ k % 256))], oR 1 (celB (b ++ leB v k))], []⟩) (id := 0) (o := oR 1 (celB (b ++ leB v k))) rfl (.inl rfl) rfl hlen (contD_one (id := 1) rfl rfl) (by omega)
  · exact zsee_ok tab_ok mixed fun_ok noC_ok (rpO _ n (b.length + n) n _) (.cons (decide_eq_false (by omega)) .nil)
abbrev BVN : Type := Bs × {v : Nat // v < 2 ^ 64} × {n : Nat // n ≤ 8}
theorem rp_ans (x : BVN) : Ans Try.prog fRp [byL x.1.1, i64u x.2.1.1, iN x.2.2.1] (flB (x.1.1 ++ leB x.2.1.1 x.2.2.1)).1 (flB (x.1.1 ++ leB x.2.1.1 x.2.2.1)).2 := by
  obtain ⟨⟨b, hb⟩, ⟨v, hv⟩, ⟨n, hn⟩⟩ := x
  exact zans_ok tab_ok mixed fun_ok cCo_ok (rpA (by1 b) v n b.length (b ++ leB v n).length (celB b) (celB (b ++ leB v n))) (.cons (cCo_at ⟨b, hb⟩ ⟨rfl, rfl⟩) (.cons (rp_loop b v n hb hv hn) .nil))
def cRp : ConF := conC fRp (fun x : BVN => [byL x.1.1, i64u x.2.1.1, iN x.2.2.1]) fun x => flB (x.1.1 ++ leB x.2.1.1 x.2.2.1)
theorem cRp_ok : ConOk Try.prog cRp := conC_ok rp_ans fun _ => fine_flB _
theorem cRp_at {hp : Hp} {d : DV} (b : Bs) (v n : Nat) (hv : v < 2 ^ 64) (hn : n ≤ 8) (h : frz1 hp d (byL b.1)) : cRp fRp [d, i64u v, iN n] hp = some (.sl (hp.n + 0) 0 1 (b.1 ++ leB v n).length (b.1 ++ leB v n).length, layH hp (flB (b.1 ++ leB v n)).2, none) :=
  conC_at (f0 := fRp) (A := fun x : BVN => [byL x.1.1, i64u x.2.1.1, iN x.2.2.1]) (B := fun x => flB (x.1.1 ++ leB x.2.1.1 x.2.2.1)) (fun x y hxy => by
    simp only [List.cons.injEq, and_true, DV.int.injEq, true_and] at hxy
    obtain ⟨h1, h2, h3⟩ := hxy
    rw [byL_inj h1, show x.2.1.1 = y.2.1.1 from Int.ofNat.inj h2, show x.2.2.1 = y.2.2.1 from Int.ofNat.inj (by injection h3)]) (b, ⟨v, hv⟩, ⟨n, hn⟩) ⟨h, ⟨rfl, rfl⟩, ⟨rfl, rfl⟩, trivial⟩
end
end Go.Proofs.Ytioglkmdapghhaa
