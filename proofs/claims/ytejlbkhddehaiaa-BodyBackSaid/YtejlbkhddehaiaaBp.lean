/- Rows of bytes of one's own, as they grow; Put16: a contract. -/
import Derived.Test.YtejlbkhddehaiaaEz
import Derived.Test.YtejlbkhddehaiaaBr
namespace Go.Proofs.Ytejlbkhddehaiaa
open Go.RowKit

noncomputable section
theorem contD_one {hp : Hp} {id : Nat} {o : Ob} {d : DV} (hg : hp.get id = some o) (ho : o.cs = [d]) : contD hp 1 (.sl id 0 1 1 1) = some (0 + 1, [d]) := by
  simp only [contD, hg, ho]
  rfl
abbrev tyB : List Nat := [37, 37]
abbrev ownH (e : TypeId) (k : Nat) (cl : List DV) : Hp := ⟨1, [⟨k, 0, e, cl⟩], []⟩
def flB (bs : List UInt8) : DV × Hp := (.sl 0 0 1 bs.length bs.length, ownH 5 1 (celB bs))
theorem plain_own (e k : Nat) (bs : List UInt8) : Plain (ownH e k (celB bs)) := fun id o h d hd => by
  have h0 : id = 0 := by
    have := Hp.get_lt h
    simp only at this
    omega
  subst h0
  cases h
  simp only [celB, List.mem_map] at hd
  obtain ⟨c, _, rfl⟩ := hd
  rfl
theorem fine_flB (bs : List UInt8) : Fine (flB bs).1 (flB bs).2 := ⟨rfl, plain_own _ _ bs, rfl⟩
theorem seenV_forget {hp : Hp} {id : Nat} {o : Ob} {d d' : DV} (hg : hp.get id = some o) (hpl : ∀ x ∈ o.cs, plain x = true) (hl : hp.ls = []) (hd : ren3 [id] d = some d') : SeenV d hp d' (ownH o.t 1 o.cs) := by
  intro W0 S0 E w v hs hv
  refine ⟨E.ren [id] fun _ => False, .up (E := E) (E' := E.ren [id] fun _ => False) (fun _ h => h) rfl (fun i => by rw [hl]) _, ?_, ren3_ok (fun _ _ _ _ h => h.elim) hv hd⟩
  have h0 : ∀ (i j : Nat), ([id] : List Nat)[i]? = some j → i = 0 ∧ j = id := fun i j h => by
    cases i with
    | zero => simp at h; exact ⟨rfl, h.symm⟩
    | succ i => simp at h
  refine ⟨hs.bel, ?_, ?_, fun i _ h => absurd h (by omega), ?_, hs.ro, hs.olds, Nat.zero_le _, .none rfl (fun i => yb_none hs.ys hl i) hs.gl⟩
  · rintro i ⟨j, hi, hD⟩
    obtain ⟨rfl, rfl⟩ := h0 i j hi
    obtain ⟨o', h1, k0, k1, vs, k2, k3, k4, k5⟩ := hs.ob j hD
    rw [hg] at h1
    cases h1
    exact ⟨⟨1, 0, o.t, o.cs⟩, rfl, ⟨fun h => (by cases h), fun h => h.elim⟩, k1, vs, k2, k3, k4, k5.1, fun q u v hq hv => plain_ok (k5.2 q u v hq hv) (hpl u (List.mem_of_getElem? hq))⟩
  · rintro i ⟨j, hi, hD⟩ _
    obtain ⟨rfl, rfl⟩ := h0 i j hi
    exact hs.own j hD (Nat.zero_le _)
  · rintro i j oi oj ⟨x, hi, _⟩ ⟨y, hj, _⟩ hne
    exact absurd ((h0 i x hi).1.trans (h0 j y hj).1.symm) hne
/-- a slice of one's own that begins its object -/
def SbO (e : TypeId) (hp : Hp) (d : DV) (cl : List DV) : Prop := ∃ id o, d = .sl id 0 1 cl.length cl.length ∧ hp.get id = some o ∧ (o.k = 0 ∨ o.k = 1 ∨ o.k = 3) ∧ o.t = e ∧ o.cs = cl
theorem SbO.push {e : TypeId} {hp : Hp} {d : DV} {cl : List DV} (h : SbO e hp d cl) (o : Ob) : SbO e (hp.push o) d cl := by
  obtain ⟨id, o', h0, h1, h2⟩ := h
  refine ⟨id, o', h0, ?_, h2⟩
  rw [Hp.get_push, if_neg (Nat.ne_of_lt (Hp.get_lt h1))]
  exact h1
theorem fitB_le2 {n b : Nat} (h : n ≤ 2 ^ 40) (hb : b ≤ 64) : fitB n b = true := by
  have h1 : Nat.ble n mxL = true := bleT (Nat.le_trans h (by decide))
  have h3 : n * b ≤ 2 ^ 40 * 64 := Nat.mul_le_mul h hb
  have h2 : Nat.ble (n * b) mxB = true := bleT (Nat.le_trans h3 (by decide))
  simp only [fitB, h1, h2, Bool.and_self]
/-- the caller's loops stay -/
theorem appO {e : TypeId} {j : TI} {z : DV} {zs : List DV} (hz : j.zero = z :: zs) (hs : j.size = 1) (hby : j.bytes ≤ 64) {hp : Hp} {d : DV} {cl news : List DV} (hd : SbO e hp d cl) {m : Nat} (hm : news.length = m) (hl : cl.length + m ≤ 2 ^ 40) :
    ∃ d' hp' mm, appH hp e j d m news = some (d', hp', mm) ∧ SbO e hp' d' (cl ++ news) ∧ hp'.ls = hp.ls := by
  obtain ⟨id, o, rfl, h1, h2, h3, h4⟩ := hd
  cases m with
  | zero =>
    obtain rfl : news = [] := List.eq_nil_of_length_eq_zero hm
    rw [List.append_nil]
    refine ⟨_, hp, none, ?_, ⟨id, o, rfl, h1, h2, h3, h4⟩, rfl⟩
    simp only [appH, hz, hs]
  | succ m =>
    have q0 : Nat.beq 1 0 = false := rfl
    have q1 : Nat.beq 1 1 = true := rfl
    have hle : (cl ++ news).length = cl.length + (m + 1) := by rw [List.length_append, hm]
    have hf := fitB_le2 (n := cl.length + (m + 1)) hl hby
    have hb : Nat.ble (cl.length + (m + 1)) cl.length = false := bleF (by omega)
    have he : Nat.ble (0 + cl.length * 1) o.cs.length = true := bleT (by rw [h4]; omega)
    have ht : (o.cs.drop 0).take (cl.length * 1) = cl := by rw [h4, List.drop_zero, Nat.mul_one, List.take_length]
    have hq : Nat.beq (0 + cl.length * 1) o.cs.length = true := beqT (by rw [h4]; omega)
    have hte : Nat.beq o.t e = true := beqT h3
    rcases h2 with h2 | h2 | h2
    · refine ⟨.sl hp.n 0 1 (cl.length + (m + 1)) (cl.length + (m + 1)), pushH hp 1 e ((o.cs.drop 0).take (cl.length * 1) ++ news), none, ?_, ⟨hp.n, _, by rw [hle], get_push_new _ _, .inr (.inl rfl), rfl, by rw [ht]⟩, rfl⟩
      simp only [appH, hz, hs, q0, q1, h1, hb, he, hf, h2]
    · refine ⟨.sl hp.n 0 1 (cl.length + (m + 1)) (cl.length + (m + 1)), (hp.put id ⟨2, o.r, o.t, o.cs⟩).push ⟨3, rootOf 1 o.r id, o.t, o.cs.drop 0 ++ news⟩, mmin (some (rootOf 1 o.r id)) (some id), ?_, ⟨hp.n, _, by rw [hle], get_push_new (hp.put id _) _, .inr (.inr rfl), h3, by simp [h4]⟩, rfl⟩
      simp only [appH, hz, hs, q0, q1, h1, hb, he, hf, h2, hq, hte]
    · refine ⟨.sl hp.n 0 1 (cl.length + (m + 1)) (cl.length + (m + 1)), (hp.put id ⟨2, o.r, o.t, o.cs⟩).push ⟨3, rootOf 3 o.r id, o.t, o.cs.drop 0 ++ news⟩, mmin (some (rootOf 3 o.r id)) (some id), ?_, ⟨hp.n, _, by rw [hle], get_push_new (hp.put id _) _, .inr (.inr rfl), h3, by simp [h4]⟩, rfl⟩
      simp only [appH, hz, hs, q0, q1, h1, hb, he, hf, h2, hq, hte]
theorem SbO.seenV {hp : Hp} {d : DV} {bs : List UInt8} (h : SbO 5 hp d (celB bs)) (hl : hp.ls = []) : SeenV d hp (flB bs).1 (flB bs).2 := by
  obtain ⟨id, o, rfl, h1, h2, h3, h4⟩ := h
  have := seenV_forget (d := .sl id 0 1 bs.length bs.length) (d' := .sl 0 0 1 bs.length bs.length) h1 (fun x hx => by
    rw [h4] at hx
    simp only [celB, List.mem_map] at hx
    obtain ⟨c, _, rfl⟩ := hx
    rfl) hl (by simp only [ren3, ren2, ren1, ren0, posN, beqT])
  rw [h3, h4] at this
  rw [celB_length]
  exact this
theorem sbO_new : SbO 5 (ownH 5 1 []) (.sl 0 0 1 0 0) (celB []) := ⟨0, _, rfl, rfl, .inr (.inl rfl), rfl, rfl⟩
theorem app_own {hp : Hp} {d x : DV} {bs cs : List UInt8} (h : SbO 5 hp d (celB bs)) (hx : contD hp 1 x = some (cs.length, celB cs)) (hl : bs.length + cs.length ≤ 2 ^ 40) : ∃ d' h' m, builtinD tab hp .append [d, x] tyB = some (d', h', m) ∧ SbO 5 h' d' (celB (bs ++ cs)) ∧ h'.ls = hp.ls := by
  rw [app_tab, hx, celB_append]
  exact appO (j := u8TI) (z := .int .u8 0) (zs := []) rfl rfl (by decide) h (celB_length cs) (by rw [celB_length]; exact hl)
theorem SbO.frz {hp : Hp} {d : DV} {bs : List UInt8} (h : SbO 5 hp d (celB bs)) : FrzD [] hp d (byL bs) := by
  obtain ⟨id, o, rfl, h1, h2, h3, h4⟩ := h
  rw [celB_length]
  refine frzD_bytes rfl h1 (by rcases h2 with h | h | h <;> omega) fun i b hb => ?_
  rw [h4]
  exact celB_get hb
theorem SbO.shows {hp : Hp} {d : DV} {bs : List UInt8} (h : SbO 5 hp d (celB bs)) : frz1 hp d (byL bs) := by
  obtain ⟨id, o, rfl, h1, h2, h3, h4⟩ := h
  rw [celB_length]
  refine frz_bytes h1 fun i b hb => ?_
  rw [h4]
  exact celB_get hb
theorem sbO_fl (bs : List UInt8) : SbO 5 (flB bs).2 (flB bs).1 (celB bs) := ⟨0, _, by rw [celB_length]; rfl, rfl, .inr (.inl rfl), rfl, rfl⟩
/-- one byte behind a row -/
theorem app_byte {hp : Hp} {d : DV} {bs : List UInt8} (c : UInt8) (h : SbO 5 hp d (celB bs)) (hl : bs.length + 1 ≤ 2 ^ 40) : ∃ d' h' m, builtinD tab (hp.push ⟨0, 0, 5, [i8 c]⟩) .append [d, .sl hp.n 0 1 1 1] tyB = some (d', h', m) ∧ SbO 5 h' d' (celB (bs ++ [c])) ∧ h'.ls = hp.ls :=
  app_own (hp := hp.push ⟨0, 0, 5, [i8 c]⟩) (cs := [c]) (h.push _) (contD_one (id := hp.n) (get_push_new _ _) rfl) (by simpa using hl)
/-- v's bytes, the lowest first -/
def leB (v : Nat) : Nat → List UInt8
  | 0 => []
  | k + 1 => leB v k ++ [UInt8.ofNat (v / 256 ^ k % 256)]
theorem leB_length (v k : Nat) : (leB v k).length = k := by
  induction k with
  | zero => rfl
  | succ k ih => simp [leB, ih]
theorem leB_mod (v n : Nat) : ∀ k, k ≤ n → leB (v % 256 ^ n) k = leB v k
  | 0, _ => rfl
  | k + 1, h => by
    have e : v % 256 ^ n / 256 ^ k % 256 = v / 256 ^ k % 256 := by
      obtain ⟨m, rfl⟩ : ∃ m, n = k + (m + 1) := ⟨n - k - 1, by omega⟩
      rw [Nat.pow_add, Nat.mod_mul_right_div_self, Nat.pow_succ, Nat.mul_comm (256 ^ m) 256, Nat.mod_mul_right_mod]
    simp only [leB, leB_mod v n k (by omega), e]
abbrev fGw : FuncId := 103
set_option maxRecDepth 1000000 in
theorem gwRun (xs : List (List DV)) (k : Int) (N : Nat) (d : DV) (h : Hp) (m : Mut) : zans Try.prog tab ftab noC fGw [.list 1 xs, .int .i64 k] [(8, .w (iN N)), (9, .h (.sl 0 0 1 0 0) (ownH 5 1 []) none), (11, .h d h m)] =
    some (d, h, (DV.int .i64 (IntKind.i64.wrap ((xs.length : Int) + k)) = iN N) :: ((decide ((0 : Int) ≤ 0) && decide ((0 : Int) ≤ (N : Int)) && fitB ((N : Int).toNat) 1) = true) ::
      (mkRow ⟨0, [], []⟩ 5 1 [.int .u8 0] ((0 : Int).toNat) ((N : Int).toNat) = (.sl 0 0 1 0 0, ownH 5 1 [], none)) :: (builtinD tab (ownH 5 1 []) .append [.sl 0 0 1 0 0, .list 1 xs] tyB = some (d, h, m)) :: []) := by kernel_rfl
abbrev BN : Type := Bs × {n : Nat // n < 2 ^ 20}
theorem gw_ans (x : BN) : Ans Try.prog fGw [byL x.1.1, iN x.2.1] (flB x.1.1).1 (flB x.1.1).2 := by
  obtain ⟨⟨b, hb⟩, ⟨k, hk⟩⟩ := x
  obtain ⟨d1, h1, m1, e1, s1, l1⟩ := app_own (cs := b) sbO_new (contD_list _ b) (by simp only [List.length_nil]; omega)
  rw [List.nil_append] at s1
  refine AnsH.see (zans_ok tab_ok mixed fun_ok noC_ok (gwRun (by1 b) k (b.length + k) d1 h1 m1) (.cons ?_ (.cons ?_ (.cons rfl (.cons e1 .nil))))) (s1.seenV (by rw [l1]))
  · rw [by1_length, show (b.length : Int) + (k : Int) = ((b.length + k : Nat) : Int) by omega]
    exact congrArg (DV.int .i64) (wrapI (by omega))
  · rw [Bool.and_eq_true, Bool.and_eq_true]
    exact ⟨⟨rfl, decide_eq_true (by omega)⟩, by rw [Int.toNat_natCast]; exact fitB_le2 (by omega) (by decide)⟩
def cGw : ConF := conC fGw (fun x : BN => [byL x.1.1, iN x.2.1]) fun x => flB x.1.1
theorem cGw_ok : ConOk Try.prog cGw := conC_ok gw_ans fun _ => fine_flB _
theorem cGw_at {hp : Hp} {d : DV} (b : Bs) (n : Nat) (hn : n < 2 ^ 20) (h : frz1 hp d (byL b.1)) : cGw fGw [d, iN n] hp = some (.sl (hp.n + 0) 0 1 b.1.length b.1.length, layH hp (flB b.1).2, none) :=
  conC_at (f0 := fGw) (A := fun x : BN => [byL x.1.1, iN x.2.1]) (B := fun x => flB x.1.1) (fun x y hxy => by
    simp only [List.cons.injEq, and_true] at hxy
    rw [byL_inj hxy.1]) (b, ⟨n, hn⟩) ⟨h, ⟨rfl, rfl⟩, trivial⟩
theorem sh_byte {q : Nat} (_ : q < 2 ^ 64) (k : Nat) (hk : 8 * k < 64) : DV.int .u8 (IntKind.u8.wrap (shrD .u64 (q : Int) ((8 * k : Nat) : Int))) = i8 (UInt8.ofNat (q / 256 ^ k % 256)) := by
  rw [show shrD .u64 (q : Int) ((8 * k : Nat) : Int) = ((q / 2 ^ (8 * k) : Nat) : Int) from shrU (k := .u64) q (n := 8 * k) (by show 8 * k ≤ 64; omega), wrapU rfl, i8, UInt8.toNat_ofNat_of_lt' (Nat.mod_lt _ (by decide)), show (2 : Nat) ^ (8 * k) = 256 ^ k from by rw [Nat.pow_mul]]
  rfl
abbrev flH (cl : List DV) : Hp := ownH 5 1 cl
abbrev pH16_1 (cl : List DV) (c0 : UInt8) : Hp := ⟨3, [oR 3 (cl ++ [i8 c0]), oR 0 [i8 c0], oR 2 cl], []⟩
abbrev pH16_2 (cl : List DV) (c0 c1 : UInt8) : Hp := ⟨5, [oR 3 ((cl ++ [i8 c0]) ++ [i8 c1]), oR 0 [i8 c1], oR 2 (cl ++ [i8 c0]), oR 0 [i8 c0], oR 2 cl], []⟩
set_option maxRecDepth 1000000 in
theorem pu16 (xs : List (List DV)) (cl : List DV) (n q : Nat) (c0 c1 : UInt8) : zans Try.prog tab ftab cGw 52 [.list 1 xs, .int .u16 (q : Int)] [(7, .c [(7, .r (.sl 0 0 1 n n) (flH cl)), (9, .c [(16, .w (i8 c0)), (18, .h (.sl 2 0 1 (n + 1) (n + 1)) (pH16_1 cl c0) (some 0)), (16, .w (i8 c1)), (18, .h (.sl 4 0 1 (n + 1 + 1) (n + 1 + 1)) (pH16_2 cl c0 c1) (some 0))])])] =
    some (.sl 4 0 1 (n + 1 + 1) (n + 1 + 1), (pH16_2 cl c0 c1), (cGw fGw [.list 1 xs, iN 2] ⟨0, [], []⟩ = some (.sl 0 0 1 n n, flH cl, none)) :: (DV.int .u8 (IntKind.u8.wrap (shrD .u64 (IntKind.u64.wrap (q : Int)) 0)) = i8 c0) :: (builtinD tab ⟨2, [oR 0 [i8 c0], oR 1 cl], []⟩ .append [.sl 0 0 1 n n, .sl 1 0 1 1 1] tyBB = some (.sl 2 0 1 (n + 1) (n + 1), (pH16_1 cl c0), some 0)) :: (DV.int .u8 (IntKind.u8.wrap (shrD .u64 (IntKind.u64.wrap (q : Int)) 8)) = i8 c1) :: (builtinD tab ⟨4, [oR 0 [i8 c1], oR 3 (cl ++ [i8 c0]), oR 0 [i8 c0], oR 2 cl], []⟩ .append [.sl 2 0 1 (n + 1) (n + 1), .sl 3 0 1 1 1] tyBB = some (.sl 4 0 1 (n + 1 + 1) (n + 1 + 1), (pH16_2 cl c0 c1), some 0)) :: []) := by kernel_rfl
theorem pu16_ans (x : Bs × {q : Nat // q < 256 ^ 2}) : Ans Try.prog 52 [byL x.1.1, .int .u16 (x.2.1 : Int)] (byL (x.1.1 ++ leB x.2.1 2)) ⟨0, [], []⟩ := by
  obtain ⟨⟨b, hb⟩, ⟨q, hq0⟩⟩ := x
  have hq : q < 2 ^ 64 := Nat.lt_of_lt_of_le hq0 (by decide)
  have hw : IntKind.u64.wrap (q : Int) = (q : Int) := by rw [wrapU rfl]; exact congrArg Nat.cast (Nat.mod_eq_of_lt hq)
  obtain ⟨c0, hc0⟩ : ∃ c, c = UInt8.ofNat (q / 256 ^ 0 % 256) := ⟨_, rfl⟩
  obtain ⟨c1, hc1⟩ : ∃ c, c = UInt8.ofNat (q / 256 ^ 1 % 256) := ⟨_, rfl⟩
  have z := zans_ok tab_ok mixed fun_ok cGw_ok (pu16 (by1 b) (celB b) b.length q c0 c1) (.cons (cGw_at ⟨b, hb⟩ 2 (by decide) ⟨rfl, rfl⟩) (.cons (by rw [hw, hc0]; exact sh_byte hq 0 (by decide)) (.cons (app_row (hp := ⟨2, [oR 0 [i8 c0], oR 1 (celB b)], []⟩) (id := 0) (o := oR 1 (celB b)) rfl (.inl rfl) rfl (by simp [celB_length]) (contD_one (id := 1) rfl rfl) (by omega)) (.cons (by rw [hw, hc1]; exact sh_byte hq 1 (by decide)) (.cons (app_row (hp := ⟨4, [oR 0 [i8 c1], oR 3 ((celB b) ++ [i8 c0]), oR 0 [i8 c0], oR 2 (celB b)], []⟩) (id := 2) (o := oR 3 ((celB b) ++ [i8 c0])) rfl (.inr rfl) rfl (by simp [celB_length]) (contD_one (id := 3) rfl rfl) (by omega)) .nil)))))
  have e : (((celB b) ++ [i8 c0]) ++ [i8 c1]) = celB (b ++ leB q 2) := by simp [celB, leB, hc0, hc1]
  have h := frzD_bytes (L := []) (hp := pH16_2 (celB b) c0 c1) (id := 4) (off := 0) (c := b.length + 1 + 1) (o := oR 3 (((celB b) ++ [i8 c0]) ++ [i8 c1])) (bs := b ++ leB q 2) rfl rfl (by show (3 : Nat) ≠ 2; decide) (fun i c hc => by rw [e]; exact celB_get hc)
  rw [List.length_append, leB_length] at h
  exact AnsH.frz z rfl h
def cPu16 : ConF := liftC (eqC 52 (fun x : Bs × {q : Nat // q < 256 ^ 2} => [byL x.1.1, .int .u16 (x.2.1 : Int)]) fun x => (byL (x.1.1 ++ leB x.2.1 2), ⟨0, [], []⟩))
theorem cPu16_ok : ConOk Try.prog cPu16 := liftC_ok (eqC_ok pu16_ans fun _ => rfl)
theorem cPu16_at (hp : Hp) (b : Bs) (q : Nat) (hq : q < 256 ^ 2) : cPu16 52 [byL b.1, .int .u16 (q : Int)] hp = some (byL (b.1 ++ leB q 2), hp, none) :=
  lift_at (A := fun x : Bs × {q : Nat // q < 256 ^ 2} => [byL x.1.1, .int .u16 (x.2.1 : Int)]) (D := fun x => byL (x.1.1 ++ leB x.2.1 2)) (fun x y hxy => by
    simp only [List.cons.injEq, and_true, DV.int.injEq, true_and] at hxy
    rw [byL_inj hxy.1, show x.2.1 = y.2.1 by omega]) hp (b, ⟨q, hq⟩) rfl rfl
end
end Go.Proofs.Ytejlbkhddehaiaa
