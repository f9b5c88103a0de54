/- The reference's sets of addresses. -/
import Derived.Test.YtnhbhdfeenpedaaAh
import Derived.Test.YtnhbhdfeenpedaaTb
namespace Go.Proofs.Ytnhbhdfeenpedaa
open Go.RowKit

noncomputable section
/-! ### Answers seen otherwise -/
theorem Ans.seeG {P : Program} {f : FuncId} {args : List DV} {d d' : DV} {hp hp' : Hp} (h : Ans P f args d hp) (hs : ∀ W0 S0 E w v, HS W0 0 S0 E hp w → VR w E d v → ∃ E', (∀ b, E.S b → E'.S b) ∧ HS W0 0 S0 E' hp' w ∧ VR w E' d' v) : Ans P f args d' hp' := by
  refine ⟨h.1, fun W0 S0 E w vs hh hv => (h.2 W0 S0 E w vs hh hv).mono ?_⟩
  rintro e w' ⟨E1, v, rfl, h1, h2, h3⟩
  obtain ⟨E2, e2, h4, h5⟩ := hs _ _ _ _ _ h2 h3
  exact ⟨E2, v, rfl, later_ro h1 (later_up e2 w'), h4, h5⟩
theorem hs_freeze {W0 : World} {S0 : Nat → Prop} {E : Env} {hp : Hp} {w : World} (hs : HS W0 0 S0 E hp w) : HS W0 0 S0 (ro (roS E)) ⟨0, []⟩ w := by
  refine ⟨hs.bel, fun _ h => h.elim, fun _ h => h.elim, fun _ h => h.elim, fun _ _ _ _ h => h.elim, (hs_frz hs).ro, fun b hb => ?_, Nat.le_refl _⟩
  rcases hb with hb | ⟨id, hd, rfl⟩
  · exact hs.olds b hb
  · exact .inr (hs.own id hd (Nat.zero_le _)).1
theorem vr_nilL {w : World} {E E' : Env} {s : Nat} {v : Value} (h : VR w E .nil v) : VR w E' (.list s []) v := by
  cases h
  exact .list _ s [] none 0 0 0 (fun _ _ => undef) (Nat.zero_le _) (Nat.zero_le _) (fun _ => rfl) (fun h => absurd h (by simp)) (fun i cs h => by simp at h) (fun i cs j d h => by simp at h) (fun i cs j d h => by simp at h) (fun cs h => by simp at h)
theorem tup_see {w : World} {E E' : Env} {x x' : DV} {e : Int} {v : Value} (h : VR w E (.tuple [x, .int .i64 e]) v) (f : ∀ u, VR w E x u → VR w E' x' u) : VR w E' (.tuple [x', .int .i64 e]) v := by
  cases h with
  | tuple _ _ vs hl hv =>
    match vs, hl with
    | [u1, u2], _ =>
      refine .tuple _ _ [u1, u2] rfl fun j d v hd hv' => ?_
      match j with
      | 0 =>
        simp only [List.getElem?_cons_zero, Option.some.injEq] at hd hv'
        subst hd hv'
        exact f _ (hv 0 _ _ rfl rfl)
      | 1 =>
        simp only [List.getElem?_cons_succ, List.getElem?_cons_zero, Option.some.injEq] at hd hv'
        subst hd hv'
        have := hv 1 _ _ rfl rfl
        cases this
        exact .int _ _ _
      | j + 2 => simp at hd
theorem Ans.nilT {P : Program} {f : FuncId} {args : List DV} {e : Int} (h : Ans P f args (.tuple [.nil, .int .i64 e]) ⟨0, []⟩) : Ans P f args (.tuple [.list 6 [], .int .i64 e]) ⟨0, []⟩ :=
  h.seeG fun _ _ E _ _ hs hv => ⟨E, fun _ h => h, hs, tup_see hv fun _ hu => vr_nilL hu⟩
theorem Ans.frzT {P : Program} {f : FuncId} {args : List DV} {x x' : DV} {hp : Hp} {e : Int} (h : Ans P f args (.tuple [x, .int .i64 e]) hp) (hf : frz1 hp x x') : Ans P f args (.tuple [x', .int .i64 e]) ⟨0, []⟩ :=
  h.seeG fun _ _ E _ _ hs hv => ⟨ro (roS E), fun _ hb => .inl hb, hs_freeze hs, tup_see hv fun _ hu => frz1_ok hs hu hf⟩
/-! ### Loops that search -/
theorem Goes.allr {P : Program} {T : Tab} {ks : List (Nat × Nat)} {x : Code} {e : Ex} {s1 : Slots} {h1 : Hp} {n : Nat} {p : Nat → Prop} {S : Nat → Slots} {H : Hp} (hr : ∀ k, k < n → p k → Goes P T ks x (S k) H .normal (S (k + 1)) H) (h : ∀ k, k < n → p k) (hl : Goes P T ks x (S n) H e s1 h1) (hne : e ≠ .normal) : Goes P T ks (.loop x) (S 0) H e s1 h1 :=
  Goes.loop n S (fun _ => H) (fun k hk => hr k hk (h k hk)) hl hne
theorem Goes.firstr {P : Program} {T : Tab} {ks : List (Nat × Nat)} {x : Code} {e : Ex} {s1 : Slots} {h1 : Hp} {n : Nat} {p : Nat → Prop} {S : Nat → Slots} {H : Hp} (hr : ∀ k, k < n → p k → Goes P T ks x (S k) H .normal (S (k + 1)) H) (hs : ∀ k, k < n → ¬ p k → Goes P T ks x (S k) H e s1 h1) (h : ¬ ∀ k, k < n → p k) (hne : e ≠ .normal) : Goes P T ks (.loop x) (S 0) H e s1 h1 := by
  have hex : ∃ i, i < n ∧ ¬ p i := Classical.byContradiction fun hn => h fun i hi => Classical.byContradiction fun hc => hn ⟨i, hi, hc⟩
  obtain ⟨j, hj, hmin⟩ : ∃ j, (j < n ∧ ¬ p j) ∧ ∀ i, i < j → p i := by
    obtain ⟨i, hi⟩ := hex
    induction i using Nat.strongRecOn with
    | ind i ih =>
      by_cases hc : ∃ q, q < i ∧ ¬ p q
      · obtain ⟨q, hq, hn⟩ := hc
        exact ih q hq ⟨by omega, hn⟩
      · exact ⟨i, hi, fun q hq => Classical.byContradiction fun hn => hc ⟨q, hq, hn⟩⟩
  exact Goes.loop j S (fun _ => H) (fun k hk => hr k (by omega) (hmin k hk)) (hs j hj.1 hj.2) hne
/-! ### Slices of addresses that grow -/
def ShZ (hp : Hp) (d : DV) (ns : List Nat) : Prop := (d = .nil ∧ ns = []) ∨ ∃ id o, d = .sl id 0 6 ns.length ns.length ∧ hp.get id = some o ∧ (o.k = 0 ∨ o.k = 1 ∨ o.k = 3) ∧ o.t = 77 ∧ o.cs = flat ns
theorem ShZ.vr {W0 : World} {S0 : Nat → Prop} {E : Env} {hp : Hp} {w : World} (hs : HS W0 0 S0 E hp w) {d : DV} {ns : List Nat} (h : ShZ hp d ns) {v : Value} (hv : VR w E d v) : VR w (ro (roS E)) (adL ns) v := by
  rcases h with ⟨rfl, rfl⟩ | ⟨id, o, rfl, h1, _, _, h4⟩
  · exact vr_nilL hv
  · refine frz1_ok hs hv (ShA.frz (.inr ⟨id, o, ns.length, _, rfl, h1, ?_⟩))
    rw [h4, room, Nat.sub_self]
    simp [nlist]
theorem seen_sh {nt t : Nat} {d : DV} {ns : List Nat} {hp : Hp} (hl : look (mkT nt [(t, d)]) t = some d) (h : ShZ hp d ns) : Seen (mkT nt [(t, d)]) hp (mkT nt [(t, adL ns)]) ⟨0, []⟩ :=
  seen_slots fun W0 S0 E w hs => ⟨ro (roS E), fun b hb => .inl hb, hs_freeze hs, fun t' d' hm => by
    simp only [List.mem_singleton, Prod.mk.injEq] at hm
    obtain ⟨rfl, rfl⟩ := hm
    exact ⟨d, hl, fun v hv => h.vr hs hv⟩⟩
theorem seen_box {nt : Nat} {a : Nat} {xs : List (List DV)} (h0 : look (mkT nt [(0, .list 6 xs), (3, .ptr 0 0)]) 0 = some (.list 6 xs)) (h3 : look (mkT nt [(0, .list 6 xs), (3, .ptr 0 0)]) 3 = some (.ptr 0 0)) : Seen (mkT nt [(0, .list 6 xs), (3, .ptr 0 0)]) ⟨1, [⟨0, 0, 77, aC a⟩]⟩ (mkT nt [(0, .list 6 xs), (3, .fptr (aC a))]) ⟨0, []⟩ :=
  seen_slots fun W0 S0 E w hs => ⟨ro (roS E), fun b hb => .inl hb, hs_freeze hs, fun t d hm => by
    simp only [List.mem_cons, Prod.mk.injEq, List.not_mem_nil, or_false] at hm
    rcases hm with ⟨rfl, rfl⟩ | ⟨rfl, rfl⟩
    · exact ⟨_, h0, fun v hv => frz1_ok hs hv ⟨rfl, rfl⟩⟩
    · refine ⟨_, h3, fun v hv => ?_⟩
      obtain ⟨rfl, hd⟩ := hv.of_ptr
      obtain ⟨ob, hg, hok⟩ := hs.ob 0 hd
      obtain rfl : ob = ⟨0, 0, 77, aC a⟩ := by
        have : (⟨1, [⟨0, 0, 77, aC a⟩]⟩ : Hp).get 0 = some ⟨0, 0, 77, aC a⟩ := rfl
        rw [this] at hg
        exact (Option.some.inj hg).symm
      obtain ⟨k0, k1, vs, k2, k3, k4, k5⟩ := hok
      have hcell : ∀ (j : Nat) (d : DV), (aC a)[j]? = some d → ∃ v, vs[E.base 0 + (0 + j)]? = some v ∧ VR w E d v := fun j d hj => by
        obtain ⟨v, hv1, hv2⟩ := k5.get hj
        refine ⟨v, ?_, hv2⟩
        rw [List.getElem?_take] at hv1
        split at hv1
        · simpa using hv1
        · cases hv1
      refine .fptr _ _ (E.b 0) (E.base 0 + 0) (fun j => (vs[E.base 0 + (0 + j)]?).getD undef) (.inr ⟨0, hd, rfl⟩) (fun j d hj => ?_) (fun j d hj => ?_)
      · obtain ⟨v, hv1, _⟩ := hcell j d hj
        rw [k2.cell, Nat.add_assoc, hv1]
        rfl
      · obtain ⟨v, hv1, hv2⟩ := hcell j d hj
        simp only [hv1, Option.getD_some]
        exact plain_ok hv2 (aC_plain a d (List.mem_of_getElem? hj))⟩
/-- cells appended to a slice that begins its object -/
theorem appG {e : TypeId} {j : TI} {z : DV} {zs : List DV} {s : Nat} (hz : j.zero = z :: zs) (hs : j.size = s) (hs0 : Nat.beq s 0 = false) (hby : j.bytes ≤ 64) {hp : Hp} {d : DV} {n : Nat} {cl news : List DV} (hd : (d = .nil ∧ n = 0 ∧ cl = []) ∨ ∃ id o, d = .sl id 0 s n n ∧ hp.get id = some o ∧ (o.k = 0 ∨ o.k = 1 ∨ o.k = 3) ∧ o.t = e ∧ o.cs = cl) (hcl : cl.length = n * s) {m : Nat} (hl : n + (m + 1) ≤ 2 ^ 40) :
    ∃ d' hp' mm, appH hp e j d (m + 1) news = some (d', hp', mm) ∧ ∃ id o, d' = .sl id 0 s (n + (m + 1)) (n + (m + 1)) ∧ hp'.get id = some o ∧ (o.k = 0 ∨ o.k = 1 ∨ o.k = 3) ∧ o.t = e ∧ o.cs = cl ++ news := by
  have q1 : Nat.beq s s = true := beqT rfl
  rcases hd with ⟨rfl, rfl, rfl⟩ | ⟨id, o, rfl, h1, h2, h3, h4⟩
  · have hf := fitB_le2 (n := m + 1) (by omega) hby
    refine ⟨.sl hp.n 0 s (m + 1) (m + 1), pushH hp 1 e news, none, ?_, hp.n, _, by rw [Nat.zero_add], get_push_new _ _, .inr (.inl rfl), rfl, rfl⟩
    simp only [appH, hz, hs, hs0, hf]
  · have hf := fitB_le2 (n := n + (m + 1)) hl hby
    have hb : Nat.ble (n + (m + 1)) n = false := bleF (by omega)
    have he : Nat.ble (0 + n * s) o.cs.length = true := bleT (by rw [h4]; omega)
    have ht : (o.cs.drop 0).take (n * s) = cl := by rw [h4, List.drop_zero, ← hcl, List.take_length]
    have hq : Nat.beq (0 + n * s) o.cs.length = true := beqT (by rw [h4]; omega)
    have hte : Nat.beq o.t e = true := beqT h3
    rcases h2 with h2 | h2 | h2
    · refine ⟨.sl hp.n 0 s (n + (m + 1)) (n + (m + 1)), pushH hp 1 e ((o.cs.drop 0).take (n * s) ++ news), none, ?_, hp.n, _, rfl, get_push_new _ _, .inr (.inl rfl), rfl, by rw [ht]⟩
      simp only [appH, hz, hs, hs0, q1, h1, hb, he, hf, h2]
    · refine ⟨.sl hp.n 0 s (n + (m + 1)) (n + (m + 1)), (hp.put id ⟨2, o.r, o.t, o.cs⟩).push ⟨3, rootOf 1 o.r id, o.t, o.cs.drop 0 ++ news⟩, mmin (some (rootOf 1 o.r id)) (some id), ?_, hp.n, _, rfl, get_push_new (hp.put id _) _, .inr (.inr rfl), h3, by simp [h4]⟩
      simp only [appH, hz, hs, hs0, q1, h1, hb, he, hf, h2, hq, hte]
    · refine ⟨.sl hp.n 0 s (n + (m + 1)) (n + (m + 1)), (hp.put id ⟨2, o.r, o.t, o.cs⟩).push ⟨3, rootOf 3 o.r id, o.t, o.cs.drop 0 ++ news⟩, mmin (some (rootOf 3 o.r id)) (some id), ?_, hp.n, _, rfl, get_push_new (hp.put id _) _, .inr (.inr rfl), h3, by simp [h4]⟩
      simp only [appH, hz, hs, hs0, q1, h1, hb, he, hf, h2, hq, hte]
theorem app6 {hp : Hp} {d : DV} {ns : List Nat} (h : ShZ hp d ns) (hl : ns.length < 2 ^ 31) (a : Nat) : ∃ d' hp' m, builtinD tab (pushH hp 0 77 (aC a)) .append [d, .sl hp.n 0 6 1 1] [82, 82] = some (d', hp', m) ∧ ShZ hp' d' (ns ++ [a]) := by
  have h1 : (pushH hp 0 77 (aC a)).get hp.n = some ⟨0, 0, 77, aC a⟩ := get_push_new _ _
  have hc : contD (pushH hp 0 77 (aC a)) 6 (.sl hp.n 0 6 1 1) = some (1, aC a) := by
    simp only [contD, h1]
    rfl
  rw [app_tabA, hc]
  have hz : ∃ z zs, adTI.zero = z :: zs := ⟨.int .u8 0, [.int .u8 0, .int .u8 0, .int .u8 0, .int .u8 0, .int .u8 0], by kernel_rfl⟩
  obtain ⟨z, zs, hz⟩ := hz
  have hs : adTI.size = 6 := by kernel_rfl
  have hby : adTI.bytes ≤ 64 := by
    have : adTI.bytes = 6 := by kernel_rfl
    omega
  obtain ⟨d', hp', m, e1, id, o, e2, e3, e4, e5, e6⟩ := appG (e := 77) (hp := pushH hp 0 77 (aC a)) (d := d) (n := ns.length) (cl := flat ns) (news := aC a) (m := 0) hz hs rfl hby (by
    rcases h with ⟨rfl, rfl⟩ | ⟨id, o, h0, h2⟩
    · exact .inl ⟨rfl, rfl, rfl⟩
    · refine .inr ⟨id, o, h0, ?_, h2.2⟩
      show (hp.push _).get id = _
      rw [Hp.get_push, if_neg (Nat.ne_of_lt (Hp.get_lt h2.1))]
      exact h2.1) (flat_length ns) (by omega)
  refine ⟨d', hp', m, e1, .inr ⟨id, o, by rw [e2, List.length_append]; rfl, e3, e4, e5, ?_⟩⟩
  rw [e6, flat_append]
  simp [flat, rows]
theorem eq_run (m n : Nat) : binD tab .eql 77 (aD m) (aD n) = some (.bool ((((m / 1099511627776 % 256 : Nat) : Int) == ((n / 1099511627776 % 256 : Nat) : Int)) && ((((m / 4294967296 % 256 : Nat) : Int) == ((n / 4294967296 % 256 : Nat) : Int)) && ((((m / 16777216 % 256 : Nat) : Int) == ((n / 16777216 % 256 : Nat) : Int)) && ((((m / 65536 % 256 : Nat) : Int) == ((n / 65536 % 256 : Nat) : Int)) && ((((m / 256 % 256 : Nat) : Int) == ((n / 256 % 256 : Nat) : Int)) && ((((m % 256 : Nat) : Int) == ((n % 256 : Nat) : Int)) && true))))))) := by kernel_rfl
theorem eq_adr {m n : Nat} (hm : m < 2 ^ 48) (hn : n < 2 ^ 48) : binD tab .eql 77 (aD m) (aD n) = some (.bool (decide (m = n))) := by
  rw [eq_run]
  congr 2
  by_cases h : m = n
  · subst h
    simp
  · rw [decide_eq_false h, Bool.eq_false_iff]
    intro hc
    simp only [Bool.and_eq_true, beq_iff_eq, and_true] at hc
    omega
theorem inc {k : Nat} (h : k < 2 ^ 31) : DV.int .i64 (IntKind.i64.wrap ((k : Int) + 1)) = iN (k + 1) := congrArg (DV.int .i64) (wrapI (n := k + 1) (by omega))
theorem gD {ns : List Nat} {k : Nat} (h : k < ns.length) : ns[k]? = some (ns.getD k 0) := by
  rw [List.getD_eq_getElem?_getD, List.getElem?_eq_getElem h]
  rfl
theorem gD_lt {ns : List Nat} (hb : ∀ n ∈ ns, n < 2 ^ 48) {k : Nat} (h : k < ns.length) : ns.getD k 0 < 2 ^ 48 := hb _ (List.mem_of_getElem? (gD h))
/-! ### Set -/
set_option maxRecDepth 1000000 in
theorem setGo (xs : List (List DV)) (k m n : Nat) (v : Int) : zsee Try.prog tab ftab cRc (ksF ftab 77) [0, 3] (loopAt (bodyOf ftab 77) 0) (mkT 24 [(0, .list 6 xs), (3, iN (k + 1))]) ⟨0, []⟩ [(7, .b true), (12, .w (iN k)), (13, .n (.fptr (aC m))), (17, .n (.fptr (aC n))), (19, .q (.int .i64 v)), (20, .b false), (9, .w (iN (k + 2)))] =
    some (.normal, (mkT 24 [(0, .list 6 xs), (3, iN (k + 2))]), ⟨0, []⟩, [decide (((k + 1 : Nat) : Int) < (xs.length : Int)) = true, DV.int .i64 (IntKind.i64.wrap (((k + 1 : Nat) : Int) - 1)) = iN k, idxOk (k : Int) xs.length = true, nth xs (k : Int).toNat = some (aC m), idxOk ((k + 1 : Nat) : Int) xs.length = true, nth xs ((k + 1 : Nat) : Int).toNat = some (aC n), cRc 61 [aD m, aD n] ⟨0, []⟩ = some (.int .i64 v, ⟨0, []⟩, none), decide (v ≥ 0) = false, DV.int .i64 (IntKind.i64.wrap (((k + 1 : Nat) : Int) + 1)) = iN (k + 2)]) := by
  kernel_rfl
set_option maxRecDepth 1000000 in
theorem setNo (xs : List (List DV)) (k m n : Nat) (v : Int) : zsee Try.prog tab ftab cRc (ksF ftab 77) [2] (loopAt (bodyOf ftab 77) 0) (mkT 24 [(0, .list 6 xs), (3, iN (k + 1))]) ⟨0, []⟩ [(7, .b true), (12, .w (iN k)), (13, .n (.fptr (aC m))), (17, .n (.fptr (aC n))), (19, .q (.int .i64 v)), (20, .b true)] =
    some (.ret, (mkT 24 [(2, .bool false)]), ⟨0, []⟩, [decide (((k + 1 : Nat) : Int) < (xs.length : Int)) = true, DV.int .i64 (IntKind.i64.wrap (((k + 1 : Nat) : Int) - 1)) = iN k, idxOk (k : Int) xs.length = true, nth xs (k : Int).toNat = some (aC m), idxOk ((k + 1 : Nat) : Int) xs.length = true, nth xs ((k + 1 : Nat) : Int).toNat = some (aC n), cRc 61 [aD m, aD n] ⟨0, []⟩ = some (.int .i64 v, ⟨0, []⟩, none), decide (v ≥ 0) = true]) := by
  kernel_rfl
set_option maxRecDepth 1000000 in
theorem setOut (xs : List (List DV)) (k : Nat) : zsee Try.prog tab ftab cRc (ksF ftab 77) [0] (loopAt (bodyOf ftab 77) 0) (mkT 24 [(0, .list 6 xs), (3, iN (k + 1))]) ⟨0, []⟩ [(7, .b false)] =
    some (.exit 0, (mkT 24 [(0, .list 6 xs)]), ⟨0, []⟩, [decide (((k + 1 : Nat) : Int) < (xs.length : Int)) = false]) := by
  kernel_rfl
set_option maxRecDepth 1000000 in
theorem setYes (xs : List (List DV)) (v : Bool) : zflat (zans Try.prog tab ftab cRc 77 [.list 6 xs] [(0, .l [0, 3] (.exit 0) (mkT 24 [(0, .list 6 xs)]) ⟨0, []⟩), (23, .b v)]) =
    some (.bool v, [Goes Try.prog tab (ksF ftab 77) (.loop (loopAt (bodyOf ftab 77) 0)) (mkT 24 [(0, .list 6 xs), (3, iN 1)]) ⟨0, []⟩ (.exit 0) (mkT 24 [(0, .list 6 xs)]) ⟨0, []⟩, decide ((xs.length : Int) ≤ 256) = v]) := by
  kernel_rfl
set_option maxRecDepth 1000000 in
theorem setBad (xs : List (List DV)) : zflat (zans Try.prog tab ftab cRc 77 [.list 6 xs] [(0, .l [0, 3] .ret (mkT 24 [(2, .bool false)]) ⟨0, []⟩)]) =
    some (.bool false, [Goes Try.prog tab (ksF ftab 77) (.loop (loopAt (bodyOf ftab 77) 0)) (mkT 24 [(0, .list 6 xs), (3, iN 1)]) ⟨0, []⟩ (.ret) (mkT 24 [(2, .bool false)]) ⟨0, []⟩]) := by
  kernel_rfl
theorem ans_cSt (x : Ads) : Ans Try.prog 77 [adL x.1] (.bool (decide (chk x.1 = 0))) ⟨0, []⟩ := by
  obtain ⟨ns, hb, hl⟩ := x
  have hr := rows_length ns
  have dec : ∀ k : Nat, k + 1 < 2 ^ 31 → DV.int .i64 (IntKind.i64.wrap (((k + 1 : Nat) : Int) - 1)) = iN k := fun k hk => by
    rw [show (((k + 1 : Nat) : Int) - 1) = (k : Int) by omega, wrapI (by omega)]
    rfl
  have q := fun k (hk : k < ns.length - 1) => cRc_at ⟨0, []⟩ (⟨_, gD_lt hb (k := k) (by omega)⟩, ⟨_, gD_lt hb (k := k + 1) (by omega)⟩)
  have go : ∀ k, k < ns.length - 1 → ns.getD k 0 < ns.getD (k + 1) 0 → Goes Try.prog tab (ksF ftab 77) (loopAt (bodyOf ftab 77) 0) ((fun xs => (mkT 24 [(0, .list 6 xs), (3, iN (k + 1))])) (rows ns)) ⟨0, []⟩ .normal ((fun xs => (mkT 24 [(0, .list 6 xs), (3, iN (k + 2))])) (rows ns)) ⟨0, []⟩ := fun k hk h => by
    have q := q k hk
    simp only [cmpN, if_pos h] at q
    exact zsee_ok tab_ok mixed fun_ok cRc_ok (setGo (rows ns) k _ _ (-1)) (.cons (decide_eq_true (by omega)) (.cons (dec k (by omega)) (.cons (idxOk_lt (by omega)) (.cons (rows_nth (gD (by omega))) (.cons (idxOk_lt (by omega)) (.cons (rows_nth (gD (by omega))) (.cons q (.cons rfl (.cons (inc (k := k + 1) (by omega)) .nil)))))))))
  have no : ∀ k, k < ns.length - 1 → ¬ ns.getD k 0 < ns.getD (k + 1) 0 → Goes Try.prog tab (ksF ftab 77) (loopAt (bodyOf ftab 77) 0) ((fun xs => (mkT 24 [(0, .list 6 xs), (3, iN (k + 1))])) (rows ns)) ⟨0, []⟩ .ret (mkT 24 [(2, .bool false)]) ⟨0, []⟩ := fun k hk h => by
    have q := q k hk
    simp only [cmpN, if_neg h] at q
    refine zsee_ok tab_ok mixed fun_ok cRc_ok (setNo (rows ns) k _ _ _) (.cons (decide_eq_true (by omega)) (.cons (dec k (by omega)) (.cons (idxOk_lt (by omega)) (.cons (rows_nth (gD (by omega))) (.cons (idxOk_lt (by omega)) (.cons (rows_nth (gD (by omega))) (.cons q (.cons (decide_eq_true ?_) .nil))))))))
    split <;> decide
  by_cases h : ∀ k, k < ns.length - 1 → ns.getD k 0 < ns.getD (k + 1) 0
  · have ha : Adj ns := fun i hi => h i (by omega)
    have e : decide (chk ns = 0) = decide (((rows ns).length : Int) ≤ 256) := by
      rw [Bool.eq_iff_iff, decide_eq_true_eq, decide_eq_true_eq]
      unfold chk
      by_cases hc : ns.length ≤ 256
      · rw [if_pos ⟨hc, ha⟩]
        omega
      · rw [if_neg fun h => hc h.1]
        omega
    simp only [e]
    refine zflat_ok tab_ok mixed fun_ok cRc_ok (setYes (rows ns) _) (.cons ?_ (.cons rfl .nil))
    exact Goes.allr (n := ns.length - 1) (S := fun k => (fun xs => (mkT 24 [(0, .list 6 xs), (3, iN (k + 1))])) (rows ns)) go h (zsee_ok tab_ok mixed fun_ok cRc_ok (setOut (rows ns) (ns.length - 1)) (.cons (decide_eq_false (by omega)) .nil)) (by intro h; cases h)
  · have e : decide (chk ns = 0) = false := decide_eq_false fun hc => h fun k hk => adj_of (chk_ok hc).2 k (by omega)
    simp only [e]
    refine zflat_ok tab_ok mixed fun_ok cRc_ok (setBad (rows ns)) (.cons ?_ .nil)
    exact Goes.firstr (n := ns.length - 1) (S := fun k => (fun xs => (mkT 24 [(0, .list 6 xs), (3, iN (k + 1))])) (rows ns)) go no h (by intro h; cases h)
def cSt : CallF := conC 77 (fun x : Ads => [adL x.1]) fun x => (.bool (decide (chk x.1 = 0)), ⟨0, []⟩)
theorem cSt_ok : CallOk Try.prog cSt := conC_ok ans_cSt fun _ => fine0 rfl
theorem cSt_at (hp : Hp) (x : Ads) : cSt 77 [adL x.1] hp = some (.bool (decide (chk x.1 = 0)), hp, none) :=
  conC0_at (f0 := 77) (A := fun x : Ads => [adL x.1]) (D := fun x => .bool (decide (chk x.1 = 0))) (fun x y hxy => by
    simp only [List.cons.injEq, and_true] at hxy
    rw [adL_inj hxy]) hp x ⟨⟨rfl, rfl⟩, trivial⟩ rfl
/-! ### In -/
set_option maxRecDepth 1000000 in
theorem inGo (xs : List (List DV)) (a k m : Nat) : zsee Try.prog tab ftab noC (ksF ftab 124) [0, 3, 5] (loopAt (bodyOf ftab 124) 0) (mkT 18 [(0, .list 6 xs), (3, .ptr 0 0), (5, iN k)]) ⟨1, [⟨0, 0, 77, aC a⟩]⟩ [(9, .b true), (14, .n (.fptr (aC m))), (17, .n (.bool false)), (11, .w (iN (k + 1)))] =
    some (.normal, (mkT 18 [(0, .list 6 xs), (3, .ptr 0 0), (5, iN (k + 1))]), ⟨1, [⟨0, 0, 77, aC a⟩]⟩, [decide ((k : Int) < (xs.length : Int)) = true, idxOk (k : Int) xs.length = true, nth xs (k : Int).toNat = some (aC m), binD tab .eql 77 (aD m) (aD a) = some (.bool false), DV.int .i64 (IntKind.i64.wrap ((k : Int) + 1)) = iN (k + 1)]) := by
  kernel_rfl
set_option maxRecDepth 1000000 in
theorem inHit (xs : List (List DV)) (a k m : Nat) : zsee Try.prog tab ftab noC (ksF ftab 124) [4] (loopAt (bodyOf ftab 124) 0) (mkT 18 [(0, .list 6 xs), (3, .ptr 0 0), (5, iN k)]) ⟨1, [⟨0, 0, 77, aC a⟩]⟩ [(9, .b true), (14, .n (.fptr (aC m))), (17, .n (.bool true))] =
    some (.ret, (mkT 18 [(4, .bool true)]), ⟨1, [⟨0, 0, 77, aC a⟩]⟩, [decide ((k : Int) < (xs.length : Int)) = true, idxOk (k : Int) xs.length = true, nth xs (k : Int).toNat = some (aC m), binD tab .eql 77 (aD m) (aD a) = some (.bool true)]) := by
  kernel_rfl
set_option maxRecDepth 1000000 in
theorem inOut (xs : List (List DV)) (a k : Nat) : zsee Try.prog tab ftab noC (ksF ftab 124) [] (loopAt (bodyOf ftab 124) 0) (mkT 18 [(0, .list 6 xs), (3, .ptr 0 0), (5, iN k)]) ⟨1, [⟨0, 0, 77, aC a⟩]⟩ [(9, .b false)] =
    some (.exit 0, (mkT 18 []), ⟨1, [⟨0, 0, 77, aC a⟩]⟩, [decide ((k : Int) < (xs.length : Int)) = false]) := by
  kernel_rfl
set_option maxRecDepth 1000000 in
theorem inNo (xs : List (List DV)) (a : Nat) : zflat (zans Try.prog tab ftab noC 124 [.list 6 xs, aD a] [(0, .l [0, 3, 5] (.exit 0) (mkT 18 []) ⟨1, [⟨0, 0, 77, aC a⟩]⟩)]) =
    some (.bool false, [Goes Try.prog tab (ksF ftab 124) (.loop (loopAt (bodyOf ftab 124) 0)) (mkT 18 [(0, .list 6 xs), (3, .ptr 0 0), (5, iN 0)]) ⟨1, [⟨0, 0, 77, aC a⟩]⟩ (.exit 0) (mkT 18 []) ⟨1, [⟨0, 0, 77, aC a⟩]⟩]) := by
  kernel_rfl
set_option maxRecDepth 1000000 in
theorem inYes (xs : List (List DV)) (a : Nat) : zflat (zans Try.prog tab ftab noC 124 [.list 6 xs, aD a] [(0, .l [0, 3, 5] .ret (mkT 18 [(4, .bool true)]) ⟨1, [⟨0, 0, 77, aC a⟩]⟩)]) =
    some (.bool true, [Goes Try.prog tab (ksF ftab 124) (.loop (loopAt (bodyOf ftab 124) 0)) (mkT 18 [(0, .list 6 xs), (3, .ptr 0 0), (5, iN 0)]) ⟨1, [⟨0, 0, 77, aC a⟩]⟩ (.ret) (mkT 18 [(4, .bool true)]) ⟨1, [⟨0, 0, 77, aC a⟩]⟩]) := by
  kernel_rfl
theorem ans_cIn (x : Ads × Adr) : Ans Try.prog 124 [adL x.1.1, aD x.2.1] (.bool (decide (x.2.1 ∈ x.1.1))) ⟨0, []⟩ := by
  obtain ⟨⟨ns, hb, hl⟩, a, ha⟩ := x
  have hr := rows_length ns
  have go : ∀ k, k < ns.length → ns.getD k 0 ≠ a → Goes Try.prog tab (ksF ftab 124) (loopAt (bodyOf ftab 124) 0) ((fun xs => (mkT 18 [(0, .list 6 xs), (3, .ptr 0 0), (5, iN k)])) (rows ns)) ⟨1, [⟨0, 0, 77, aC a⟩]⟩ .normal ((fun xs => (mkT 18 [(0, .list 6 xs), (3, .ptr 0 0), (5, iN (k + 1))])) (rows ns)) ⟨1, [⟨0, 0, 77, aC a⟩]⟩ := fun k hk h => by
    have q := eq_adr (gD_lt hb hk) ha
    rw [decide_eq_false h] at q
    exact zsee_ok tab_ok mixed fun_ok noC_ok (inGo (rows ns) a k _) (.cons (decide_eq_true (by omega)) (.cons (idxOk_lt (by omega)) (.cons (rows_nth (gD hk)) (.cons q (.cons (inc (by omega)) .nil)))))
  have no : ∀ k, k < ns.length → ¬ ns.getD k 0 ≠ a → Goes Try.prog tab (ksF ftab 124) (loopAt (bodyOf ftab 124) 0) ((fun xs => (mkT 18 [(0, .list 6 xs), (3, .ptr 0 0), (5, iN k)])) (rows ns)) ⟨1, [⟨0, 0, 77, aC a⟩]⟩ .ret (mkT 18 [(4, .bool true)]) ⟨1, [⟨0, 0, 77, aC a⟩]⟩ := fun k hk h => by
    have q := eq_adr (gD_lt hb hk) ha
    rw [decide_eq_true (Classical.not_not.1 h)] at q
    exact zsee_ok tab_ok mixed fun_ok noC_ok (inHit (rows ns) a k _) (.cons (decide_eq_true (by omega)) (.cons (idxOk_lt (by omega)) (.cons (rows_nth (gD hk)) (.cons q .nil))))
  by_cases h : ∀ k, k < ns.length → ns.getD k 0 ≠ a
  · have e : decide (a ∈ ns) = false := decide_eq_false fun hm => by
      obtain ⟨k, hk⟩ := List.mem_iff_getElem?.1 hm
      have hlt := (List.getElem?_eq_some_iff.1 hk).1
      refine h k hlt ?_
      rw [gD hlt] at hk
      exact Option.some.inj hk
    simp only [e]
    refine zflat_ok tab_ok mixed fun_ok noC_ok (inNo (rows ns) a) (.cons ?_ .nil)
    exact Goes.allr (n := ns.length) (S := fun k => (fun xs => (mkT 18 [(0, .list 6 xs), (3, .ptr 0 0), (5, iN k)])) (rows ns)) go h (zsee_ok tab_ok mixed fun_ok noC_ok (inOut (rows ns) a ns.length) (.cons (decide_eq_false (by omega)) .nil)) (by intro h; cases h)
  · have e : decide (a ∈ ns) = true := decide_eq_true (Classical.byContradiction fun hm => h fun k hk he => hm (he ▸ List.mem_of_getElem? (gD hk)))
    simp only [e]
    refine zflat_ok tab_ok mixed fun_ok noC_ok (inYes (rows ns) a) (.cons ?_ .nil)
    exact Goes.firstr (n := ns.length) (S := fun k => (fun xs => (mkT 18 [(0, .list 6 xs), (3, .ptr 0 0), (5, iN k)])) (rows ns)) go no h (by intro h; cases h)
def cIn : CallF := conC 124 (fun x : Ads × Adr => [adL x.1.1, aD x.2.1]) fun x => (.bool (decide (x.2.1 ∈ x.1.1)), ⟨0, []⟩)
theorem cIn_ok : CallOk Try.prog cIn := conC_ok ans_cIn fun _ => fine0 rfl
theorem cIn_at (hp : Hp) (x : Ads × Adr) : cIn 124 [adL x.1.1, aD x.2.1] hp = some (.bool (decide (x.2.1 ∈ x.1.1)), hp, none) :=
  conC0_at (f0 := 124) (A := fun x : Ads × Adr => [adL x.1.1, aD x.2.1]) (D := fun x => .bool (decide (x.2.1 ∈ x.1.1))) (fun x y hxy => by
    obtain ⟨x1, x2⟩ := x
    obtain ⟨y1, y2⟩ := y
    simp only [List.cons.injEq, and_true] at hxy
    rw [adL_inj hxy.1, aD_inj hxy.2]) hp x ⟨⟨rfl, rfl⟩, frz_aD _ _, trivial⟩ rfl
/-! ### With -/
/-- what is to be appended yet -/
def wth (a : Nat) : Bool → List Nat → List Nat
  | p, [] => if p = true then [] else [a]
  | false, x :: xs => if x < a then x :: wth a false xs else if x = a then a :: wth a true xs else a :: x :: wth a true xs
  | true, x :: xs => if x = a then wth a true xs else x :: wth a true xs
set_option maxRecDepth 1000000 in
theorem wA1 (xs : List (List DV)) (a k m : Nat) (v : Int) (d d1 d2 : DV) (h h1 h2 : Hp) (m1 m2 : Mut) : zsee Try.prog tab ftab cRc (ksF ftab 123) [0, 3, 5, 6, 7] (loopAt (bodyOf ftab 123) 0) (mkT 49 [(0, .list 6 xs), (3, .fptr (aC a)), (5, d), (6, .bool false), (7, iN k)]) h [(11, .b true), (20, .n (.fptr (aC m))), (22, .q (.int .i64 v)), (23, .b true), (28, .h d1 h1 m1), (31, .n (.fptr (aC m))), (34, .n (.bool true)), (38, .n (.fptr (aC m))), (41, .h d2 h2 m2), (13, .w (iN (k + 1)))] =
    some (.normal, (mkT 49 [(0, .list 6 xs), (3, .fptr (aC a)), (5, d2), (6, .bool true), (7, iN (k + 1))]), h2, [decide ((k : Int) < (xs.length : Int)) = true, idxOk (k : Int) xs.length = true, nth xs (k : Int).toNat = some (aC m), cRc 61 [aD a, aD m] h = some (.int .i64 v, h, none), decide (v ≤ 0) = true, builtinD tab (pushH h 0 77 (aC a)) .append [d, .sl h.n 0 6 1 1] [82, 82] = some (d1, h1, m1), idxOk (k : Int) xs.length = true, nth xs (k : Int).toNat = some (aC m), binD tab .neq 77 (aD m) (aD a) = some (.bool true), idxOk (k : Int) xs.length = true, nth xs (k : Int).toNat = some (aC m), builtinD tab (pushH h1 0 77 (aC m)) .append [d1, .sl h1.n 0 6 1 1] [82, 82] = some (d2, h2, m2), DV.int .i64 (IntKind.i64.wrap ((k : Int) + 1)) = iN (k + 1)]) := by
  kernel_rfl
set_option maxRecDepth 1000000 in
theorem wA0 (xs : List (List DV)) (a k m : Nat) (v : Int) (d d1 : DV) (h h1 : Hp) (m1  : Mut) : zsee Try.prog tab ftab cRc (ksF ftab 123) [0, 3, 5, 6, 7] (loopAt (bodyOf ftab 123) 0) (mkT 49 [(0, .list 6 xs), (3, .fptr (aC a)), (5, d), (6, .bool false), (7, iN k)]) h [(11, .b true), (20, .n (.fptr (aC m))), (22, .q (.int .i64 v)), (23, .b true), (28, .h d1 h1 m1), (31, .n (.fptr (aC m))), (34, .n (.bool false)), (13, .w (iN (k + 1)))] =
    some (.normal, (mkT 49 [(0, .list 6 xs), (3, .fptr (aC a)), (5, d1), (6, .bool true), (7, iN (k + 1))]), h1, [decide ((k : Int) < (xs.length : Int)) = true, idxOk (k : Int) xs.length = true, nth xs (k : Int).toNat = some (aC m), cRc 61 [aD a, aD m] h = some (.int .i64 v, h, none), decide (v ≤ 0) = true, builtinD tab (pushH h 0 77 (aC a)) .append [d, .sl h.n 0 6 1 1] [82, 82] = some (d1, h1, m1), idxOk (k : Int) xs.length = true, nth xs (k : Int).toNat = some (aC m), binD tab .neq 77 (aD m) (aD a) = some (.bool false), DV.int .i64 (IntKind.i64.wrap ((k : Int) + 1)) = iN (k + 1)]) := by
  kernel_rfl
set_option maxRecDepth 1000000 in
theorem wB (xs : List (List DV)) (a k m : Nat) (v : Int) (d d2 : DV) (h h2 : Hp) (m2 : Mut) : zsee Try.prog tab ftab cRc (ksF ftab 123) [0, 3, 5, 6, 7] (loopAt (bodyOf ftab 123) 0) (mkT 49 [(0, .list 6 xs), (3, .fptr (aC a)), (5, d), (6, .bool false), (7, iN k)]) h [(11, .b true), (20, .n (.fptr (aC m))), (22, .q (.int .i64 v)), (23, .b false), (31, .n (.fptr (aC m))), (34, .n (.bool true)), (38, .n (.fptr (aC m))), (41, .h d2 h2 m2), (13, .w (iN (k + 1)))] =
    some (.normal, (mkT 49 [(0, .list 6 xs), (3, .fptr (aC a)), (5, d2), (6, .bool false), (7, iN (k + 1))]), h2, [decide ((k : Int) < (xs.length : Int)) = true, idxOk (k : Int) xs.length = true, nth xs (k : Int).toNat = some (aC m), cRc 61 [aD a, aD m] h = some (.int .i64 v, h, none), decide (v ≤ 0) = false, idxOk (k : Int) xs.length = true, nth xs (k : Int).toNat = some (aC m), binD tab .neq 77 (aD m) (aD a) = some (.bool true), idxOk (k : Int) xs.length = true, nth xs (k : Int).toNat = some (aC m), builtinD tab (pushH h 0 77 (aC m)) .append [d, .sl h.n 0 6 1 1] [82, 82] = some (d2, h2, m2), DV.int .i64 (IntKind.i64.wrap ((k : Int) + 1)) = iN (k + 1)]) := by
  kernel_rfl
set_option maxRecDepth 1000000 in
theorem wC1 (xs : List (List DV)) (a k m : Nat) (d d2 : DV) (h h2 : Hp) (m2 : Mut) : zsee Try.prog tab ftab cRc (ksF ftab 123) [0, 3, 5, 6, 7] (loopAt (bodyOf ftab 123) 0) (mkT 49 [(0, .list 6 xs), (3, .fptr (aC a)), (5, d), (6, .bool true), (7, iN k)]) h [(11, .b true), (31, .n (.fptr (aC m))), (34, .n (.bool true)), (38, .n (.fptr (aC m))), (41, .h d2 h2 m2), (13, .w (iN (k + 1)))] =
    some (.normal, (mkT 49 [(0, .list 6 xs), (3, .fptr (aC a)), (5, d2), (6, .bool true), (7, iN (k + 1))]), h2, [decide ((k : Int) < (xs.length : Int)) = true, idxOk (k : Int) xs.length = true, nth xs (k : Int).toNat = some (aC m), binD tab .neq 77 (aD m) (aD a) = some (.bool true), idxOk (k : Int) xs.length = true, nth xs (k : Int).toNat = some (aC m), builtinD tab (pushH h 0 77 (aC m)) .append [d, .sl h.n 0 6 1 1] [82, 82] = some (d2, h2, m2), DV.int .i64 (IntKind.i64.wrap ((k : Int) + 1)) = iN (k + 1)]) := by
  kernel_rfl
set_option maxRecDepth 1000000 in
theorem wC0 (xs : List (List DV)) (a k m : Nat) (d : DV) (h : Hp) : zsee Try.prog tab ftab cRc (ksF ftab 123) [0, 3, 5, 6, 7] (loopAt (bodyOf ftab 123) 0) (mkT 49 [(0, .list 6 xs), (3, .fptr (aC a)), (5, d), (6, .bool true), (7, iN k)]) h [(11, .b true), (31, .n (.fptr (aC m))), (34, .n (.bool false)), (13, .w (iN (k + 1)))] =
    some (.normal, (mkT 49 [(0, .list 6 xs), (3, .fptr (aC a)), (5, d), (6, .bool true), (7, iN (k + 1))]), h, [decide ((k : Int) < (xs.length : Int)) = true, idxOk (k : Int) xs.length = true, nth xs (k : Int).toNat = some (aC m), binD tab .neq 77 (aD m) (aD a) = some (.bool false), DV.int .i64 (IntKind.i64.wrap ((k : Int) + 1)) = iN (k + 1)]) := by
  kernel_rfl
set_option maxRecDepth 1000000 in
theorem wOut (xs : List (List DV)) (a k : Nat) (p : Bool) (d : DV) (h : Hp) : zsee Try.prog tab ftab cRc (ksF ftab 123) [3, 5, 6] (loopAt (bodyOf ftab 123) 0) (mkT 49 [(0, .list 6 xs), (3, .fptr (aC a)), (5, d), (6, .bool p), (7, iN k)]) h [(11, .b false)] =
    some (.exit 0, (mkT 49 [(3, .fptr (aC a)), (5, d), (6, .bool p)]), h, [decide ((k : Int) < (xs.length : Int)) = false]) := by
  kernel_rfl
set_option maxRecDepth 1000000 in
theorem wYes (xs ys : List (List DV)) (a : Nat) (d : DV) (h : Hp) : zflat (zans Try.prog tab ftab cRc 123 [.list 6 xs, aD a] [(1, .s [0, 3] (mkT 49 [(0, .list 6 xs), (3, .fptr (aC a))]) ⟨0, []⟩), (0, .l [0, 3, 5, 6, 7] (.exit 0) (mkT 49 [(3, .fptr (aC a)), (5, d), (6, .bool true)]) h), (13, .s [5] (mkT 49 [(5, .list 6 ys)]) ⟨0, []⟩)]) =
    some (.list 6 ys, [Seen (mkT 49 [(0, .list 6 xs), (3, .ptr 0 0)]) ⟨1, [⟨0, 0, 77, aC a⟩]⟩ (mkT 49 [(0, .list 6 xs), (3, .fptr (aC a))]) ⟨0, []⟩, Goes Try.prog tab (ksF ftab 123) (.loop (loopAt (bodyOf ftab 123) 0)) (mkT 49 [(0, .list 6 xs), (3, .fptr (aC a)), (5, .nil), (6, .bool false), (7, iN 0)]) ⟨0, []⟩ (.exit 0) (mkT 49 [(3, .fptr (aC a)), (5, d), (6, .bool true)]) h, Seen (mkT 49 [(5, d)]) h (mkT 49 [(5, .list 6 ys)]) ⟨0, []⟩]) := by
  kernel_rfl
set_option maxRecDepth 1000000 in
theorem wNo (xs ys : List (List DV)) (a : Nat) (d d2 : DV) (h h2 : Hp) (m2 : Mut) : zflat (zans Try.prog tab ftab cRc 123 [.list 6 xs, aD a] [(1, .s [0, 3] (mkT 49 [(0, .list 6 xs), (3, .fptr (aC a))]) ⟨0, []⟩), (0, .l [0, 3, 5, 6, 7] (.exit 0) (mkT 49 [(3, .fptr (aC a)), (5, d), (6, .bool false)]) h), (47, .h d2 h2 m2), (13, .s [5] (mkT 49 [(5, .list 6 ys)]) ⟨0, []⟩)]) =
    some (.list 6 ys, [Seen (mkT 49 [(0, .list 6 xs), (3, .ptr 0 0)]) ⟨1, [⟨0, 0, 77, aC a⟩]⟩ (mkT 49 [(0, .list 6 xs), (3, .fptr (aC a))]) ⟨0, []⟩, Goes Try.prog tab (ksF ftab 123) (.loop (loopAt (bodyOf ftab 123) 0)) (mkT 49 [(0, .list 6 xs), (3, .fptr (aC a)), (5, .nil), (6, .bool false), (7, iN 0)]) ⟨0, []⟩ (.exit 0) (mkT 49 [(3, .fptr (aC a)), (5, d), (6, .bool false)]) h, builtinD tab (pushH h 0 77 (aC a)) .append [d, .sl h.n 0 6 1 1] [82, 82] = some (d2, h2, m2), Seen (mkT 49 [(5, d2)]) h2 (mkT 49 [(5, .list 6 ys)]) ⟨0, []⟩]) := by
  kernel_rfl
abbrev InW : Type := {x : Ads × Adr // x.1.1.length < 2 ^ 29}
theorem wth_len (a : Nat) : ∀ (xs : List Nat) (p : Bool), (wth a p xs).length ≤ xs.length + 1
  | [], p => by cases p <;> simp [wth]
  | x :: xs, false => by
    rw [wth]
    have h1 := wth_len a xs false
    have h2 := wth_len2 a xs
    split
    · simp only [List.length_cons]; omega
    · split
      · simp only [List.length_cons]; omega
      · simp only [List.length_cons]; omega
  | x :: xs, true => by
    have := wth_len2 a (x :: xs)
    omega
where
  wth_len2 (a : Nat) : ∀ (xs : List Nat), (wth a true xs).length ≤ xs.length
    | [] => by simp [wth]
    | x :: xs => by
      rw [wth]
      have := wth_len2 a xs
      split
      · simp only [List.length_cons]; omega
      · simp only [List.length_cons]; omega
theorem w_loop {ns : List Nat} (hb : ∀ n ∈ ns, n < 2 ^ 48) (hl : ns.length < 2 ^ 29) {a : Nat} (ha : a < 2 ^ 48) : ∃ (p : Bool) (d : DV) (h : Hp) (acc : List Nat), ShZ h d acc ∧ acc.length ≤ 2 * ns.length ∧ acc ++ wth a p [] = wth a false ns ∧ (fun xs => Goes Try.prog tab (ksF ftab 123) (.loop (loopAt (bodyOf ftab 123) 0)) (mkT 49 [(0, .list 6 xs), (3, .fptr (aC a)), (5, .nil), (6, .bool false), (7, iN 0)]) ⟨0, []⟩ (.exit 0) (mkT 49 [(3, .fptr (aC a)), (5, d), (6, .bool p)]) h) (rows ns) := by
  have hr := rows_length ns
  have loop := Goes.loopI (P := Try.prog) (T := tab) (ks := (ksF ftab 123)) (x := (loopAt (bodyOf ftab 123) 0)) (e := .exit 0) ns.length
    (fun k sl h => ∃ (p : Bool) (d : DV) (acc : List Nat), sl = (fun xs => (mkT 49 [(0, .list 6 xs), (3, .fptr (aC a)), (5, d), (6, .bool p), (7, iN k)])) (rows ns) ∧ ShZ h d acc ∧ acc.length ≤ 2 * k ∧ acc ++ wth a p (ns.drop k) = wth a false ns)
    (fun sl h => ∃ (p : Bool) (d : DV) (acc : List Nat), sl = (mkT 49 [(3, .fptr (aC a)), (5, d), (6, .bool p)]) ∧ ShZ h d acc ∧ acc.length ≤ 2 * ns.length ∧ acc ++ wth a p [] = wth a false ns) (by intro h; cases h) ?_ ?_ (sl := (fun xs => (mkT 49 [(0, .list 6 xs), (3, .fptr (aC a)), (5, .nil), (6, .bool false), (7, iN 0)])) (rows ns)) (hp := ⟨0, []⟩) ⟨false, .nil, [], rfl, .inl ⟨rfl, rfl⟩, Nat.zero_le _, rfl⟩
  · obtain ⟨s1, h1, g, p, d, acc, rfl, h2, h3, h4⟩ := loop
    exact ⟨p, d, h1, acc, h2, h3, h4, g⟩
  · rintro k sl h hk ⟨p, d, acc, rfl, sh, hlen, hw⟩
    have hm := gD_lt hb hk
    have hd : ns.drop k = ns.getD k 0 :: ns.drop (k + 1) := by
      rw [List.drop_eq_getElem_cons hk]
      congr 1
      rw [List.getD_eq_getElem?_getD, List.getElem?_eq_getElem hk]
      rfl
    rw [hd] at hw
    have i0 : decide ((k : Int) < ((rows ns).length : Int)) = true := decide_eq_true (by omega)
    have i1 := idxOk_lt (k := k) (n := (rows ns).length) (by omega)
    have i2 := rows_nth (gD hk)
    have i3 := inc (k := k) (by omega)
    have ne := ne_adr hm ha
    have cm := fun hp => cRc_at hp (⟨a, ha⟩, ⟨_, hm⟩)
    simp only [cmpN] at cm
    generalize ns.getD k 0 = m at *
    cases p with
    | false =>
      rw [wth] at hw
      by_cases h1 : m < a
      · rw [if_pos h1] at hw
        rw [decide_eq_true (by omega)] at ne
        rw [if_neg (by omega), if_pos h1] at cm
        obtain ⟨d2, h2, m2, e2, sh2⟩ := app6 sh (by omega) m
        exact ⟨_, _, zsee_ok tab_ok mixed fun_ok cRc_ok (wB (rows ns) a k m 1 d d2 h h2 m2) (.cons i0 (.cons i1 (.cons i2 (.cons (cm h) (.cons rfl (.cons i1 (.cons i2 (.cons ne (.cons i1 (.cons i2 (.cons e2 (.cons i3 .nil)))))))))))), false, d2, acc ++ [m], rfl, sh2, by rw [List.length_append, List.length_singleton]; omega, by rw [List.append_assoc]; exact hw⟩
      · rw [if_neg h1] at hw
        obtain ⟨d1, h1', m1, e1, sh1⟩ := app6 sh (by omega) a
        by_cases h2 : m = a
        · rw [if_pos h2] at hw
          rw [decide_eq_false (by omega)] at ne
          rw [if_neg (by omega), if_neg (by omega)] at cm
          exact ⟨_, _, zsee_ok tab_ok mixed fun_ok cRc_ok (wA0 (rows ns) a k m 0 d d1 h h1' m1) (.cons i0 (.cons i1 (.cons i2 (.cons (cm h) (.cons rfl (.cons e1 (.cons i1 (.cons i2 (.cons ne (.cons i3 .nil)))))))))), true, d1, acc ++ [a], rfl, sh1, by rw [List.length_append, List.length_singleton]; omega, by rw [List.append_assoc]; exact hw⟩
        · rw [if_neg h2] at hw
          rw [decide_eq_true (by omega)] at ne
          rw [if_pos (by omega)] at cm
          obtain ⟨d2, h2', m2, e2, sh2⟩ := app6 sh1 (by rw [List.length_append, List.length_singleton]; omega) m
          exact ⟨_, _, zsee_ok tab_ok mixed fun_ok cRc_ok (wA1 (rows ns) a k m (-1) d d1 d2 h h1' h2' m1 m2) (.cons i0 (.cons i1 (.cons i2 (.cons (cm h) (.cons rfl (.cons e1 (.cons i1 (.cons i2 (.cons ne (.cons i1 (.cons i2 (.cons e2 (.cons i3 .nil))))))))))))), true, d2, acc ++ [a] ++ [m], rfl, sh2, by simp only [List.length_append, List.length_singleton]; omega, by rw [List.append_assoc, List.append_assoc]; exact hw⟩
    | true =>
      rw [wth] at hw
      by_cases h2 : m = a
      · rw [if_pos h2] at hw
        rw [decide_eq_false (by omega)] at ne
        exact ⟨_, _, zsee_ok tab_ok mixed fun_ok cRc_ok (wC0 (rows ns) a k m d h) (.cons i0 (.cons i1 (.cons i2 (.cons ne (.cons i3 .nil))))), true, d, acc, rfl, sh, by omega, hw⟩
      · rw [if_neg h2] at hw
        rw [decide_eq_true (by omega)] at ne
        obtain ⟨d2, h2', m2, e2, sh2⟩ := app6 sh (by omega) m
        exact ⟨_, _, zsee_ok tab_ok mixed fun_ok cRc_ok (wC1 (rows ns) a k m d d2 h h2' m2) (.cons i0 (.cons i1 (.cons i2 (.cons ne (.cons i1 (.cons i2 (.cons e2 (.cons i3 .nil)))))))), true, d2, acc ++ [m], rfl, sh2, by rw [List.length_append, List.length_singleton]; omega, by rw [List.append_assoc]; exact hw⟩
  · rintro sl h ⟨p, d, acc, rfl, sh, hlen, hw⟩
    rw [List.drop_length] at hw
    exact ⟨_, _, zsee_ok tab_ok mixed fun_ok cRc_ok (wOut (rows ns) a ns.length p d h) (.cons (decide_eq_false (by omega)) .nil), p, d, acc, rfl, sh, hlen, hw⟩
theorem ans_cWi (x : InW) : Ans Try.prog 123 [adL x.1.1.1, aD x.1.2.1] (adL (wth x.1.2.1 false x.1.1.1)) ⟨0, []⟩ := by
  obtain ⟨⟨⟨ns, hb, hl'⟩, a, ha⟩, hl⟩ := x
  have hl : ns.length < 2 ^ 29 := hl
  obtain ⟨p, d, h, acc, sh, hlen, hw, g⟩ := w_loop hb hl ha
  simp only [← hw]
  cases p with
  | true =>
    exact zflat_ok tab_ok mixed fun_ok cRc_ok (wYes (rows ns) (rows (acc ++ wth a true [])) a d h) (.cons (seen_box rfl rfl) (.cons g (.cons (seen_sh (by kernel_rfl) (by rw [wth, if_pos rfl, List.append_nil]; exact sh)) .nil)))
  | false =>
    obtain ⟨d2, h2, m2, e2, sh2⟩ := app6 sh (by omega) a
    exact zflat_ok tab_ok mixed fun_ok cRc_ok (wNo (rows ns) (rows (acc ++ wth a false [])) a d d2 h h2 m2) (.cons (seen_box rfl rfl) (.cons g (.cons e2 (.cons (seen_sh (by kernel_rfl) (by rw [wth, if_neg (by decide)]; exact sh2)) .nil))))
def cWi : CallF := liftC (eqC 123 (fun x : InW => [adL x.1.1.1, aD x.1.2.1]) fun x => (adL (wth x.1.2.1 false x.1.1.1), ⟨0, []⟩))
theorem cWi_ok : CallOk Try.prog cWi := liftC_ok (eqC_ok ans_cWi)
theorem flat_adL (ns : List Nat) : flat2 (adL ns) = true := rfl
theorem cWi_at (hp : Hp) (x : InW) : cWi 123 [adL x.1.1.1, aD x.1.2.1] hp = some (adL (wth x.1.2.1 false x.1.1.1), hp, none) :=
  lift_at (A := fun x : InW => [adL x.1.1.1, aD x.1.2.1]) (D := fun x => adL (wth x.1.2.1 false x.1.1.1)) (fun x y hxy => by
    obtain ⟨⟨x1, x2⟩, _⟩ := x
    obtain ⟨⟨y1, y2⟩, _⟩ := y
    simp only [List.cons.injEq, and_true] at hxy
    simp only [adL_inj hxy.1, aD_inj hxy.2]) hp x rfl rfl
end
end Go.Proofs.Ytnhbhdfeenpedaa
