/- The reference's strings with checks, as contracts. -/
import Derived.Test.YtmdomipnjlhmeabRs
import Derived.Test.YtmdomipnjlhmeabFl
namespace Go.Proofs.Ytmdomipnjlhmeab
open Go.RowKit

noncomputable section
/-! ### One object kept, its capacity forgotten -/
theorem seenV_forget {hp : Hp} {id : Nat} {o : Ob} {d d' : DV} (hg : hp.get id = some o) (hpl : ∀ x ∈ o.cs, plain x = true) (hd : ren3 [id] d = some d') : SeenV d hp d' (ownH o.t 1 o.cs) := by
  intro W0 S0 E w v hs hv
  refine ⟨E.ren [id] fun _ => False, rfl, ?_, ren3_ok (fun _ _ _ _ h => h.elim) hv hd⟩
  have h0 : ∀ (i j : Nat), ([id] : List Nat)[i]? = some j → i = 0 ∧ j = id := fun i j h => by
    cases i with
    | zero => simp at h; exact ⟨rfl, h.symm⟩
    | succ i => simp at h
  refine ⟨hs.bel, ?_, ?_, fun i _ h => absurd h (by omega), ?_, hs.ro, hs.olds, Nat.zero_le _⟩
  · rintro i ⟨j, hi, hD⟩
    obtain ⟨rfl, rfl⟩ := h0 i j hi
    obtain ⟨o', h1, k0, k1, vs, k2, k3, k4, k5⟩ := hs.ob j hD
    rw [hg] at h1
    cases h1
    exact ⟨⟨1, 0, o.t, o.cs⟩, rfl, ⟨fun h => (by cases h), fun h => h.elim⟩, k1, vs, k2, k3, k4, k5.1, fun q u v hq hv => plain_ok (k5.2 q u v hq hv) (hpl u (List.mem_of_getElem? hq))⟩
  · rintro i ⟨j, hi, hD⟩ _
    obtain ⟨rfl, rfl⟩ := h0 i j hi
    exact hs.own j hD (Nat.zero_le _)
  · rintro i j oi oj ⟨x, hi, _⟩ ⟨y, hj, _⟩ hne
    exact absurd ((h0 i x hi).1.trans (h0 j y hj).1.symm) hne
/-- a slice of one's own that begins its object -/
def SbO (e : TypeId) (hp : Hp) (d : DV) (cl : List DV) : Prop := ∃ id o, d = .sl id 0 1 cl.length cl.length ∧ hp.get id = some o ∧ (o.k = 0 ∨ o.k = 1 ∨ o.k = 3) ∧ o.t = e ∧ o.cs = cl
theorem SbO.push {e : TypeId} {hp : Hp} {d : DV} {cl : List DV} (h : SbO e hp d cl) (o : Ob) : SbO e (hp.push o) d cl := by
  obtain ⟨id, o', h0, h1, h2⟩ := h
  refine ⟨id, o', h0, ?_, h2⟩
  rw [Hp.get_push, if_neg (Nat.ne_of_lt (Hp.get_lt h1))]
  exact h1
theorem appO {e : TypeId} {j : TI} {z : DV} {zs : List DV} (hz : j.zero = z :: zs) (hs : j.size = 1) (hby : j.bytes ≤ 64) {hp : Hp} {d : DV} {cl news : List DV} (hd : SbO e hp d cl) {m : Nat} (hm : news.length = m) (hl : cl.length + m ≤ 2 ^ 40) :
    ∃ d' hp' mm, appH hp e j d m news = some (d', hp', mm) ∧ SbO e hp' d' (cl ++ news) := by
  cases m with
  | zero =>
    obtain rfl : news = [] := List.eq_nil_of_length_eq_zero hm
    rw [List.append_nil]
    refine ⟨d, hp, none, ?_, hd⟩
    obtain ⟨id, o, rfl, _⟩ := hd
    simp only [appH, hz, hs]
  | succ m =>
    obtain ⟨d', hp', mm, h1, h2⟩ := appZ hz hs hby (.inr hd) hm hl
    refine ⟨d', hp', mm, h1, ?_⟩
    rcases h2 with ⟨_, h⟩ | h
    · have := congrArg List.length h
      simp [hm] at this
    · exact h
theorem SbO.seenV {hp : Hp} {d : DV} {bs : List UInt8} (h : SbO 5 hp d (celB bs)) : SeenV d hp (flB bs).1 (flB bs).2 := by
  obtain ⟨id, o, rfl, h1, h2, h3, h4⟩ := h
  have := seenV_forget (d := .sl id 0 1 bs.length bs.length) (d' := .sl 0 0 1 bs.length bs.length) h1 (fun x hx => by
    rw [h4] at hx
    simp only [celB, List.mem_map] at hx
    obtain ⟨c, _, rfl⟩ := hx
    rfl) (by simp only [ren3, ren2, ren1, posN, beqT])
  rw [h3, h4] at this
  rw [celB_length]
  exact this
theorem SbO.sh {hp : Hp} {d : DV} {bs : List UInt8} (h : SbO 5 hp d (celB bs)) : Sh hp d bs := by
  obtain ⟨id, o, rfl, h1, h2, h3, h4⟩ := h
  refine .inr ⟨id, 0, o, _, by rw [celB_length], h1, fun i b hb => ?_⟩
  rw [h4]
  exact celB_get hb
theorem sbO_new : SbO 5 (oneH []) (.sl 0 0 1 0 0) (celB []) := ⟨0, _, rfl, rfl, .inl rfl, rfl, rfl⟩
theorem app_own {hp : Hp} {d x : DV} {bs cs : List UInt8} (h : SbO 5 hp d (celB bs)) (hx : contD hp 1 x = some (cs.length, celB cs)) (hl : bs.length + cs.length ≤ 2 ^ 40) : ∃ d' h' m, builtinD tab hp .append [d, x] tyB = some (d', h', m) ∧ SbO 5 h' d' (celB (bs ++ cs)) := by
  rw [app_tab, hx, celB_append]
  exact appO (j := u8TI) (z := .int .u8 0) (zs := []) rfl rfl (by decide) h (celB_length cs) (by rw [celB_length]; exact hl)
/-! ### Append, Append8 -/
def cX0 : CallF := orK cRC cR8
theorem cX0_ok : CallOk Try.prog cX0 := orK_ok cRC_ok cR8_ok
set_option maxRecDepth 1000000 in
theorem refApp (xs : List (List DV)) (cr : BitVec 32) (b0 b1 b2 b3 : UInt8) (d1 d2 : DV) (h1 h2 : Hp) (m1 m2 : Mut) : zans Try.prog tab ftab cX0 43 [.list 1 xs] [(5, .q (w32 cr)), (8, .h d1 h1 m1), (11, .w (i8 b0)), (15, .w (i8 b1)), (19, .w (i8 b2)), (22, .w (i8 b3)), (24, .h d2 h2 m2)] =
    some (d2, h2, [cX0 35 [.list 1 xs] ⟨0, []⟩ = some (w32 cr, ⟨0, []⟩, none), builtinD tab (oneH []) .append [.sl 0 0 1 0 0, .list 1 xs] tyB = some (d1, h1, m1),
      DV.int .u8 (IntKind.u8.wrap (quoD .u32 (cr.toNat : Int) 16777216)) = i8 b0, DV.int .u8 (IntKind.u8.wrap (Int.tmod (quoD .u32 (cr.toNat : Int) 65536) 256)) = i8 b1, DV.int .u8 (IntKind.u8.wrap (Int.tmod (quoD .u32 (cr.toNat : Int) 256) 256)) = i8 b2, DV.int .u8 (IntKind.u8.wrap (Int.tmod (cr.toNat : Int) 256)) = i8 b3,
      builtinD tab (pushH h1 0 5 [i8 b0, i8 b1, i8 b2, i8 b3]) .append [d1, .sl h1.n 0 1 4 4] tyB = some (d2, h2, m2)]) := by
  kernel_rfl
theorem quo8 (r : BitVec 32) (n : Nat) : quoD .u32 (r.toNat : Int) (n : Int) = ((r.toNat / n : Nat) : Int) := by
  have h := r.isLt
  have hle : r.toNat / n ≤ r.toNat := Nat.div_le_self _ _
  unfold quoD
  rw [Int.tdiv_eq_ediv_of_nonneg (by omega), show ((r.toNat : Int) / (n : Int)) = ((r.toNat / n : Nat) : Int) from rfl, wrapU rfl, Nat.mod_eq_of_lt (by show _ < 2 ^ 32; omega)]
theorem byte_of (r : BitVec 32) {n k : Nat} (hk : n = 2 ^ k) : DV.int .u8 (IntKind.u8.wrap (Int.tmod (quoD .u32 (r.toNat : Int) (n : Int)) 256)) = i8 ⟨(r >>> k).setWidth 8⟩ := by
  rw [quo8, show Int.tmod ((r.toNat / n : Nat) : Int) 256 = ((r.toNat / n % 256 : Nat) : Int) from rfl, wrapU rfl]
  show DV.int .u8 ((r.toNat / n % 256 % 2 ^ 8 : Nat) : Int) = DV.int .u8 ((((r >>> k).setWidth 8).toNat : Nat) : Int)
  rw [BitVec.toNat_setWidth, BitVec.toNat_ushiftRight, Nat.shiftRight_eq_div_pow, hk, show (256 : Nat) = 2 ^ 8 from rfl, Nat.mod_mod]
theorem byte_hi (r : BitVec 32) : DV.int .u8 (IntKind.u8.wrap (quoD .u32 (r.toNat : Int) 16777216)) = i8 ⟨(r >>> 24).setWidth 8⟩ := by
  rw [show (16777216 : Int) = ((16777216 : Nat) : Int) from rfl, quo8, wrapU rfl]
  show DV.int .u8 ((r.toNat / 16777216 % 2 ^ 8 : Nat) : Int) = DV.int .u8 ((((r >>> 24).setWidth 8).toNat : Nat) : Int)
  rw [BitVec.toNat_setWidth, BitVec.toNat_ushiftRight, Nat.shiftRight_eq_div_pow]
theorem byte_lo (r : BitVec 32) : DV.int .u8 (IntKind.u8.wrap (Int.tmod (r.toNat : Int) 256)) = i8 ⟨r.setWidth 8⟩ := by
  rw [show Int.tmod (r.toNat : Int) 256 = ((r.toNat % 256 : Nat) : Int) from rfl, wrapU rfl]
  show DV.int .u8 ((r.toNat % 256 % 2 ^ 8 : Nat) : Int) = DV.int .u8 (((r.setWidth 8).toNat : Nat) : Int)
  rw [BitVec.toNat_setWidth, show (256 : Nat) = 2 ^ 8 from rfl, Nat.mod_mod]
theorem ansRApp (b : Bs) : Ans Try.prog 43 (AB b) (flB (withL b.1)).1 (flB (withL b.1)).2 := by
  obtain ⟨bs, hb⟩ := b
  obtain ⟨d1, h1, m1, e1, s1⟩ := app_own (cs := bs) sbO_new (contD_list _ bs) (by simp only [List.length_nil]; omega)
  rw [List.nil_append] at s1
  obtain ⟨d2, h2, m2, e2, s2⟩ := app_own (hp := pushH h1 0 5 (celB (be4 (crc32 bs)))) (x := .sl h1.n 0 1 4 4) (cs := be4 (crc32 bs)) (s1.push ⟨0, 0, 5, celB (be4 (crc32 bs))⟩) (cont_new (n := 3) rfl) (by show _ + 4 ≤ _; omega)
  refine Ans.see (zans_ok tab_ok mixed fun_ok cX0_ok (refApp (by1 bs) (crc32 bs) _ _ _ _ d1 d2 h1 h2 m1 m2) (.cons ?_ (.cons e1 (.cons (byte_hi _) (.cons (byte_of _ (n := 65536) (k := 16) rfl) (.cons (byte_of _ (n := 256) (k := 8) rfl) (.cons (byte_lo _) (.cons e2 .nil)))))))) s2.seenV
  exact orK_left (cRC_at (d := byL bs) ⟨bs, hb⟩ ⟨rfl, rfl⟩)
set_option maxRecDepth 1000000 in
theorem refApp8 (xs : List (List DV)) (cr : UInt8) (d1 d2 : DV) (h1 h2 : Hp) (m1 m2 : Mut) : zans Try.prog tab ftab cX0 44 [.list 1 xs] [(5, .h d1 h1 m1), (7, .q (i8 cr)), (9, .h d2 h2 m2)] =
    some (d2, h2, [builtinD tab (oneH []) .append [.sl 0 0 1 0 0, .list 1 xs] tyB = some (d1, h1, m1), cX0 34 [.list 1 xs] h1 = some (i8 cr, h1, none), builtinD tab (pushH h1 0 5 [i8 cr]) .append [d1, .sl h1.n 0 1 1 1] tyB = some (d2, h2, m2)]) := by
  kernel_rfl
theorem ansRApp8 (b : Bs) : Ans Try.prog 44 (AB b) (flB (withS b.1)).1 (flB (withS b.1)).2 := by
  obtain ⟨bs, hb⟩ := b
  obtain ⟨d1, h1, m1, e1, s1⟩ := app_own (cs := bs) sbO_new (contD_list _ bs) (by simp only [List.length_nil]; omega)
  rw [List.nil_append] at s1
  obtain ⟨d2, h2, m2, e2, s2⟩ := app_own (hp := pushH h1 0 5 (celB [⟨crc8 bs⟩])) (x := .sl h1.n 0 1 1 1) (cs := [⟨crc8 bs⟩]) (s1.push ⟨0, 0, 5, celB [⟨crc8 bs⟩]⟩) (cont_new (n := 0) rfl) (by show _ + 1 ≤ _; omega)
  refine Ans.see (zans_ok tab_ok mixed fun_ok cX0_ok (refApp8 (by1 bs) ⟨crc8 bs⟩ d1 d2 h1 h2 m1 m2) (.cons e1 (.cons ?_ (.cons e2 .nil)))) s2.seenV
  exact orK_right (conC_other (by kernel_rfl)) (cR8_at (d := byL bs) ⟨bs, hb⟩ ⟨rfl, rfl⟩)
def cRA : CallF := conC 43 AB fun b => flB (withL b.1)
theorem cRA_ok : CallOk Try.prog cRA := conC_ok ansRApp fun _ => fine_flB _
def cRA8 : CallF := conC 44 AB fun b => flB (withS b.1)
theorem cRA8_ok : CallOk Try.prog cRA8 := conC_ok ansRApp8 fun _ => fine_flB _
theorem cRA_at {hp : Hp} {d : DV} (b : Bs) (h : frz1 hp d (byL b.1)) : cRA 43 [d] hp = some (.sl (hp.n + 0) 0 1 (withL b.1).length (withL b.1).length, layH hp (ownH 5 1 (celB (withL b.1))), none) :=
  conC_at (f0 := 43) (A := AB) (B := fun b => flB (withL b.1)) (fun x y hxy => by
    simp only [AB, List.cons.injEq, and_true] at hxy
    rw [byL_inj hxy]) b ⟨h, trivial⟩
theorem cRA8_at {hp : Hp} {d : DV} (b : Bs) (h : frz1 hp d (byL b.1)) : cRA8 44 [d] hp = some (.sl (hp.n + 0) 0 1 (withS b.1).length (withS b.1).length, layH hp (ownH 5 1 (celB (withS b.1))), none) :=
  conC_at (f0 := 44) (A := AB) (B := fun b => flB (withS b.1)) (fun x y hxy => by
    simp only [AB, List.cons.injEq, and_true] at hxy
    rw [byL_inj hxy]) b ⟨h, trivial⟩
end
end Go.Proofs.Ytmdomipnjlhmeab
