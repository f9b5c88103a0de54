/- Strings with checks, as contracts: appending. -/
import Derived.Test.YtoghpmeoekbcbaaCr
namespace Go.Proofs.Ytoghpmeoekbcbaa
open Go.RowKit

noncomputable section
abbrev tyB : List Nat := [26, 26]
abbrev ownH (e : TypeId) (k : Nat) (cl : List DV) : Hp := ⟨1, [⟨k, 0, e, cl⟩], []⟩
def flB (bs : List UInt8) : DV × Hp := (.sl 0 0 1 bs.length bs.length, ownH 5 1 (celB bs))
theorem plain_own (e k : Nat) (bs : List UInt8) : Plain (ownH e k (celB bs)) := fun id o h d hd => by
  have h0 : id = 0 := by
    have := Hp.get_lt h
    simp only at this
    omega
  subst h0
  cases h
  simp only [celB, List.mem_map] at hd
  obtain ⟨c, _, rfl⟩ := hd
  rfl
theorem fine_flB (bs : List UInt8) : Fine (flB bs).1 (flB bs).2 := ⟨rfl, plain_own _ _ bs, rfl⟩
theorem celB_get {bs : List UInt8} {i : Nat} {c : UInt8} (h : bs[i]? = some c) : (celB bs)[0 + i]? = some (i8 c) := by
  rw [Nat.zero_add, celB, List.getElem?_map, h]
  rfl
theorem seenV_forget {hp : Hp} {id : Nat} {o : Ob} {d d' : DV} (hg : hp.get id = some o) (hpl : ∀ x ∈ o.cs, plain x = true) (hl : hp.ls = []) (hd : ren3 [id] d = some d') : SeenV d hp d' (ownH o.t 1 o.cs) := by
  intro W0 S0 E w v hs hv
  refine ⟨E.ren [id] fun _ => False, .up (E := E) (E' := E.ren [id] fun _ => False) (fun _ h => h) rfl (fun i => by rw [hl]) _, ?_, ren3_ok (fun _ _ _ _ h => h.elim) hv hd⟩
  have h0 : ∀ (i j : Nat), ([id] : List Nat)[i]? = some j → i = 0 ∧ j = id := fun i j h => by
    cases i with
    | zero => simp at h; exact ⟨rfl, h.symm⟩
    | succ i => simp at h
  refine ⟨hs.bel, ?_, ?_, fun i _ h => absurd h (by omega), ?_, hs.ro, hs.olds, Nat.zero_le _, .none rfl (fun i => yb_none hs.ys hl i)⟩
  · rintro i ⟨j, hi, hD⟩
    obtain ⟨rfl, rfl⟩ := h0 i j hi
    obtain ⟨o', h1, k0, k1, vs, k2, k3, k4, k5⟩ := hs.ob j hD
    rw [hg] at h1
    cases h1
    exact ⟨⟨1, 0, o.t, o.cs⟩, rfl, ⟨fun h => (by cases h), fun h => h.elim⟩, k1, vs, k2, k3, k4, k5.1, fun q u v hq hv => plain_ok (k5.2 q u v hq hv) (hpl u (List.mem_of_getElem? hq))⟩
  · rintro i ⟨j, hi, hD⟩ _
    obtain ⟨rfl, rfl⟩ := h0 i j hi
    exact hs.own j hD (Nat.zero_le _)
  · rintro i j oi oj ⟨x, hi, _⟩ ⟨y, hj, _⟩ hne
    exact absurd ((h0 i x hi).1.trans (h0 j y hj).1.symm) hne
/-- a slice of one's own that begins its object -/
def SbO (e : TypeId) (hp : Hp) (d : DV) (cl : List DV) : Prop := ∃ id o, d = .sl id 0 1 cl.length cl.length ∧ hp.get id = some o ∧ (o.k = 0 ∨ o.k = 1 ∨ o.k = 3) ∧ o.t = e ∧ o.cs = cl
theorem SbO.push {e : TypeId} {hp : Hp} {d : DV} {cl : List DV} (h : SbO e hp d cl) (o : Ob) : SbO e (hp.push o) d cl := by
  obtain ⟨id, o', h0, h1, h2⟩ := h
  refine ⟨id, o', h0, ?_, h2⟩
  rw [Hp.get_push, if_neg (Nat.ne_of_lt (Hp.get_lt h1))]
  exact h1
theorem fitB_le2 {n b : Nat} (h : n ≤ 2 ^ 40) (hb : b ≤ 64) : fitB n b = true := by
  have h1 : Nat.ble n mxL = true := bleT (Nat.le_trans h (by decide))
  have h3 : n * b ≤ 2 ^ 40 * 64 := Nat.mul_le_mul h hb
  have h2 : Nat.ble (n * b) mxB = true := bleT (Nat.le_trans h3 (by decide))
  simp only [fitB, h1, h2, Bool.and_self]
/-- the caller's loops stay -/
theorem appO {e : TypeId} {j : TI} {z : DV} {zs : List DV} (hz : j.zero = z :: zs) (hs : j.size = 1) (hby : j.bytes ≤ 64) {hp : Hp} {d : DV} {cl news : List DV} (hd : SbO e hp d cl) {m : Nat} (hm : news.length = m) (hl : cl.length + m ≤ 2 ^ 40) :
    ∃ d' hp' mm, appH hp e j d m news = some (d', hp', mm) ∧ SbO e hp' d' (cl ++ news) ∧ hp'.ls = hp.ls := by
  obtain ⟨id, o, rfl, h1, h2, h3, h4⟩ := hd
  cases m with
  | zero =>
    obtain rfl : news = [] := List.eq_nil_of_length_eq_zero hm
    rw [List.append_nil]
    refine ⟨_, hp, none, ?_, ⟨id, o, rfl, h1, h2, h3, h4⟩, rfl⟩
    simp only [appH, hz, hs]
  | succ m =>
    have q0 : Nat.beq 1 0 = false := rfl
    have q1 : Nat.beq 1 1 = true := rfl
    have hle : (cl ++ news).length = cl.length + (m + 1) := by rw [List.length_append, hm]
    have hf := fitB_le2 (n := cl.length + (m + 1)) hl hby
    have hb : Nat.ble (cl.length + (m + 1)) cl.length = false := bleF (by omega)
    have he : Nat.ble (0 + cl.length * 1) o.cs.length = true := bleT (by rw [h4]; omega)
    have ht : (o.cs.drop 0).take (cl.length * 1) = cl := by rw [h4, List.drop_zero, Nat.mul_one, List.take_length]
    have hq : Nat.beq (0 + cl.length * 1) o.cs.length = true := beqT (by rw [h4]; omega)
    have hte : Nat.beq o.t e = true := beqT h3
    rcases h2 with h2 | h2 | h2
    · refine ⟨.sl hp.n 0 1 (cl.length + (m + 1)) (cl.length + (m + 1)), pushH hp 1 e ((o.cs.drop 0).take (cl.length * 1) ++ news), none, ?_, ⟨hp.n, _, by rw [hle], get_push_new _ _, .inr (.inl rfl), rfl, by rw [ht]⟩, rfl⟩
      simp only [appH, hz, hs, q0, q1, h1, hb, he, hf, h2]
    · refine ⟨.sl hp.n 0 1 (cl.length + (m + 1)) (cl.length + (m + 1)), (hp.put id ⟨2, o.r, o.t, o.cs⟩).push ⟨3, rootOf 1 o.r id, o.t, o.cs.drop 0 ++ news⟩, mmin (some (rootOf 1 o.r id)) (some id), ?_, ⟨hp.n, _, by rw [hle], get_push_new (hp.put id _) _, .inr (.inr rfl), h3, by simp [h4]⟩, rfl⟩
      simp only [appH, hz, hs, q0, q1, h1, hb, he, hf, h2, hq, hte]
    · refine ⟨.sl hp.n 0 1 (cl.length + (m + 1)) (cl.length + (m + 1)), (hp.put id ⟨2, o.r, o.t, o.cs⟩).push ⟨3, rootOf 3 o.r id, o.t, o.cs.drop 0 ++ news⟩, mmin (some (rootOf 3 o.r id)) (some id), ?_, ⟨hp.n, _, by rw [hle], get_push_new (hp.put id _) _, .inr (.inr rfl), h3, by simp [h4]⟩, rfl⟩
      simp only [appH, hz, hs, q0, q1, h1, hb, he, hf, h2, hq, hte]
theorem SbO.seenV {hp : Hp} {d : DV} {bs : List UInt8} (h : SbO 5 hp d (celB bs)) (hl : hp.ls = []) : SeenV d hp (flB bs).1 (flB bs).2 := by
  obtain ⟨id, o, rfl, h1, h2, h3, h4⟩ := h
  have := seenV_forget (d := .sl id 0 1 bs.length bs.length) (d' := .sl 0 0 1 bs.length bs.length) h1 (fun x hx => by
    rw [h4] at hx
    simp only [celB, List.mem_map] at hx
    obtain ⟨c, _, rfl⟩ := hx
    rfl) hl (by simp only [ren3, ren2, ren1, ren0, posN, beqT])
  rw [h3, h4] at this
  rw [celB_length]
  exact this
theorem sbO_new : SbO 5 (ownH 5 1 []) (.sl 0 0 1 0 0) (celB []) := ⟨0, _, rfl, rfl, .inr (.inl rfl), rfl, rfl⟩
theorem app_own {hp : Hp} {d x : DV} {bs cs : List UInt8} (h : SbO 5 hp d (celB bs)) (hx : contD hp 1 x = some (cs.length, celB cs)) (hl : bs.length + cs.length ≤ 2 ^ 40) : ∃ d' h' m, builtinD tab hp .append [d, x] tyB = some (d', h', m) ∧ SbO 5 h' d' (celB (bs ++ cs)) ∧ h'.ls = hp.ls := by
  rw [app_tab, hx, celB_append]
  exact appO (j := u8TI) (z := .int .u8 0) (zs := []) rfl rfl (by decide) h (celB_length cs) (by rw [celB_length]; exact hl)
set_option maxRecDepth 1000000 in
theorem runWith (xb xm : List (List DV)) (N : Nat) (d1 d2 : DV) (h1 h2 : Hp) (m1 m2 : Mut) : zans Try.prog tab ftab noC 36 [.list 1 xb, .list 1 xm] [(9, .w (iN N)), (10, .h (.sl 0 0 1 0 0) (ownH 5 1 []) none), (12, .h d1 h1 m1), (14, .h d2 h2 m2)] =
    some (d2, h2, [DV.int .i64 (IntKind.i64.wrap ((xb.length : Int) + (xm.length : Int))) = iN N, (decide ((0 : Int) ≤ 0) && decide ((0 : Int) ≤ (N : Int)) && fitB ((N : Int).toNat) 1) = true,
      mkRow ⟨0, [], []⟩ 5 1 [.int .u8 0] ((0 : Int).toNat) ((N : Int).toNat) = (.sl 0 0 1 0 0, ownH 5 1 [], none),
      builtinD tab (ownH 5 1 []) .append [.sl 0 0 1 0 0, .list 1 xb] tyB = some (d1, h1, m1), builtinD tab h1 .append [d1, .list 1 xm] tyB = some (d2, h2, m2)]) := by
  kernel_rfl
def AW (x : Bs × Bs) : List DV := [byL x.1.1, byL x.2.1]
theorem ansWith (x : Bs × Bs) : Ans Try.prog 36 (AW x) (flB (x.1.1 ++ x.2.1)).1 (flB (x.1.1 ++ x.2.1)).2 := by
  obtain ⟨⟨b, hb⟩, ⟨m, hm⟩⟩ := x
  simp only [AW]
  have hN : (b.length : Int) + (m.length : Int) = ((b.length + m.length : Nat) : Int) := by omega
  obtain ⟨d1, h1, m1, e1, s1, l1⟩ := app_own (cs := b) sbO_new (contD_list _ b) (by simp only [List.length_nil]; omega)
  rw [List.nil_append] at s1
  obtain ⟨d2, h2, m2, e2, s2, l2⟩ := app_own (hp := h1) (cs := m) s1 (contD_list _ m) (by omega)
  refine AnsH.see (zans_ok tab_ok mixed fun_ok noC_ok (runWith (by1 b) (by1 m) (b.length + m.length) d1 d2 h1 h2 m1 m2) (.cons ?_ (.cons ?_ (.cons rfl (.cons e1 (.cons e2 .nil)))))) (s2.seenV (by rw [l2, l1]))
  · rw [by1_length, by1_length, hN]
    exact congrArg (DV.int .i64) (wrapI (by omega))
  · rw [Bool.and_eq_true, Bool.and_eq_true]
    exact ⟨⟨rfl, decide_eq_true (by omega)⟩, by rw [Int.toNat_natCast]; exact fitB_le2 (by omega) (by decide)⟩
def cWith : ConF := conC 36 AW fun x => flB (x.1.1 ++ x.2.1)
theorem cWith_ok : ConOk Try.prog cWith := conC_ok ansWith fun _ => fine_flB _
theorem byL_inj {a b : Bs} (h : byL a.1 = byL b.1) : a = b := by
  simp only [byL, DV.list.injEq, true_and] at h
  exact Subtype.ext (by1_inj h)
theorem cWith_at {hp : Hp} {d e : DV} (b m : Bs) (h1 : frz1 hp d (byL b.1)) (h2 : frz1 hp e (byL m.1)) : cWith 36 [d, e] hp = some (.sl (hp.n + 0) 0 1 (b.1 ++ m.1).length (b.1 ++ m.1).length, layH hp (ownH 5 1 (celB (b.1 ++ m.1))), none) :=
  conC_at (f0 := 36) (A := AW) (B := fun x => flB (x.1.1 ++ x.2.1)) (fun x y hxy => by
    obtain ⟨x1, x2⟩ := x
    obtain ⟨y1, y2⟩ := y
    simp only [AW, List.cons.injEq, and_true] at hxy
    rw [byL_inj hxy.1, byL_inj hxy.2]) (b, m) ⟨h1, h2, trivial⟩
def be4 (r : BitVec 32) : List UInt8 := [⟨(r >>> 24).setWidth 8⟩, ⟨(r >>> 16).setWidth 8⟩, ⟨(r >>> 8).setWidth 8⟩, ⟨r.setWidth 8⟩]
theorem low8 (r : BitVec 32) : DV.int .u8 (IntKind.u8.wrap (r.toNat : Int)) = i8 ⟨r.setWidth 8⟩ := by
  rw [wrapU rfl]
  show DV.int .u8 ((r.toNat % 2 ^ 8 : Nat) : Int) = DV.int .u8 (((r.setWidth 8).toNat : Nat) : Int)
  rw [BitVec.toNat_setWidth]
theorem cut8 (r : BitVec 32) {n : Nat} (hn : n ≤ 32) : DV.int .u8 (IntKind.u8.wrap (shrD .u32 (r.toNat : Int) (n : Int))) = i8 ⟨(r >>> n).setWidth 8⟩ := by
  rw [shrU _ hn, ← Nat.shiftRight_eq_div_pow, ← BitVec.toNat_ushiftRight]
  exact low8 _
def cA0 : ConF := orK cWith cC32
theorem cA0_ok : ConOk Try.prog cA0 := orK_ok cWith_ok cC32_ok
set_option maxRecDepth 1000000 in
theorem runApp (xs : List (List DV)) (cr : BitVec 32) (b0 b1 b2 b3 : UInt8) (n : Nat) (cl : List DV) : zkeep [1] (zans Try.prog tab ftab cA0 14 [.list 1 xs] [(5, .q (w32 cr)), (9, .w (i8 b0)), (12, .w (i8 b1)), (15, .w (i8 b2)), (17, .w (i8 b3)),
      (19, .r (.sl 1 0 1 n n) ⟨2, [⟨1, 0, 5, cl⟩, ⟨0, 0, 5, [i8 b0, i8 b1, i8 b2, i8 b3]⟩], []⟩)]) =
    some (.sl 0 0 1 n n, ownH 5 1 cl, [Plain ⟨2, [⟨1, 0, 5, cl⟩, ⟨0, 0, 5, [i8 b0, i8 b1, i8 b2, i8 b3]⟩], []⟩, cA0 35 [.list 1 xs] ⟨0, [], []⟩ = some (w32 cr, ⟨0, [], []⟩, none),
      DV.int .u8 (IntKind.u8.wrap (shrD .u32 (cr.toNat : Int) 24)) = i8 b0, DV.int .u8 (IntKind.u8.wrap (shrD .u32 (cr.toNat : Int) 16)) = i8 b1, DV.int .u8 (IntKind.u8.wrap (shrD .u32 (cr.toNat : Int) 8)) = i8 b2, DV.int .u8 (IntKind.u8.wrap (cr.toNat : Int)) = i8 b3,
      cA0 36 [.list 1 xs, .sl 0 0 1 4 4] (ownH 5 0 [i8 b0, i8 b1, i8 b2, i8 b3]) = some (.sl 1 0 1 n n, ⟨2, [⟨1, 0, 5, cl⟩, ⟨0, 0, 5, [i8 b0, i8 b1, i8 b2, i8 b3]⟩], []⟩, none)]) := by
  kernel_rfl
/-- bytes with the long check value -/
def withL (bs : List UInt8) : List UInt8 := bs ++ be4 (crc32 bs)
def AB (b : Bs) : List DV := [byL b.1]
theorem plain_two (a b : List UInt8) : Plain ⟨2, [⟨1, 0, 5, celB a⟩, ⟨0, 0, 5, celB b⟩], []⟩ := fun id o h d hd => by
  have hlt := Hp.get_lt h
  simp only at hlt
  have pl : ∀ l : List UInt8, d ∈ celB l → plain d = true := fun l hl => by
    simp only [celB, List.mem_map] at hl
    obtain ⟨c, _, rfl⟩ := hl
    rfl
  match id, hlt with
  | 0, _ => cases h; exact pl b hd
  | 1, _ => cases h; exact pl a hd
theorem ansApp (b : Bs) : Ans Try.prog 14 (AB b) (flB (withL b.1)).1 (flB (withL b.1)).2 := by
  refine zkeep_ok tab_ok mixed fun_ok cA0_ok (runApp (by1 b.1) (crc32 b.1) _ _ _ _ (withL b.1).length (celB (withL b.1))) (.cons (plain_two _ (be4 (crc32 b.1))) (.cons ?_ (.cons (cut8 _ (by decide)) (.cons (cut8 _ (by decide)) (.cons (cut8 _ (by decide)) (.cons (low8 _) (.cons ?_ .nil)))))))
  · exact orK_right (conC_other (by kernel_rfl)) (cC32_at (d := byL b.1) (some b) ⟨rfl, rfl⟩)
  · refine (orK_left ?_)
    exact cWith_at b ⟨be4 (crc32 b.1), by show (4 : Nat) < 2 ^ 30; decide⟩ ⟨rfl, rfl⟩ (frz_bytes (bs := be4 (crc32 b.1)) (o := ⟨0, 0, 5, celB (be4 (crc32 b.1))⟩) rfl fun i c hi => celB_get hi)
def cApp : ConF := conC 14 AB fun b => flB (withL b.1)
theorem cApp_ok : ConOk Try.prog cApp := conC_ok ansApp fun _ => fine_flB _
theorem cApp_at {hp : Hp} {d : DV} (b : Bs) (h : frz1 hp d (byL b.1)) : cApp 14 [d] hp = some (.sl (hp.n + 0) 0 1 (withL b.1).length (withL b.1).length, layH hp (ownH 5 1 (celB (withL b.1))), none) :=
  conC_at (f0 := 14) (A := AB) (B := fun b => flB (withL b.1)) (fun x y hxy => by
    simp only [AB, List.cons.injEq, and_true] at hxy
    rw [byL_inj hxy]) b ⟨h, trivial⟩
/-- a datum that shows bytes -/
def Sh (hp : Hp) (d : DV) (bs : List UInt8) : Prop := d = byL bs ∨ ∃ id off o c, d = .sl id off 1 bs.length c ∧ hp.get id = some o ∧ (∀ (i : Nat) (b : UInt8), bs[i]? = some b → o.cs[off + i]? = some (i8 b))
theorem Sh.frz {hp : Hp} {d : DV} {bs : List UInt8} (h : Sh hp d bs) : frz1 hp d (byL bs) := by
  rcases h with rfl | ⟨id, off, o, c, rfl, h1, h2⟩
  · exact ⟨rfl, rfl⟩
  · exact frz_bytes h1 h2
theorem Sh.cont {hp : Hp} {d : DV} {bs : List UInt8} (h : Sh hp d bs) : contD hp 1 d = some (bs.length, celB bs) := by
  rcases h with rfl | ⟨id, off, o, c, rfl, h1, h2⟩
  · exact contD_list hp bs
  · cases bs with
    | nil => rfl
    | cons b bs =>
      have hlt : ∀ i, i < (b :: bs).length → off + i < o.cs.length := fun i hi => (List.getElem?_eq_some_iff.1 (h2 i _ (List.getElem?_eq_getElem hi))).1
      have hend := hlt bs.length (by simp)
      have hle : Nat.ble (off + (bs.length + 1) * 1) o.cs.length = true := bleT (by omega)
      have hcs : (o.cs.drop off).take ((bs.length + 1) * 1) = celB (b :: bs) := by
        refine List.ext_getElem? fun i => ?_
        rw [Nat.mul_one, List.getElem?_take, List.getElem?_drop]
        by_cases hi : i < bs.length + 1
        · have hb : (b :: bs)[i]? = some (b :: bs)[i] := List.getElem?_eq_getElem (by simpa using hi)
          rw [if_pos hi, h2 i _ hb, celB, List.getElem?_map, hb]
          rfl
        · rw [if_neg hi, List.getElem?_eq_none (by rw [celB_length]; simp; omega)]
      show (match hp.get id with | some o => (match Nat.ble (off + (bs.length + 1) * 1) o.cs.length with | true => some (bs.length + 1, (o.cs.drop off).take ((bs.length + 1) * 1)) | false => none) | none => none) = _
      rw [h1]
      simp only [hle, hcs]
      rfl
theorem SbO.sh {hp : Hp} {d : DV} {bs : List UInt8} (h : SbO 5 hp d (celB bs)) : Sh hp d bs := by
  obtain ⟨id, o, rfl, h1, h2, h3, h4⟩ := h
  refine .inr ⟨id, 0, o, _, by rw [celB_length], h1, fun i b hb => ?_⟩
  rw [h4]
  exact celB_get hb
theorem sh_fl (hp : Hp) (bs : List UInt8) (c : Nat) : Sh (layH hp (ownH 5 1 (celB bs))) (.sl (hp.n + 0) 0 1 bs.length c) bs :=
  .inr ⟨_, 0, ⟨1, 0, 5, celB bs⟩, c, rfl, by rw [layH_get rfl, if_neg (by omega)]; simp; rfl, fun i b hb => celB_get hb⟩
end
end Go.Proofs.Ytoghpmeoekbcbaa
