/- Strings with checks, as contracts: appending. -/
import Derived.Test.YtmdomipnjlhmeabCr
namespace Go.Proofs.Ytmdomipnjlhmeab
open Go.RowKit

noncomputable section
abbrev tyB : List Nat := [45, 45]
abbrev oneH (cl : List DV) : Hp := ⟨1, [⟨0, 0, 5, cl⟩]⟩
/-- new memory with these bytes -/
def newB (bs : List UInt8) : DV × Hp := (.sl 0 0 1 bs.length bs.length, oneH (celB bs))
theorem plain_one (bs : List UInt8) : Plain (oneH (celB bs)) := fun id o h d hd => by
  have h0 : id = 0 := by
    have := Hp.get_lt h
    simp only at this
    omega
  subst h0
  cases h
  simp only [celB, List.mem_map] at hd
  obtain ⟨c, _, rfl⟩ := hd
  rfl
theorem fine_new (bs : List UInt8) : Fine (newB bs).1 (newB bs).2 := ⟨rfl, plain_one bs, rfl⟩
theorem celB_get {bs : List UInt8} {i : Nat} {c : UInt8} (h : bs[i]? = some c) : (celB bs)[0 + i]? = some (i8 c) := by
  rw [Nat.zero_add, celB, List.getElem?_map, h]
  rfl
theorem nlist_length (n : Nat) (d : DV) : (nlist n [d]).length = n := by
  induction n with
  | zero => rfl
  | succ n ih => simp [nlist, ih]
theorem app_room {old news : List DV} {n m N : Nat} {x : DV} (hx : contD (oneH old) 1 x = some (m, news)) (hm : news.length = m) (ho : old.length = N) (hl : n + m ≤ N) :
    ∃ mm, builtinD tab (oneH old) .append [.sl 0 0 1 n N, x] tyB = some (.sl 0 0 1 (n + m) N, oneH (layD old n news), mm) := by
  rw [app_tab, hx]
  simp only
  cases m with
  | zero =>
    have : news = [] := List.eq_nil_of_length_eq_zero hm
    subst this
    refine ⟨none, ?_⟩
    show some (DV.sl 0 0 1 n N, oneH old, (none : Mut)) = _
    simp [layD]
  | succ m =>
    have hb : Nat.ble (n + (m + 1)) N = true := bleT hl
    have hs : Nat.ble (0 + n * 1 + news.length) old.length = true := bleT (by omega)
    refine ⟨some 0, ?_⟩
    have hg : (oneH old).get 0 = some ⟨0, 0, 5, old⟩ := rfl
    simp only [appH, hg, hb, storeH, hs, show Nat.beq 1 1 = true from rfl]
    rw [Nat.mul_one, Nat.zero_add]
    rfl
set_option maxRecDepth 1000000 in
theorem runWith (xb xm : List (List DV)) (N lb ln : Nat) (h1 : List DV) (c2 c3 : List DV) (m2 m3 : Mut) : zans Try.prog tab ftab noC 63 [.list 1 xb, .list 1 xm] [(9, .w (iN N)), (10, .h (.sl 0 0 1 0 N) (oneH h1) none), (12, .h (.sl 0 0 1 lb N) (oneH c2) m2), (14, .h (.sl 0 0 1 ln N) (oneH c3) m3)] =
    some (.sl 0 0 1 ln N, oneH c3, [DV.int .i64 (IntKind.i64.wrap ((xb.length : Int) + (xm.length : Int))) = iN N, (decide ((0 : Int) ≤ 0) && decide ((0 : Int) ≤ (N : Int)) && fitB ((N : Int).toNat) 1) = true,
      (DV.sl 0 0 1 ((0 : Int).toNat) ((N : Int).toNat), pushH ⟨0, []⟩ 0 5 (nlist ((N : Int).toNat) [.int .u8 0]), (none : Mut)) = (.sl 0 0 1 0 N, oneH h1, none),
      builtinD tab (oneH h1) .append [.sl 0 0 1 0 N, .list 1 xb] tyB = some (.sl 0 0 1 lb N, oneH c2, m2), builtinD tab (oneH c2) .append [.sl 0 0 1 lb N, .list 1 xm] tyB = some (.sl 0 0 1 ln N, oneH c3, m3)]) := by
  kernel_rfl
def AW (x : Bs × Bs) : List DV := [byL x.1.1, byL x.2.1]
theorem ansWith (x : Bs × Bs) : Ans Try.prog 63 (AW x) (newB (x.1.1 ++ x.2.1)).1 (newB (x.1.1 ++ x.2.1)).2 := by
  obtain ⟨⟨b, hb⟩, ⟨m, hm⟩⟩ := x
  simp only [AW]
  have hN : (b.length : Int) + (m.length : Int) = ((b.length + m.length : Nat) : Int) := by omega
  obtain ⟨m2, e2⟩ := app_room (old := nlist (b.length + m.length) [.int .u8 0]) (n := 0) (contD_list _ b) (celB_length b) (nlist_length _ _) (by omega)
  rw [Nat.zero_add] at e2
  have hl2 : (layD (nlist (b.length + m.length) [.int .u8 0]) 0 (celB b)).length = b.length + m.length := by
    simp only [layD, List.take_zero, List.nil_append, List.length_append, List.length_drop, nlist_length, celB_length]
    omega
  obtain ⟨m3, e3⟩ := app_room (n := b.length) (contD_list _ m) (celB_length m) hl2 (Nat.le_refl _)
  have hc : layD (layD (nlist (b.length + m.length) [.int .u8 0]) 0 (celB b)) b.length (celB m) = celB (b ++ m) := by
    simp only [layD, List.take_zero, List.nil_append, Nat.zero_add, celB_length]
    rw [List.take_left' (celB_length b), List.drop_eq_nil_of_le, List.append_nil, celB_append]
    simp only [List.length_append, List.length_drop, nlist_length, celB_length]
    omega
  rw [hc] at e3
  have key := zans_ok tab_ok mixed fun_ok noC_ok (runWith (by1 b) (by1 m) (b.length + m.length) b.length (b.length + m.length) _ _ _ m2 m3)
    (.cons ?_ (.cons ?_ (.cons ?_ (.cons e2 (.cons e3 .nil)))))
  · rw [newB, List.length_append]
    exact key
  · rw [by1_length, by1_length, hN, wrapI (by omega)]
    rfl
  · rw [Int.toNat_natCast, fitB_le (by omega)]
    simp
    omega
  · rw [Int.toNat_natCast]
    rfl
def cWith : CallF := conC 63 AW fun x => newB (x.1.1 ++ x.2.1)
theorem cWith_ok : CallOk Try.prog cWith := conC_ok ansWith fun _ => fine_new _
theorem byL_inj {a b : Bs} (h : byL a.1 = byL b.1) : a = b := by
  simp only [byL, DV.list.injEq, true_and] at h
  exact Subtype.ext (by1_inj h)
theorem cWith_at {hp : Hp} {d e : DV} (b m : Bs) (h1 : frz1 hp d (byL b.1)) (h2 : frz1 hp e (byL m.1)) : cWith 63 [d, e] hp = some (.sl (hp.n + 0) 0 1 (b.1 ++ m.1).length (b.1 ++ m.1).length, layH hp (oneH (celB (b.1 ++ m.1))), none) :=
  conC_at (f0 := 63) (A := AW) (B := fun x => newB (x.1.1 ++ x.2.1)) (fun x y hxy => by
    obtain ⟨x1, x2⟩ := x
    obtain ⟨y1, y2⟩ := y
    simp only [AW, List.cons.injEq, and_true] at hxy
    rw [byL_inj hxy.1, byL_inj hxy.2]) (b, m) ⟨h1, h2, trivial⟩
/-! ### Append, Append8 -/
def be4 (r : BitVec 32) : List UInt8 := [⟨(r >>> 24).setWidth 8⟩, ⟨(r >>> 16).setWidth 8⟩, ⟨(r >>> 8).setWidth 8⟩, ⟨r.setWidth 8⟩]
theorem low8 (r : BitVec 32) : DV.int .u8 (IntKind.u8.wrap (r.toNat : Int)) = i8 ⟨r.setWidth 8⟩ := by
  rw [wrapU rfl]
  show DV.int .u8 ((r.toNat % 2 ^ 8 : Nat) : Int) = DV.int .u8 (((r.setWidth 8).toNat : Nat) : Int)
  rw [BitVec.toNat_setWidth]
theorem cut8 (r : BitVec 32) {n : Nat} (hn : n ≤ 32) : DV.int .u8 (IntKind.u8.wrap (shrD .u32 (r.toNat : Int) (n : Int))) = i8 ⟨(r >>> n).setWidth 8⟩ := by
  rw [shrU _ hn, ← Nat.shiftRight_eq_div_pow, ← BitVec.toNat_ushiftRight]
  exact low8 _
def cA0 : CallF := orK cWith cCrc
theorem cA0_ok : CallOk Try.prog cA0 := orK_ok cWith_ok cCrc_ok
set_option maxRecDepth 1000000 in
theorem runApp (xs : List (List DV)) (cr : BitVec 32) (b0 b1 b2 b3 : UInt8) (n : Nat) (cl : List DV) : zkeep [1] (zans Try.prog tab ftab cA0 39 [.list 1 xs] [(5, .q (w32 cr)), (9, .w (i8 b0)), (12, .w (i8 b1)), (15, .w (i8 b2)), (17, .w (i8 b3)),
      (19, .r (.sl 1 0 1 n n) ⟨2, [⟨0, 0, 5, cl⟩, ⟨0, 0, 5, [i8 b0, i8 b1, i8 b2, i8 b3]⟩]⟩)]) =
    some (.sl 0 0 1 n n, oneH cl, [Plain ⟨2, [⟨0, 0, 5, cl⟩, ⟨0, 0, 5, [i8 b0, i8 b1, i8 b2, i8 b3]⟩]⟩, cA0 31 [.list 1 xs] ⟨0, []⟩ = some (w32 cr, ⟨0, []⟩, none),
      DV.int .u8 (IntKind.u8.wrap (shrD .u32 (cr.toNat : Int) 24)) = i8 b0, DV.int .u8 (IntKind.u8.wrap (shrD .u32 (cr.toNat : Int) 16)) = i8 b1, DV.int .u8 (IntKind.u8.wrap (shrD .u32 (cr.toNat : Int) 8)) = i8 b2, DV.int .u8 (IntKind.u8.wrap (cr.toNat : Int)) = i8 b3,
      cA0 63 [.list 1 xs, .sl 0 0 1 4 4] (oneH [i8 b0, i8 b1, i8 b2, i8 b3]) = some (.sl 1 0 1 n n, ⟨2, [⟨0, 0, 5, cl⟩, ⟨0, 0, 5, [i8 b0, i8 b1, i8 b2, i8 b3]⟩]⟩, none)]) := by
  kernel_rfl
/-- bytes with the long, with the short check value -/
def withL (bs : List UInt8) : List UInt8 := bs ++ be4 (crc32 bs)
def withS (bs : List UInt8) : List UInt8 := bs ++ [⟨crc8 bs⟩]
def AB (b : Bs) : List DV := [byL b.1]
theorem plain_two (a b : List UInt8) : Plain ⟨2, [⟨0, 0, 5, celB a⟩, ⟨0, 0, 5, celB b⟩]⟩ := fun id o h d hd => by
  have hlt := Hp.get_lt h
  simp only at hlt
  have pl : ∀ l : List UInt8, d ∈ celB l → plain d = true := fun l hl => by
    simp only [celB, List.mem_map] at hl
    obtain ⟨c, _, rfl⟩ := hl
    rfl
  match id, hlt with
  | 0, _ => cases h; exact pl b hd
  | 1, _ => cases h; exact pl a hd
theorem ansApp (b : Bs) : Ans Try.prog 39 (AB b) (newB (withL b.1)).1 (newB (withL b.1)).2 := by
  refine zkeep_ok tab_ok mixed fun_ok cA0_ok (runApp (by1 b.1) (crc32 b.1) _ _ _ _ (withL b.1).length (celB (withL b.1))) (.cons (plain_two _ (be4 (crc32 b.1))) (.cons ?_ (.cons (cut8 _ (by decide)) (.cons (cut8 _ (by decide)) (.cons (cut8 _ (by decide)) (.cons (low8 _) (.cons ?_ .nil)))))))
  · exact (orK_right (conC_other (by kernel_rfl)) (cCrc_32 (some b) ⟨rfl, rfl⟩))
  · refine (orK_left ?_)
    exact cWith_at b ⟨be4 (crc32 b.1), by show (4 : Nat) < 2 ^ 30; decide⟩ ⟨rfl, rfl⟩ (frz_bytes (bs := be4 (crc32 b.1)) (o := ⟨0, 0, 5, celB (be4 (crc32 b.1))⟩) rfl fun i c hi => celB_get hi)
set_option maxRecDepth 1000000 in
theorem runApp8 (xs : List (List DV)) (cr : UInt8) (n : Nat) (cl : List DV) : zkeep [1] (zans Try.prog tab ftab cA0 40 [.list 1 xs] [(5, .q (i8 cr)),
      (7, .r (.sl 1 0 1 n n) ⟨2, [⟨0, 0, 5, cl⟩, ⟨0, 0, 5, [i8 cr]⟩]⟩)]) =
    some (.sl 0 0 1 n n, oneH cl, [Plain ⟨2, [⟨0, 0, 5, cl⟩, ⟨0, 0, 5, [i8 cr]⟩]⟩, cA0 33 [.list 1 xs] ⟨0, []⟩ = some (i8 cr, ⟨0, []⟩, none),
      cA0 63 [.list 1 xs, .sl 0 0 1 1 1] (oneH [i8 cr]) = some (.sl 1 0 1 n n, ⟨2, [⟨0, 0, 5, cl⟩, ⟨0, 0, 5, [i8 cr]⟩]⟩, none)]) := by
  kernel_rfl
theorem ansApp8 (b : Bs) : Ans Try.prog 40 (AB b) (newB (withS b.1)).1 (newB (withS b.1)).2 := by
  refine zkeep_ok tab_ok mixed fun_ok cA0_ok (runApp8 (by1 b.1) ⟨crc8 b.1⟩ (withS b.1).length (celB (withS b.1))) (.cons (plain_two _ [⟨crc8 b.1⟩]) (.cons ?_ (.cons ?_ .nil)))
  · exact (orK_right (conC_other (by kernel_rfl)) (cCrc_8 (some b) ⟨rfl, rfl⟩))
  · refine (orK_left ?_)
    exact cWith_at b ⟨[⟨crc8 b.1⟩], by show (1 : Nat) < 2 ^ 30; decide⟩ ⟨rfl, rfl⟩ (frz_bytes (bs := [⟨crc8 b.1⟩]) (o := ⟨0, 0, 5, celB [⟨crc8 b.1⟩]⟩) rfl fun i c hi => celB_get hi)
def cApp : CallF := conC 39 AB fun b => newB (withL b.1)
theorem cApp_ok : CallOk Try.prog cApp := conC_ok ansApp fun _ => fine_new _
def cApp8 : CallF := conC 40 AB fun b => newB (withS b.1)
theorem cApp8_ok : CallOk Try.prog cApp8 := conC_ok ansApp8 fun _ => fine_new _
theorem cApp_at {hp : Hp} {d : DV} (b : Bs) (h : frz1 hp d (byL b.1)) : cApp 39 [d] hp = some (.sl (hp.n + 0) 0 1 (withL b.1).length (withL b.1).length, layH hp (oneH (celB (withL b.1))), none) :=
  conC_at (f0 := 39) (A := AB) (B := fun b => newB (withL b.1)) (fun x y hxy => by
    simp only [AB, List.cons.injEq, and_true] at hxy
    rw [byL_inj hxy]) b ⟨h, trivial⟩
theorem cApp8_at {hp : Hp} {d : DV} (b : Bs) (h : frz1 hp d (byL b.1)) : cApp8 40 [d] hp = some (.sl (hp.n + 0) 0 1 (withS b.1).length (withS b.1).length, layH hp (oneH (celB (withS b.1))), none) :=
  conC_at (f0 := 40) (A := AB) (B := fun b => newB (withS b.1)) (fun x y hxy => by
    simp only [AB, List.cons.injEq, and_true] at hxy
    rw [byL_inj hxy]) b ⟨h, trivial⟩
end
end Go.Proofs.Ytmdomipnjlhmeab
