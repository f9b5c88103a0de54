/- A string with one bit changed, as a contract. -/
import Derived.Test.YtmdomipnjlhmeabCw
import Derived.Test.YtmdomipnjlhmeabBz
namespace Go.Proofs.Ytmdomipnjlhmeab
open Go.RowKit

noncomputable section
abbrev twoH (cl : List DV) : Hp := ⟨2, [⟨1, 0, 5, cl⟩, ⟨0, 0, 5, []⟩]⟩
set_option maxRecDepth 1000000 in
theorem runFl (xs : List (List DV)) (i n j k : Nat) (c c' mk : UInt8) (cl cl' : List DV) : zkeep [1] (zans Try.prog tab ftab noC 46 [.list 1 xs, iN i] [(8, .h (.sl 1 0 1 n n) (twoH cl) none), (11, .w (iN j)), (14, .w (iN j)), (15, .n (.ptr 1 j)), (16, .n (i8 c)), (18, .w (iN k)), (19, .w (.int .u64 (k : Int))), (20, .n (i8 mk)), (21, .w (i8 c')), (22, .n (.ptr 1 j)), (65535, .h (.tuple []) (twoH cl') (some 1))]) =
    some (.sl 0 0 1 n n, ownH 5 1 cl', [Plain (twoH cl'), builtinD tab (oneH []) .append [.sl 0 0 1 0 0, .list 1 xs] tyB = some (.sl 1 0 1 n n, twoH cl, none), DV.int .i64 (quoD .i64 (i : Int) 8) = iN j, DV.int .i64 (quoD .i64 (i : Int) 8) = iN j,
      idxOk (j : Int) n = true, DV.ptr 1 (0 + (j : Int).toNat * 1) = .ptr 1 j, nth cl j = some (i8 c), DV.int .i64 (Int.tmod (i : Int) 8) = iN k, DV.int .u64 (IntKind.u64.wrap (k : Int)) = .int .u64 (k : Int), binD tab .shr 5 (.int .u8 128) (.int .u64 (k : Int)) = some (i8 mk),
      DV.int .u8 (bitD .xor .u8 (c.toNat : Int) (mk.toNat : Int)) = i8 c', idxOk (j : Int) n = true, DV.ptr 1 (0 + (j : Int).toNat * 1) = .ptr 1 j, storeH (twoH cl) 1 j [i8 c'] = some (twoH cl', some 1)]) := by
  kernel_rfl
/-- the bit k of a byte, from the highest one on; a string with a bit changed -/
def bm (k : Nat) : UInt8 := ⟨128#8 >>> k⟩
def flip (b : List UInt8) (i : Nat) : List UInt8 := b.set (i / 8) (b.getD (i / 8) 0 ^^^ bm (i % 8))
theorem flip_length (b : List UInt8) (i : Nat) : (flip b i).length = b.length := by simp [flip]
theorem plain_own (e k : Nat) (bs : List UInt8) : Plain (ownH e k (celB bs)) := fun id o h d hd => by
  have h0 : id = 0 := by
    have := Hp.get_lt h
    simp only at this
    omega
  subst h0
  cases h
  simp only [celB, List.mem_map] at hd
  obtain ⟨c, _, rfl⟩ := hd
  rfl
theorem plain_twoH (a : List UInt8) : Plain (twoH (celB a)) := fun id o h d hd => by
  have hlt := Hp.get_lt h
  simp only at hlt
  match id, hlt with
  | 0, _ => cases h; cases hd
  | 1, _ =>
    cases h
    simp only [celB, List.mem_map] at hd
    obtain ⟨c, _, rfl⟩ := hd
    rfl
theorem app_empty {bs : List UInt8} (hne : bs ≠ []) (hl : bs.length ≤ 2 ^ 40) : builtinD tab (oneH []) .append [.sl 0 0 1 0 0, byL bs] tyB = some (.sl 1 0 1 bs.length bs.length, twoH (celB bs), none) := by
  rw [app_tab, contD_list]
  cases bs with
  | nil => exact absurd rfl hne
  | cons b bs =>
    have hf := fitB_le (n := 0 + (b :: bs).length) (by simpa using hl)
    have hg : (oneH []).get 0 = some ⟨0, 0, 5, []⟩ := rfl
    have hb : Nat.ble (0 + (bs.length + 1)) 0 = false := bleF (by omega)
    have h0 : Nat.ble (0 + 0 * 1) ([] : List DV).length = true := rfl
    simp only [List.length_cons] at hf ⊢
    simp only [appH, hg, hb, h0, hf, show Nat.beq 1 1 = true from rfl]
    rw [Nat.zero_add]
    rfl
def AF (x : {x : Bs × Nat // x.2 < 8 * x.1.1.length}) : List DV := [byL x.1.1.1, iN x.1.2]
def flB (bs : List UInt8) : DV × Hp := (.sl 0 0 1 bs.length bs.length, ownH 5 1 (celB bs))
theorem ansFl (x : {x : Bs × Nat // x.2 < 8 * x.1.1.length}) : Ans Try.prog 46 (AF x) (flB (flip x.1.1.1 x.1.2)).1 (flB (flip x.1.1.1 x.1.2)).2 := by
  obtain ⟨⟨⟨bs, hb⟩, i⟩, hi⟩ := x
  simp only [AF, flB] at hi ⊢
  have hne : bs ≠ [] := fun e => by subst e; simp at hi
  have hj : i / 8 < bs.length := by omega
  obtain ⟨c, hc⟩ : ∃ c, bs[i / 8]? = some c := ⟨_, List.getElem?_eq_getElem hj⟩
  have hd : bs.getD (i / 8) 0 = c := by simp [List.getD, hc]
  have hn : nth (celB bs) (i / 8) = some (i8 c) := by
    rw [nth_eq, celB, List.getElem?_map, hc]
    rfl
  have hfl : flip bs i = bs.set (i / 8) (c ^^^ bm (i % 8)) := by rw [flip, hd]
  have hq : DV.int .i64 (quoD .i64 (i : Int) 8) = iN (i / 8) := by
    unfold quoD
    rw [Int.tdiv_eq_ediv_of_nonneg (by omega), show ((i : Int) / 8) = ((i / 8 : Nat) : Int) from rfl, wrapI (by omega)]
    rfl
  have hk : i % 8 < 8 := Nat.mod_lt _ (by decide)
  have hx : DV.int .u8 (bitD .xor .u8 (c.toNat : Int) ((bm (i % 8)).toNat : Int)) = i8 (c ^^^ bm (i % 8)) := by
    rw [xorU (k := .u8) rfl (UInt8.toNat_lt c) (UInt8.toNat_lt _), i8, UInt8.toNat_xor]
  have hs : binD tab .shr 5 (.int .u8 128) (.int .u64 ((i % 8 : Nat) : Int)) = some (i8 (bm (i % 8))) := by
    have : decide ((0 : Int) ≤ ((i % 8 : Nat) : Int)) = true := decide_eq_true (by omega)
    simp only [binD, isShift, this, guardO]
    rw [show (128 : Int) = ((128 : Nat) : Int) from rfl, shrU _ (by show i % 8 ≤ 8; omega)]
    congr 2
    show _ = (((128#8 >>> (i % 8)).toNat : Nat) : Int)
    rw [BitVec.toNat_ushiftRight, Nat.shiftRight_eq_div_pow]
    rfl
  have hst : storeH (twoH (celB bs)) 1 (i / 8) [i8 (c ^^^ bm (i % 8))] = some (twoH (celB (flip bs i)), some 1) := by
    have hg : (twoH (celB bs)).get 1 = some ⟨1, 0, 5, celB bs⟩ := rfl
    have hb1 : Nat.ble (i / 8 + 1) (celB bs).length = true := bleT (by rw [celB_length]; omega)
    have hlay : layD (celB bs) (i / 8) [i8 (c ^^^ bm (i % 8))] = celB (flip bs i) := by
      rw [hfl, celB, celB, List.map_set, layD, List.set_eq_take_append_cons_drop, if_pos (by rw [List.length_map]; omega)]
      simp
    simp only [storeH, hg, List.length_singleton, hb1]
    rw [hlay]
    rfl
  have key := zkeep_ok tab_ok mixed fun_ok noC_ok (runFl (by1 bs) i bs.length (i / 8) (i % 8) c (c ^^^ bm (i % 8)) (bm (i % 8)) (celB bs) (celB (flip bs i)))
    (.cons (plain_twoH _) (.cons (app_empty hne (by omega)) (.cons hq (.cons hq (.cons (idxOk_lt hj) (.cons (by rw [Int.toNat_natCast]; simp) (.cons hn (.cons rfl (.cons ?_ (.cons hs (.cons hx (.cons (idxOk_lt hj) (.cons (by rw [Int.toNat_natCast]; simp) (.cons hst .nil))))))))))))))
  · rw [flip_length]
    exact key
  · rw [wrapU rfl, Nat.mod_eq_of_lt (by show _ < 2 ^ 64; omega)]
theorem fine_flB (bs : List UInt8) : Fine (flB bs).1 (flB bs).2 := ⟨rfl, plain_own _ _ bs, rfl⟩
def cFl : CallF := conC 46 AF fun x => flB (flip x.1.1.1 x.1.2)
theorem cFl_ok : CallOk Try.prog cFl := conC_ok ansFl fun _ => fine_flB _
theorem iN_inj {a b : Nat} (h : iN a = iN b) : a = b := by
  simp only [iN, DV.int.injEq, true_and] at h
  omega
theorem cFl_at {hp : Hp} {d : DV} (b : Bs) (i : Nat) (hi : i < 8 * b.1.length) (h : frz1 hp d (byL b.1)) : cFl 46 [d, iN i] hp = some (.sl (hp.n + 0) 0 1 (flip b.1 i).length (flip b.1 i).length, layH hp (ownH 5 1 (celB (flip b.1 i))), none) :=
  conC_at (f0 := 46) (A := AF) (B := fun x => flB (flip x.1.1.1 x.1.2)) (fun x y hxy => by
    obtain ⟨⟨b, i⟩, _⟩ := x
    obtain ⟨⟨c, j⟩, _⟩ := y
    simp only [AF, List.cons.injEq, and_true] at hxy
    have e1 := byL_inj hxy.1
    have e2 := iN_inj hxy.2
    subst e1 e2
    rfl) ⟨(b, i), hi⟩ ⟨h, ⟨rfl, rfl⟩, trivial⟩
theorem sh_fl (hp : Hp) (bs : List UInt8) (c : Nat) : Sh (layH hp (ownH 5 1 (celB bs))) (.sl (hp.n + 0) 0 1 bs.length c) bs :=
  .inr ⟨_, 0, ⟨1, 0, 5, celB bs⟩, c, rfl, by rw [layH_get rfl, if_neg (by omega)]; simp; rfl, fun i b hb => celB_get hb⟩
end
end Go.Proofs.Ytmdomipnjlhmeab
