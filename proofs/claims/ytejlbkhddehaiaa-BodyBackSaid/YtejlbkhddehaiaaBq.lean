/- Elements behind a front: a contract. -/
import Derived.Test.YtejlbkhddehaiaaBp
namespace Go.Proofs.Ytejlbkhddehaiaa
open Go.RowKit

noncomputable section
abbrev fWi : FuncId := 43
abbrev tyZ : List TypeId := [37, 3]
abbrev wH0 (fs es : List (List DV)) : Hp := ⟨1, [⟨0, 0, 37, [.list 1 fs, .list 1 es]⟩], []⟩
abbrev wH1 (fs es : List (List DV)) (cl : List DV) : Hp := ⟨2, [⟨1, 0, 5, cl⟩, ⟨0, 0, 37, [.list 1 fs, .list 1 es]⟩], []⟩
abbrev wiP (fs es : List (List DV)) (nf n : Nat) (zs c1 c2 : List DV) (m1 m2 : Mut) : Yath := [(10, .q (.tuple [.list 1 es, iN 0])), (18, .c [(10, .w (iN n)), (11, .b false), (15, .c [(18, .w (iN nf)), (20, .b false), (18, .w (iN n)), (20, .b false),
  (24, .c [(6, .b false), (14, .w (iN n)), (16, .b true), (22, .h (.sl 1 0 1 n n) (wH1 fs es zs) none), (25, .n (.sl 1 0 1 0 n))]), (33, .h (.sl 1 0 1 nf n) (wH1 fs es c1) m1), (33, .h (.sl 1 0 1 n n) (wH1 fs es c2) m2)])])]
abbrev wiQ (C : ConF) (xs fs es : List (List DV)) (nf n : Nat) (zs c1 c2 : List DV) (m1 m2 : Mut) : List Prop := (C fEn [.list 4 xs] ⟨0, [], []⟩ = some (.tuple [.list 1 es, iN 0], ⟨0, [], []⟩, none)) :: (DV.int .i64 (IntKind.i64.wrap ((fs.length : Int) + (es.length : Int))) = iN n) :: (decide ((n : Int) > 2304) = false) ::
  (DV.int .i64 (IntKind.i64.wrap ((0 : Int) + (fs.length : Int))) = iN nf) :: (decide ((nf : Int) < 0) = false) :: (DV.int .i64 (IntKind.i64.wrap ((nf : Int) + (es.length : Int))) = iN n) :: (decide ((n : Int) < 0) = false) :: (decide ((n : Int) < 0) = false) :: (DV.int .i64 (IntKind.i64.wrap ((n : Int) - IntKind.i64.wrap (0 - 0))) = iN n) ::
  (decide ((n : Int) > 0) = true) :: (builtinD tab (wH0 fs es) .append [.nil, iN n] tyZ = some (.sl 1 0 1 n n, wH1 fs es zs, none)) :: (sliceD tab (wH1 fs es zs) bTI (.sl 1 0 1 n n) none (some (iN 0)) none = some (.sl 1 0 1 0 n)) ::
  (builtinD tab (wH1 fs es zs) .append [.sl 1 0 1 0 n, .list 1 fs] tyBB = some (.sl 1 0 1 nf n, wH1 fs es c1, m1)) :: (builtinD tab (wH1 fs es c1) .append [.sl 1 0 1 nf n, .list 1 es] tyBB = some (.sl 1 0 1 n n, wH1 fs es c2, m2)) :: []
set_option maxRecDepth 1000000 in
theorem wi1 (xs fs es : List (List DV)) (nf n : Nat) (zs c1 c2 : List DV) : zans Try.prog tab ftab cEn fWi [.list 1 fs, .list 4 xs] (wiP fs es nf n zs c1 c2 (some 1) (some 1)) = some (.tuple [.sl 1 0 1 n n, iN 0], wH1 fs es c2, wiQ cEn xs fs es nf n zs c1 c2 (some 1) (some 1)) := by kernel_rfl
set_option maxRecDepth 1000000 in
theorem wi0 (xs fs es : List (List DV)) (nf n : Nat) (zs c1 c2 : List DV) : zans Try.prog tab ftab cEn fWi [.list 1 fs, .list 4 xs] (wiP fs es nf n zs c1 c2 (some 1) none) = some (.tuple [.sl 1 0 1 n n, iN 0], wH1 fs es c2, wiQ cEn xs fs es nf n zs c1 c2 (some 1) none) := by kernel_rfl
set_option maxRecDepth 1000000 in
theorem wiL (xs fs es : List (List DV)) (n : Nat) : zflat (zans Try.prog tab ftab cEn fWi [.list 1 fs, .list 4 xs] [(10, .q (.tuple [.list 1 es, iN 0])), (18, .c [(10, .w (iN n)), (11, .b true)])]) = some (.tuple [.nil, iN 11], (cEn fEn [.list 4 xs] ⟨0, [], []⟩ = some (.tuple [.list 1 es, iN 0], ⟨0, [], []⟩, none)) ::
  (DV.int .i64 (IntKind.i64.wrap ((fs.length : Int) + (es.length : Int))) = iN n) :: (decide ((n : Int) > 2304) = true) :: []) := by kernel_rfl
set_option maxRecDepth 1000000 in
theorem wiE (xs fs es : List (List DV)) (e : Nat) : zflat (zans Try.prog tab ftab cEn fWi [.list 1 fs, .list 4 xs] [(10, .q (.tuple [.list 1 es, iN e])), (14, .b true)]) = some (.tuple [.nil, iN e], (cEn fEn [.list 4 xs] ⟨0, [], []⟩ = some (.tuple [.list 1 es, iN e], ⟨0, [], []⟩, none)) :: (((e : Int) != 0) = true) :: []) := by kernel_rfl
/-! ### The appends -/
theorem nlist_length (n : Nat) (d : DV) : (nlist n [d]).length = n := by
  induction n with
  | zero => rfl
  | succ n ih => simp [nlist, ih]
theorem app_tabZ (hp : Hp) (d : DV) (l : Int) : builtinD tab hp .append [d, .int .i64 l] tyZ = match decide (0 ≤ l) && fitB l.toNat 1 with
    | true => appH hp 5 u8TI d l.toNat (nlist l.toNat [.int .u8 0])
    | false => none := by kernel_rfl
theorem wiZ (fs es : List (List DV)) {n : Nat} (h0 : 0 < n) (hn : n ≤ 2 ^ 30) : builtinD tab (wH0 fs es) .append [.nil, iN n] tyZ = some (.sl 1 0 1 n n, wH1 fs es (nlist n [.int .u8 0]), none) := by
  have hf := fitB_le (n := n) (by omega)
  refine (app_tabZ (wH0 fs es) .nil (n : Int)).trans ?_
  rw [Int.toNat_natCast, hf, show decide ((0 : Int) ≤ (n : Int)) = true from decide_eq_true (by omega)]
  obtain ⟨k, rfl⟩ : ∃ k, n = k + 1 := ⟨n - 1, by omega⟩
  show (match fitB (k + 1) 1 with | true => some (DV.sl 1 0 1 (k + 1) (k + 1), pushH (wH0 fs es) 1 5 (nlist (k + 1) [.int .u8 0]), (none : Mut)) | false => none) = _
  rw [hf]
  rfl
theorem wiS {hp : Hp} {n : Nat} : sliceD tab hp bTI (.sl 1 0 1 n n) none (some (iN 0)) none = some (.sl 1 0 1 0 n) := by
  have h1 : Nat.ble n n = true := bleT (Nat.le_refl n)
  show (match Nat.beq 1 1 && Nat.ble 0 0 && Nat.ble 0 n && Nat.ble n n && true with | true => some (DV.sl 1 (0 + 0 * 1) 1 (0 - 0) (n - 0)) | false => none) = _
  rw [h1]
  rfl
/-- an append in place -/
theorem wiA {fs es : List (List DV)} {cl : List DV} {k n : Nat} (c : UInt8) (f : List UInt8) (hk : k + (f.length + 1) ≤ n) (hl : cl.length = n) :
    builtinD tab (wH1 fs es cl) .append [.sl 1 0 1 k n, byL (c :: f)] tyBB = some (.sl 1 0 1 (k + (f.length + 1)) n, wH1 fs es (layD cl k (celB (c :: f))), some 1) := by
  have h1 : Nat.ble (k + (f.length + 1)) n = true := bleT hk
  have h2 : Nat.ble (0 + k * 1 + (celB (c :: f)).length) cl.length = true := bleT (by rw [celB_length, hl, List.length_cons]; omega)
  have hg : (wH1 fs es cl).get 1 = some ⟨1, 0, 5, cl⟩ := rfl
  have hs : storeH (wH1 fs es cl) 1 (0 + k * 1) (celB (c :: f)) = some (wH1 fs es (layD cl (0 + k * 1) (celB (c :: f))), some 1) := by
    simp only [storeH, hg, h2]
    rfl
  rw [app_tab, contD_list]
  show appH (wH1 fs es cl) 5 u8TI (.sl 1 0 1 k n) (f.length + 1) (celB (c :: f)) = _
  simp only [appH, show Nat.beq 1 1 = true from rfl, hg, h1, hs]
  rw [show 0 + k * 1 = k by omega]
theorem wiN {fs es : List (List DV)} {cl : List DV} {k n : Nat} : builtinD tab (wH1 fs es cl) .append [.sl 1 0 1 k n, byL []] tyBB = some (.sl 1 0 1 k n, wH1 fs es cl, none) := by
  rw [app_tab, contD_list]
  rfl
/-! ### The contract -/
abbrev WiX : Type := {x : List UInt8 × List El // (x.1 ≠ [] ∧ x.1.length ≤ 64) ∧ SmL x.2 ∧ depA x.2 ≤ 2 ^ 39}
def wiB (f : List UInt8) (l : List El) : DV × Hp := match (szR l).2 with
  | 0 => match Nat.ble (f.length + (encA l).length) 2304 with
    | true => (.tuple [.sl 0 0 1 (f ++ encA l).length (f ++ encA l).length, iN 0], ownH 5 1 (celB (f ++ encA l)))
    | false => (.tuple [.nil, iN 11], ⟨0, [], []⟩)
  | e => (.tuple [.nil, iN e], ⟨0, [], []⟩)
theorem plain_celB (bs : List UInt8) : ∀ x ∈ celB bs, plain x = true := fun x hx => by
  simp only [celB, List.mem_map] at hx
  obtain ⟨c, _, rfl⟩ := hx
  rfl
theorem wi_see (fs es : List (List DV)) (bs : List UInt8) : SeenV (.tuple [.sl 1 0 1 bs.length bs.length, iN 0]) (wH1 fs es (celB bs)) (.tuple [.sl 0 0 1 bs.length bs.length, iN 0]) (ownH 5 1 (celB bs)) :=
  seenV_forget (id := 1) (o := ⟨1, 0, 5, celB bs⟩) rfl (plain_celB bs) rfl rfl
theorem wi_ans (x : WiX) : Ans Try.prog fWi [byL x.1.1, elsD x.1.2] (wiB x.1.1 x.1.2).1 (wiB x.1.1 x.1.2).2 := by
  obtain ⟨⟨f, l⟩, ⟨h0, h64⟩, hl⟩ := x
  have q := cEn_at ⟨0, [], []⟩ l hl
  dsimp only at h0 h64 ⊢
  unfold enD at q
  unfold wiB
  cases he : (szR l).2 with
  | succ e =>
    rw [he] at q
    exact zflat_ok tab_ok mixed fun_ok cEn_ok (wiE (elR l) (by1 f) [] (e + 1)) (.cons q (.cons (bne_iff_ne.2 (by omega)) .nil))
  | zero =>
    rw [he] at q
    obtain ⟨q1, q2, q3, q4⟩ := szR_zero he
    have hle := szA_le l q3
    have hn64 := vf_len l (by decide) q1
    obtain ⟨n, hn⟩ : ∃ n, n = f.length + (encA l).length := ⟨_, rfl⟩
    have hw : IntKind.i64.wrap (((by1 f).length : Int) + ((by1 (encA l)).length : Int)) = n := by
      rw [by1_length, by1_length, show (f.length : Int) + ((encA l).length : Int) = (n : Int) by omega]
      exact wrapI (by omega)
    cases hb : Nat.ble (f.length + (encA l).length) 2304 with
    | false =>
      have hgt : ¬ f.length + (encA l).length ≤ 2304 := fun h => by rw [bleT h] at hb; cases hb
      exact zflat_ok tab_ok mixed fun_ok cEn_ok (wiL (elR l) (by1 f) (by1 (encA l)) n) (.cons q (.cons (congrArg (DV.int .i64) hw) (.cons (decide_eq_true (by omega)) .nil)))
    | true =>
      have hle2 : n ≤ 2304 := by rw [hn]; exact Nat.le_of_ble_eq_true hb
      obtain ⟨c, t, rfl⟩ := List.exists_cons_of_ne_nil h0
      have hlen : (c :: t).length = t.length + 1 := rfl
      have r2 : DV.int .i64 (IntKind.i64.wrap ((0 : Int) + ((by1 (c :: t)).length : Int))) = iN (t.length + 1) := by
        rw [by1_length, Int.zero_add, hlen]
        exact congrArg (DV.int .i64) (wrapI (by omega))
      have r3 : DV.int .i64 (IntKind.i64.wrap (((t.length + 1 : Nat) : Int) + ((by1 (encA l)).length : Int))) = iN n := by
        rw [by1_length, show ((t.length + 1 : Nat) : Int) + ((encA l).length : Int) = (n : Int) by omega]
        exact congrArg (DV.int .i64) (wrapI (by omega))
      have r4 : DV.int .i64 (IntKind.i64.wrap ((n : Int) - IntKind.i64.wrap (0 - 0))) = iN n := by
        rw [show IntKind.i64.wrap (0 - 0) = 0 from by decide, Int.sub_zero]
        exact congrArg (DV.int .i64) (wrapI (by omega))
      have z1 := nlist_length n (.int .u8 0)
      have a1 := wiA (fs := by1 (c :: t)) (es := by1 (encA l)) (cl := nlist n [.int .u8 0]) (k := 0) (n := n) c t (by omega) z1
      rw [Nat.zero_add] at a1
      have hc1 : layD (nlist n [.int .u8 0]) 0 (celB (c :: t)) = celB (c :: t) ++ (nlist n [.int .u8 0]).drop (t.length + 1) := by
        simp only [layD, List.take_zero, List.nil_append, celB_length, hlen, Nat.zero_add]
      have lc1 : (layD (nlist n [.int .u8 0]) 0 (celB (c :: t))).length = n := by
        rw [layD_length (by rw [celB_length, z1, hlen]; omega), z1]
      cases hE : encA l with
      | nil =>
        rw [hE] at hn r3 q
        have hnn : n = t.length + 1 := by rw [hn, hlen]; rfl
        have hc2 : layD (nlist n [.int .u8 0]) 0 (celB (c :: t)) = celB (c :: t) := by
          rw [hc1, List.drop_eq_nil_of_le (by rw [z1]; omega), List.append_nil]
        have a2 := wiN (fs := by1 (c :: t)) (es := by1 ([] : List UInt8)) (cl := layD (nlist n [.int .u8 0]) 0 (celB (c :: t))) (k := t.length + 1) (n := n)
        rw [hE] at a1 hw
        have z := zans_ok tab_ok mixed fun_ok cEn_ok (wi0 (elR l) (by1 (c :: t)) (by1 []) (t.length + 1) n (nlist n [.int .u8 0]) _ _) (.cons q (.cons (congrArg (DV.int .i64) hw) (.cons (decide_eq_false (by omega)) (.cons r2 (.cons (decide_eq_false (by omega)) (.cons r3 (.cons (decide_eq_false (by omega)) (.cons (decide_eq_false (by omega)) (.cons r4
          (.cons (decide_eq_true (by omega)) (.cons (wiZ _ _ (by omega) (by omega)) (.cons wiS (.cons a1 (.cons (by rw [← hnn] at a2 ⊢; exact a2) .nil))))))))))))))
        rw [hc2] at z
        rw [List.append_nil, show n = (c :: t).length from hnn] at *
        exact AnsH.see z (wi_see _ _ (c :: t))
      | cons d e =>
        rw [hE] at hn r3 q hw
        have hnn : n = t.length + 1 + (e.length + 1) := by rw [hn]; rfl
        rw [hE] at a1
        have a2 := wiA (fs := by1 (c :: t)) (es := by1 (d :: e)) (k := t.length + 1) (n := n) d e (by omega) lc1
        rw [← hnn] at a2
        have hc2 : layD (layD (nlist n [.int .u8 0]) 0 (celB (c :: t))) (t.length + 1) (celB (d :: e)) = celB ((c :: t) ++ (d :: e)) := by
          have hlc : (celB (c :: t)).length = t.length + 1 := celB_length _
          rw [hc1, layD, List.take_left' hlc, celB_length, List.drop_eq_nil_of_le (by rw [List.length_append, List.length_drop, hlc, z1, List.length_cons]; omega), List.append_nil, celB_append]
        have z := zans_ok tab_ok mixed fun_ok cEn_ok (wi1 (elR l) (by1 (c :: t)) (by1 (d :: e)) (t.length + 1) n (nlist n [.int .u8 0]) _ _) (.cons q (.cons (congrArg (DV.int .i64) hw) (.cons (decide_eq_false (by omega)) (.cons r2 (.cons (decide_eq_false (by omega)) (.cons r3 (.cons (decide_eq_false (by omega)) (.cons (decide_eq_false (by omega)) (.cons r4
          (.cons (decide_eq_true (by omega)) (.cons (wiZ _ _ (by omega) (by omega)) (.cons wiS (.cons a1 (.cons a2 .nil))))))))))))))
        rw [hc2] at z
        rw [show n = ((c :: t) ++ (d :: e)).length by rw [hnn, List.length_append]; rfl] at z
        exact AnsH.see z (wi_see _ _ ((c :: t) ++ (d :: e)))
end
end Go.Proofs.Ytejlbkhddehaiaa
