/- The reference's Delimiter and At: contracts. -/
import Derived.Test.YtmpmhkjfpeagkaaKo
namespace Go.Proofs.Ytmpmhkjfpeagkaa
open Go.RowKit

noncomputable section
abbrev i64u (v : Nat) : DV := .int .u64 (v : Int)
abbrev fDl : FuncId := 46
abbrev fAt : FuncId := 25
abbrev hDl (a b : UInt8) : Hp := ⟨5, [⟨3, 2, 5, [i8 a, i8 b]⟩, oR 0 [i8 b], oR 2 [i8 a], oR 0 [i8 a], oR 0 []], []⟩
abbrev hDm (a b q : UInt8) : Hp := ⟨7, [⟨3, 2, 5, [i8 a, i8 b, i8 q, i8 78]⟩, oR 0 [i8 q, i8 78], ⟨2, 2, 5, [i8 a, i8 b]⟩, oR 0 [i8 b], oR 2 [i8 a], oR 0 [i8 a], oR 0 []], []⟩
set_option maxRecDepth 1000000 in
theorem dlR (n v v2 : Nat) (a b q : UInt8) : zans Try.prog tab ftab cRc fDl [iN n] [(5, .w (i64u n)), (6, .c [(19, .w (i8 a)), (23, .w (i64u v)), (19, .w (i8 b)), (23, .w (i64u v2))]), (9, .q (i8 q))] =
    some (.sl 6 0 1 4 4, hDm a b q, (DV.int .u64 (IntKind.u64.wrap (n : Int)) = i64u n) :: (DV.int .u8 (IntKind.u8.wrap ((n : Int).tmod 256)) = i8 a) :: (DV.int .u64 (quoD .u64 (n : Int) 256) = i64u v) :: (DV.int .u8 (IntKind.u8.wrap ((v : Int).tmod 256)) = i8 b) :: (DV.int .u64 (quoD .u64 (v : Int) 256) = i64u v2) :: (cRc fRc [.sl 4 0 1 2 2] (hDl a b) = some (i8 q, hDl a b, none)) :: []) := by kernel_rfl
theorem lo_md (v : Nat) : DV.int .u8 (IntKind.u8.wrap ((v : Int).tmod 256)) = i8 (loB v) := by
  have e : (v : Int).tmod 256 = ((v % 256 : Nat) : Int) := rfl
  rw [e, wrapU rfl, i8, loB, UInt8.toNat_ofNat_of_lt' (Nat.mod_lt _ (by decide)), Nat.mod_eq_of_lt (show v % 256 < 2 ^ IntKind.u8.bits from Nat.mod_lt _ (by decide))]
theorem rp_quo {v : Nat} (hv : v < 2 ^ 64) : DV.int .u64 (quoD .u64 (v : Int) 256) = i64u (v / 256) := by
  unfold quoD
  have e : (v : Int).tdiv 256 = ((v / 256 : Nat) : Int) := rfl
  rw [e, wrapU rfl, Nat.mod_eq_of_lt (show v / 256 < 2 ^ IntKind.u64.bits from Nat.lt_of_le_of_lt (Nat.div_le_self _ _) hv)]
abbrev N64 : Type := {n : Nat // n < 65536}
theorem dl_ans (x : N64) : Ans Try.prog fDl [iN x.1] (byL (dlm x.1)) ⟨0, [], []⟩ := by
  obtain ⟨n, hn⟩ := x
  have hb : loB (n / 256) = hiB n := rfl
  have q : cRc fRc [.sl 4 0 1 2 2] (hDl (loB n) (hiB n)) = some (i8 (c8 (loB n) (hiB n)), hDl (loB n) (hiB n), none) :=
    cRc_at ⟨[loB n, hiB n], by show 2 < 2 ^ 30; decide⟩ (frz_bytes (bs := [loB n, hiB n]) (id := 4) (o := ⟨3, 2, 5, [i8 (loB n), i8 (hiB n)]⟩) rfl fun i x hx => by
      match i, hx with
      | 0, hx => cases hx; rfl
      | 1, hx => cases hx; rfl)
  have z := zans_ok tab_ok mixed fun_ok cRc_ok (dlR n (n / 256) (n / 256 / 256) (loB n) (hiB n) (c8 (loB n) (hiB n))) (.cons (by rw [wrapU rfl, Nat.mod_eq_of_lt (show n < 2 ^ IntKind.u64.bits from Nat.lt_of_lt_of_le hn (by decide))]) (.cons (lo_md n) (.cons (rp_quo (Nat.lt_of_lt_of_le hn (by decide))) (.cons (by rw [← hb]; exact lo_md _) (.cons (rp_quo (Nat.lt_of_le_of_lt (Nat.div_le_self _ _) (Nat.lt_of_lt_of_le hn (by decide)))) (.cons q .nil))))))
  exact AnsH.frz z rfl (frzD_bytes (bs := dlm n) (o := ⟨3, 2, 5, celB (dlm n)⟩) rfl rfl (by show (3 : Nat) ≠ 2; decide) fun i c hc => celB_get hc)
def cDl : ConF := liftC (eqC fDl (fun x : N64 => [iN x.1]) fun x => (byL (dlm x.1), ⟨0, [], []⟩))
theorem cDl_ok : ConOk Try.prog cDl := liftC_ok (eqC_ok dl_ans fun _ => rfl)
theorem iN_inj {a b : Nat} (h : iN a = iN b) : a = b := by
  unfold iN at h
  injection h with _ h
  omega
theorem cDl_at (hp : Hp) (n : Nat) (h : n < 65536) : cDl fDl [iN n] hp = some (byL (dlm n), hp, none) :=
  lift_at (A := fun x : N64 => [iN x.1]) (D := fun x => byL (dlm x.1)) (fun x y hxy => by
    simp only [List.cons.injEq, and_true] at hxy
    rw [iN_inj hxy]) hp ⟨n, h⟩ rfl rfl
/-! ### At -/
abbrev atA (xs : List (List DV)) (i e i1 n : Nat) (a b : UInt8) (t : List Prop) : List Prop := (DV.int .i64 (IntKind.i64.wrap ((i : Int) + 4)) = iN e) :: (decide ((e : Int) > (xs.length : Int)) = false) :: (idxOk (i : Int) xs.length = true) :: (nth xs ((i : Int).toNat) = some [i8 a]) :: (DV.int .i64 (IntKind.i64.wrap ((i : Int) + 1)) = iN i1) :: (idxOk (i1 : Int) xs.length = true) :: (nth xs ((i1 : Int).toNat) = some [i8 b]) ::
  (DV.int .i64 (IntKind.i64.wrap (IntKind.i64.wrap (a.toNat : Int) + IntKind.i64.wrap (256 * IntKind.i64.wrap (b.toNat : Int)))) = iN n) :: t
abbrev atP (e i1 n : Nat) (a b : UInt8) (t : Yath) : Yath := (8, .w (iN e)) :: (11, .b false) :: (14, .n (.fptr [i8 a])) :: (19, .w (iN i1)) :: (20, .n (.fptr [i8 b])) :: (24, .w (iN n)) :: t
section
variable (xs ps ds : List (List DV)) (i e i1 n q : Nat) (a b : UInt8) (s1 s2 : ByteArray) (v : Bool)
set_option maxRecDepth 1000000 in
theorem at1 : zflat (zans Try.prog tab ftab cDl fAt [.list 1 xs, iN i] (atP e i1 n a b [(27, .b false)])) = some (.tuple [iN n, .bool false], atA xs i e i1 n a b ((decide ((n : Int) ≥ 1) = false) :: [])) := by kernel_rfl
set_option maxRecDepth 1000000 in
theorem at2 : zflat (zans Try.prog tab ftab cDl fAt [.list 1 xs, iN i] (atP e i1 n a b [(27, .b true), (30, .b false)])) = some (.tuple [iN n, .bool false], atA xs i e i1 n a b ((decide ((n : Int) ≥ 1) = true) :: (decide ((n : Int) ≤ 2400) = false) :: [])) := by kernel_rfl
abbrev atB (t : List Prop) : List Prop := atA xs i e i1 n a b ((decide ((n : Int) ≥ 1) = true) :: (decide ((n : Int) ≤ 2400) = true) :: (DV.int .i64 (IntKind.i64.wrap ((i : Int) + 4)) = iN e) :: (sliceD tab h00 bTI (.list 1 xs) (some (iN i)) (some (iN e)) none = some (.list 1 ps)) :: (convD tab h00 22 9 (.list 1 ps) = some (.str s1, h00, none)) :: (cDl fDl [iN n] h00 = some (.list 1 ds, h00, none)) :: (convD tab h00 22 9 (.list 1 ds) = some (.str s2, h00, none)) :: t)
abbrev atQ (t : Yath) : Yath := atP e i1 n a b ((27, .b true) :: (30, .b true) :: (36, .w (iN e)) :: (37, .n (.list 1 ps)) :: (38, .h (.str s1) h00 none) :: (40, .q (.list 1 ds)) :: (41, .h (.str s2) h00 none) :: t)
set_option maxRecDepth 1000000 in
theorem at3 : zflat (zans Try.prog tab ftab cDl fAt [.list 1 xs, iN i] (atQ ps ds e i1 n a b s1 s2 [(42, .b false)])) = some (.tuple [iN n, .bool false], atB xs ps ds i e i1 n a b s1 s2 ((eqBytes s1.data.toList s2.data.toList = false) :: [])) := by kernel_rfl
set_option maxRecDepth 1000000 in
theorem at4 : zflat (zans Try.prog tab ftab cDl fAt [.list 1 xs, iN i] (atQ ps ds e i1 n a b s1 s2 [(42, .b true), (46, .w (iN e)), (48, .w (iN q)), (51, .b v)])) = some (.tuple [iN n, .bool v], atB xs ps ds i e i1 n a b s1 s2 ((eqBytes s1.data.toList s2.data.toList = true) :: (DV.int .i64 (IntKind.i64.wrap ((i : Int) + 4)) = iN e) :: (DV.int .i64 (IntKind.i64.wrap ((e : Int) + (n : Int))) = iN q) :: (decide ((q : Int) ≤ (xs.length : Int)) = v) :: [])) := by kernel_rfl
end
/-- the number that a delimiter names -/
def annN : List UInt8 → Nat
  | a :: b :: _ => a.toNat + 256 * b.toNat
  | _ => 0
abbrev AtX : Type := {x : List UInt8 × Nat // x.2 + 4 ≤ x.1.length ∧ x.1.length < 2 ^ 30}
theorem at_ans (x : AtX) : Ans Try.prog fAt [byL x.1.1, iN x.1.2] (.tuple [iN (annN (x.1.1.drop x.1.2)), .bool (decide (ann (x.1.1.drop x.1.2) ≠ 0))]) ⟨0, [], []⟩ := by
  obtain ⟨⟨l, i⟩, h4, h30⟩ := x
  dsimp only at h4 h30 ⊢
  have hll := by1_length l
  have hld : (l.drop i).length = l.length - i := List.length_drop
  obtain ⟨a, b, c, d, r, hr⟩ : ∃ a b c d r, l.drop i = a :: b :: c :: d :: r := by
    match hl : l.drop i, (show 4 ≤ (l.drop i).length by omega) with
    | a :: b :: c :: d :: r, _ => exact ⟨a, b, c, d, r, rfl⟩
  have g0 : l[i]? = some a := by
    have : (l.drop i)[0]? = some a := by rw [hr]; rfl
    rwa [List.getElem?_drop] at this
  have g1 : l[i + 1]? = some b := by
    have : (l.drop i)[1]? = some b := by rw [hr]; rfl
    rwa [List.getElem?_drop] at this
  have hrl : r.length + 4 = l.length - i := by
    rw [← hld, hr]
    simp
  have ha := UInt8.toNat_lt a
  have hb := UInt8.toNat_lt b
  obtain ⟨n, hN⟩ : ∃ n, n = a.toNat + 256 * b.toNat := ⟨_, rfl⟩
  have hps : (l.drop i).take (i + 4 - i) = [a, b, c, d] := by rw [hr, Nat.add_sub_cancel_left]; rfl
  rw [hr]
  show Ans _ _ _ (.tuple [iN (a.toNat + 256 * b.toNat), _]) _
  have first : ∀ {t : List Prop}, AskedP t → AskedP (atA (by1 l) i (i + 4) (i + 1) n a b t) := fun ht => .cons (congrArg (DV.int .i64) (wrN (n := i + 4) (by omega) (by omega))) (.cons (decide_eq_false (by omega)) (.cons (idxOk_lt (by omega)) (.cons (by1_nth g0) (.cons (congrArg (DV.int .i64) (wrapI (n := i + 1) (by omega))) (.cons (idxOk_lt (by omega)) (.cons (by1_nth g1) (.cons (congrArg (DV.int .i64) (wrN (by omega) (by
    rw [wrN (n := a.toNat) (by omega) rfl, wrN (n := b.toNat) (by omega) rfl, wrN (n := 256 * b.toNat) (by omega) (by omega)]
    omega))) ht)))))))
  rw [← hN]
  have hlh : loB n = a ∧ hiB n = b := by
    have e := lohi (n := n) (by omega)
    have e1 := UInt8.toNat_lt (loB n)
    have e2 := UInt8.toNat_lt (hiB n)
    exact ⟨UInt8.toNat_inj.1 (by omega), UInt8.toNat_inj.1 (by omega)⟩
  have hann : ann (a :: b :: c :: d :: r) = match decide (1 ≤ n ∧ n ≤ 2400 ∧ n ≤ r.length ∧ c = c8 a b ∧ d = 78) with
    | true => n
    | false => 0 := by
    unfold ann
    dsimp only
    rw [hN]
    rfl
  by_cases h1 : n < 1
  · have e0 : ann (a :: b :: c :: d :: r) = 0 := by rw [hann, decide_eq_false fun h => Nat.not_le.2 h1 h.1]
    rw [e0]
    exact zflat_ok tab_ok mixed fun_ok cDl_ok (at1 (by1 l) i (i + 4) (i + 1) n a b) (first (.cons (decide_eq_false (by omega)) .nil))
  have h1 : 1 ≤ n := by omega
  have q1 : decide ((n : Int) ≥ 1) = true := decide_eq_true (by omega)
  by_cases h2 : 2400 < n
  · have e0 : ann (a :: b :: c :: d :: r) = 0 := by rw [hann, decide_eq_false fun h => Nat.not_le.2 h2 h.2.1]
    rw [e0]
    exact zflat_ok tab_ok mixed fun_ok cDl_ok (at2 (by1 l) i (i + 4) (i + 1) n a b) (first (.cons q1 (.cons (decide_eq_false (by omega)) .nil)))
  have h2 : n ≤ 2400 := by omega
  have q2 : decide ((n : Int) ≤ 2400) = true := decide_eq_true (by omega)
  have hs : sliceD tab h00 bTI (.list 1 (by1 l)) (some (iN i)) (some (iN (i + 4))) none = some (.list 1 (by1 [a, b, c, d])) := by
    rw [slice_mid (by omega) (by omega), ← by1_drop, ← by1_take, hps]
  have second : ∀ {t : List Prop}, AskedP t → AskedP (atB (by1 l) (by1 [a, b, c, d]) (by1 (dlm n)) i (i + 4) (i + 1) n a b ⟨[a, b, c, d].toArray⟩ ⟨(dlm n).toArray⟩ t) := fun ht => first (.cons q1 (.cons q2 (.cons (congrArg (DV.int .i64) (wrN (n := i + 4) (by omega) (by omega))) (.cons hs (.cons (conv_str (.inl rfl)) (.cons (cDl_at h00 n (by omega)) (.cons (conv_str (.inl rfl)) ht)))))))
  have heq : eqBytes [a, b, c, d] (dlm n) = decide (c = c8 a b ∧ d = 78) := by
    rw [eqBytes_iff, dlm, hlh.1, hlh.2]
    simp
  by_cases h5 : ¬ (c = c8 a b ∧ d = 78)
  · have e0 : ann (a :: b :: c :: d :: r) = 0 := by rw [hann, decide_eq_false fun h => h5 h.2.2.2]
    rw [e0]
    exact zflat_ok tab_ok mixed fun_ok cDl_ok (at3 (by1 l) (by1 [a, b, c, d]) (by1 (dlm n)) i (i + 4) (i + 1) n a b ⟨[a, b, c, d].toArray⟩ ⟨(dlm n).toArray⟩) (second (.cons (by rw [show (⟨[a, b, c, d].toArray⟩ : ByteArray).data.toList = [a, b, c, d] from rfl, show (⟨(dlm n).toArray⟩ : ByteArray).data.toList = dlm n from rfl, heq]; exact decide_eq_false h5) .nil))
  have h5 := Classical.not_not.1 h5
  have hv : decide (((i + 4 + n : Nat) : Int) ≤ ((by1 l).length : Int)) = decide (ann (a :: b :: c :: d :: r) ≠ 0) := by
    by_cases h3 : n ≤ r.length
    · have e0 : ann (a :: b :: c :: d :: r) = n := by rw [hann, decide_eq_true ⟨h1, h2, h3, h5⟩]
      rw [e0, decide_eq_true (by omega), decide_eq_true (by omega)]
    · have e0 : ann (a :: b :: c :: d :: r) = 0 := by rw [hann, decide_eq_false fun h => h3 h.2.2.1]
      rw [e0, decide_eq_false (by omega), decide_eq_false (by omega)]
  exact zflat_ok tab_ok mixed fun_ok cDl_ok (at4 (by1 l) (by1 [a, b, c, d]) (by1 (dlm n)) i (i + 4) (i + 1) n (i + 4 + n) a b ⟨[a, b, c, d].toArray⟩ ⟨(dlm n).toArray⟩ _)
    (second (.cons (by rw [show (⟨[a, b, c, d].toArray⟩ : ByteArray).data.toList = [a, b, c, d] from rfl, show (⟨(dlm n).toArray⟩ : ByteArray).data.toList = dlm n from rfl, heq]; exact decide_eq_true h5) (.cons (congrArg (DV.int .i64) (wrN (n := i + 4) (by omega) (by omega))) (.cons (congrArg (DV.int .i64) (wrN (n := i + 4 + n) (by omega) (by omega))) (.cons hv .nil)))))
def cAt : ConF := liftC (eqC fAt (fun x : AtX => [byL x.1.1, iN x.1.2]) fun x => (.tuple [iN (annN (x.1.1.drop x.1.2)), .bool (decide (ann (x.1.1.drop x.1.2) ≠ 0))], ⟨0, [], []⟩))
theorem cAt_ok : ConOk Try.prog cAt := liftC_ok (eqC_ok at_ans fun _ => rfl)
theorem cAt_at (hp : Hp) (l : List UInt8) (i : Nat) (h : i + 4 ≤ l.length ∧ l.length < 2 ^ 30) : cAt fAt [byL l, iN i] hp = some (.tuple [iN (annN (l.drop i)), .bool (decide (ann (l.drop i) ≠ 0))], hp, none) :=
  lift_at (A := fun x : AtX => [byL x.1.1, iN x.1.2]) (D := fun x => .tuple [iN (annN (x.1.1.drop x.1.2)), .bool (decide (ann (x.1.1.drop x.1.2) ≠ 0))]) (fun x y hxy => by
    simp only [List.cons.injEq, and_true] at hxy
    rw [byL_inj' hxy.1, iN_inj hxy.2]) hp ⟨(l, i), h⟩ rfl rfl
end
end Go.Proofs.Ytmpmhkjfpeagkaa
