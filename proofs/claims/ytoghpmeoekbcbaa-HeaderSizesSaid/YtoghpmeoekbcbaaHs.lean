/- HeaderSizes, over the data of its arguments. -/
import Derived.Test.YtoghpmeoekbcbaaEp
import Derived.Test.YtoghpmeoekbcbaaHe
namespace Go.Proofs.Ytoghpmeoekbcbaa.headerSizes
open Go.RowKit

noncomputable section
abbrev bTI : TI := ⟨.slice 5, 1, 24, [.nil], true⟩
theorem tab_u8 : tab 5 = some u8TI := by kernel_rfl
/-! ### Bytes as strings -/
theorem bytesOf_cel (bs : List UInt8) : bytesOf (celB bs) = some bs := by
  induction bs with
  | nil => rfl
  | cons b bs ih =>
    show (match bytesOf (celB bs) with | some l => some (UInt8.ofNat ((b.toNat : Int).toNat) :: l) | none => none) = _
    rw [ih, Int.toNat_natCast, UInt8.ofNat_toNat]
theorem eqBytes_iff (a b : List UInt8) : eqBytes a b = decide (a = b) := by
  induction a generalizing b with
  | nil => cases b <;> simp [eqBytes]
  | cons x a ih =>
    cases b with
    | nil => simp [eqBytes]
    | cons y b =>
      simp only [eqBytes, ih, List.cons.injEq]
      by_cases h : x = y
      · subst h
        rw [beqT rfl]
        simp
      · have : x.toNat ≠ y.toNat := fun e => h (UInt8.toNat_inj.1 e)
        rw [beqF this]
        simp [h]
theorem conv_str {hp : Hp} {d : DV} {bs : List UInt8} (h : Sh hp d bs) : convD tab hp 26 9 d = some (.str ⟨bs.toArray⟩, hp, none) := by
  have hc := h.cont
  have t1 : tab 26 = some bTI := by kernel_rfl
  have t2 : tab 9 = some ⟨.str, 1, 16, [.str .empty], true⟩ := by kernel_rfl
  rcases h with rfl | ⟨id, off, o, c, rfl, h1, h2⟩
  · unfold byL at hc ⊢
    simp only [convD, t1, t2, tab_u8, hc, bytesOf_cel]
  · simp only [convD, t1, t2, tab_u8, hc, bytesOf_cel]

abbrev F0 (h : Hd) (xs : List (List DV)) : Ob := ⟨0, 0, 28, hcs h ++ [.list 1 xs]⟩
abbrev R1 (B : List DV) : Ob := ⟨1, 0, 5, B⟩
abbrev HA (h : Hd) (xs : List (List DV)) : Hp := ⟨1, [F0 h xs], []⟩
abbrev HB (h : Hd) (xs : List (List DV)) (B : List DV) : Hp := ⟨2, [R1 B, F0 h xs], []⟩
abbrev HC (h : Hd) (xs : List (List DV)) (B B2 : List DV) : Hp := ⟨3, [R1 B2, R1 B, F0 h xs], []⟩
def hp2 (h : Hd) (xs : List (List DV)) (B B2 : List DV) : Bool → Hp
  | true => HC h xs B B2
  | false => HB h xs B
def cL : ConF := orK headerEnds.cAl (orK cSz cEnc)
theorem cL_ok : ConOk Try.prog cL := orK_ok headerEnds.cAl_ok (orK_ok cSz_ok cEnc_ok)
abbrev N8 : DV := .tuple [.nil, .int .i64 8]
set_option maxRecDepth 1000000 in
theorem far1 (h : Hd) (xs ys : List (List DV)) (n : Int) : zflat (zans Try.prog tab ftab cL 8 [frm h (.list 1 xs), .list 1 ys, .int .i64 n] [(21, .b true)]) = some (.bool true, [decide ((xs.length : Int) > 2304) = true]) := by kernel_rfl
set_option maxRecDepth 1000000 in
theorem far2 (h : Hd) (xs ys : List (List DV)) (n : Int) : zflat (zans Try.prog tab ftab cL 8 [frm h (.list 1 xs), .list 1 ys, .int .i64 n] [(21, .b false), (26, .b true)]) = some (.bool true, [decide ((xs.length : Int) > 2304) = false, decide ((ys.length : Int) > 2304) = true]) := by kernel_rfl
set_option maxRecDepth 1000000 in
theorem bad (h : Hd) (xs ys : List (List DV)) (n : Int) (z : Bool) : zflat (zans Try.prog tab ftab cL 8 [frm h (.list 1 xs), .list 1 ys, .int .i64 n] [(21, .b false), (26, .b false), (39, .q N8), (44, .b (!z)), (52, .b z)]) =
    some (.bool true, [decide ((xs.length : Int) > 2304) = false, decide ((ys.length : Int) > 2304) = false, cL 11 [frm h (.list 1 xs)] (HA h xs) = some (N8, HA h xs, none), (chk h != 0) = !z, (chk h == 0) = z]) := by cases z <;> kernel_rfl
def pT (two : Bool) (M : Nat) (h : Hd) (xs : List (List DV)) (B B2 : List DV) : Yath := match two with
  | true => [(62, .r (.tuple [.sl 2 0 1 M M, .int .i64 0]) (HC h xs B B2))]
  | false => [(62, .q N8)]
def cT (two : Bool) (M : Nat) (h : Hd) (xs ys : List (List DV)) (B B2 : List DV) : List Prop := match two with
  | true => [cL 11 [frm h (.list 1 ys)] (HB h xs B) = some (.tuple [.sl 2 0 1 M M, .int .i64 0], HC h xs B B2, none)]
  | false => [cL 11 [frm h (.list 1 ys)] (HB h xs B) = some (N8, HB h xs B, none)]
def pU (two : Bool) (hp : Hp) (d3 d4 : DV) (s3 s4 : ByteArray) : Yath := match two with
  | true => [(102, .b false), (105, .n d3), (106, .h (.str s3) hp none), (109, .n d4), (110, .h (.str s4) hp none), (111, .b false)]
  | false => []
def cU (two : Bool) (L M : Nat) (h : Hd) (ys : List (List DV)) (hp : Hp) (d3 d4 : DV) (s3 s4 : ByteArray) : List Prop := match two with
  | true => [((M : Int) != IntKind.i64.wrap (IntKind.i64.wrap (siz h + (ys.length : Int)) + 4)) = false, sliceD tab hp bTI (.sl 2 0 1 M M) none (some (.int .i64 (siz h))) none = some d3, convD tab hp 26 9 d3 = some (.str s3, hp, none),
      sliceD tab hp bTI (.sl 1 0 1 L L) none (some (.int .i64 (siz h))) none = some d4, convD tab hp 26 9 d4 = some (.str s4, hp, none), (!(eqBytes s3.data.toList s4.data.toList)) = false]
  | false => []
def pV (e1 e2 : Bool) (m L : Nat) : Yath := match e1, e2 with
  | true, _ => [(116, .b true)]
  | false, true => [(116, .b false), (118, .b true)]
  | false, false => [(116, .b false), (118, .b false), (124, .n (.sl 1 0 1 m L)), (125, .c [(11, .c [(5, .c [(13, .b true)])])])]
def cW (e1 e2 : Bool) (m L : Nat) (n : Int) (hp : Hp) : List Prop := match e1, e2 with
  | true, _ => [decide (n < 0) = true]
  | false, true => [decide (n < 0) = false, decide (n ≥ 4) = true]
  | false, false => [decide (n < 0) = false, decide (n ≥ 4) = false, sliceD tab hp bTI (.sl 1 0 1 L L) none (some (.int .i64 n)) none = some (.sl 1 0 1 m L), decide ((m : Int) < 4) = true]
set_option maxRecDepth 1000000 in
theorem main (h : Hd) (xs ys : List (List DV)) (n : Int) (L M S nb cb m m3 m4 : Nat) (B B2 : List DV) (s1 s2 s3 s4 : ByteArray) (two e1 e2 : Bool) :
    zflat (zans Try.prog tab ftab cL 8 [frm h (.list 1 xs), .list 1 ys, .int .i64 n] ([(21, .b false), (26, .b false), (39, .r (.tuple [.sl 1 0 1 L L, .int .i64 0]) (HB h xs B)), (44, .b false)] ++ (pT two M h xs B B2 ++ ([(67, .b false), (78, .b false), (84, .n (.sl 1 S 1 nb cb)), (85, .h (.str s1) (hp2 h xs B B2 two) none), (88, .h (.str s2) (hp2 h xs B B2 two) none), (89, .b false)] ++
      (pU two (hp2 h xs B B2 two) (.sl 2 0 1 m3 M) (.sl 1 0 1 m4 L) s3 s4 ++ pV e1 e2 m L))))) =
    some (.bool true, [decide ((xs.length : Int) > 2304) = false, decide ((ys.length : Int) > 2304) = false, cL 11 [frm h (.list 1 xs)] (HA h xs) = some (.tuple [.sl 1 0 1 L L, .int .i64 0], HB h xs B, none), (chk h != 0) = false] ++
      (cT two M h xs ys B B2 ++ ([decide (siz h < 0) = false, ((L : Int) != IntKind.i64.wrap (IntKind.i64.wrap (siz h + (xs.length : Int)) + 4)) = false, sliceD tab (hp2 h xs B B2 two) bTI (.sl 1 0 1 L L) (some (.int .i64 (siz h))) (some (.int .i64 (IntKind.i64.wrap ((L : Int) - 4)))) none = some (.sl 1 S 1 nb cb),
        convD tab (hp2 h xs B B2 two) 26 9 (.sl 1 S 1 nb cb) = some (.str s1, hp2 h xs B B2 two, none), convD tab (hp2 h xs B B2 two) 26 9 (.list 1 xs) = some (.str s2, hp2 h xs B B2 two, none), (!(eqBytes s1.data.toList s2.data.toList)) = false] ++
        (cU two L M h ys (hp2 h xs B B2 two) (.sl 2 0 1 m3 M) (.sl 1 0 1 m4 L) s3 s4 ++ cW e1 e2 m L n (hp2 h xs B B2 two))))) := by
  cases two <;> cases e1 <;> cases e2 <;> kernel_rfl
theorem sl_at {hp : Hp} {id L lo hi : Nat} (h1 : lo ≤ hi) (h2 : hi ≤ L) : sliceD tab hp bTI (.sl id 0 1 L L) (some (iN lo)) (some (iN hi)) none = some (.sl id lo 1 (hi - lo) (L - lo)) := by
  have e1 : decide ((0 : Int) ≤ (lo : Int)) = true := decide_eq_true (by omega)
  have e2 : decide ((0 : Int) ≤ (hi : Int)) = true := decide_eq_true (by omega)
  have e3 : Nat.ble lo hi = true := bleT h1
  have e4 : Nat.ble hi L = true := bleT h2
  have e5 : Nat.ble L L = true := bleT (Nat.le_refl _)
  simp only [sliceD, tab_u8, optI, iN, e1, e2, Int.toNat_natCast, e3, e4, e5, maxOk, Bool.and_self, Nat.zero_add, Nat.mul_one, show Nat.beq 1 1 = true from rfl]
theorem sl_to {hp : Hp} {id L hi : Nat} (h2 : hi ≤ L) : sliceD tab hp bTI (.sl id 0 1 L L) none (some (iN hi)) none = some (.sl id 0 1 hi L) := by
  have e2 : decide ((0 : Int) ≤ (hi : Int)) = true := decide_eq_true (by omega)
  have e3 : Nat.ble 0 hi = true := bleT (Nat.zero_le _)
  have e4 : Nat.ble hi L = true := bleT h2
  have e5 : Nat.ble L L = true := bleT (Nat.le_refl _)
  simp only [sliceD, tab_u8, optI, iN, e2, Int.toNat_natCast, e3, e4, e5, maxOk, Bool.and_self, Nat.zero_add, Nat.zero_mul, Nat.sub_zero, show Nat.beq 1 1 = true from rfl]
theorem fix_other {f0 f : FuncId} {d : DV} {args : List DV} {hp : Hp} (h : Nat.beq f f0 = false) : fixC f0 d f args hp = none := by
  unfold fixC
  rw [h]
theorem cL_enc {hp : Hp} (h : Hd) (ho : HdOk h) (b : Bs) : cL 11 [frm h (byL b.1)] hp = some (sh3 hp.n (encB h b.1).1, layH hp (encB h b.1).2, none) :=
  orK_right (fix_other (by kernel_rfl)) (orK_right (lift_com_other (by kernel_rfl)) (cEnc_at h ho b))
theorem withL_len (bs : List UInt8) : (withL bs).length = bs.length + 4 := by
  unfold withL
  rw [List.length_append]
  rfl
/-- a part of what withL makes -/
theorem sh_mid {hp : Hp} {id : Nat} {a b : List UInt8} (hg : hp.get id = some (R1 (celB (withL (a ++ b))))) (c : Nat) : Sh hp (.sl id a.length 1 b.length c) b := by
  refine .inr ⟨id, a.length, _, c, rfl, hg, fun i x hx => ?_⟩
  have hi := (List.getElem?_eq_some_iff.1 hx).1
  unfold withL
  rw [celB, List.getElem?_map, List.append_assoc, List.getElem?_append_right (by omega), show a.length + i - a.length = i by omega, List.getElem?_append_left hi, hx]
  rfl
theorem sh_front {hp : Hp} {id : Nat} {a b : List UInt8} (hg : hp.get id = some (R1 (celB (withL (a ++ b))))) (c : Nat) : Sh hp (.sl id 0 1 a.length c) a := by
  refine .inr ⟨id, 0, _, c, rfl, hg, fun i x hx => ?_⟩
  have hi := (List.getElem?_eq_some_iff.1 hx).1
  unfold withL
  rw [celB, List.getElem?_map, List.append_assoc, Nat.zero_add, List.getElem?_append_left hi, hx]
  rfl
theorem eq_self (l : List UInt8) : (!(eqBytes l l)) = false := by
  rw [eqBytes_iff, decide_eq_true rfl]
  rfl
theorem ok_of {h : Hd} {bs : List UInt8} (e : okF h bs = true) : okH h = true := by
  unfold okF at e
  rw [Bool.and_eq_true] at e
  exact e.1
theorem all (h : Hd) (ho : HdOk h) (b c : Bs) (n : Int) : Ans Try.prog 8 [frm h (byL b.1), byL c.1, .int .i64 n] (.bool true) ⟨0, [], []⟩ := by
  obtain ⟨bs, hb⟩ := b
  obtain ⟨cs, hc⟩ := c
  have lb := by1_length bs
  have lc := by1_length cs
  by_cases hb1 : bs.length > 2304
  · exact zflat_ok tab_ok mixed fun_ok cL_ok (far1 h (by1 bs) (by1 cs) n) (.cons (decide_eq_true (by omega)) .nil)
  by_cases hc1 : cs.length > 2304
  · exact zflat_ok tab_ok mixed fun_ok cL_ok (far2 h (by1 bs) (by1 cs) n) (.cons (decide_eq_false (by omega)) (.cons (decide_eq_true (by omega)) .nil))
  have n1 : decide (((by1 bs).length : Int) > 2304) = false := decide_eq_false (by omega)
  have n2 : decide (((by1 cs).length : Int) > 2304) = false := decide_eq_false (by omega)
  have q1 := fun hp => cL_enc (hp := hp) h ho ⟨bs, hb⟩
  have q2 := fun hp => cL_enc (hp := hp) h ho ⟨cs, hc⟩
  have hbl : decide (bs.length > 2304) = false := decide_eq_false hb1
  have hcl : decide (cs.length > 2304) = false := decide_eq_false hc1
  cases hok : okF h bs with
  | false =>
    have e : encB h bs = (.tuple [.nil, .int .i64 8], ⟨0, [], []⟩) := by unfold encB; rw [hok]
    have k := q1 (HA h (by1 bs))
    simp only [e] at k
    refine zflat_ok tab_ok mixed fun_ok cL_ok (bad h (by1 bs) (by1 cs) n (okH h)) (.cons n1 (.cons n2 (.cons k (.cons ?_ (.cons ?_ .nil)))))
    · unfold chk; cases okH h <;> rfl
    · unfold chk; cases okH h <;> rfl
  | true =>
    have hh := ok_of hok
    have hK : (layOf h).2 = true := by
      unfold okH at hh
      rw [Bool.and_eq_true] at hh
      exact hh.1
    have hg := lay_good h hK
    have hsz : siz h = ((hbB h (layOf h).1).length : Int) := by
      unfold siz
      rw [hh, hbB_length h hg]
      rfl
    have hck : (chk h != 0) = false := by unfold chk; rw [hh]; rfl
    obtain ⟨z0, z1⟩ := szL_le hg
    have hS := hbB_length h hg
    have e : encB h bs = (.tuple [.sl 0 0 1 (withL (hbB h (layOf h).1 ++ bs)).length (withL (hbB h (layOf h).1 ++ bs)).length, .int .i64 0], ownH 5 1 (celB (withL (hbB h (layOf h).1 ++ bs)))) := by
      unfold encB
      rw [hok]
      simp only [hbl]
    generalize hq : hbB h (layOf h).1 = q at *
    have hL := withL_len (q ++ bs)
    rw [List.length_append] at hL
    have hM := withL_len (q ++ cs)
    rw [List.length_append] at hM
    have w1 := q1 (HA h (by1 bs))
    simp only [e] at w1
    -- what is asked of the law's first half
    have a1 : ((((withL (q ++ bs)).length : Int) != IntKind.i64.wrap (IntKind.i64.wrap (siz h + ((by1 bs).length : Int)) + 4)) : Bool) = false := by
      rw [hsz, lb, show ((q.length : Int) + (bs.length : Int)) = ((q.length + bs.length : Nat) : Int) by omega, wrapI (by omega), show (((q.length + bs.length : Nat) : Int) + 4) = ((q.length + bs.length + 4 : Nat) : Int) by omega, wrapI (by omega), hL]
      simp
    have a2 : decide (siz h < 0) = false := decide_eq_false (by omega)
    have a3 : ∀ hp : Hp, sliceD tab hp bTI (.sl 1 0 1 (withL (q ++ bs)).length (withL (q ++ bs)).length) (some (.int .i64 (siz h))) (some (.int .i64 (IntKind.i64.wrap (((withL (q ++ bs)).length : Int) - 4)))) none = some (.sl 1 q.length 1 bs.length ((withL (q ++ bs)).length - q.length)) := fun hp => by
      have := sl_at (hp := hp) (id := 1) (L := (withL (q ++ bs)).length) (lo := q.length) (hi := q.length + bs.length) (by omega) (by omega)
      rw [show (((withL (q ++ bs)).length : Int) - 4) = ((q.length + bs.length : Nat) : Int) by omega, wrapI (by omega), hsz]
      rw [show q.length + bs.length - q.length = bs.length by omega] at this
      exact this
    have last : ∀ hp : Hp, AskedP (cW (decide (n < 0)) (decide (n ≥ 4)) n.toNat (withL (q ++ bs)).length n hp) := fun hp => by
      cases d1 : decide (n < 0) with
      | true => exact .cons d1 .nil
      | false =>
        cases d2 : decide (n ≥ 4) with
        | true => exact .cons d1 (.cons d2 .nil)
        | false =>
          have := of_decide_eq_false d1
          have := of_decide_eq_false d2
          refine .cons d1 (.cons d2 (.cons ?_ (.cons (decide_eq_true (by omega)) .nil)))
          have k := sl_to (hp := hp) (id := 1) (L := (withL (q ++ bs)).length) (hi := n.toNat) (by omega)
          unfold iN at k
          rw [Int.toNat_of_nonneg (by omega)] at k
          exact k
    cases hok2 : okF h cs with
    | false =>
      have e2 : encB h cs = (.tuple [.nil, .int .i64 8], ⟨0, [], []⟩) := by unfold encB; rw [hok2]
      have w2 := q2 (HB h (by1 bs) (celB (withL (q ++ bs))))
      simp only [e2] at w2
      refine zflat_ok tab_ok mixed fun_ok cL_ok (main h (by1 bs) (by1 cs) n (withL (q ++ bs)).length 0 q.length bs.length ((withL (q ++ bs)).length - q.length) n.toNat 0 0 (celB (withL (q ++ bs))) [] ⟨bs.toArray⟩ ⟨bs.toArray⟩ .empty .empty false (decide (n < 0)) (decide (n ≥ 4))) ?_
      refine askApp (.cons n1 (.cons n2 (.cons w1 (.cons hck .nil)))) (askApp (.cons w2 .nil) (askApp (.cons a2 (.cons a1 (.cons (a3 _) (.cons (conv_str (sh_mid rfl _)) (.cons (conv_str (.inl rfl)) (.cons (eq_self _) .nil)))))) (askApp (fun _ hx => by cases hx) (last _))))
    | true =>
      have e2 : encB h cs = (.tuple [.sl 0 0 1 (withL (q ++ cs)).length (withL (q ++ cs)).length, .int .i64 0], ownH 5 1 (celB (withL (q ++ cs)))) := by
        unfold encB
        rw [hok2]
        simp only [hcl, hq]
      have w2 := q2 (HB h (by1 bs) (celB (withL (q ++ bs))))
      simp only [e2] at w2
      have b1 : ((((withL (q ++ cs)).length : Int) != IntKind.i64.wrap (IntKind.i64.wrap (siz h + ((by1 cs).length : Int)) + 4)) : Bool) = false := by
        rw [hsz, lc, show ((q.length : Int) + (cs.length : Int)) = ((q.length + cs.length : Nat) : Int) by omega, wrapI (by omega), show (((q.length + cs.length : Nat) : Int) + 4) = ((q.length + cs.length + 4 : Nat) : Int) by omega, wrapI (by omega), hM]
        simp
      have b2 : ∀ (hp : Hp) (id L : Nat), q.length ≤ L → sliceD tab hp bTI (.sl id 0 1 L L) none (some (.int .i64 (siz h))) none = some (.sl id 0 1 q.length L) := fun hp id L hl => by
        rw [hsz]
        exact sl_to hl
      refine zflat_ok tab_ok mixed fun_ok cL_ok (main h (by1 bs) (by1 cs) n (withL (q ++ bs)).length (withL (q ++ cs)).length q.length bs.length ((withL (q ++ bs)).length - q.length) n.toNat q.length q.length (celB (withL (q ++ bs))) (celB (withL (q ++ cs))) ⟨bs.toArray⟩ ⟨bs.toArray⟩ ⟨q.toArray⟩ ⟨q.toArray⟩ true (decide (n < 0)) (decide (n ≥ 4))) ?_
      refine askApp (.cons n1 (.cons n2 (.cons w1 (.cons hck .nil)))) (askApp (.cons w2 .nil) (askApp (.cons a2 (.cons a1 (.cons (a3 _) (.cons (conv_str (sh_mid rfl _)) (.cons (conv_str (.inl rfl)) (.cons (eq_self _) .nil)))))) (askApp ?_ (last _))))
      exact .cons b1 (.cons (b2 _ _ _ (by omega)) (.cons (conv_str (sh_front rfl _)) (.cons (b2 _ _ _ (by omega)) (.cons (conv_str (sh_front rfl _)) (.cons (eq_self _) .nil)))))
end
end Go.Proofs.Ytoghpmeoekbcbaa.headerSizes
