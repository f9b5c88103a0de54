/- HeaderBack, over the data of its arguments. -/
import Derived.Test.YtcllanmickbkpaaHY1
import Derived.Test.YtcllanmickbkpaaAl
namespace Go.Proofs.Ytcllanmickbkpaa
open Go.RowKit

noncomputable section
/-! ### Decode of no slice -/
set_option maxRecDepth 1000000 in
theorem dec_nil : zflat (zans Try.prog tab ftab noC 22 [.nil] []) = some (zfr 10, []) := by kernel_rfl
def AN (_ : Unit) : List DV := [.nil]
def cNil : ConF := conC 22 AN fun _ => (zfr 10, ⟨0, [], []⟩)
theorem fine_zfr (e : Int) : Fine (zfr e) ⟨0, [], []⟩ := ⟨rfl, fun id o h => by simp [Hp.get_eq] at h, rfl⟩
theorem cNil_ok : ConOk Try.prog cNil := conC_ok (fun _ => zflat_ok tab_ok mixed fun_ok noC_ok dec_nil .nil) fun _ => fine_zfr 10
theorem sh3_zfr (k : Nat) (e : Int) : sh3 k (zfr e) = zfr e := by kernel_rfl
theorem lay_none (hp : Hp) : layH hp ⟨0, [], []⟩ = hp := rfl
theorem cNil_at (hp : Hp) : cNil 22 [.nil] hp = some (zfr 10, hp, none) := by
  have := conC_at (f0 := 22) (A := AN) (B := fun _ => (zfr 10, (⟨0, [], []⟩ : Hp))) (fun _ _ _ => rfl) (args := [.nil]) (hp := hp) () ⟨⟨rfl, rfl⟩, trivial⟩
  rw [sh3_zfr] at this
  exact this
theorem cNil_not {hp : Hp} {d : DV} (h : ∀ a, frz1 hp d a → a ≠ .nil) : cNil 22 [d] hp = none := by
  unfold cNil conC
  rw [beqT rfl]
  show @dite _ (∃ x : Unit, Frz hp [d] (AN x)) (Classical.propDecidable _) _ _ = none
  rw [dif_neg]
  rintro ⟨x, hx, _⟩
  exact h _ hx rfl
def cK : ConF := orK cAl (orK cEnc (orK cNil cDec))
theorem cK_ok : ConOk Try.prog cK := orK_ok cAl_ok (orK_ok cEnc_ok (orK_ok cNil_ok cDec_ok))
theorem al_other {f : FuncId} {args : List DV} {hp : Hp} (h : Nat.beq f 24 = false) : cAl f args hp = none := by
  unfold cAl fixC
  rw [h]
theorem cK_enc {hp : Hp} {args : List DV} {r : DV × Hp × Mut} (h : cEnc 9 args hp = some r) : cK 9 args hp = some r :=
  orK_right (al_other (by kernel_rfl)) (orK_left h)
theorem cK_nil (hp : Hp) : cK 22 [.nil] hp = some (zfr 10, hp, none) :=
  orK_right (al_other (by kernel_rfl)) (orK_right (conC_other (by kernel_rfl)) (orK_left (cNil_at hp)))
theorem byL_ne (bs : List UInt8) : byL bs ≠ .nil := fun h => by cases h
theorem cK_dec {hp : Hp} {d : DV} (b : Bs) (h : frz1 hp d (byL b.1)) : cK 22 [d] hp = some (sh3 hp.n (decB b.1).1, layH hp (decB b.1).2, none) :=
  orK_right (al_other (by kernel_rfl)) (orK_right (conC_other (by kernel_rfl)) (orK_right (cNil_not fun a ha => by rw [frz1_fun ha h]; exact byL_ne _) (cDec_at b h)))
/-! ### The law's paths -/
abbrev oF (h : Hd) (d : DV) : Ob := ⟨0, 0, 28, hcs h ++ [d]⟩
abbrev oB (B : List DV) : Ob := ⟨1, 0, 5, B⟩
abbrev kH0 (h : Hd) (xs : List (List DV)) : Hp := ⟨1, [oF h (.list 1 xs)], []⟩
abbrev kH1 (h : Hd) (xs : List (List DV)) (B : List DV) : Hp := ⟨2, [oB B, oF h (.list 1 xs)], []⟩
abbrev kH2 (h : Hd) (xs : List (List DV)) (B : List DV) : Hp := ⟨3, [oB B, oB B, oF h (.list 1 xs)], []⟩
abbrev kH3 (h : Hd) (xs : List (List DV)) (B : List DV) (S n : Nat) : Hp := ⟨4, [oF h (.sl 2 S 1 n n), oB B, oB B, oF h (.list 1 xs)], []⟩
abbrev kHz (h : Hd) (xs : List (List DV)) : Hp := ⟨2, [oF hZ .nil, oF h (.list 1 xs)], []⟩
abbrev fBk : FuncId := 5
set_option maxRecDepth 1000000 in
theorem bk_far1 (h : Hd) (xs ys : List (List DV)) : zflat (zans Try.prog tab ftab cK fBk [frm h (.list 1 xs), .list 1 ys] [(16, .b true)]) = some (.bool true, [decide ((xs.length : Int) > 2400) = true]) := by kernel_rfl
set_option maxRecDepth 1000000 in
theorem bk_far2 (h : Hd) (xs ys : List (List DV)) : zflat (zans Try.prog tab ftab cK fBk [frm h (.list 1 xs), .list 1 ys] [(16, .b false), (20, .b true)]) = some (.bool true, [decide ((xs.length : Int) > 2400) = false, decide ((ys.length : Int) > 2500) = true]) := by kernel_rfl
abbrev pNear : Yath := [(16, .b false), (20, .b false)]
abbrev aNear (xs ys : List (List DV)) : List Prop := [decide ((xs.length : Int) > 2400) = false, decide ((ys.length : Int) > 2500) = false]
/-- the first half: what is encoded, decoded; or no encoding -/
def pOne (g : Bool) (e : Int) (h : Hd) (xs : List (List DV)) (B : List DV) (L S n : Nat) (s1 s2 : ByteArray) : Yath := match g with
  | false => [(29, .q (.tuple [.nil, .int .i64 e])), (34, .q (zfr 10)), (38, .b false)]
  | true => [(29, .r (.tuple [.sl 1 0 1 L L, .int .i64 0]) (kH1 h xs B)), (34, .r (.tuple [frm h (.sl 2 S 1 n n), .int .i64 0]) (kH2 h xs B)), (45, .c [(9, .b true), (13, .h (.str s1) ⟨6, [oF h (.sl 2 S 1 n n), oF h (.list 1 xs), oF h (.sl 2 S 1 n n), oB B, oB B, oF h (.list 1 xs)], []⟩ none), (16, .h (.str s2) ⟨6, [oF h (.sl 2 S 1 n n), oF h (.list 1 xs), oF h (.sl 2 S 1 n n), oB B, oB B, oF h (.list 1 xs)], []⟩ none)]), (46, .b false)]
def aOne (g : Bool) (e : Int) (h : Hd) (xs : List (List DV)) (B : List DV) (L S n : Nat) (s1 s2 : ByteArray) : List Prop := match g with
  | false => [cK 9 [frm h (.list 1 xs)] (kH0 h xs) = some (.tuple [.nil, .int .i64 e], kH0 h xs, none), cK 22 [.nil] (kH0 h xs) = some (zfr 10, kH0 h xs, none), (e == 0) = false]
  | true => [cK 9 [frm h (.list 1 xs)] (kH0 h xs) = some (.tuple [.sl 1 0 1 L L, .int .i64 0], kH1 h xs B, none), cK 22 [.sl 1 0 1 L L] (kH1 h xs B) = some (.tuple [frm h (.sl 2 S 1 n n), .int .i64 0], kH2 h xs B, none),
      eqH h h = true, convD tab ⟨6, [oF h (.sl 2 S 1 n n), oF h (.list 1 xs), oF h (.sl 2 S 1 n n), oB B, oB B, oF h (.list 1 xs)], []⟩ 26 9 (.list 1 xs) = some (.str s1, ⟨6, [oF h (.sl 2 S 1 n n), oF h (.list 1 xs), oF h (.sl 2 S 1 n n), oB B, oB B, oF h (.list 1 xs)], []⟩, none),
      convD tab ⟨6, [oF h (.sl 2 S 1 n n), oF h (.list 1 xs), oF h (.sl 2 S 1 n n), oB B, oB B, oF h (.list 1 xs)], []⟩ 26 9 (.sl 2 S 1 n n) = some (.str s2, ⟨6, [oF h (.sl 2 S 1 n n), oF h (.list 1 xs), oF h (.sl 2 S 1 n n), oB B, oB B, oF h (.list 1 xs)], []⟩, none), (!(eqBytes s1.data.toList s2.data.toList)) = false]
def kA (g : Bool) (h : Hd) (xs : List (List DV)) (B : List DV) (S n : Nat) : Hp := match g with
  | false => kHz h xs
  | true => kH3 h xs B S n
def nA (g : Bool) : Nat := match g with
  | false => 2
  | true => 4
abbrev kC (hp : Hp) (Y : List DV) : Hp := hp.push (oB Y)
abbrev kD (hp : Hp) (n : Nat) (Y : List DV) (h : Hd) (S m : Nat) : Hp := (kC hp Y).push (oF h (.sl n S 1 m m))
abbrev kE (hp : Hp) (n : Nat) (Y : List DV) (h : Hd) (S m : Nat) (E : List DV) : Hp := (kD hp n Y h S m).push (oB E)
/-- the second half: what is decoded, encoded; or what can't be decoded -/
def pTwo (o : Bool) (e : Int) (hp : Hp) (n : Nat) (h : Hd) (Y E : List DV) (S m L : Nat) (s3 s4 : ByteArray) : Yath := match o with
  | false => [(51, .q (zfr e)), (55, .b true)]
  | true => [(51, .r (.tuple [frm h (.sl n S 1 m m), .int .i64 0]) (kC hp Y)), (64, .r (.tuple [.sl (n + 2) 0 1 L L, .int .i64 0]) (kE hp n Y h S m E)), (74, .h (.str s3) (kE hp n Y h S m E) none), (76, .h (.str s4) (kE hp n Y h S m E) none), (77, .b true)]
def aTwo (o : Bool) (e : Int) (hp : Hp) (n : Nat) (ys : List (List DV)) (h : Hd) (Y E : List DV) (S m L : Nat) (s3 s4 : ByteArray) : List Prop := match o with
  | false => [cK 22 [.list 1 ys] hp = some (zfr e, hp, none), (e != 0) = true]
  | true => [cK 22 [.list 1 ys] hp = some (.tuple [frm h (.sl n S 1 m m), .int .i64 0], kC hp Y, none), cK 9 [frm h (.sl n S 1 m m)] (kD hp n Y h S m) = some (.tuple [.sl (n + 2) 0 1 L L, .int .i64 0], kE hp n Y h S m E, none),
      convD tab (kE hp n Y h S m E) 26 9 (.sl (n + 2) 0 1 L L) = some (.str s3, kE hp n Y h S m E, none), convD tab (kE hp n Y h S m E) 26 9 (.list 1 ys) = some (.str s4, kE hp n Y h S m E, none), eqBytes s3.data.toList s4.data.toList = true]
set_option maxRecDepth 1000000 in
theorem bk_run (h : Hd) (xs ys : List (List DV)) (g o : Bool) (e e2 : Int) (B : List DV) (L S n : Nat) (s1 s2 : ByteArray) (h2 : Hd) (Y E : List DV) (S2 m L2 : Nat) (s3 s4 : ByteArray) :
    zflat (zans Try.prog tab ftab cK fBk [frm h (.list 1 xs), .list 1 ys] (pNear ++ (pOne g e h xs B L S n s1 s2 ++ pTwo o e2 (kA g h xs B S n) (nA g) h2 Y E S2 m L2 s3 s4))) =
    some (.bool true, aNear xs ys ++ (aOne g e h xs B L S n s1 s2 ++ aTwo o e2 (kA g h xs B S n) (nA g) ys h2 Y E S2 m L2 s3 s4)) := by
  cases g <;> cases o <;> kernel_rfl
/-! ### What is asked -/
theorem sh3_enc (k L : Nat) : sh3 k (.tuple [.sl 0 0 1 L L, .int .i64 0]) = .tuple [.sl (k + 0) 0 1 L L, .int .i64 0] := by kernel_rfl
theorem sh3_dec (k S n : Nat) (h : Hd) : sh3 k (.tuple [frm h (.sl 0 S 1 n n), .int .i64 0]) = .tuple [frm h (.sl (k + 0) S 1 n n), .int .i64 0] := by kernel_rfl
theorem eq_true (l : List UInt8) : eqBytes l l = true := by rw [eqBytes_iff, decide_eq_true rfl]
theorem own_sh {hp : Hp} {id : Nat} {bs : List UInt8} (hg : hp.get id = some (oB (celB bs))) (off : Nat) (q : List UInt8) (hq : ∀ (i : Nat) (x : UInt8), q[i]? = some x → bs[off + i]? = some x) (c : Nat) : Sh hp (.sl id off 1 q.length c) q :=
  .inr ⟨id, off, _, c, rfl, hg, fun i x hx => by rw [celB, List.getElem?_map, hq i x hx]; rfl⟩
theorem with_mid (a b : List UInt8) (i : Nat) (x : UInt8) (hx : b[i]? = some x) : (withL (a ++ b))[a.length + i]? = some x := by
  have hi := (List.getElem?_eq_some_iff.1 hx).1
  unfold withL
  rw [List.append_assoc, List.getElem?_append_right (by omega), show a.length + i - a.length = i by omega, List.getElem?_append_left hi, hx]
theorem sh_frz1 {hp : Hp} {d : DV} {bs : List UInt8} (h : Sh hp d bs) : frz1 hp d (byL bs) := h.frz
theorem kA_n (g : Bool) (h : Hd) (xs : List (List DV)) (B : List DV) (S n : Nat) : (kA g h xs B S n).n = nA g ∧ (kA g h xs B S n).ls = [] := by cases g <;> exact ⟨rfl, rfl⟩
theorem encB_ok {h : Hd} {b : List UInt8} (hok : okF h b = true) (hl : b.length ≤ 2304) : encB h b = (.tuple [.sl 0 0 1 (withL (hbB h (layOf h).1 ++ b)).length (withL (hbB h (layOf h).1 ++ b)).length, .int .i64 0], ownH 5 1 (celB (withL (hbB h (layOf h).1 ++ b)))) := by
  have : decide (b.length > 2304) = false := decide_eq_false (by omega)
  unfold encB
  rw [hok]
  simp only [this]
theorem encB_no {h : Hd} {b : List UInt8} (hno : ¬ (okF h b = true ∧ b.length ≤ 2304)) : ∃ e : Int, (e == 0) = false ∧ encB h b = (.tuple [.nil, .int .i64 e], ⟨0, [], []⟩) := by
  unfold encB
  cases hok : okF h b with
  | false => exact ⟨8, rfl, rfl⟩
  | true =>
    have : decide (b.length > 2304) = true := decide_eq_true (Nat.lt_of_not_le fun h => hno ⟨hok, h⟩)
    rw [this]
    exact ⟨11, rfl, rfl⟩
theorem hb_le {h : Hd} (hg : goodL (layOf h).1 = true) : (hbB h (layOf h).1).length ≤ 100 := by
  have h1 := hbB_length h hg
  obtain ⟨_, h2⟩ := szL_le hg
  omega
theorem bk_all (h : Hd) (ho : HdOk h) (b c : Bs) : Ans Try.prog fBk [frm h (byL b.1), byL c.1] (.bool true) ⟨0, [], []⟩ := by
  obtain ⟨bs, hb⟩ := b
  obtain ⟨cs, hc⟩ := c
  have lb := by1_length bs
  have lc := by1_length cs
  by_cases hb1 : bs.length > 2400
  · exact zflat_ok tab_ok mixed fun_ok cK_ok (bk_far1 h (by1 bs) (by1 cs)) (.cons (decide_eq_true (by omega)) .nil)
  have n1 : decide (((by1 bs).length : Int) > 2400) = false := decide_eq_false (by omega)
  by_cases hc1 : cs.length > 2500
  · exact zflat_ok tab_ok mixed fun_ok cK_ok (bk_far2 h (by1 bs) (by1 cs)) (.cons n1 (.cons (decide_eq_true (by omega)) .nil))
  have n2 : decide (((by1 cs).length : Int) > 2500) = false := decide_eq_false (by omega)
  -- the second half, in whatever heap
  have two : ∀ (g : Bool) (B : List DV) (S n : Nat), ∃ o e2 h2 Y E S2 m L2 s3 s4, AskedP (aTwo o e2 (kA g h (by1 bs) B S n) (nA g) (by1 cs) h2 Y E S2 m L2 s3 s4) := fun g B S n => by
    obtain ⟨hn, hls⟩ := kA_n g h (by1 bs) B S n
    generalize kA g h (by1 bs) B S n = hp at *
    have k := cK_dec (hp := hp) (d := byL cs) ⟨cs, hc⟩ ⟨rfl, rfl⟩
    rcases dec_cases cs with ⟨e, he, e1⟩ | ⟨h2, b2, ho2, hok2, hl2, rfl⟩
    · refine ⟨false, e, hZ, [], [], 0, 0, 0, .empty, .empty, .cons ?_ (.cons (bne_iff_ne.2 he) .nil)⟩
      simp only [e1, sh3_zfr] at k
      exact k
    · obtain ⟨q1, _⟩ := okF_of hok2
      obtain ⟨q2, q3⟩ := okH_of q1
      have hle := hb_le (lay_good h2 q2)
      have e1 := dec_enc ho2 hok2 hl2
      generalize hW : withL (hbB h2 (layOf h2).1 ++ b2) = W at *
      refine ⟨true, 0, h2, celB W, celB W, (hbB h2 (layOf h2).1).length, b2.length, W.length, ⟨W.toArray⟩, ⟨W.toArray⟩, ?_⟩
      have hm : ∀ (i : Nat) (x : UInt8), b2[i]? = some x → W[(hbB h2 (layOf h2).1).length + i]? = some x := fun i x hx => by
        rw [← hW]
        exact with_mid _ _ i x hx
      have g1 : (kD hp (nA g) (celB W) h2 (hbB h2 (layOf h2).1).length b2.length).get (nA g) = some (oB (celB W)) := by
        rw [Hp.get_push, if_neg (by show ¬ nA g = hp.n + 1; omega), Hp.get_push, if_pos hn.symm]
      have k2 := cEnc_of (hp := kD hp (nA g) (celB W) h2 (hbB h2 (layOf h2).1).length b2.length) h2 ho2 ⟨b2, by omega⟩ (sh_frz1 (own_sh g1 _ b2 hm b2.length)) (fun cs h => by cases h) (fun f a b h => by cases h)
      simp only [encB_ok hok2 hl2, hW, sh3_enc] at k2
      have g2 : (kE hp (nA g) (celB W) h2 (hbB h2 (layOf h2).1).length b2.length (celB W)).get (nA g + 2) = some (oB (celB W)) := by
        rw [Hp.get_push, if_pos (by show nA g + 2 = hp.n + 1 + 1; omega)]
      refine .cons ?_ (.cons ?_ (.cons (conv_str (own_sh g2 0 W (fun i x hx => by rw [Nat.zero_add]; exact hx) _)) (.cons (conv_str (.inl rfl)) (.cons (eq_true _) .nil))))
      · simp only [e1, sh3_dec] at k
        rw [Nat.add_zero, hn] at k
        exact k
      · have : (kD hp (nA g) (celB W) h2 (hbB h2 (layOf h2).1).length b2.length).n + 0 = nA g + 2 := by show hp.n + 1 + 1 + 0 = _; omega
        rw [this] at k2
        exact cK_enc k2
  have k := cEnc_at (hp := kH0 h (by1 bs)) h ho ⟨bs, hb⟩
  by_cases hok : okF h bs = true ∧ bs.length ≤ 2304
  · obtain ⟨hok, hl⟩ := hok
    obtain ⟨q1, _⟩ := okF_of hok
    obtain ⟨q2, q3⟩ := okH_of q1
    have hle := hb_le (lay_good h q2)
    have e1 := dec_enc ho hok hl
    have hwl := withL_len4 (hbB h (layOf h).1 ++ bs)
    rw [List.length_append] at hwl
    have hm := with_mid (hbB h (layOf h).1) bs
    simp only [encB_ok hok hl, sh3_enc] at k
    generalize hW : withL (hbB h (layOf h).1 ++ bs) = W at *
    obtain ⟨o, e2, h2, Y, E, S2, m, L2, s3, s4, h6⟩ := two true (celB W) (hbB h (layOf h).1).length bs.length
    refine zflat_ok tab_ok mixed fun_ok cK_ok (bk_run h (by1 bs) (by1 cs) true o 0 e2 (celB W) W.length (hbB h (layOf h).1).length bs.length ⟨bs.toArray⟩ ⟨bs.toArray⟩ h2 Y E S2 m L2 s3 s4) (askApp (.cons n1 (.cons n2 .nil)) (askApp ?_ h6))
    have kd := cK_dec (hp := kH1 h (by1 bs) (celB W)) (d := .sl 1 0 1 W.length W.length) ⟨W, by omega⟩ (sh_frz1 (own_sh rfl 0 W (fun i x hx => by rw [Nat.zero_add]; exact hx) _))
    simp only [e1, sh3_dec] at kd
    exact .cons (cK_enc k) (.cons kd (.cons (eqH_iff.2 rfl) (.cons (conv_str (.inl rfl)) (.cons (conv_str (own_sh rfl _ bs hm _)) (.cons (by rw [eq_true]; rfl) .nil)))))
  · obtain ⟨e, he, e1⟩ := encB_no hok
    simp only [e1] at k
    obtain ⟨o, e2, h2, Y, E, S2, m, L2, s3, s4, h6⟩ := two false [] 0 0
    refine zflat_ok tab_ok mixed fun_ok cK_ok (bk_run h (by1 bs) (by1 cs) false o e e2 [] 0 0 0 .empty .empty h2 Y E S2 m L2 s3 s4) (askApp (.cons n1 (.cons n2 .nil)) (askApp ?_ h6))
    exact .cons (cK_enc k) (.cons (cK_nil _) (.cons he .nil))
end
end Go.Proofs.Ytcllanmickbkpaa
