/- put, content, Encode: contracts. -/
import Derived.Test.YtejlbkhddehaiaaEy
namespace Go.Proofs.Ytejlbkhddehaiaa
open Go.RowKit

noncomputable section
/-! ### Slices, appends -/
theorem slice_to {hp : Hp} {xs : List (List DV)} {n : Nat} (hn : n ≤ xs.length) : sliceD tab hp bTI (.list 1 xs) none (some (iN n)) none = some (.list 1 (xs.take n)) := by
  have e1 : decide ((0 : Int) ≤ (n : Int)) = true := decide_eq_true (by omega)
  have b1 : Nat.ble 0 n = true := bleT (Nat.zero_le _)
  have b2 : Nat.ble n xs.length = true := bleT hn
  simp only [sliceD, tab_u8, optI, iN, e1, Int.toNat_natCast, b1, b2, Bool.and_self, show Nat.beq 1 1 = true from rfl, List.drop_zero, Nat.sub_zero]
theorem slice_from {hp : Hp} {xs : List (List DV)} {n : Nat} (hn : n ≤ xs.length) : sliceD tab hp bTI (.list 1 xs) (some (iN n)) none none = some (.list 1 (xs.drop n)) := by
  have e1 : decide ((0 : Int) ≤ (n : Int)) = true := decide_eq_true (by omega)
  have b1 : Nat.ble n xs.length = true := bleT hn
  have b2 : Nat.ble xs.length xs.length = true := bleT (Nat.le_refl _)
  simp only [sliceD, tab_u8, optI, iN, e1, Int.toNat_natCast, b1, b2, Bool.and_self, show Nat.beq 1 1 = true from rfl]
  rw [List.take_of_length_le (by rw [List.length_drop]; omega)]
theorem by1_take (l : List UInt8) (n : Nat) : by1 (l.take n) = (by1 l).take n := by simp [by1, List.map_take]
theorem by1_drop (l : List UInt8) (n : Nat) : by1 (l.drop n) = (by1 l).drop n := by simp [by1, List.map_drop]
theorem celB_flat (bs : List UInt8) : ∀ d ∈ celB bs, flat0 d = true := by
  intro d hd
  obtain ⟨b, _, rfl⟩ := List.mem_map.1 hd
  rfl
theorem u8_len {n : Nat} (h : n < 256) : DV.int .u8 (IntKind.u8.wrap (n : Int)) = i8 (UInt8.ofNat n) := by
  rw [wrapU rfl, i8, UInt8.toNat_ofNat_of_lt' h, show n % 2 ^ IntKind.u8.bits = n from Nat.mod_eq_of_lt h]
section
variable (xs : List (List DV)) (j : Nat) (cs : List (List DV)) (tag k : UInt8) (el cl : List DV) (n : Nat)
theorem aS1 (hn : cl.length = n) (hl : n ≤ 2 ^ 39) : aAp (yS0 xs j cs tag k el cl n) (slN 1 n) (slN 6 2) (slN 7 (n + 2)) (yS1 xs j cs tag k el cl (slN 1 n)) (some 1) :=
  app_row (hp := yS0 xs j cs tag k el cl n) (id := 1) (m := 1) (o := oB8 1 0 cl) (x := slN 6 2) (news := [i8 tag, i8 k]) rfl (.inl rfl) rfl hn rfl (by omega)
theorem aS2 (hn : cl.length = n) (c : UInt8) (f : List UInt8) (hl : n + 2 + (f.length + 1) ≤ 2 ^ 40) : aAp (yS1 xs j cs tag k el cl (slN 7 (n + 2))) (slN 7 (n + 2)) (byL (c :: f)) (slN 8 (n + 2 + (f.length + 1))) (yS2 xs j cs tag k el cl (celB (c :: f)) (slN 7 (n + 2)) tag 1) (some 1) :=
  app_row (hp := yS1 xs j cs tag k el cl (slN 7 (n + 2))) (id := 7) (m := f.length) (o := oB8 3 1 (cl ++ [i8 tag, i8 k])) (news := celB (c :: f)) rfl (.inr rfl) rfl (by simp [hn]) (contD_list _ (c :: f)) (by omega)
theorem aN1 : aAp (yN0 xs j cs tag k el) .nil (slN 6 2) (slN 7 2) (yN1 xs j cs tag k el .nil) none := by
  show builtinD tab _ .append _ tyBB = _
  kernel_rfl
theorem aN2 (c : UInt8) (f : List UInt8) (hl : 2 + (f.length + 1) ≤ 2 ^ 40) : aAp (yN1 xs j cs tag k el (slN 7 2)) (slN 7 2) (byL (c :: f)) (slN 8 (2 + (f.length + 1))) (yN2 xs j cs tag k el (celB (c :: f)) (slN 7 2) tag 1) (some 7) :=
  app_row (hp := yN1 xs j cs tag k el (slN 7 2)) (id := 7) (m := f.length) (o := oB8 1 0 [i8 tag, i8 k]) (news := celB (c :: f)) rfl (.inl rfl) rfl rfl (contD_list _ (c :: f)) (by omega)
end
/-! ### The parts as bytes -/
def pB (c : UInt8) (cs : List UInt8) : List UInt8 :=
  if _h : 255 ≤ cs.length then c :: 255 :: (cs.take 255 ++ pB 254 (cs.drop 255)) else c :: UInt8.ofNat cs.length :: cs
termination_by cs.length
decreasing_by rw [List.length_drop]; omega
theorem pB_full {c : UInt8} {cs : List UInt8} (h : 255 ≤ cs.length) : pB c cs = c :: 255 :: (cs.take 255 ++ pB 254 (cs.drop 255)) := by
  rw [pB, dif_pos h]
theorem pB_last {c : UInt8} {cs : List UInt8} (h : cs.length < 255) : pB c cs = c :: UInt8.ofNat cs.length :: cs := by
  rw [pB, dif_neg (by omega)]
/-- a row that grows: none yet, or one of one's own -/
def RowD (d : DV) (bs : List UInt8) : Prop := d = slN 1 bs.length ∨ (d = .nil ∧ bs = [])
theorem flat_row {hp : Hp} {id : Nat} {o : Ob} {bs : List UInt8} (hg : hp.get id = some o) (hc : o.cs = celB bs) : FlatIn [id] hp := by
  intro id' o' hid hg' c hc'
  obtain rfl := List.mem_singleton.1 hid
  rw [hg] at hg'
  cases hg'
  rw [hc] at hc'
  exact celB_flat bs c hc'
section
variable (xs : List (List DV)) (j : Nat) (cs : List (List DV)) (i0 e0 : UInt8) (ys0 ss0 : List (List DV))
theorem pp_loop : ∀ (m : Nat) (rest : List UInt8), rest.length ≤ m → ∀ (tag : UInt8) (d : DV) (bs : List UInt8), RowD d bs → bs.length + (pB tag rest).length ≤ 2 ^ 39 →
    ∃ k d' bs' tag' last, GoesR Try.prog tab kPp ppL (k + 1) (ppS (by1 rest)) (puH xs j cs tag (elC i0 e0 ys0 ss0) (celB bs) d) (.exit 0) (ppS (by1 last)) (puH xs j cs tag' (elC i0 e0 ys0 ss0) (celB bs') d') ∧ RowD d' bs' ∧ last.length < 255 ∧ bs' ++ pB tag' last = bs ++ pB tag rest
  | m, rest, hm, tag, d, bs, hd, hl => by
    by_cases hge : 255 ≤ rest.length
    · cases m with
      | zero => omega
      | succ m =>
        rw [pB_full hge] at hl ⊢
        have h1 := by1_length rest
        obtain ⟨c, f, hcf⟩ : ∃ c f, rest.take 255 = c :: f := by
          cases hr : rest.take 255 with
          | nil =>
            have h0 : (rest.take 255).length = 0 := by rw [hr]; rfl
            rw [List.length_take] at h0
            omega
          | cons c f => exact ⟨c, f, rfl⟩
        have hfl : f.length + 1 = 255 := by
          have := congrArg List.length hcf
          rw [List.length_take] at this
          simp at this
          omega
        simp only [List.length_cons, List.length_append, List.length_take] at hl
        have lt : decide (((by1 rest).length : Int) ≥ 255) = true := decide_eq_true (by omega)
        have s1 : ∀ H, sliceD tab H bTI (.list 1 (by1 rest)) none (some (.int .i64 255)) none = some (.list 1 (by1 (c :: f))) := fun H => by
          rw [← hcf, by1_take]
          exact slice_to (n := 255) (by omega)
        have s2 : ∀ H, sliceD tab H bTI (.list 1 (by1 rest)) (some (.int .i64 255)) none none = some (.list 1 (by1 (rest.drop 255))) := fun H => by
          rw [by1_drop]
          exact slice_from (n := 255) (by omega)
        have hk : aU8 (by1 (c :: f)) 255 := by
          show DV.int .u8 (IntKind.u8.wrap ((by1 (c :: f)).length : Int)) = i8 255
          rw [by1_length, List.length_cons, hfl]
          exact u8_len (n := 255) (by decide)
        have hdl : (rest.drop 255).length ≤ m := by rw [List.length_drop]; omega
        have hel : ∃ i e ys ss, elC i0 e0 ys0 ss0 = elC i e ys ss := ⟨_, _, _, _, rfl⟩
        obtain ⟨k, d', bs', tag', last, g, q1, q2, q3⟩ := pp_loop m (rest.drop 255) hdl 254 (slN 1 (bs.length + 2 + (f.length + 1))) (bs ++ (tag :: 255 :: (c :: f))) (.inl (by simp; omega)) (by simp; omega)
        have hcel : celB (bs ++ (tag :: 255 :: (c :: f))) = (celB bs ++ [i8 tag, i8 255]) ++ celB (c :: f) := by simp [celB]
        rw [hcel] at g
        refine ⟨k + 1, d', bs', tag', last, ?_, q1, q2, by rw [q3, hcf]; simp⟩
        rcases hd with rfl | ⟨rfl, rfl⟩
        · have z := zgm_ok tab_ok mixed fun_ok noC_ok (ppS1 noC xs j cs tag 255 (elC i0 e0 ys0 ss0) (celB bs) (celB (c :: f)) bs.length (bs.length + 2 + (f.length + 1)) (by1 rest) (by1 (c :: f)) (by1 (rest.drop 255)) hel) (.cons (flat_row (bs := bs ++ (tag :: 255 :: (c :: f))) rfl hcel.symm) (.cons lt (.cons (s1 _) (.cons hk (.cons (aS1 xs j cs tag 255 _ _ _ (celB_length bs) (by omega)) (.cons (aS2 xs j cs tag 255 _ _ _ (celB_length bs) c f (by omega)) (.cons (s2 _) .nil)))))))
          exact GoesR.step z g
        · have z := zgm_ok tab_ok mixed fun_ok noC_ok (ppN1 noC xs j cs tag 255 (elC i0 e0 ys0 ss0) (celB (c :: f)) (2 + (f.length + 1)) (by1 rest) (by1 (c :: f)) (by1 (rest.drop 255)) hel) (.cons (flat_row (bs := tag :: 255 :: (c :: f)) rfl rfl) (.cons lt (.cons (s1 _) (.cons hk (.cons (aN1 xs j cs tag 255 _) (.cons (aN2 xs j cs tag 255 _ c f (by omega)) (.cons (s2 _) .nil)))))))
          have g : GoesR Try.prog tab kPp ppL (k + 1) (ppS (by1 (rest.drop 255))) (puH xs j cs 254 (elC i0 e0 ys0 ss0) ([i8 tag, i8 255] ++ celB (c :: f)) (slN 1 (0 + 2 + (f.length + 1)))) (.exit 0) (ppS (by1 last)) (puH xs j cs tag' (elC i0 e0 ys0 ss0) (celB bs') d') := g
          rw [Nat.zero_add] at g
          exact GoesR.step z g
    · have h1 := by1_length rest
      exact ⟨0, d, bs, tag, rest, GoesR.last (zsee_ok tab_ok mixed fun_ok noC_ok (ppO noC xs j cs tag (elC i0 e0 ys0 ss0) (celB bs) d (by1 rest)) (.cons (decide_eq_false (by omega)) .nil)) (by intro h; cases h), hd, by omega, rfl⟩
/-- the parts of a content, one behind the other -/
theorem pp_ans (c : List UInt8) (hc : by1 c = cs) (tag : UInt8) (d : DV) (bs : List UInt8) (hd : RowD d bs) (hl : bs.length + (pB tag c).length ≤ 2 ^ 39) :
    AnsH Try.prog fPp [.yld 5, .ptr 4 0] (puH xs j cs tag (elC i0 e0 ys0 ss0) (celB bs) d) (one []) (puH xs j cs 254 (elC i0 e0 ys0 ss0) (celB (bs ++ pB tag c)) (slN 1 (bs ++ pB tag c).length)) := by
  have hel : ∃ i e ys ss, elC i0 e0 ys0 ss0 = elC i e ys ss := ⟨_, _, _, _, rfl⟩
  obtain ⟨k, d', bs', tag', last, g, q1, q2, q3⟩ := pp_loop xs j cs i0 e0 ys0 ss0 c.length c (Nat.le_refl _) tag d bs hd hl
  have g := g.goes
  rw [hc] at g
  have hlen : bs'.length + (pB tag' last).length ≤ 2 ^ 39 := by
    have := congrArg List.length q3
    simp only [List.length_append] at this
    omega
  rw [← q3]
  rw [pB_last q2] at hlen ⊢
  cases last with
  | nil =>
    rcases q1 with rfl | ⟨rfl, rfl⟩
    · have hcel : celB (bs' ++ [tag', 0]) = celB bs' ++ [i8 tag', i8 0] := by simp [celB]
      have z := zkpH_ok tab_ok mixed fun_ok noC_ok (ppS3 noC xs j cs tag tag' (elC i0 e0 ys0 ss0) (celB bs) (celB bs') d bs'.length hel) (.cons (flat_row (bs := bs' ++ [tag', 0]) rfl hcel.symm) (.cons g (.cons (aS1 xs j cs tag' 0 _ _ _ (celB_length bs') (by simp at hlen; omega)) .nil)))
      show AnsH _ _ _ _ _ (puH xs j cs 254 _ (celB (bs' ++ [tag', 0])) (slN 1 (bs' ++ [tag', 0]).length))
      rw [hcel, List.length_append]
      exact z
    · exact zkpH_ok tab_ok mixed fun_ok noC_ok (ppN3 noC xs j cs tag tag' (elC i0 e0 ys0 ss0) (celB bs) d hel) (.cons (flat_row (bs := [tag', 0]) rfl rfl) (.cons g (.cons (aN1 xs j cs tag' 0 _) .nil)))
  | cons x f =>
    have hk : aU8 (by1 (x :: f)) (UInt8.ofNat (x :: f).length) := by
      show DV.int .u8 (IntKind.u8.wrap ((by1 (x :: f)).length : Int)) = _
      rw [by1_length]
      exact u8_len (by omega)
    rcases q1 with rfl | ⟨rfl, rfl⟩
    · have hcel : celB (bs' ++ (tag' :: UInt8.ofNat (x :: f).length :: (x :: f))) = (celB bs' ++ [i8 tag', i8 (UInt8.ofNat (x :: f).length)]) ++ celB (x :: f) := by simp [celB]
      have z := zkpH_ok tab_ok mixed fun_ok noC_ok (ppS2 noC xs j cs tag tag' (UInt8.ofNat (x :: f).length) (elC i0 e0 ys0 ss0) (celB bs) (celB bs') (celB (x :: f)) d bs'.length (bs'.length + 2 + (f.length + 1)) (by1 (x :: f)) hel) (.cons (flat_row (bs := bs' ++ (tag' :: UInt8.ofNat (x :: f).length :: (x :: f))) rfl hcel.symm) (.cons g (.cons hk (.cons (aS1 xs j cs tag' _ _ _ _ (celB_length bs') (by simp at hlen; omega)) (.cons (aS2 xs j cs tag' _ _ _ _ (celB_length bs') x f (by simp at hlen; omega)) .nil)))))
      rw [hcel, show (bs' ++ (tag' :: UInt8.ofNat (x :: f).length :: (x :: f))).length = bs'.length + 2 + (f.length + 1) by simp; omega]
      exact z
    · have z := zkpH_ok tab_ok mixed fun_ok noC_ok (ppN2 noC xs j cs tag tag' (UInt8.ofNat (x :: f).length) (elC i0 e0 ys0 ss0) (celB bs) (celB (x :: f)) d (2 + (f.length + 1)) (by1 (x :: f)) hel) (.cons (flat_row (bs := tag' :: UInt8.ofNat (x :: f).length :: (x :: f)) rfl rfl) (.cons g (.cons hk (.cons (aN1 xs j cs tag' _ _) (.cons (aN2 xs j cs tag' _ _ x f (by simp at hlen; omega)) .nil)))))
      rw [show (([] : List UInt8) ++ (tag' :: UInt8.ofNat (x :: f).length :: (x :: f))).length = 2 + (f.length + 1) by simp; omega]
      exact z
end
/-! ### What is put -/
mutual
def encE : El → List UInt8
  | .mk i e d s => pB i (match cont i with
    | true => encA s
    | false => match (nx i == 255) with
      | true => e :: d
      | false => d)
def encA : List El → List UInt8
  | [] => []
  | x :: l => encE x ++ encA l
end
/-- the content of an element -/
def contB : El → List UInt8
  | .mk i e d s => match cont i with
    | true => encA s
    | false => match (nx i == 255) with
      | true => e :: d
      | false => d
theorem encE_eq (i e : UInt8) (d : List UInt8) (s : List El) : encE (.mk i e d s) = pB i (contB (.mk i e d s)) := rfl
theorem pB_len : ∀ (m : Nat) (c : UInt8) (cs : List UInt8), cs.length ≤ m → (pB c cs).length = cs.length + 2 * (cs.length / 255 + 1)
  | m, c, cs, hm => by
    by_cases h : 255 ≤ cs.length
    · cases m with
      | zero => omega
      | succ m =>
        have hd : (cs.drop 255).length = cs.length - 255 := List.length_drop
        have ih := pB_len m 254 (cs.drop 255) (by omega)
        rw [pB_full h]
        simp only [List.length_cons, List.length_append, List.length_take, ih, hd]
        omega
    · rw [pB_last (by omega)]
      simp only [List.length_cons]
      omega
abbrev ElP (d : Nat) : Type := {l : List El // depA l ≤ d ∧ SmL l ∧ (encA l).length ≤ 2 ^ 38}
abbrev ElP1 (d : Nat) : Type := {x : El // depE x ≤ d + 1 ∧ smE x ∧ (encE x).length ≤ 2 ^ 38}
def cPu (d : Nat) : ConF := liftC (eqC fPu (fun x : ElP d => [.nil, elsD x.1]) fun x => (byL (encA x.1), ⟨0, [], []⟩))
theorem cPu_at (d : Nat) (hp : Hp) (l : List El) (h : depA l ≤ d ∧ SmL l ∧ (encA l).length ≤ 2 ^ 38) : cPu d fPu [.nil, elsD l] hp = some (byL (encA l), hp, none) :=
  lift_at (A := fun x : ElP d => [.nil, elsD x.1]) (D := fun x => byL (encA x.1)) (fun x y hxy => by
    simp only [List.cons.injEq, and_true, true_and] at hxy
    rw [els_inj hxy]) hp ⟨l, h⟩ rfl rfl
def cCt (d : Nat) : ConF := liftC (eqC fCn2 (fun x : ElP1 d => [.agg (elD x.1)]) fun x => (byL (contB x.1), ⟨0, [], []⟩))
theorem cCt_at (d : Nat) (hp : Hp) (x : El) (h : depE x ≤ d + 1 ∧ smE x ∧ (encE x).length ≤ 2 ^ 38) : cCt d fCn2 [.agg (elD x)] hp = some (byL (contB x), hp, none) :=
  lift_at (A := fun x : ElP1 d => [.agg (elD x.1)]) (D := fun x => byL (contB x.1)) (fun x y hxy => by
    simp only [List.cons.injEq, and_true, DV.agg.injEq] at hxy
    rw [elD_inj hxy]) hp ⟨x, h⟩ (by obtain ⟨i, e, d, s⟩ := x; rfl) rfl
/-! ### put -/
abbrev puS0 (xs : List (List DV)) (j : Nat) : Slots := mkT 33 [(2, .ptr 0 0), (9, .list 4 xs), (10, .int .i64 (xs.length : Int)), (11, iN j)]
abbrev puP (d : DV) (cl : List DV) : Hp := ⟨2, [oB8 1 0 cl, oBy d], []⟩
abbrev puB (cs : List (List DV)) (tag : UInt8) (el cl : List DV) (d : DV) : Hp := ⟨5, [oBy (.list 1 cs), oB8 0 0 [i8 tag], oEl 0 el, oB8 1 0 cl, oBy d], []⟩
abbrev puA (cs : List (List DV)) (el cl : List DV) (n : Nat) : Hp := ⟨6, puO cs 254 el cl (slN 1 n), []⟩
abbrev puC (tag : UInt8) (el cl : List DV) (d : DV) : Hp := ⟨4, [oB8 0 0 [i8 tag], oEl 0 el, oB8 1 0 cl, oBy d], []⟩
abbrev puG (xs : List (List DV)) (j : Nat) (cs : List (List DV)) (tag : UInt8) (el cl : List DV) (d : DV) (cl' : List DV) (n : Nat) : Prop := Goes Try.prog tab kPu (.rangeFunc (.tmp 19) #[20] (rngA puL) (rngB puL)) (puS xs j) (puB cs tag el cl d) .normal (puS xs j) (puA cs el cl' n)
theorem pu_beg (xs : List (List DV)) (j : Nat) (cs : List (List DV)) (tag : UInt8) (el cl : List DV) (d : DV) : (puB cs tag el cl d).beg 33 kPu (puS xs j) [20] (rngA puL) (rngB puL) = puH xs j cs tag el cl d := rfl
section
variable (C : ConF)
set_option maxRecDepth 1000000 in
theorem pu1 (dd : Nat) (xs ys ss cs : List (List DV)) (j n : Nat) (i e : UInt8) (cl cl' : List DV) (d : DV) : zgm [0, 1] [1] (zsee Try.prog tab ftab (cCt dd) kPu [2, 9, 10, 11] puL (puS0 xs j) (puP d cl) [(12, .b true), (13, .n (.fptr (elC i e ys ss))), (18, .q (.list 1 cs)), (0, .l [2, 7, 9, 10, 11, 19] .normal (puS xs j) (puA cs (elC i e ys ss) cl' n)), (31, .w (iN (j + 1)))]) =
    some (.normal, puS0 xs (j + 1), puP (slN 1 n) cl', FlatIn [1] (puA cs (elC i e ys ss) cl' n) :: (decide ((j : Int) < (xs.length : Int)) = true) :: weA xs j i e ys ss ((cCt dd fCn2 [.agg (elC i e ys ss)] (puC i (elC i e ys ss) cl d) = some (.list 1 cs, puC i (elC i e ys ss) cl d, none)) :: puG xs j cs i (elC i e ys ss) cl d cl' n :: (DV.int .i64 (IntKind.i64.wrap ((j : Int) + 1)) = iN (j + 1)) :: [])) := by kernel_rfl
set_option maxRecDepth 1000000 in
theorem puO1 (xs : List (List DV)) (j : Nat) (cl : List DV) (d : DV) : zsee Try.prog tab ftab C kPu [2] puL (puS0 xs j) (puP d cl) [(12, .b false)] = some (.exit 0, mkT 33 [(2, .ptr 0 0)], puP d cl, (decide ((j : Int) < (xs.length : Int)) = false) :: []) := by kernel_rfl
set_option maxRecDepth 1000000 in
theorem puN (xs : List (List DV)) (cl : List DV) (d : DV) : zans Try.prog tab ftab C fPu [.nil, .list 4 xs] [(0, .l [2, 9, 10, 11] (.exit 0) (mkT 33 [(2, .ptr 0 0)]) (puP d cl))] =
    some (d, puP d cl, (Goes Try.prog tab kPu (.loop puL) (puS0 xs 0) ⟨1, [oBy .nil], []⟩ (.exit 0) (mkT 33 [(2, .ptr 0 0)]) (puP d cl)) :: []) := by kernel_rfl
set_option maxRecDepth 1000000 in
theorem puM (xs : List (List DV)) (cl : List DV) (d : DV) : zansH Try.prog tab ftab C fPu [slN 0 0, .list 4 xs] ⟨1, [oB8 1 0 []], []⟩ [(0, .l [2, 9, 10, 11] (.exit 0) (mkT 33 [(2, .ptr 0 0)]) (puP d cl))] =
    some (d, puP d cl, (Goes Try.prog tab kPu (.loop puL) (mkT 33 [(2, .ptr 1 0), (9, .list 4 xs), (10, .int .i64 (xs.length : Int)), (11, iN 0)]) ⟨2, [oBy (slN 0 0), oB8 1 0 []], []⟩ (.exit 0) (mkT 33 [(2, .ptr 0 0)]) (puP d cl)) :: []) := by kernel_rfl
set_option maxRecDepth 1000000 in
theorem ct1 (ys ss bs : List (List DV)) (i e : UInt8) : zflat (zans Try.prog tab ftab C fCn2 [.agg (elC i e ys ss)] [(6, .q (.bool true)), (9, .q (.list 1 bs))]) = some (.list 1 bs, (C fCo [i8 i] (siH (elC i e ys ss)) = some (.bool true, siH (elC i e ys ss), none)) :: (C fPu [.nil, .list 4 ss] (siH (elC i e ys ss)) = some (.list 1 bs, siH (elC i e ys ss), none)) :: []) := by kernel_rfl
abbrev ctH (c : List DV) (e : UInt8) : Hp := ⟨2, [oB8 0 0 [i8 e], oEl 0 c], []⟩
abbrev ctK (c : List DV) (e : UInt8) (pc : List DV) : Hp := ⟨3, [oB8 1 0 (i8 e :: pc), oB8 0 0 [i8 e], oEl 0 c], []⟩
set_option maxRecDepth 1000000 in
theorem ct2 (ys ss : List (List DV)) (i e : UInt8) (m : Nat) (pc : List DV) : zans Try.prog tab ftab C fCn2 [.agg (elC i e ys ss)] [(6, .q (.bool false)), (13, .b true), (19, .h (slN 2 m) (ctK (elC i e ys ss) e pc) none)] = some (slN 2 m, ctK (elC i e ys ss) e pc, (C fCo [i8 i] (siH (elC i e ys ss)) = some (.bool false, siH (elC i e ys ss), none)) :: ((nx i == 255) = true) :: aAp (ctH (elC i e ys ss) e) (slN 1 1) (.list 1 ys) (slN 2 m) (ctK (elC i e ys ss) e pc) none :: []) := by kernel_rfl
set_option maxRecDepth 1000000 in
theorem ct3 (ss : List (List DV)) (i e : UInt8) : zans Try.prog tab ftab C fCn2 [.agg (elC i e [] ss)] [(6, .q (.bool false)), (13, .b true)] = some (slN 1 1, ctH (elC i e [] ss) e, (C fCo [i8 i] (siH (elC i e [] ss)) = some (.bool false, siH (elC i e [] ss), none)) :: ((nx i == 255) = true) :: []) := by kernel_rfl
set_option maxRecDepth 1000000 in
theorem ct4 (ys ss : List (List DV)) (i e : UInt8) : zflat (zans Try.prog tab ftab C fCn2 [.agg (elC i e ys ss)] [(6, .q (.bool false)), (13, .b false)]) = some (.list 1 ys, (C fCo [i8 i] (siH (elC i e ys ss)) = some (.bool false, siH (elC i e ys ss), none)) :: ((nx i == 255) = false) :: []) := by kernel_rfl
end
/-! ### The contracts -/
theorem pu_rng (xs : List (List DV)) (j : Nat) (c : List UInt8) (i0 e0 : UInt8) (ys0 ss0 : List (List DV)) (d : DV) (bs : List UInt8) (hd : RowD d bs) (hl : bs.length + (pB i0 c).length ≤ 2 ^ 39) :
    puG xs j (by1 c) i0 (elC i0 e0 ys0 ss0) (celB bs) d (celB (bs ++ pB i0 c)) (bs ++ pB i0 c).length := by
  have hA := pp_ans xs j (by1 c) i0 e0 ys0 ss0 c rfl i0 d bs hd hl
  exact Goes.range (P := Try.prog) (T := tab) (ks := kPu) (g := .tmp 19) (ps := #[20]) (x := rngA puL) (y := rngB puL) (sl := puS xs j) (hp := puB (by1 c) i0 (elC i0 e0 ys0 ss0) (celB bs) d) (f := fPp) (captured := [.ptr 4 0]) (d := one []) (nc := 33) (R := puR xs j 0 none) (e := .normal) (by kernel_rfl) (by kernel_rfl) rfl (by rw [pu_beg]; exact hA) rfl rfl
theorem encA_append : ∀ (l m : List El), encA (l ++ m) = encA l ++ encA m
  | [], m => rfl
  | x :: l, m => by simp only [List.cons_append, encA, encA_append l m, List.append_assoc]
theorem pu_loop (d : Nat) (hC : ConOk Try.prog (cCt d)) (l : List El) (hl : depA l ≤ d + 1 ∧ SmL l ∧ (encA l).length ≤ 2 ^ 38) : ∀ (rest pre : List El) (d0 : DV) (bs : List UInt8), l = pre ++ rest → RowD d0 bs → bs.length + (encA rest).length ≤ 2 ^ 38 →
    ∃ m d', GoesR Try.prog tab kPu puL (m + 1) (puS0 (elR l) pre.length) (puP d0 (celB bs)) (.exit 0) (mkT 33 [(2, .ptr 0 0)]) (puP d' (celB (bs ++ encA rest))) ∧ RowD d' (bs ++ encA rest)
  | [], pre, d0, bs, e, hd, _ => by
    have hn : (elR l).length = pre.length := by rw [elR_length, e, List.append_nil]
    rw [show encA [] = [] from rfl, List.append_nil]
    exact ⟨0, d0, GoesR.last (zsee_ok tab_ok mixed fun_ok hC (puO1 (cCt d) (elR l) pre.length (celB bs) d0) (.cons (decide_eq_false (by omega)) .nil)) (by intro h; cases h), hd⟩
  | .mk i x dt s :: rest, pre, d0, bs, e, hd, hb => by
    obtain ⟨hl1, ⟨hl2, hl3⟩, hl4⟩ := hl
    have hn := elR_length l
    have hll : l.length = pre.length + (rest.length + 1) := by rw [e]; simp
    have hj : l[pre.length]? = some (.mk i x dt s) := by rw [e]; simp
    have hlt : decide ((pre.length : Int) < ((elR l).length : Int)) = true := decide_eq_true (by omega)
    have hi : idxOk (pre.length : Int) (elR l).length = true := idxOk_lt (by omega)
    have hs := dep_sub hj
    have ho : smE (.mk i x dt s) := smL_at hl3 hj
    have hw : DV.int .i64 (IntKind.i64.wrap ((pre.length : Int) + 1)) = iN (pre.length + 1) := congrArg (DV.int .i64) (wrapI (n := pre.length + 1) (by omega))
    have he : encA (.mk i x dt s :: rest) = pB i (contB (.mk i x dt s)) ++ encA rest := rfl
    rw [he, List.length_append] at hb
    have hct := cCt_at d (puC i (elC i x (by1 dt) (elR s)) (celB bs) d0) (.mk i x dt s) ⟨Nat.succ_le_succ (by omega), ho, by rw [encE_eq]; omega⟩
    have hr := pu_rng (elR l) pre.length (contB (.mk i x dt s)) i x (by1 dt) (elR s) d0 bs hd (by omega)
    obtain ⟨m, d', g, hd'⟩ := pu_loop d hC l ⟨hl1, ⟨hl2, hl3⟩, hl4⟩ rest (pre ++ [.mk i x dt s]) (slN 1 (bs ++ pB i (contB (.mk i x dt s))).length) (bs ++ pB i (contB (.mk i x dt s))) (by rw [e, List.append_assoc]; rfl) (.inl rfl) (by rw [List.length_append]; omega)
    rw [show (pre ++ [El.mk i x dt s]).length = pre.length + 1 by simp] at g
    rw [he, ← List.append_assoc]
    exact ⟨m + 1, d', GoesR.step (zgm_ok tab_ok mixed fun_ok hC (pu1 d (elR l) (by1 dt) (elR s) (by1 (contB (.mk i x dt s))) pre.length (bs ++ pB i (contB (.mk i x dt s))).length i x (celB bs) (celB (bs ++ pB i (contB (.mk i x dt s)))) d0) (.cons (flat_row rfl rfl) (.cons hlt (.cons hi (.cons (elR_at hj) (.cons hct (.cons hr (.cons hw .nil)))))))) g, hd'⟩
theorem seen_pad {sl : Slots} : Seen sl ⟨1, [oBy .nil], []⟩ sl (puP .nil []) := (seenK_pad (K := 0) (sl := sl) (n := 1) (l := [oBy .nil]) (ls := []) (oB8 1 0 []) rfl).seen
theorem row_frz {cl : List DV} {d : DV} {bs : List UInt8} (hc : cl = celB bs) (hd : d = slN 1 bs.length) : FrzD [] (puP d cl) d (byL bs) := by
  subst hc hd
  exact frz_oR (k := 1) rfl rfl (by decide) rfl rfl
theorem pu_nil (l : List El) {C : ConF} (hC : ConOk Try.prog C) {d' : DV} (g : Goes Try.prog tab kPu (.loop puL) (puS0 (elR l) 0) (puP .nil []) (.exit 0) (mkT 33 [(2, .ptr 0 0)]) (puP d' (celB (encA l)))) (hd : RowD d' (encA l)) : Ans Try.prog fPu [.nil, elsD l] (byL (encA l)) ⟨0, [], []⟩ := by
  have z := zans_ok tab_ok mixed fun_ok hC (puN C (elR l) (celB (encA l)) d') (.cons (g.pre seen_pad) .nil)
  rcases hd with hd | ⟨rfl, hb⟩
  · exact z.frz rfl (row_frz rfl hd)
  · rw [hb] at z ⊢
    exact Ans.nil0 (z.flat rfl rfl)
theorem ct_ans (d : Nat) (hP : ConOk Try.prog (cPu d)) (x : ElP1 d) : Ans Try.prog fCn2 [.agg (elD x.1)] (byL (contB x.1)) ⟨0, [], []⟩ := by
  obtain ⟨⟨i, e, y, s⟩, h1, h2, h3⟩ := x
  have h1 : depA s + 1 ≤ d + 1 := h1
  have hC : ConOk Try.prog (orK cCo (cPu d)) := orK_ok cCo_ok hP
  have hco : orK cCo (cPu d) fCo [i8 i] (siH (elC i e (by1 y) (elR s))) = some (.bool (cont i), siH (elC i e (by1 y) (elR s)), none) := orK_left (cCo_at _ i)
  have hb : contB (.mk i e y s) = match cont i with
    | true => encA s
    | false => match (nx i == 255) with
      | true => e :: y
      | false => y := rfl
  cases hc : cont i with
  | true =>
    rw [hc] at hco hb
    have hl : (encA s).length ≤ 2 ^ 38 := by
      rw [encE_eq, hb, pB_len _ _ _ (Nat.le_refl _)] at h3
      dsimp only at h3
      omega
    show Ans _ _ _ (byL (contB (.mk i e y s))) _
    rw [hb]
    exact zflat_ok tab_ok mixed fun_ok hC (ct1 (orK cCo (cPu d)) (by1 y) (elR s) (by1 (encA s)) i e) (.cons hco (.cons (orK_right (lift_oth (eqC_other (by kernel_rfl))) (cPu_at d _ s ⟨by omega, h2.2, hl⟩)) .nil))
  | false =>
    rw [hc] at hco hb
    show Ans _ _ _ (byL (contB (.mk i e y s))) _
    rw [hb]
    cases h5 : (nx i == 255) with
    | false => exact zflat_ok tab_ok mixed fun_ok hC (ct4 (orK cCo (cPu d)) (by1 y) (elR s) i e) (.cons hco (.cons h5 .nil))
    | true =>
      cases y with
      | nil =>
        have z := zans_ok tab_ok mixed fun_ok hC (ct3 (orK cCo (cPu d)) (elR s) i e) (.cons hco (.cons h5 .nil))
        exact z.frz rfl (frz_oR (k := 0) (cl := celB [e]) rfl rfl (by decide) rfl rfl)
      | cons c f =>
        have hf := fitB_le (n := 1 + (f.length + 1)) (by have := h2.1; simp at this; omega)
        have hap : aAp (ctH (elC i e (by1 (c :: f)) (elR s)) e) (slN 1 1) (byL (c :: f)) (slN 2 (1 + (f.length + 1))) (ctK (elC i e (by1 (c :: f)) (elR s)) e (celB (c :: f))) none := by
          show builtinD tab _ .append _ tyBB = _
          rw [app_tab, contD_list]
          have hb : Nat.ble (1 + (f.length + 1)) 1 = false := bleF (by omega)
          simp only [List.length_cons, appH, hb, hf, show Nat.beq 1 1 = true from rfl, show (ctH (elC i e (by1 (c :: f)) (elR s)) e).get 1 = some (oB8 0 0 [i8 e]) from rfl]
          rfl
        have z := zans_ok tab_ok mixed fun_ok hC (ct2 (orK cCo (cPu d)) (by1 (c :: f)) (elR s) i e (1 + (f.length + 1)) (celB (c :: f))) (.cons hco (.cons h5 (.cons hap .nil)))
        exact z.frz rfl (frz_oR (k := 1) (cl := celB (e :: c :: f)) rfl rfl (by decide) rfl (by simp; omega))
theorem pu_ans : ∀ (d : Nat) (x : ElP d), Ans Try.prog fPu [.nil, elsD x.1] (byL (encA x.1)) ⟨0, [], []⟩
  | 0, ⟨l, h, hs⟩ => by
    obtain rfl := dep_zero h
    exact pu_nil [] noC_ok (d' := .nil) (GoesR.last (zsee_ok tab_ok mixed fun_ok noC_ok (puO1 noC (elR []) 0 [] .nil) (.cons (decide_eq_false (by simp [elR])) .nil)) (by intro h; cases h)).goes (.inr ⟨rfl, rfl⟩)
  | d + 1, ⟨l, h⟩ => by
    have hP : ConOk Try.prog (cPu d) := liftC_ok (eqC_ok (pu_ans d) fun _ => rfl)
    have hC : ConOk Try.prog (cCt d) := liftC_ok (eqC_ok (ct_ans d hP) fun _ => rfl)
    obtain ⟨m, d', g, hd⟩ := pu_loop d hC l h l [] .nil [] rfl (.inr ⟨rfl, rfl⟩) (by simpa using h.2.2)
    exact pu_nil l hC g.goes hd
theorem cCt_ok (d : Nat) : ConOk Try.prog (cCt d) := liftC_ok (eqC_ok (ct_ans d (liftC_ok (eqC_ok (pu_ans d) fun _ => rfl))) fun _ => rfl)
/-- behind an empty row of one's own -/
theorem pu_row (l : List El) (h : SmL l ∧ (encA l).length ≤ 2 ^ 38) : AnsH Try.prog fPu [slN 0 0, elsD l] ⟨1, [oB8 1 0 []], []⟩ (byL (encA l)) ⟨0, [], []⟩ := by
  have hC := cCt_ok (depA l)
  obtain ⟨m, d', g, hd⟩ := pu_loop (depA l) hC l ⟨by omega, h⟩ l [] (slN 1 0) [] rfl (.inl rfl) (by simpa using h.2)
  have hsee : Seen (mkT 33 [(2, .ptr 1 0), (9, .list 4 (elR l)), (10, .int .i64 ((elR l).length : Int)), (11, iN 0)]) ⟨2, [oBy (slN 0 0), oB8 1 0 []], []⟩ (puS0 (elR l) 0) (puP (slN 1 0) []) := by
    have := seen_renC (L := [1, 0]) (fl := []) (sl := mkT 33 [(2, .ptr 1 0), (9, .list 4 (elR l)), (10, .int .i64 ((elR l).length : Int)), (11, iN 0)]) (hp := ⟨2, [oBy (slN 0 0), oB8 1 0 []], []⟩) (hp' := puP (slN 1 0) []) (flatIn_nil _) (by kernel_rfl)
    have hr : renS [1, 0] (mkT 33 [(2, .ptr 1 0), (9, .list 4 (elR l)), (10, .int .i64 ((elR l).length : Int)), (11, iN 0)]) = puS0 (elR l) 0 := by kernel_rfl
    rw [hr] at this
    exact this
  have z := zansH_ok tab_ok mixed fun_ok hC (puM (cCt (depA l)) (elR l) (celB (encA l)) d') (.cons (g.goes.pre hsee) .nil)
  rcases hd with hd | ⟨rfl, hb⟩
  · exact z.frz rfl (row_frz rfl hd)
  · have hb : encA l = [] := hb
    rw [hb] at z ⊢
    exact (z.see (seenV_flat rfl rfl)).nilH
/-! ### Encode -/
abbrev fEn : FuncId := 80
abbrev fSz' : FuncId := 100
set_option maxRecDepth 1000000 in
theorem en1 (xs : List (List DV)) (n e : Nat) : zflat (zans Try.prog tab ftab cSi2 fEn [.list 4 xs] [(8, .q (.tuple [iN n, iN e])), (12, .b true)]) = some (.tuple [.nil, iN e], (cSi2 fSz [.list 4 xs] ⟨0, [], []⟩ = some (.tuple [iN n, iN e], ⟨0, [], []⟩, none)) :: (((e : Int) != 0) = true) :: []) := by kernel_rfl
set_option maxRecDepth 1000000 in
theorem en2 (xs bs : List (List DV)) (n : Nat) : zflat (zans Try.prog tab ftab cSi2 fEn [.list 4 xs] [(8, .q (.tuple [iN n, iN 0])), (60004, .t 3 [] (.list 1 bs) ⟨0, [], []⟩), (15, .h (slN 0 0) ⟨1, [oB8 1 0 []], []⟩ none)]) = some (.tuple [.list 1 bs, iN 0], (cSi2 fSz [.list 4 xs] ⟨0, [], []⟩ = some (.tuple [iN n, iN 0], ⟨0, [], []⟩, none)) ::
  ((decide ((0 : Int) ≤ 0) && decide ((0 : Int) ≤ (n : Int)) && fitB ((n : Int).toNat) 1) = true) :: (mkRow ⟨0, [], []⟩ 5 1 [.int .u8 0] ((0 : Int).toNat) ((n : Int).toNat) = (slN 0 0, ⟨1, [oB8 1 0 []], []⟩, none)) :: AnsH Try.prog fPu [slN 0 0, .list 4 xs] ⟨1, [oB8 1 0 []], []⟩ (.list 1 bs) ⟨0, [], []⟩ :: []) := by kernel_rfl
/-! ### How long encodings are -/
mutual
theorem szE_len : ∀ (x : El) {n : Nat}, szE x = some n → n = (encE x).length
  | .mk i e d s, n, h => by
    rw [encE_eq, pB_len _ _ _ (Nat.le_refl _)]
    have hc : contB (.mk i e d s) = match cont i with
      | true => encA s
      | false => match (nx i == 255) with
        | true => e :: d
        | false => d := rfl
    unfold szE at h
    cases hq : cont i with
    | true =>
      rw [hq] at h hc
      cases hz : szA 0 s with
      | none => rw [hz] at h; cases h
      | some k =>
        have hk := szA_len s hz
        have hx : exts i = 0 := by
          unfold exts
          have : (nx i == 255) = false := by
            unfold cont at hq
            rw [Bool.and_eq_true] at hq
            have := of_decide_eq_true hq.2
            exact beq_false_of_ne (by omega)
          rw [this]
          rfl
        rw [hz] at h
        dsimp only at h
        split at h
        · cases h
        · cases h
          rw [hc, hx]
          unfold szN
          simp only [Nat.zero_add, Nat.add_zero] at hk ⊢
          omega
    | false =>
      rw [hq] at h hc
      dsimp only at h hc
      split at h
      · cases h
      · cases h
        rw [hc]
        unfold szN exts
        cases (nx i == 255) <;> simp
theorem szA_len : ∀ (l : List El) {a n : Nat}, szA a l = some n → n = a + (encA l).length
  | [], a, n, h => by
    cases h
    simp [encA]
  | x :: l, a, n, h => by
    unfold szA at h
    split at h
    · cases h
    · rename_i k hk
      have h1 := szE_len x hk
      have h2 := szA_len l h
      simp only [encA, List.length_append]
      omega
end
theorem szA_le : ∀ (l : List El) {a n : Nat}, szA a l = some n → n ≤ a + 1040 * l.length
  | [], a, n, h => by
    cases h
    simp
  | x :: l, a, n, h => by
    unfold szA at h
    split at h
    · cases h
    · rename_i k hk
      have h1 := szE_le hk
      have h2 := szA_le l h
      simp only [List.length_cons]
      omega
/-- what Encode answers -/
def enD (l : List El) : DV := match (szR l).2 with
  | 0 => .tuple [byL (encA l), iN 0]
  | e => .tuple [.list 1 [], iN e]
theorem szR_zero {l : List El} (h : (szR l).2 = 0) : (vfA l 1 0).2 = true ∧ vdA l = true ∧ szA 0 l = some (encA l).length ∧ (szR l).1 = (encA l).length := by
  unfold szR at h ⊢
  cases h1 : (vfA l 1 0).2 with
  | false => rw [h1] at h; cases h
  | true =>
    rw [h1] at h
    cases h2 : vdA l with
    | false => rw [h2] at h; cases h
    | true =>
      rw [h2] at h
      cases h3 : szA 0 l with
      | none => rw [h3] at h; cases h
      | some n =>
        have := szA_len l h3
        rw [Nat.zero_add] at this
        exact ⟨rfl, rfl, by rw [this], this⟩
theorem vf_cnt : ∀ (l : List El) {d n : Nat}, (vfA l d n).2 = true → n + l.length ≤ (vfA l d n).1
  | [], d, n, _ => Nat.le_refl _
  | .mk i e x s :: l, d, n, h => by
    cases hq : (decide (n + 1 > 64) || decide (d > 4)) with
    | true =>
      rw [vf_off hq] at h
      cases h
    | false =>
      rw [vf_on hq] at h ⊢
      cases hs : (vfA s (d + 1) (n + 1)).2 with
      | false =>
        rw [hs] at h
        dsimp only at h
        rw [hs] at h
        cases h
      | true =>
        rw [hs] at h
        have h1 := vf_cnt s hs
        have h2 := vf_cnt l h
        dsimp only
        simp only [List.length_cons]
        omega
theorem vf_len (l : List El) {d n : Nat} (hn : n ≤ 64) (h : (vfA l d n).2 = true) : l.length ≤ 64 := by
  have h1 := vf_cnt l h
  have h2 := vf_le hn h
  omega
theorem en_ans (x : ElV) : Ans Try.prog fEn [elsD x.1] (enD x.1) ⟨0, [], []⟩ := by
  obtain ⟨l, hl⟩ := x
  have h1 := cSi2_at ⟨0, [], []⟩ l hl
  dsimp only
  unfold enD
  cases he : (szR l).2 with
  | succ e =>
    rw [he] at h1
    exact Ans.nil1 (zflat_ok tab_ok mixed fun_ok cSi2_ok (en1 (elR l) (szR l).1 (e + 1)) (.cons h1 (.cons (bne_iff_ne.2 (by omega)) .nil)))
  | zero =>
    rw [he] at h1
    obtain ⟨q1, q2, q3, q4⟩ := szR_zero he
    have hle := szA_le l q3
    have h64 := vf_len l (by decide) q1
    rw [q4] at h1
    refine zflat_ok tab_ok mixed fun_ok cSi2_ok (en2 (elR l) (by1 (encA l)) (encA l).length) (.cons h1 (.cons ?_ (.cons rfl (.cons (pu_row l ⟨hl.1, by omega⟩) .nil))))
    rw [Bool.and_eq_true, Bool.and_eq_true]
    refine ⟨⟨rfl, decide_eq_true (by omega)⟩, ?_⟩
    rw [Int.toNat_natCast]
    exact fitB_le (by omega)
def cEn : ConF := liftC (eqC fEn (fun x : ElV => [elsD x.1]) fun x => (enD x.1, ⟨0, [], []⟩))
theorem cEn_ok : ConOk Try.prog cEn := liftC_ok (eqC_ok en_ans fun _ => rfl)
theorem enD_flat (l : List El) : flatD (enD l) = true := by
  unfold enD
  split <;> rfl
theorem cEn_at (hp : Hp) (l : List El) (h : SmL l ∧ depA l ≤ 2 ^ 39) : cEn fEn [elsD l] hp = some (enD l, hp, none) :=
  lift_at (A := fun x : ElV => [elsD x.1]) (D := fun x => enD x.1) (fun x y hxy => by
    simp only [List.cons.injEq, and_true] at hxy
    rw [els_inj hxy]) hp ⟨l, h⟩ rfl (enD_flat _)
end
end Go.Proofs.Ytejlbkhddehaiaa
