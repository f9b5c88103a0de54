/- ElementJoins is true of all data. -/
import Derived.Test.YtkcldejfmmeoaaaFj
namespace Go.Proofs.Ytkcldejfmmeoaaa
open Go.RowKit

noncomputable section
theorem bin_add (s t : ByteArray) : binD tab .add 9 (.str s) (.str t) = binS .add s t := by kernel_rfl
theorem str_add (a b : List UInt8) (h : a.length + b.length ≤ 2 ^ 40) : binD tab .add 9 (.str ⟨a.toArray⟩) (.str ⟨b.toArray⟩) = some (.str ⟨(a ++ b).toArray⟩) := by
  have hb : Nat.ble (lenB ⟨a.toArray⟩ + lenB ⟨b.toArray⟩) 9223372036854775807 = true := bleT (show a.length + b.length ≤ _ by omega)
  rw [bin_add]
  simp only [binS, hb, guardO]
  rfl
theorem js_see {us bs : List (List DV)} {d : DV} {hp : Hp} {w : List El} (h : SbS 34 4 hp d (celE w) w.length) (hl : hp.ls = []) : Seen (mkT 99 [(5, .bool true), (6, .list 1 us), (8, .list 1 bs), (10, d)]) hp (jsS us bs (elR w)) h00 :=
  seen_melt (melt_nil hl) fun t a ht => by
    rcases List.mem_cons.1 ht with h1 | ht
    · cases h1
      exact ⟨_, by kernel_rfl, .frz _ _ (.flat _ rfl)⟩
    rcases List.mem_cons.1 ht with h1 | ht
    · cases h1
      exact ⟨_, by kernel_rfl, .frz _ _ (.flat _ rfl)⟩
    rcases List.mem_cons.1 ht with h1 | ht
    · cases h1
      exact ⟨_, by kernel_rfl, .frz _ _ (.flat _ rfl)⟩
    · obtain h1 := List.mem_singleton.1 ht
      cases h1
      exact ⟨d, by kernel_rfl, .frz _ _ h.frzE⟩
theorem sbS_e : SbS 34 4 oL4 (sl4 0 0) (celE []) ([] : List El).length := ⟨rfl, 0, _, rfl, rfl, .inl rfl, rfl, rfl⟩
theorem sbS_b : SbS 5 1 oL1 (slN 0 0) (celB []) ([] : List UInt8).length := ⟨rfl, 0, _, rfl, rfl, .inl rfl, rfl, rfl⟩
theorem smL_append : ∀ {l m : List El}, smL l → smL m → smL (l ++ m)
  | [], _, _, h => h
  | _ :: _, _, h, h' => ⟨h.1, smL_append h.2 h'⟩
theorem depA_append : ∀ (l m : List El), depA (l ++ m) = max (depA l) (depA m)
  | [], m => by simp [depA]
  | x :: l, m => by
    have := depA_append l m
    show max (depE x) (depA (l ++ m)) = max (max (depE x) (depA l)) (depA m)
    omega
theorem okA_append : ∀ {l m : List El}, okL l → okL m → okL (l ++ m)
  | [], _, _, h => h
  | _ :: _, _, h, h' => ⟨h.1, okA_append h.2 h'⟩
theorem cJs_of {f : FuncId} {args : List DV} {hp : Hp} {r : DV × Hp × Mut} (h : cBk f args hp = some r) : cJs f args hp = some r := orK_left h
theorem js_all (x y : ElA) : Ans Try.prog fJs [elsD x.1, elsD y.1] (.bool true) ⟨0, [], []⟩ := by
  have hg1 := cBk_gr h00 x
  have hg2 := cBk_gr h00 y
  obtain ⟨l, hl1, hl2⟩ := x
  obtain ⟨m, hm1, hm2⟩ := y
  have al := cJs_of cBk_al
  cases q1 : grB l with
  | true =>
    rw [q1] at hg1
    exact zflat_ok tab_ok mixed fun_ok cJs_ok (js1 cJs (elR l) (elR m)) (.cons al (.cons (cJs_of hg1) .nil))
  | false =>
    rw [q1] at hg1
    cases q2 : grB m with
    | true =>
      rw [q2] at hg2
      exact zflat_ok tab_ok mixed fun_ok cJs_ok (js2 cJs (elR l) (elR m)) (.cons al (.cons (cJs_of hg1) (.cons (cJs_of hg2) .nil)))
    | false =>
      rw [q2] at hg2
      obtain ⟨hsl, hl200⟩ := small_of hl2 q1
      obtain ⟨hsm, hm200⟩ := small_of hm2 q2
      have hdl := dep_of q1
      have hdm := dep_of q2
      have hel := cBk_en h00 l ⟨hsl, by omega⟩
      have hem := cBk_en h00 m ⟨hsm, by omega⟩
      have pre : ∀ {t : List Prop}, AskedP t → AskedP (jsN cJs (elR l) (elR m) t) := fun ht => .cons al (.cons (cJs_of hg1) (.cons (cJs_of hg2) ht))
      cases he : (szR l).2 with
      | succ e =>
        rw [enD_no he] at hel
        have hem' : ∃ bs f, enD m = .tuple [.list 1 bs, iN f] := by
          unfold enD
          split
          · exact ⟨_, _, rfl⟩
          · exact ⟨_, _, rfl⟩
        obtain ⟨bs, f, hbf⟩ := hem'
        rw [hbf] at hem
        exact zflat_ok tab_ok mixed fun_ok cJs_ok (js3 cJs (elR l) (elR m) e f bs) (pre (.cons (cJs_of hel) (.cons (cJs_of hem) (.cons (bne_iff_ne.2 (by omega)) .nil))))
      | zero =>
        rw [enD_ok he] at hel
        cases hf : (szR m).2 with
        | succ f =>
          rw [enD_no hf] at hem
          exact zflat_ok tab_ok mixed fun_ok cJs_ok (js4 cJs (elR l) (elR m) f (by1 (encA l))) (pre (.cons (cJs_of hel) (.cons (cJs_of hem) (.cons (bne_iff_ne.2 (by omega)) .nil))))
        | zero =>
          rw [enD_ok hf] at hem
          obtain ⟨n1, g1⟩ := good_of he
          obtain ⟨n2, g2⟩ := good_of hf
          have hla := enc_len he
          have hlb := enc_len hf
          obtain ⟨c1, c2, c3⟩ := vf_count l 1 0 (by rw [g1.f])
          obtain ⟨c4, c5, c6⟩ := vf_count m 1 0 (by rw [g2.f])
          have hle1 := vf_le (l := l) (d := 1) (n := 0) (by decide) (by rw [g1.f])
          have hle2 := vf_le (l := m) (d := 1) (n := 0) (by decide) (by rw [g2.f])
          have hnl : nmL l ≤ 64 := by omega
          have hnm : nmL m ≤ 64 := by omega
          have hcnt : nmL (l ++ m) = nmL l + nmL m := nmL_append l m
          have hvd : vdA (l ++ m) = true := by rw [vd_append, g1.v, g2.v]; rfl
          have hsz : ∃ z, szA 0 (l ++ m) = some z := by
            obtain ⟨z, hz⟩ := g1.s
            rw [sz_append, hz]
            obtain ⟨z', hz'⟩ := g2.s
            exact sz_any m hz' z
          have hd5l := dep_vf l 1 0 (by rw [g1.f]) (by decide) (by decide)
          have hd5m := dep_vf m 1 0 (by rw [g2.f]) (by decide) (by decide)
          have hdep : depA (l ++ m) + 1 ≤ 5 := by rw [depA_append]; omega
          have henc : encA (l ++ m) = encA l ++ encA m := encA_append l m
          have hsb : SmL (l ++ m) := ⟨by rw [List.length_append]; omega, smL_append hsl.2 hsm.2⟩
          obtain ⟨d1, h1, m1, a1, s1, t1⟩ := appE sbS_e l (by simp; omega)
          obtain ⟨d2, h2, m2, a2, s2, t2⟩ := appE s1 m (by simp; omega)
          obtain ⟨d3, h3, m3, a3, s3, t3⟩ := appU sbS_b (encA l) (by simp; omega)
          obtain ⟨d4, h4, m4, a4, s4, t4⟩ := appU s3 (encA m) (by simp; omega)
          rw [List.nil_append] at s1 s2 s3 s4
          have hsee := js_see (us := by1 (encA l)) (bs := by1 (encA m)) s2 (by rw [t2, t1])
          have hboth := cBk_en h00 (l ++ m) ⟨hsb, by omega⟩
          have hdec : AnsH Try.prog fDe [d4] h4 (deD (encA l ++ encA m)) h00 := AnsH.frz1 (de_ans ⟨encA l ++ encA m, by rw [List.length_append]; omega⟩) (by rw [t4, t3]) s4.frzB
          have hcn : cJs fCn [elsD (l ++ m)] h00 = some (.int .i64 ((nmL (l ++ m) : Nat) : Int), h00, none) := by
            have := cCnt_at h00 ⟨l ++ m, by rw [List.length_append]; omega, okA_append hl2 hm2⟩
            have hz := cntA_eq (l ++ m) 0 (by rw [hcnt]; omega)
            rw [show (((0 : Nat) : Int)) = 0 from rfl, Nat.zero_add] at hz
            dsimp only at this
            rw [hz] at this
            exact orK_right cBk_cn this
          by_cases hmany : nmL l + nmL m > 64
          · have e4 : (szR (l ++ m)).2 = 4 := by
              have hvf : (vfA (l ++ m) 1 0).2 = false := by
                rw [vf_append, g1.f]
                dsimp only
                rcases c5 n1 with h | ⟨h, _⟩
                · rw [h]
                  have : n1 = 0 + nmL l := by rw [← c1, g1.f]
                  exact decide_eq_false (by omega)
                · omega
              unfold szR
              rw [hvf]
            have d4' : deE (encA l ++ encA m) = 4 := by
              have := dec_many 4 (by decide) (l ++ m) 0 (by decide) (by omega) hvd hsz (by rw [hcnt]; omega)
              rw [henc] at this
              exact this
            rw [enD_no e4] at hboth
            have hdd : deD (encA l ++ encA m) = .tuple [elsD [], iN 4] := by unfold deD; rw [d4', de_none d4']
            rw [hdd] at hdec
            exact zflat_ok tab_ok mixed fun_ok cJs_ok (js5 cJs (elR l) (elR m) (by1 (encA l)) (by1 (encA m)) (elR (l ++ m)) [] [] d1 d2 d3 d4 h1 h2 h3 h4 m1 m2 m3 m4 ((nmL (l ++ m) : Nat) : Int)) (pre (.cons (cJs_of hel) (.cons (cJs_of hem) (.cons a1 (.cons a2 (.cons hsee (.cons (cJs_of hboth) (.cons a3 (.cons a4 (.cons hdec (.cons hcn (.cons (decide_eq_true (by omega)) .nil))))))))))))
          · have hgood : Good (l ++ m) 1 0 (nmL (l ++ m)) := ⟨by rw [vf_few (l ++ m) 1 0 (by omega) (by omega), Nat.zero_add], hvd, hsz⟩
            have h0 := szR_of hgood
            have hde := de_en h0
            rw [enD_ok h0, henc] at hboth
            rw [← henc, hde] at hdec
            have hsame := cBk_sa (cSz_at (hp := h00) hsb hsb (frz_list _ 4 _) (frz_list _ 4 _))
            rw [eqB_t rfl] at hsame
            exact zflat_ok tab_ok mixed fun_ok cJs_ok (js6 cJs (elR l) (elR m) (by1 (encA l)) (by1 (encA m)) (elR (l ++ m)) (by1 (encA l ++ encA m)) (elR (l ++ m)) d1 d2 d3 d4 h1 h2 h3 h4 m1 m2 m3 m4 ((nmL (l ++ m) : Nat) : Int) ⟨(encA l ++ encA m).toArray⟩ ⟨(encA l).toArray⟩ ⟨(encA m).toArray⟩) (pre (.cons (cJs_of hel) (.cons (cJs_of hem) (.cons a1 (.cons a2 (.cons hsee (.cons (cJs_of hboth) (.cons a3 (.cons a4 (.cons hdec (.cons hcn (.cons (decide_eq_false (by omega)) (.cons (conv_str (.inl rfl)) (.cons (conv_str (.inl rfl)) (.cons (conv_str (.inl rfl)) (.cons (str_add _ _ (by omega)) (.cons (by rw [eqBytes_iff]; simp) (.cons (cJs_of hsame) .nil))))))))))))))))))
end
end Go.Proofs.Ytkcldejfmmeoaaa
