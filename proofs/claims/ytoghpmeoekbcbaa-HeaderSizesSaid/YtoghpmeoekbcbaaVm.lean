/- Code over abstract data: regions whose operations come in the text's order, but for those that look at slots or at objects that nobody writes, or make objects out of constants. No function of the program is named here. -/
import Derived.Test.YtoghpmeoekbcbaaVf
namespace Go.Proofs.Ytoghpmeoekbcbaa
open Go.RowKit

noncomputable section
section
variable {P : Program} {T : Tab} {call : CallF} {W0 : World} {base : Nat} {S0 : Nat → Prop} {N : Nat} {ops : Array Oper} {rs : List Rec} {sl0 : Slots} {hp0 hp1 : Hp} {Q : Exit → Act → World → Prop} {E0 : Env} {w0 : World} {D : Nat → Prop} {E : Env} {a : Act} {w : World}
variable {ro : Option Nat} {dl : List Deferred} {fm : Fm} {ds : List (Option Tmp)}
theorem constP_mem : ∀ {l : List (Nat × Operand)}, constP l = true → ∀ x ∈ l, ∃ v, x.2 = .const v
  | [], _, x, h => by cases h
  | (i, .const v) :: l, h, x, hx => by
    rcases List.mem_cons.1 hx with rfl | hx
    · exact ⟨v, rfl⟩
    · exact constP_mem (l := l) h x hx
/-- what an object out of constants is -/
theorem mk_aop {o : Oper} (hm : isMk o = true) {hp hp' : Hp} {sl : Slots} {d : DV} (h : aop T hp sl o.op = .done (d, hp', none)) : o.guard = none ∧ ∃ s n c e cells, d = .sl hp.n 0 s n c ∧ hp' = pushH hp 0 e cells ∧ ∀ hp2 sl2, aop T hp2 sl2 o.op = .done (.sl hp2.n 0 s n c, pushH hp2 0 e cells, none) := by
  unfold isMk at hm
  split at hm
  · rename_i t n ps hg ho
    refine ⟨hg, ?_⟩
    rw [ho] at h ⊢
    simp only [aop] at h ⊢
    have hev : ∀ sl2, evParts sl2 ps.toList = evParts sl ps.toList := fun sl2 => evParts_congr fun x hx => by
      obtain ⟨v, hv⟩ := constP_mem hm x hx
      rw [hv]
      rfl
    unfold opBuildSlice at h
    split at h
    · rename_i i pp hT hp2
      split at h
      · rename_i e htd
        split at h
        · rename_i j hTe
          split at h
          · rename_i z zs hz hb1 hb2
            split at h
            · rename_i cs hf
              cases h
              refine ⟨j.size, n, n, e, cs, rfl, rfl, fun hp2' sl2 => ?_⟩
              unfold opBuildSlice
              rw [hT, hev sl2, hp2]
              simp only [htd, hTe, hz, hb1, hb2, hf]
            · cases h
          · cases h
        · cases h
      · cases h
    · cases h
  · rename_i t ku nu v hg ho
    refine ⟨hg, ?_⟩
    rw [ho] at h ⊢
    simp only [aop] at h ⊢
    have hu : ∀ sl2, ev sl2 (.const (.int ku (.ofNat (nu + 1)))) = some (.int ku (.ofNat (nu + 1))) := fun _ => rfl
    unfold opMakeSlice at h
    rw [hu sl] at h
    split at h
    · rename_i i k1 l k2 c hT h1 h2
      cases h1
      split at h
      · rename_i e htd
        split at h
        · rename_i j hTe
          split at h
          · rename_i z zs hz
            split at h
            · rename_i hb
              cases h
              refine ⟨j.size, nu + 1, c.toNat, e, nlist c.toNat (z :: zs), rfl, rfl, fun hp2' sl2 => ?_⟩
              unfold opMakeSlice
              rw [hT, hu sl2, show ev sl2 (.const v) = ev sl (.const v) from rfl, h2]
              simp only [htd, hTe, hz, hb]
              rfl
            · cases h
          · cases h
        · cases h
      · cases h
    · cases h
  · cases hm
def MkR (T : Tab) : List Oper → List DV → Hp → Hp → Prop
  | [], _, hp, hp1 => hp = hp1
  | o :: l, dl, hp, hp1 => (isMk o = false ∧ MkR T l dl hp hp1) ∨ (isMk o = true ∧ ∃ s n c e cells dl', dl = .sl hp.n 0 s n c :: dl' ∧ (∀ hp2 sl2, aop T hp2 sl2 o.op = .done (.sl hp2.n 0 s n c, pushH hp2 0 e cells, none)) ∧ MkR T l dl' (pushH hp 0 e cells) hp1)
theorem regM1_ok : ∀ {l : List Oper} {hp hp1 : Hp} {dl : List DV}, regM1 T l hp = some (dl, hp1) → MkR T l dl hp hp1
  | [], hp, hp1, dl, h => by cases h; rfl
  | o :: l, hp, hp1, dl, h => by
    simp only [regM1] at h
    split at h
    · rename_i hm
      split at h
      · rename_i d hpx hop
        split at h
        · rename_i ds' hpy hrest
          cases h
          obtain ⟨_, s, n, c, e, cells, rfl, rfl, h3⟩ := mk_aop hm hop
          exact .inr ⟨hm, s, n, c, e, cells, ds', rfl, h3, regM1_ok hrest⟩
        · cases h
      · cases h
    · rename_i hm
      exact .inl ⟨hm, regM1_ok h⟩
theorem mkR_ext : ∀ {l : List Oper} {hp hp1 : Hp} {dl : List DV}, MkR T l dl hp hp1 → hp.n ≤ hp1.n ∧ (∀ id, id < hp.n → hp1.get id = hp.get id) ∧ hp1.ls = hp.ls
  | [], hp, hp1, dl, h => by cases h; exact ⟨Nat.le_refl _, fun _ _ => rfl, rfl⟩
  | o :: l, hp, hp1, dl, h => by
    rcases h with ⟨_, h⟩ | ⟨_, s, n, c, e, cells, dl', _, _, h⟩
    · exact mkR_ext h
    · obtain ⟨h1, h2, h3⟩ := mkR_ext h
      have hn : (pushH hp 0 e cells).n = hp.n + 1 := rfl
      refine ⟨by omega, fun id hid => (h2 id (by omega)).trans ?_, h3⟩
      unfold pushH
      rw [Hp.get_push, if_neg (by omega)]
abbrev MCan (T : Tab) (call : CallF) (ds : List (Option Tmp)) (M : Nat) (l : List Oper) (sl : Slots) (hp : Hp) (lds : List Nat) (ms : List (Nat × Bool)) (lo : Mut) (sl' : Slots) (hp' : Hp) (mu : Mut) (ha hb : Hp) : Prop :=
    ∃ rs LD MS, l.length = rs.length ∧ slR l rs sl = sl' ∧ hpR rs hp = hp' ∧ (∀ b, mutOk b mu → mutOk b lo ∧ ∀ r ∈ rs, mutOk b r.mu) ∧ lmOk MS LD = true ∧ topOk M mu = true ∧ (∀ x ∈ lds, x ∈ LD) ∧ (∀ x ∈ ms, x ∈ MS) ∧
      (∀ (j : Nat) o t x id off, l[j]? = some o → gate ds (slAt l rs sl j) o.guard = some true → o.op = .load t x → ev (slAt l rs sl j) x = some (.ptr id off) → id ∈ LD) ∧
      (∀ (j : Nat) o r m, l[j]? = some o → rs[j]? = some r → r.mu = some m → ∃ ex, (m, ex) ∈ MS ∧ (ex = true → stEx (slAt l rs sl j) (hpAt rs hp j) o.op = true)) ∧
      (∀ (j : Nat) o r, l[j]? = some o → rs[j]? = some r → isMk o = false → StepC T call ds o (slAt l rs sl j) (hpAt rs hp j) r) ∧
      (∀ (j : Nat) o r, l[j]? = some o → rs[j]? = some r → isMk o = true → r.hp = hpAt rs hp j ∧ r.mu = none ∧ ∃ id s n c e cells, r.d = .sl id 0 s n c ∧ ha.n ≤ id ∧ id < hb.n ∧ hb.get id = some ⟨0, 0, e, cells⟩ ∧ ∀ hp2 sl2, aop T hp2 sl2 o.op = .done (.sl hp2.n 0 s n c, pushH hp2 0 e cells, none)) ∧
      ∀ (j j' : Nat) o o' r r' id s n c id' s' n' c', l[j]? = some o → l[j']? = some o' → rs[j]? = some r → rs[j']? = some r' → isMk o = true → isMk o' = true → r.d = .sl id 0 s n c → r'.d = .sl id' 0 s' n' c' → j < j' → id < id'
theorem regM_can : ∀ {l : List Oper} {sl : Slots} {hp : Hp} {dl : List DV} {lds : List Nat} {ms : List (Nat × Bool)} {lo : Mut} {sl' : Slots} {hp' : Hp} {mu : Mut} {M : Nat} {ha hb : Hp}, MkR T l dl ha hb → regM T call ds M l sl hp dl lds ms lo = some (sl', hp', mu) →
    MCan T call ds M l sl hp lds ms lo sl' hp' mu ha hb
  | [], sl, hp, dl, lds, ms, lo, sl', hp', mu, M, ha, hb, hmk, h => by
    have h : (match lmOk ms lds, topOk M lo with | true, true => some (sl, hp, lo) | _, _ => none) = some (sl', hp', mu) := h
    split at h
    · rename_i ht ht2
      cases h
      exact ⟨[], lds, ms, rfl, rfl, rfl, fun b hb => ⟨hb, fun r hr => by cases hr⟩, ht, ht2, fun x hx => hx, fun x hx => hx, fun j o t x id off hj => by simp at hj, fun j o r m hj => by simp at hj, fun j o r hj => by simp at hj, fun j o r hj => by simp at hj, fun j j' o o' r r' id s n c id' s' n' c' hj => by simp at hj⟩
    · cases h
  | o :: l, sl, hp, dl, lds, ms, lo, sl', hp', mu, M, ha, hb, hmk, h => by
    rw [regM_cons] at h
    -- one operation and the others
    have fin : ∀ (r : Rec) (dl' : List DV) (lds' : List Nat) (ms' : List (Nat × Bool)) (lo' : Mut) (ha' : Hp), MkR T l dl' ha' hb → regM T call ds M l (putO sl o.dst r.d) r.hp dl' lds' ms' lo' = some (sl', hp', mu) → (∀ b, mutOk b lo' → mutOk b lo ∧ mutOk b r.mu) → (∀ x ∈ lds, x ∈ lds') → (∀ x ∈ ms, x ∈ ms') →
        (∀ t x id off, gate ds sl o.guard = some true → o.op = .load t x → ev sl x = some (.ptr id off) → id ∈ lds') → (∀ m, r.mu = some m → ∃ ex, (m, ex) ∈ ms' ∧ (ex = true → stEx sl hp o.op = true)) → (isMk o = false → StepC T call ds o sl hp r) → ha.n ≤ ha'.n →
        (isMk o = true → r.hp = hp ∧ r.mu = none ∧ ∃ id s n c e cells, r.d = .sl id 0 s n c ∧ ha.n ≤ id ∧ id < hb.n ∧ id < ha'.n ∧ hb.get id = some ⟨0, 0, e, cells⟩ ∧ ∀ hp2 sl2, aop T hp2 sl2 o.op = .done (.sl hp2.n 0 s n c, pushH hp2 0 e cells, none)) → MCan T call ds M (o :: l) sl hp lds ms lo sl' hp' mu ha hb := by
      intro r dl' lds' ms' lo' ha' hmk' h' g1 g2 g3 g4 g5 g6 g7 g8
      obtain ⟨rs, LD, MS, h0, h2, h3, h4, h5, ht, h6, h7, h8, h9, h10, h11, h12⟩ := regM_can hmk' h'
      refine ⟨r :: rs, LD, MS, by simp [h0], h2, h3, fun b hb => ?_, h5, ht, fun x hx => h6 x (g2 x hx), fun x hx => h7 x (g3 x hx), fun j oj t x id off hj hgj hoj hev => ?_, fun j oj r' m hj hr hm => ?_, fun j oj r' hj hr hm => ?_, fun j oj r' hj hr hm => ?_, fun j j' oj oj' q q' id s n c id' s' n' c' hj hj' hq hq' hm hm' hd hd' hlt => ?_⟩
      · obtain ⟨q1, q2⟩ := h4 b hb
        obtain ⟨q3, q4⟩ := g1 b q1
        exact ⟨q3, fun r' hr => by rcases List.mem_cons.1 hr with rfl | hr; exact q4; exact q2 r' hr⟩
      · cases j with
        | zero =>
          simp only [List.getElem?_cons_zero, Option.some.injEq] at hj
          subst hj
          exact h6 id (g4 t x id off hgj hoj hev)
        | succ j => exact h8 j oj t x id off (by simpa using hj) hgj hoj hev
      · cases j with
        | zero =>
          simp only [List.getElem?_cons_zero, Option.some.injEq] at hj hr
          subst hj
          subst hr
          obtain ⟨ex, e1, e2⟩ := g5 m hm
          exact ⟨ex, h7 _ e1, e2⟩
        | succ j => exact h9 j oj r' m (by simpa using hj) (by simpa using hr) hm
      · cases j with
        | zero =>
          simp only [List.getElem?_cons_zero, Option.some.injEq] at hj hr
          subst hj
          subst hr
          exact g6 hm
        | succ j => exact h10 j oj r' (by simpa using hj) (by simpa using hr) hm
      · cases j with
        | zero =>
          simp only [List.getElem?_cons_zero, Option.some.injEq] at hj hr
          subst hj
          subst hr
          obtain ⟨e1, e2, id, s, n, c, e, cells, k1, k2, k3, _, k4, k5⟩ := g8 hm
          exact ⟨e1, e2, id, s, n, c, e, cells, k1, k2, k3, k4, k5⟩
        | succ j =>
          obtain ⟨e1, e2, id, s, n, c, e, cells, k1, k2, k3, k4, k5⟩ := h11 j oj r' (by simpa using hj) (by simpa using hr) hm
          exact ⟨e1, e2, id, s, n, c, e, cells, k1, by omega, k3, k4, k5⟩
      · cases j' with
        | zero => omega
        | succ j' =>
          simp only [List.getElem?_cons_succ] at hj' hq'
          cases j with
          | zero =>
            simp only [List.getElem?_cons_zero, Option.some.injEq] at hj hq
            subst hj
            subst hq
            obtain ⟨_, _, i1, s1, n1, c1, e1, l1, k1, _, _, k2, _⟩ := g8 hm
            obtain ⟨_, _, i2, s2, n2, c2, e2, l2, k3, k4, _⟩ := h11 j' oj' q' hj' hq' hm'
            rw [hd] at k1
            rw [hd'] at k3
            cases k1
            cases k3
            omega
          | succ j =>
            exact h12 j j' oj oj' q q' id s n c id' s' n' c' (by simpa using hj) hj' (by simpa using hq) hq' hm hm' hd hd' (by omega)
    rcases hmk with ⟨hm, hmk⟩ | ⟨hm, s, n, c, e, cells, dl', rfl, hao, hmk⟩
    · rw [hm] at h
      simp only at h
      unfold gateX at h
      split at h
      · rename_i hg
        unfold regF1 at h
        split at h
        · rename_i d hp2 m1 hop
          refine fin ⟨d, hp2, m1⟩ dl _ _ _ ha hmk h (fun b hb => mutOk_mmin hb) (fun x hx => ?_) (fun x hx => ?_) (fun t x id off _ hoj hev => ?_) (fun m hmm => ?_) (fun _ => .inl ⟨hg, hop⟩) (Nat.le_refl _) (fun hh => by rw [hm] at hh; cases hh)
          · unfold ldAdd
            split
            · exact List.mem_cons_of_mem _ hx
            · exact hx
          · unfold muAdd
            split
            · exact hx
            · exact List.mem_cons_of_mem _ hx
          · have e : ldOf sl o.op = some id := by rw [hoj]; simp only [ldOf, hev]
            rw [e]
            exact List.mem_cons_self ..
          · have hmm : m1 = some m := hmm
            subst hmm
            exact ⟨stEx sl hp o.op, List.mem_cons_self .., fun h => h⟩
        · cases h
      · rename_i hg
        exact fin ⟨.tuple [], hp, none⟩ dl _ _ _ ha hmk h (fun b hb => ⟨hb, trivial⟩) (fun x hx => hx) (fun x hx => hx) (fun t x id off hgg _ _ => by rw [hg] at hgg; cases hgg) (fun m hmm => by cases hmm) (fun _ => .inr ⟨hg, rfl⟩) (Nat.le_refl _) (fun hh => by rw [hm] at hh; cases hh)
      · cases h
    · rw [hm] at h
      simp only at h
      have hn : (pushH ha 0 e cells).n = ha.n + 1 := rfl
      obtain ⟨x1, x2, _⟩ := mkR_ext hmk
      refine fin ⟨.sl ha.n 0 s n c, hp, none⟩ dl' _ _ _ (pushH ha 0 e cells) hmk h (fun b hb => ⟨hb, trivial⟩) (fun x hx => hx) (fun x hx => hx) (fun t x id off _ hoj _ => ?_) (fun m hmm => by cases hmm) (fun hh => by rw [hm] at hh; cases hh) (by omega) (fun _ => ⟨rfl, rfl, ha.n, s, n, c, e, cells, rfl, Nat.le_refl _, by omega, by omega, ?_, hao⟩)
      · unfold isMk at hm
        rw [hoj] at hm
        split at hm
        · rename_i h9; cases h9
        · rename_i h9; cases h9
        · cases hm
      · rw [x2 ha.n (by omega)]
        unfold pushH
        rw [Hp.get_push, if_pos rfl]
end
end
end Go.Proofs.Ytoghpmeoekbcbaa
