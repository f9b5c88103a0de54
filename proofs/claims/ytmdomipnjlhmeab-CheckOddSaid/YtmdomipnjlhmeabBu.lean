/- What laws on changed bits use: lengths, places, contracts. -/
import Derived.Test.YtmdomipnjlhmeabBt
namespace Go.Proofs.Ytmdomipnjlhmeab
open Go.RowKit

noncomputable section
theorem len_list (hp : Hp) (xs : List (List DV)) : builtinD tab hp .len [.list 1 xs] [45] = some (.int .i64 (xs.length : Int), hp, none) := by kernel_rfl
theorem len_sl (hp : Hp) (id off n c : Nat) : builtinD tab hp .len [.sl id off 1 n c] [45] = some (.int .i64 (n : Int), hp, none) := by kernel_rfl
theorem sh_len {hp : Hp} {d : DV} {bs : List UInt8} (h : Sh hp d bs) : builtinD tab hp .len [d] [45] = some (iN bs.length, hp, none) := by
  rcases h with rfl | ⟨id, off, o, c, rfl, _⟩
  · have := len_list hp (by1 bs)
    rw [by1_length] at this
    exact this
  · exact len_sl hp id off bs.length c
theorem mul8 {n : Nat} (h : n < 2 ^ 40) : DV.int .i64 (IntKind.i64.wrap (8 * (n : Int))) = iN (8 * n) := by
  rw [show (8 * (n : Int)) = ((8 * n : Nat) : Int) by omega, wrapI (by omega)]
  rfl
theorem rem_n {a n : Nat} (h : n ≠ 0) : binD tab .rem 3 (iN a) (iN n) = some (iN (a % n)) := by
  have hn : ((n : Int) != 0) = true := by
    rw [bne_iff_ne]
    omega
  simp only [binD, iN, isShift, binI, hn, guardO]
  rfl
theorem eq0 {n : Nat} (h : n ≠ 0) : ((n : Int) == 0) = false := by
  rw [beq_eq_false_iff_ne]
  omega
def cBt : CallF := orK cAl3 (orK cApp (orK cApp8 (orK cVerL (orK cVerS cFl))))
theorem cBt_ok : CallOk Try.prog cBt := orK_ok cAl3_ok (orK_ok cApp_ok (orK_ok cApp8_ok (orK_ok cVerL_ok (orK_ok cVerS_ok cFl_ok))))
theorem bt_app {hp : Hp} {d : DV} (b : Bs) (h : frz1 hp d (byL b.1)) : cBt 39 [d] hp = some (.sl (hp.n + 0) 0 1 (withL b.1).length (withL b.1).length, layH hp (oneH (celB (withL b.1))), none) :=
  orK_right (fixC_other (by kernel_rfl)) (orK_left (cApp_at b h))
theorem bt_app8 {hp : Hp} {d : DV} (b : Bs) (h : frz1 hp d (byL b.1)) : cBt 40 [d] hp = some (.sl (hp.n + 0) 0 1 (withS b.1).length (withS b.1).length, layH hp (oneH (celB (withS b.1))), none) :=
  orK_right (fixC_other (by kernel_rfl)) (orK_right (conC_other (by kernel_rfl)) (orK_left (cApp8_at b h)))
theorem bt_ver {hp : Hp} {d x : DV} {y : Hp} (b : Bs) (h : frz1 hp d (byL b.1)) (hv : verL b.1 = (x, y)) : cBt 28 [d] hp = some (sh3 hp.n x, layH hp y, none) := by
  have := cVerL_at (hp := hp) b h
  rw [hv] at this
  exact orK_right (fixC_other (by kernel_rfl)) (orK_right (conC_other (by kernel_rfl)) (orK_right (conC_other (by kernel_rfl)) (orK_left this)))
theorem bt_ver8 {hp : Hp} {d x : DV} {y : Hp} (b : Bs) (h : frz1 hp d (byL b.1)) (hv : verS b.1 = (x, y)) : cBt 29 [d] hp = some (sh3 hp.n x, layH hp y, none) := by
  have := cVerS_at (hp := hp) b h
  rw [hv] at this
  exact orK_right (fixC_other (by kernel_rfl)) (orK_right (conC_other (by kernel_rfl)) (orK_right (conC_other (by kernel_rfl)) (orK_right (conC_other (by kernel_rfl)) (orK_left this))))
theorem bt_fl {hp : Hp} {d : DV} (b : Bs) (i : Nat) (hi : i < 8 * b.1.length) (h : frz1 hp d (byL b.1)) : cBt 46 [d, iN i] hp = some (.sl (hp.n + 0) 0 1 (flip b.1 i).length (flip b.1 i).length, layH hp (ownH 5 1 (celB (flip b.1 i))), none) :=
  orK_right (fixC_other (by kernel_rfl)) (orK_right (conC_other (by kernel_rfl)) (orK_right (conC_other (by kernel_rfl)) (orK_right (conC_other (by kernel_rfl)) (orK_right (conC_other (by kernel_rfl)) (cFl_at b i hi h)))))
theorem bt_sh {hp hp' : Hp} (hl : hp'.l.length = hp'.n) {d : DV} {bs : List UInt8} (h : Sh hp d bs) : Sh (layH hp hp') d bs := by
  rcases h with rfl | ⟨id, off, o, c, rfl, h1, h2⟩
  · exact .inl rfl
  · exact .inr ⟨id, off, o, c, rfl, by rw [layH_get hl, if_pos (Hp.get_lt h1)]; exact h1, h2⟩
theorem bt_pre {hp : Hp} {bs cs : List UInt8} {n : Nat} (hb : cs.take n = bs) (hn : bs.length = n) (c : Nat) : Sh (layH hp (oneH (celB cs))) (.sl (hp.n + 0) 0 1 n c) bs := by
  subst hn
  refine .inr ⟨_, 0, ⟨0, 0, 5, celB cs⟩, c, rfl, by rw [layH_get rfl, if_neg (by omega)]; simp; rfl, fun i b hi => celB_get ?_⟩
  rw [← hb, List.getElem?_take] at hi
  split at hi
  · exact hi
  · cases hi
theorem withL_len (bs : List UInt8) : (withL bs).length = bs.length + 4 := with_len32 bs
theorem withS_len (bs : List UInt8) : (withS bs).length = bs.length + 1 := with_len8 bs
/-! ### Arguments of 16 bits each -/
def w16s (vs : List Nat) : List (List DV) := vs.map fun (v : Nat) => [.int .u16 (v : Int)]
theorem w16s_length (vs : List Nat) : (w16s vs).length = vs.length := by simp [w16s]
theorem w16s_nth {vs : List Nat} {k v : Nat} (h : vs[k]? = some v) : nth (w16s vs) ((k : Int).toNat) = some [.int .u16 (v : Int)] := by
  rw [nth_eq, Int.toNat_natCast]
  simp [w16s, h]
theorem opens16 : Opens Try.prog 61 (Ty.slice (Ty.nat .u16)) := Opens.slice Try.underlying61 (by kernel_rfl) (Opens.nat rfl Try.underlying63 (by kernel_rfl)) (by decide)
theorem vr_16s {w : World} {S : Nat → Prop} {A : Option Addr} {n c : Nat} {a : List Nat} (r : (Ty.slice (Ty.nat .u16)).rep w S a [.slice A n c]) :
    VR w (ro S) (.list 1 (w16s a)) (.slice A n c) ∧ ∀ v ∈ a, v < 65536 := by
  obtain ⟨A', n', c', h0, h1, h2, h3, h4⟩ := rep_slice r
  cases h0
  have hwf := h4.ints_wf
  have hlt : ∀ x ∈ a, x < 65536 := fun x hx => by
    have := hwf x hx
    simp [Lit.wf, IntKind.min, IntKind.max, IntKind.signed, IntKind.bits] at this
    omega
  refine ⟨?_, hlt⟩
  have hlen := h4.len
  have hn : (w16s a).length = n := by rw [w16s_length, hlen]
  rcases Nat.eq_zero_or_pos n with h0 | hpos
  · have ha : a = [] := List.eq_nil_of_length_eq_zero (by omega)
    subst ha
    rw [← hn]
    exact .list _ 1 _ A c 0 0 (fun _ _ => undef) (Nat.zero_le _) h2 h3 (fun h => absurd h (by simp [w16s])) (fun i cs h => by simp [w16s] at h) (fun i cs j d h => by simp [w16s] at h) (fun i cs j d h => by simp [w16s] at h) (fun cs h => by simp [w16s] at h)
  · obtain ⟨b, off, rfl, hb, hc⟩ := h4.ints hpos
    have row : ∀ (i : Nat) (cs : List DV), (w16s a)[i]? = some cs → ∃ x, a[i]? = some x ∧ cs = [.int .u16 (x : Int)] := fun i cs hi => by
      simp only [w16s, List.getElem?_map, Option.map_eq_some_iff] at hi
      obtain ⟨x, hx, rfl⟩ := hi
      exact ⟨x, hx, rfl⟩
    rw [← hn]
    refine .list _ 1 _ (some ⟨b, off, none⟩) c b off (fun i _ => .int .u16 ((a.getD i 0 : Nat) : Int)) (by omega) h2 (fun h => by cases h) (fun _ => ⟨rfl, hb⟩) (fun i cs hi => ?_) (fun i cs j d hi hj => ?_) (fun i cs j d hi hj => ?_) (fun cs hcs => ?_)
    · obtain ⟨x, _, rfl⟩ := row i cs hi
      rfl
    · obtain ⟨x, hx, rfl⟩ := row i cs hi
      cases j with
      | zero =>
        have := hc i x hx
        simpa [List.getD, hx] using this
      | succ j => simp at hj
    · obtain ⟨x, hx, rfl⟩ := row i cs hi
      cases j with
      | zero =>
        simp at hj
        subst hj
        simp only [List.getD, hx, Option.getD_some]
        exact .int _ _ _
      | succ j => simp at hj
    · obtain ⟨i, hi⟩ := List.mem_iff_getElem?.1 hcs
      obtain ⟨x, _, rfl⟩ := row i cs hi
      rfl
end
end Go.Proofs.Ytmdomipnjlhmeab
