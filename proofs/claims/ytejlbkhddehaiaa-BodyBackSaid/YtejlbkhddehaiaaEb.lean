/- Rows of elements. No function of the program is named here. -/
import Derived.Test.YtejlbkhddehaiaaVe
import Derived.Test.YtejlbkhddehaiaaQc
namespace Go.Proofs.Ytejlbkhddehaiaa
open Go.RowKit

noncomputable section
abbrev elC (i e : UInt8) (ys ss : List (List DV)) : List DV := [i8 i, i8 e, .list 1 ys, .list 4 ss]
abbrev weA (xs : List (List DV)) (j : Nat) (i e : UInt8) (ys ss : List (List DV)) (t : List Prop) : List Prop := (idxOk (j : Int) xs.length = true) :: (nth xs ((j : Int).toNat) = some (elC i e ys ss)) :: t
mutual
theorem elD_inj : ∀ {x y : El}, elD x = elD y → x = y
  | .mk i e d s, .mk i' e' d' s', h => by
    simp only [elD, List.cons.injEq, and_true, byL, DV.list.injEq, true_and] at h
    obtain ⟨h1, h2, h3, h4⟩ := h
    rw [i8_inj h1, i8_inj h2, by1_inj h3, elR_inj h4]
theorem elR_inj : ∀ {l m : List El}, elR l = elR m → l = m
  | [], [], _ => rfl
  | [], _ :: _, h => by simp [elR] at h
  | _ :: _, [], h => by simp [elR] at h
  | x :: l, y :: m, h => by
    simp only [elR, List.cons.injEq] at h
    rw [elD_inj h.1, elR_inj h.2]
end
theorem elR_at {l : List El} {j : Nat} {i e : UInt8} {d : List UInt8} {s : List El} (h : l[j]? = some (.mk i e d s)) : nth (elR l) ((j : Int).toNat) = some (elC i e (by1 d) (elR s)) := by
  rw [nth_eq, Int.toNat_natCast]
  have hlt := (List.getElem?_eq_some_iff.1 h).1
  have hlt' : j < (elR l).length := by rw [elR_length]; exact hlt
  obtain ⟨x, h1, h2⟩ := elR_get (List.getElem?_eq_getElem hlt')
  rw [h] at h1
  cases h1
  rw [List.getElem?_eq_getElem hlt', h2]
  rfl
mutual
/-- how deep they are nested -/
def depE : El → Nat
  | .mk _ _ _ s => depA s + 1
def depA : List El → Nat
  | [] => 0
  | x :: l => max (depE x) (depA l)
end
theorem dep_sub {l : List El} {j : Nat} {i e : UInt8} {d : List UInt8} {s : List El} (h : l[j]? = some (.mk i e d s)) : depA s + 1 ≤ depA l := by
  induction l generalizing j with
  | nil => simp at h
  | cons x l ih =>
    cases j with
    | zero =>
      simp at h
      subst h
      show depA s + 1 ≤ max (depA s + 1) (depA l)
      omega
    | succ j =>
      have := ih (j := j) (by simpa using h)
      show _ ≤ max (depE x) (depA l)
      omega
theorem dep_zero : ∀ {l : List El}, depA l ≤ 0 → l = []
  | [], _ => rfl
  | .mk i e d s :: l, h => by
    have h : max (depA s + 1) (depA l) ≤ 0 := h
    omega
/-! ### Elements that are not too long -/
mutual
def smE : El → Prop
  | .mk _ _ d s => d.length < 2 ^ 30 ∧ s.length < 2 ^ 30 ∧ smL s
def smL : List El → Prop
  | [] => True
  | x :: l => smE x ∧ smL l
end
theorem smL_at : ∀ {l : List El} {j : Nat} {x : El}, smL l → l[j]? = some x → smE x
  | [], _, _, _, h => by simp at h
  | y :: l, 0, x, ho, h => by
    simp at h
    subst h
    exact ho.1
  | y :: l, j + 1, x, ho, h => smL_at (l := l) (j := j) ho.2 (by simpa using h)
abbrev SmL (l : List El) : Prop := l.length < 2 ^ 30 ∧ smL l
abbrev ElD (d : Nat) : Type := {l : List El // depA l ≤ d ∧ SmL l}
abbrev ElD1 (d : Nat) : Type := {x : El // depE x ≤ d + 1 ∧ smE x}
/-! ### Rows of elements -/
abbrev oEl (k : Nat) (cl : List DV) : Ob := ⟨k, 0, 174, cl⟩
abbrev tyEE : List TypeId := [24, 24]
def eTI : TI := match tab 174 with
  | some i => i
  | none => ⟨.str, 1, 16, [], true⟩
theorem app_tabE (hp : Hp) (d x : DV) : builtinD tab hp .append [d, x] tyEE = match contD hp 4 x with
    | some (m, news) => appH hp 174 eTI d m news
    | none => none := by kernel_rfl
theorem eTI_ok : eTI.size = 4 ∧ eTI.bytes = 56 ∧ ∃ z zs, eTI.zero = z :: zs := ⟨by kernel_rfl, by kernel_rfl, .int .u8 0, [.int .u8 0, .nil, .nil], by kernel_rfl⟩
theorem fitB_le56 {n : Nat} (h : n ≤ 2 ^ 30) : fitB n 56 = true := by
  have h1 : Nat.ble n mxL = true := bleT (Nat.le_trans h (by decide))
  have h2 : Nat.ble (n * 56) mxB = true := bleT (Nat.le_trans (show _ ≤ 2 ^ 30 * 56 from Nat.mul_le_mul_right _ h) (by decide))
  simp only [fitB, h1, h2, Bool.and_self]
/-- an element behind a row of one's own -/
theorem app_el {hp : Hp} {id id2 n : Nat} {o o2 : Ob} {news : List DV} (hg : hp.get id = some o) (hk : o.k = 1) (hr : o.r = 0) (ht : o.t = 174) (hn : o.cs.length = n * 4) (hg2 : hp.get id2 = some o2) (hnew : o2.cs = news) (hl4 : news.length = 4) (hl : n < 2 ^ 30) (hid : id = 0) :
    builtinD tab hp .append [.sl id 0 4 n n, .sl id2 0 4 1 1] tyEE = some (.sl hp.n 0 4 (n + 1) (n + 1), (hp.put id ⟨2, 0, o.t, o.cs⟩).push ⟨3, 0, o.t, o.cs ++ news⟩, some 0) := by
  have hc : contD hp 4 (.sl id2 0 4 1 1) = some (1, news) := by
    have hb : Nat.ble (0 + (0 + 1) * 4) news.length = true := bleT (by rw [hl4]; exact Nat.le_refl 4)
    show (match hp.get id2 with
      | some o => match Nat.ble (0 + (0 + 1) * 4) o.cs.length with
        | true => some (0 + 1, (o.cs.drop 0).take ((0 + 1) * 4))
        | false => none
      | none => none) = _
    rw [hg2]
    simp only [hnew, hb, List.drop_zero]
    rw [List.take_of_length_le (by omega)]
  rw [app_tabE, hc]
  obtain ⟨e1, e2, z, zs, e3⟩ := eTI_ok
  have hf := fitB_le56 (n := n + (0 + 1)) (by omega)
  have hb : Nat.ble (n + (0 + 1)) n = false := bleF (by omega)
  have he : Nat.ble (0 + n * 4) o.cs.length = true := bleT (by omega)
  have hq : Nat.beq (0 + n * 4) o.cs.length = true := beqT (by omega)
  have hte : Nat.beq o.t 174 = true := beqT ht
  obtain ⟨k, r, t, cs⟩ := o
  dsimp only at hk hr ht hn hg he hq hte ⊢
  subst hk hr hid
  show appH hp 174 eTI (.sl 0 0 4 n n) (0 + 1) news = _
  simp only [appH, e1, e2, e3, show Nat.beq 4 0 = false from rfl, show Nat.beq 4 4 = true from rfl, hg, hb, he, hf, hq, hte, List.drop_zero]
  rfl
/-- elements as cells -/
def celE (l : List El) : List DV := (elR l).flatten
theorem celE_snoc (l : List El) (x : El) : celE (l ++ [x]) = celE l ++ elD x := by
  induction l with
  | nil => simp [celE, elR]
  | cons y l ih =>
    simp only [celE, List.cons_append, elR, List.flatten_cons, List.append_assoc] at ih ⊢
    rw [ih]
theorem celE_length (l : List El) : (celE l).length = l.length * 4 := by
  induction l with
  | nil => simp [celE, elR]
  | cons y l ih =>
    have := elD_length y
    simp only [celE, elR, List.flatten_cons, List.length_append, List.length_cons] at ih ⊢
    omega
theorem elD_flat (x : El) : ∀ d ∈ elD x, flat0 d = true := by
  obtain ⟨i, e, d, s⟩ := x
  intro a ha
  simp only [elD, List.mem_cons, List.not_mem_nil, or_false] at ha
  rcases ha with rfl | rfl | rfl | rfl <;> rfl
theorem celE_flat (l : List El) : ∀ d ∈ celE l, flat0 d = true := by
  induction l with
  | nil => intro d h; simp [celE, elR] at h
  | cons y l ih =>
    intro d h
    simp only [celE, elR, List.flatten_cons, List.mem_append] at h
    rcases h with h | h
    · exact elD_flat y d h
    · exact ih d h
theorem celE_at : ∀ {l : List El} {i j : Nat} {x : El} {d : DV}, l[i]? = some x → (elD x)[j]? = some d → (celE l)[i * 4 + j]? = some d
  | [], _, _, _, _, h, _ => by simp at h
  | y :: l, 0, j, x, d, h, hd => by
    simp at h
    subst h
    have hj := (List.getElem?_eq_some_iff.1 hd).1
    simp only [celE, elR, List.flatten_cons]
    rw [List.getElem?_append_left (by omega), Nat.zero_mul, Nat.zero_add]
    exact hd
  | y :: l, i + 1, j, x, d, h, hd => by
    have := celE_at (l := l) (i := i) (j := j) (by simpa using h) hd
    have hl := elD_length y
    simp only [celE, elR, List.flatten_cons] at this ⊢
    rw [List.getElem?_append_right (by omega), show (i + 1) * 4 + j - (elD y).length = i * 4 + j by omega]
    exact this
theorem el_frz {L : List Nat} {hp : Hp} (l : List El) (i : Nat) (cs : List DV) (h : (elR l)[i]? = some cs) : cs.length = 4 ∧ scals cs = true ∧ ∀ (j : Nat) (d : DV), cs[j]? = some d → ∃ e, (celE l)[0 + (i * 4 + j)]? = some e ∧ FrzD L hp e d := by
  obtain ⟨x, h1, rfl⟩ := elR_get h
  refine ⟨elD_length x, elD_scals x, fun j d hd => ⟨d, ?_, .flat _ (elD_flat x d (List.mem_of_getElem? hd))⟩⟩
  rw [Nat.zero_add]
  exact celE_at h1 hd
theorem frz_el {L : List Nat} {hp : Hp} {id k : Nat} {l : List El} {n c : Nat} (hL : posN id L = none) (hg : hp.get id = some (oEl k (celE l))) (hk : k ≠ 2) (hn : l.length = n) : FrzD L hp (.sl id 0 4 n c) (elsD l) :=
  FrzD.slice (o := oEl k (celE l)) hL hg hk (by rw [elR_length]; exact hn) (el_frz l)
abbrev oE0 : Ob := oEl 0 [.int .u8 0, .int .u8 0, .nil, .nil]
abbrev zE : List DV := [.int .u8 0, .int .u8 0, .nil, .nil]
def zEl : El := .mk 0 0 [] []
theorem flatIn_nil (hp : Hp) : FlatIn [] hp := fun id o h _ => by cases h
abbrev ElS : Type := {l : List El // SmL l}
theorem els_inj {l m : List El} (h : elsD l = elsD m) : l = m := by
  unfold elsD at h
  injection h with _ h
  exact elR_inj h
abbrev nx (c : UInt8) : Int := (c.toNat : Int)
theorem nx_ne {a b : UInt8} (h : a ≠ b) : (nx a != nx b) = true := bne_iff_ne.2 fun e => h (UInt8.toNat_inj.1 (by unfold nx at e; omega))
theorem nx_eq (a : UInt8) : (nx a != nx a) = false := by simp
theorem nx_dec (a b : UInt8) : (nx a == nx b) = decide (a = b) := by
  by_cases h : a = b
  · subst h
    simp
  · rw [decide_eq_false h]
    have := nx_ne h
    rw [bne_iff_ne] at this
    exact beq_false_of_ne this
end
end Go.Proofs.Ytejlbkhddehaiaa
