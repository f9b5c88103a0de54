/- Things about bytes and slices that name no function of the program. -/
import Derived.Test.YtejlbkhddehaiaaNA
import Derived.Test.YtejlbkhddehaiaaMJ
namespace Go.Proofs.Ytejlbkhddehaiaa
open Go.RowKit

noncomputable section
theorem lift_at {α : Type} {f0 : FuncId} {A : α → List DV} {D : α → DV} (hinj : ∀ x y, A x = A y → D x = D y) (hp : Hp) (x : α) (ha : flats2 (A x) = true) (hd : flatD (D x) = true) : liftC (eqC f0 A fun x => (D x, ⟨0, [], []⟩)) f0 (A x) hp = some (D x, hp, none) := by
  unfold liftC
  rw [ha, eqC_at (fun x y h => by rw [hinj x y h]) x]
  simp only [liftR, hd]
theorem Ans.seeH {P : Program} {f : FuncId} {args : List DV} {d d' : DV} {hp hp' : Hp} (h : Ans P f args d hp) (hl : hp.ls = []) (hs : ∀ W0 S0 E w v, HS W0 0 S0 E hp w → VR w E d v → ∃ E', (∀ b, E.S b → E'.S b) ∧ (∀ id, E'.yb id = none) ∧ hp'.ls = [] ∧ HS W0 0 S0 E' hp' w ∧ VR w E' d' v) : Ans P f args d' hp' := by
  refine h.see fun W0 S0 E w v hh hv => ?_
  obtain ⟨E2, e2, e3, e4, h4, h5⟩ := hs _ _ _ _ _ hh hv
  exact ⟨E2, .up (E := E) (E' := E2) e2 (funext fun id => (e3 id).trans (yb_none hh.ys hl id).symm) (fun i => by rw [hl, e4]) _, h4, h5⟩
theorem vr_nl {w : World} {E E' : Env} {s : Nat} {v : Value} (h : VR w E .nil v) : VR w E' (.list s []) v := by
  cases h
  exact .list _ s [] none 0 0 0 (fun _ _ => undef) (Nat.zero_le _) (Nat.zero_le _) (fun _ => rfl) (fun h => absurd h (by simp)) (fun i cs h => by simp at h) (fun i cs j d h => by simp at h) (fun i cs j d h => by simp at h) (fun cs h => by simp at h)
/-- parts seen otherwise -/
def SeeL (w : World) (E E' : Env) : List DV → List DV → Prop
  | [], [] => True
  | d :: ds, a :: bs => (∀ u, VR w E d u → VR w E' a u) ∧ SeeL w E E' ds bs
  | _, _ => False
theorem SeeL.len {w : World} {E E' : Env} : ∀ {ds bs : List DV}, SeeL w E E' ds bs → ds.length = bs.length
  | [], [], _ => rfl
  | _ :: _, _ :: _, h => by simp [SeeL.len h.2]
  | [], _ :: _, h => h.elim
  | _ :: _, [], h => h.elim
theorem SeeL.at {w : World} {E E' : Env} : ∀ {ds bs : List DV}, SeeL w E E' ds bs → ∀ {j : Nat} {a : DV}, bs[j]? = some a → ∃ d, ds[j]? = some d ∧ ∀ u, VR w E d u → VR w E' a u
  | d :: _, _ :: _, h, 0, a, hj => by
    simp at hj
    subst hj
    exact ⟨d, rfl, h.1⟩
  | _ :: _, _ :: _, h, j + 1, a, hj => by
    obtain ⟨d, h1, h2⟩ := SeeL.at h.2 (by simpa using hj)
    exact ⟨d, by simpa using h1, h2⟩
  | [], [], _, j, a, hj => by simp at hj
  | [], _ :: _, h, _, _, _ => h.elim
  | _ :: _, [], h, _, _, _ => h.elim
theorem see_tuple {w : World} {E E' : Env} {ds bs : List DV} (h : SeeL w E E' ds bs) {v : Value} (hv : VR w E (.tuple ds) v) : VR w E' (.tuple bs) v := by
  cases hv with
  | tuple _ _ vs hl hq =>
    refine .tuple _ _ vs (h.len ▸ hl) fun j a u hj hu => ?_
    obtain ⟨d, h1, h2⟩ := h.at hj
    exact h2 u (hq j d u h1 hu)
theorem see_agg {w : World} {E E' : Env} {ds bs : List DV} (h : SeeL w E E' ds bs) {v : Value} (hv : VR w E (.agg ds) v) : VR w E' (.agg bs) v := by
  cases hv with
  | agg _ _ vs hl hq =>
    refine .agg _ _ vs (h.len ▸ hl) fun j a u hj hu => ?_
    obtain ⟨d, h1, h2⟩ := h.at hj
    exact h2 u (hq j d u h1 hu)
theorem lift_oth {C : ConF} {f : FuncId} {args : List DV} {hp : Hp} (h : C f args ⟨0, [], []⟩ = none) : liftC C f args hp = none := by
  unfold liftC
  rw [h]
  split <;> rfl
abbrev tyBB : List TypeId := [37, 37]
abbrev oR (k : Nat) (cl : List DV) : Ob := ⟨k, 0, 5, cl⟩
/-- bytes behind a row of one's own -/
theorem app_row {hp : Hp} {id n m : Nat} {o : Ob} {x : DV} {news : List DV} (hg : hp.get id = some o) (hk : o.k = 1 ∨ o.k = 3) (ht : o.t = 5) (hn : o.cs.length = n) (hx : contD hp 1 x = some (m + 1, news)) (hl : n + (m + 1) ≤ 2 ^ 40) :
    builtinD tab hp .append [.sl id 0 1 n n, x] tyBB = some (.sl hp.n 0 1 (n + (m + 1)) (n + (m + 1)), (hp.put id ⟨2, o.r, o.t, o.cs⟩).push ⟨3, rootOf o.k o.r id, o.t, o.cs ++ news⟩, mmin (some (rootOf o.k o.r id)) (some id)) := by
  rw [app_tab, hx]
  have hf := fitB_le (n := n + (m + 1)) hl
  have hb : Nat.ble (n + (m + 1)) n = false := bleF (by omega)
  have he : Nat.ble (0 + n * 1) o.cs.length = true := bleT (by omega)
  have hq : Nat.beq (0 + n * 1) o.cs.length = true := beqT (by omega)
  have hte : Nat.beq o.t 5 = true := beqT ht
  show appH hp 5 u8TI (.sl id 0 1 n n) (m + 1) news = _
  rcases hk with hk | hk
  · simp only [appH, show Nat.beq 1 1 = true from rfl, hg, hb, he, hf, hk, hq, hte, List.drop_zero]
  · simp only [appH, show Nat.beq 1 1 = true from rfl, hg, hb, he, hf, hk, hq, hte, List.drop_zero]
theorem app_none {hp : Hp} {id n : Nat} {x : DV} (hx : contD hp 1 x = some (0, [])) : builtinD tab hp .append [.sl id 0 1 n n, x] tyBB = some (.sl id 0 1 n n, hp, none) := by
  rw [app_tab, hx]
  rfl
abbrev h00 : Hp := ⟨0, [], []⟩
theorem Ans.nil1 {P : Program} {f : FuncId} {args : List DV} {e : Int} (h : Ans P f args (.tuple [.nil, .int .i64 e]) ⟨0, [], []⟩) : Ans P f args (.tuple [.list 1 [], .int .i64 e]) ⟨0, [], []⟩ :=
  h.seeH rfl fun _ _ E w _ hs hv => ⟨E, fun _ h => h, yb_none hs.ys rfl, rfl, hs, see_tuple (w := w) (E := E) (E' := E) (ds := [.nil, .int .i64 e]) (bs := [.list 1 [], .int .i64 e]) ⟨fun _ h => vr_nl h, fun _ h => h, trivial⟩ hv⟩

theorem celB_get {bs : List UInt8} {i : Nat} {c : UInt8} (h : bs[i]? = some c) : (celB bs)[0 + i]? = some (i8 c) := by
  rw [Nat.zero_add, celB, List.getElem?_map, h]
  rfl
theorem frzD_bytes {L : List Nat} {hp : Hp} {id off c : Nat} {o : Ob} {bs : List UInt8} (hL : posN id L = none) (hg : hp.get id = some o) (hk : o.k ≠ 2) (hc : ∀ (i : Nat) (b : UInt8), bs[i]? = some b → o.cs[off + i]? = some (i8 b)) : FrzD L hp (.sl id off 1 bs.length c) (byL bs) := by
  refine FrzD.slice hL hg hk (by1_length bs) fun i cs hi => ?_
  simp only [by1, List.getElem?_map, Option.map_eq_some_iff] at hi
  obtain ⟨b, hb, rfl⟩ := hi
  refine ⟨rfl, rfl, fun j d hj => ?_⟩
  cases j with
  | zero =>
    simp at hj
    subst hj
    exact ⟨i8 b, by simpa using hc i b hb, .flat _ rfl⟩
  | succ j => simp at hj
theorem app_newR {hp : Hp} {id : Nat} {x : DV} {bs : List UInt8} (hg : hp.get id = some (oR 0 [])) (hx : contD hp 1 x = some (bs.length, celB bs)) (hne : bs ≠ []) (hl : bs.length ≤ 2 ^ 40) : builtinD tab hp .append [.sl id 0 1 0 0, x] tyBB = some (.sl hp.n 0 1 bs.length bs.length, hp.push (oR 1 (celB bs)), none) := by
  rw [app_tab, hx]
  cases bs with
  | nil => exact absurd rfl hne
  | cons b bs =>
    have hf := fitB_le (n := 0 + (b :: bs).length) (by simpa using hl)
    have hb : Nat.ble (0 + (bs.length + 1)) 0 = false := bleF (by omega)
    have h0 : Nat.ble (0 + 0 * 1) ([] : List DV).length = true := rfl
    simp only [List.length_cons] at hf ⊢
    simp only [appH, hg, hb, h0, hf, show Nat.beq 1 1 = true from rfl]
    rw [Nat.zero_add]
    rfl
theorem frz_oR {L : List Nat} {hp : Hp} {id k : Nat} {cl : List DV} {bs : List UInt8} {n c : Nat} (hL : posN id L = none) (hg : hp.get id = some (oR k cl)) (hk : k ≠ 2) (he : cl = celB bs) (hn : n = bs.length) : FrzD L hp (.sl id 0 1 n c) (byL bs) := by
  subst he hn
  exact frzD_bytes hL hg hk fun i c hc => celB_get hc
theorem i8_inj {a b : UInt8} (h : i8 a = i8 b) : a = b := by
  unfold i8 at h
  injection h with _ h
  exact UInt8.toNat_inj.1 (by omega)
theorem by_frz {L : List Nat} {hp : Hp} (bs : List UInt8) (i : Nat) (cs : List DV) (h : (by1 bs)[i]? = some cs) : cs.length = 1 ∧ scals cs = true ∧ ∀ (j : Nat) (d : DV), cs[j]? = some d → ∃ e, (celB bs)[0 + (i * 1 + j)]? = some e ∧ FrzD L hp e d := by
  unfold by1 at h
  rw [List.getElem?_map, Option.map_eq_some_iff] at h
  obtain ⟨f, hf, rfl⟩ := h
  refine ⟨rfl, rfl, fun j d hd => ?_⟩
  cases j with
  | zero =>
    cases hd
    refine ⟨i8 f, ?_, .flat _ rfl⟩
    rw [show 0 + (i * 1 + 0) = i by omega, celB, List.getElem?_map, hf]
    rfl
  | succ j => simp at hd
theorem Ans.nil0 {P : Program} {f : FuncId} {args : List DV} (h : Ans P f args .nil ⟨0, [], []⟩) : Ans P f args (.list 1 []) ⟨0, [], []⟩ :=
  h.seeH rfl fun _ _ E _ _ hs hv => ⟨E, fun _ h => h, yb_none hs.ys rfl, rfl, hs, vr_nl hv⟩
end
theorem opensBytes : Opens Try.prog 37 (Ty.slice (Ty.nat .u8)) := Opens.slice Try.underlying37 (by kernel_rfl) (Opens.nat rfl Try.underlying5 (by kernel_rfl)) (by decide)
theorem vr_bytesA {w : World} {S : Nat → Prop} {A : Option Addr} {n c : Nat} {a : List Nat} (r : (Ty.slice (Ty.nat .u8)).rep w S a [.slice A n c]) :
    VR w (ro S) (byL (a.map UInt8.ofNat)) (.slice A n c) := by
  obtain ⟨A', n', c', h0, h1, h2, h3, h4⟩ := rep_slice r
  cases h0
  have hwf := h4.ints_wf
  have hlt : ∀ x ∈ a, x < 256 := fun x hx => by
    have := hwf x hx
    simp [Lit.wf, IntKind.min, IntKind.max, IntKind.signed, IntKind.bits] at this
    omega
  have hlen := h4.len
  have hn : (by1 (a.map UInt8.ofNat)).length = n := by rw [by1_length, List.length_map, hlen]
  show VR w (ro S) (.list 1 (by1 (a.map UInt8.ofNat))) (.slice A n c)
  rcases Nat.eq_zero_or_pos n with h0 | hpos
  · have ha : a = [] := List.eq_nil_of_length_eq_zero (by omega)
    subst ha
    rw [← hn]
    exact .list _ 1 _ A c 0 0 (fun _ _ => undef) (Nat.zero_le _) h2 h3 (fun h => absurd h (by simp [by1])) (fun i cs h => by simp [by1] at h) (fun i cs j d h => by simp [by1] at h) (fun i cs j d h => by simp [by1] at h) (fun cs h => by simp [by1] at h)
  · obtain ⟨b, off, rfl, hb, hc⟩ := h4.ints hpos
    have row : ∀ (i : Nat) (cs : List DV), (by1 (a.map UInt8.ofNat))[i]? = some cs → ∃ x, a[i]? = some x ∧ x < 256 ∧ cs = [.int .u8 (x : Int)] := fun i cs hi => by
      simp only [by1, List.map_map, List.getElem?_map, Option.map_eq_some_iff] at hi
      obtain ⟨x, hx, rfl⟩ := hi
      have := hlt x (List.mem_of_getElem? hx)
      refine ⟨x, hx, this, ?_⟩
      show [i8 (UInt8.ofNat x)] = _
      rw [i8, UInt8.toNat_ofNat_of_lt' this]
    rw [← hn]
    refine .list _ 1 _ (some ⟨b, off, none⟩) c b off (fun i _ => .int .u8 ((a.getD i 0 : Nat) : Int)) (by omega) h2 (fun h => by cases h) (fun _ => ⟨rfl, hb⟩) (fun i cs hi => ?_) (fun i cs j d hi hj => ?_) (fun i cs j d hi hj => ?_) (fun cs hcs => ?_)
    · obtain ⟨x, _, _, rfl⟩ := row i cs hi
      rfl
    · obtain ⟨x, hx, _, rfl⟩ := row i cs hi
      cases j with
      | zero =>
        have := hc i x hx
        simpa [List.getD, hx] using this
      | succ j => simp at hj
    · obtain ⟨x, hx, _, rfl⟩ := row i cs hi
      cases j with
      | zero =>
        simp at hj
        subst hj
        simp only [List.getD, hx, Option.getD_some]
        exact .int _ _ _
      | succ j => simp at hj
    · obtain ⟨i, hi⟩ := List.mem_iff_getElem?.1 hcs
      obtain ⟨x, _, _, rfl⟩ := row i cs hi
      rfl
theorem vr_bytes {w : World} {S : Nat → Prop} {A : Option Addr} {n c : Nat} {a : List Nat} (r : (Ty.slice (Ty.nat .u8)).rep w S a [.slice A n c]) :
    ∃ bs : List UInt8, VR w (ro S) (byL bs) (.slice A n c) := ⟨_, vr_bytesA r⟩
theorem AnsH.nilH {P : Program} {f : FuncId} {args : List DV} {h0 : Hp} (h : AnsH P f args h0 .nil ⟨0, [], []⟩) : AnsH P f args h0 (.list 1 []) ⟨0, [], []⟩ :=
  h.see fun _ _ E _ _ hs hv => ⟨E, .refl _ _ _, hs, vr_nl hv⟩
theorem take_snoc {α : Type} {l : List α} {k : Nat} {x : α} (h : l[k]? = some x) : l.take (k + 1) = l.take k ++ [x] := by
  rw [List.take_add_one, h]
  rfl
end Go.Proofs.Ytejlbkhddehaiaa
