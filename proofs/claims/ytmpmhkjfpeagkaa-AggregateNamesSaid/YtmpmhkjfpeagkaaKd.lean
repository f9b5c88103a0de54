/- Rows of ints of one's own; the reference's Starts: a contract. -/
import Derived.Test.YtmpmhkjfpeagkaaKc
namespace Go.Proofs.Ytmpmhkjfpeagkaa
open Go.RowKit

noncomputable section
theorem fitB_le2 {n b : Nat} (h : n ≤ 2 ^ 40) (hb : b ≤ 64) : fitB n b = true := by
  have h1 : Nat.ble n mxL = true := bleT (Nat.le_trans h (by decide))
  have h3 : n * b ≤ 2 ^ 40 * 64 := Nat.mul_le_mul h hb
  have h2 : Nat.ble (n * b) mxB = true := bleT (Nat.le_trans h3 (by decide))
  simp only [fitB, h1, h2, Bool.and_self]
theorem contD_one {hp : Hp} {id : Nat} {o : Ob} {d : DV} (hg : hp.get id = some o) (ho : o.cs = [d]) : contD hp 1 (.sl id 0 1 1 1) = some (0 + 1, [d]) := by
  simp only [contD, hg, ho]
  rfl
def SbZ (e : TypeId) (hp : Hp) (d : DV) (cl : List DV) : Prop := (d = .nil ∧ cl = []) ∨ ∃ id o, d = .sl id 0 1 cl.length cl.length ∧ hp.get id = some o ∧ (o.k = 0 ∨ o.k = 1 ∨ o.k = 3) ∧ o.t = e ∧ o.cs = cl
theorem appZ {e : TypeId} {j : TI} {z : DV} {zs : List DV} (hz : j.zero = z :: zs) (hs : j.size = 1) (hby : j.bytes ≤ 64) {hp : Hp} {d : DV} {cl news : List DV} (hd : SbZ e hp d cl) {m : Nat} (hm : news.length = m) (hl : cl.length + m ≤ 2 ^ 40) :
    ∃ d' hp' mm, appH hp e j d m news = some (d', hp', mm) ∧ SbZ e hp' d' (cl ++ news) ∧ hp'.ls = hp.ls := by
  cases m with
  | zero =>
    obtain rfl : news = [] := List.eq_nil_of_length_eq_zero hm
    rw [List.append_nil]
    refine ⟨d, hp, none, ?_, hd, rfl⟩
    rcases hd with ⟨rfl, rfl⟩ | ⟨id, o, rfl, _⟩ <;> simp only [appH, hz, hs] <;> rfl
  | succ m =>
    have q0 : Nat.beq 1 0 = false := rfl
    have q1 : Nat.beq 1 1 = true := rfl
    have hle : (cl ++ news).length = cl.length + (m + 1) := by rw [List.length_append, hm]
    rcases hd with ⟨rfl, rfl⟩ | ⟨id, o, rfl, h1, h2, h3, h4⟩
    · have hf := fitB_le2 (n := m + 1) (by simpa using hl) hby
      refine ⟨.sl hp.n 0 1 (m + 1) (m + 1), pushH hp 1 e news, none, ?_, .inr ⟨hp.n, _, by rw [List.nil_append, hm], get_push_new _ _, .inr (.inl rfl), rfl, rfl⟩, rfl⟩
      simp only [appH, hz, hs, q0, hf]
    · have hf := fitB_le2 (n := cl.length + (m + 1)) hl hby
      have hb : Nat.ble (cl.length + (m + 1)) cl.length = false := bleF (by omega)
      have he : Nat.ble (0 + cl.length * 1) o.cs.length = true := bleT (by rw [h4]; omega)
      have ht : (o.cs.drop 0).take (cl.length * 1) = cl := by rw [h4, List.drop_zero, Nat.mul_one, List.take_length]
      have hq : Nat.beq (0 + cl.length * 1) o.cs.length = true := beqT (by rw [h4]; omega)
      have hte : Nat.beq o.t e = true := beqT h3
      rcases h2 with h2 | h2 | h2
      · refine ⟨.sl hp.n 0 1 (cl.length + (m + 1)) (cl.length + (m + 1)), pushH hp 1 e ((o.cs.drop 0).take (cl.length * 1) ++ news), none, ?_, .inr ⟨hp.n, _, by rw [hle], get_push_new _ _, .inr (.inl rfl), rfl, by rw [ht]⟩, rfl⟩
        simp only [appH, hz, hs, q0, q1, h1, hb, he, hf, h2]
      · refine ⟨.sl hp.n 0 1 (cl.length + (m + 1)) (cl.length + (m + 1)), (hp.put id ⟨2, o.r, o.t, o.cs⟩).push ⟨3, rootOf 1 o.r id, o.t, o.cs.drop 0 ++ news⟩, mmin (some (rootOf 1 o.r id)) (some id), ?_, .inr ⟨hp.n, _, by rw [hle], get_push_new (hp.put id _) _, .inr (.inr rfl), h3, by simp [h4]⟩, rfl⟩
        simp only [appH, hz, hs, q0, q1, h1, hb, he, hf, h2, hq, hte]
      · refine ⟨.sl hp.n 0 1 (cl.length + (m + 1)) (cl.length + (m + 1)), (hp.put id ⟨2, o.r, o.t, o.cs⟩).push ⟨3, rootOf 3 o.r id, o.t, o.cs.drop 0 ++ news⟩, mmin (some (rootOf 3 o.r id)) (some id), ?_, .inr ⟨hp.n, _, by rw [hle], get_push_new (hp.put id _) _, .inr (.inr rfl), h3, by simp [h4]⟩, rfl⟩
        simp only [appH, hz, hs, q0, q1, h1, hb, he, hf, h2, hq, hte]
theorem SbZ.push {e : TypeId} {hp : Hp} {d : DV} {cl : List DV} (h : SbZ e hp d cl) (o : Ob) : SbZ e (hp.push o) d cl := by
  rcases h with h | ⟨id, o', h0, h1, h2⟩
  · exact .inl h
  · refine .inr ⟨id, o', h0, ?_, h2⟩
    rw [Hp.get_push, if_neg (Nat.ne_of_lt (Hp.get_lt h1))]
    exact h1
abbrev tyI : List Nat := [52, 52]
abbrev intTI : TI := ⟨.int .i64, 1, 8, [.int .i64 0], true⟩
theorem app_tabI (hp : Hp) (d x : DV) : builtinD tab hp .append [d, x] tyI = match contD hp 1 x with
    | some (m, news) => appH hp 3 intTI d m news
    | none => none := by kernel_rfl
def celI (vs : List Nat) : List DV := vs.map iN
theorem celI_append (a b : List Nat) : celI (a ++ b) = celI a ++ celI b := by simp [celI]
theorem celI_length (a : List Nat) : (celI a).length = a.length := by simp [celI]
theorem step_ok {hp : Hp} {d : DV} {cl : List DV} (v : Nat) (h : SbZ 3 hp d cl) (hl : cl.length + 1 ≤ 2 ^ 40) : ∃ d' hp' m, builtinD tab (pushH hp 0 3 [iN v]) .append [d, .sl hp.n 0 1 1 1] tyI = some (d', hp', m) ∧ SbZ 3 hp' d' (cl ++ [iN v]) ∧ hp'.ls = hp.ls := by
  rw [app_tabI, contD_one (hp := pushH hp 0 3 [iN v]) (id := hp.n) (get_push_new _ _) rfl]
  exact appZ (j := intTI) (z := .int .i64 0) (zs := []) rfl rfl (by decide) (h.push ⟨0, 0, 3, [iN v]⟩) rfl hl
/-- numbers, as a list of rows -/
def bI (vs : List Nat) : List (List DV) := vs.map fun v => [iN v]
theorem bI_length (vs : List Nat) : (bI vs).length = vs.length := by simp [bI]
theorem bI_nth {vs : List Nat} {k v : Nat} (h : vs[k]? = some v) : nth (bI vs) ((k : Int).toNat) = some [iN v] := by
  rw [nth_eq, Int.toNat_natCast]
  simp [bI, h]
theorem bI_frz {L : List Nat} {hp : Hp} (vs : List Nat) (i : Nat) (cs : List DV) (h : (bI vs)[i]? = some cs) : cs.length = 1 ∧ scals cs = true ∧ ∀ (j : Nat) (d : DV), cs[j]? = some d → ∃ e, (celI vs)[0 + (i * 1 + j)]? = some e ∧ FrzD L hp e d := by
  unfold bI at h
  rw [List.getElem?_map, Option.map_eq_some_iff] at h
  obtain ⟨f, hf, rfl⟩ := h
  refine ⟨rfl, rfl, fun j d hd => ?_⟩
  cases j with
  | zero =>
    cases hd
    refine ⟨iN f, ?_, .flat _ rfl⟩
    rw [show 0 + (i * 1 + 0) = i by omega, celI, List.getElem?_map, hf]
    rfl
  | succ j => simp at hd
theorem wrN {n : Nat} {i : Int} (h : n < 2 ^ 63) (e : i = (n : Int)) : IntKind.i64.wrap i = (n : Int) := by
  rw [e]
  exact wrapI h
theorem misI (n : Nat) : Int.tmod (IntKind.i64.wrap (4 - Int.tmod (n : Int) 4)) 4 = ((mis n : Nat) : Int) := by
  have e : Int.tmod (n : Int) 4 = ((n % 4 : Nat) : Int) := rfl
  rw [e, wrN (n := 4 - n % 4) (by omega) (by omega)]
  rfl
/-! ### Starts -/
abbrev fSt : FuncId := 24
abbrev kSt : List (Nat × Nat) := ksF ftab fSt
abbrev stL : Code := loopAt (bodyOf ftab fSt) 0
abbrev stS (xs : List (List DV)) (d : DV) (a k : Nat) : Slots := mkT 32 [(0, .list 1 xs), (3, d), (4, iN a), (5, iN k)]
abbrev stF (d : DV) : Slots := mkT 32 [(3, d)]
set_option maxRecDepth 1000000 in
theorem st1 (xs ys : List (List DV)) (d d' : DV) (h h' : Hp) (m : Mut) (a q k : Nat) : zsee Try.prog tab ftab noC kSt [0, 3, 4, 5] stL (stS xs d a k) h [(9, .b true), (15, .h d' h' m), (20, .n (.fptr [.list 1 ys])), (26, .n (.fptr [.list 1 ys])), (30, .w (iN q)), (11, .w (iN (k + 1)))] =
    some (.normal, stS xs d' q (k + 1), h', (decide ((k : Int) < (xs.length : Int)) = true) :: (builtinD tab (pushH h 0 3 [iN a]) .append [d, .sl h.n 0 1 1 1] tyI = some (d', h', m)) :: (idxOk (k : Int) xs.length = true) :: (nth xs ((k : Int).toNat) = some [.list 1 ys]) :: (idxOk (k : Int) xs.length = true) :: (nth xs ((k : Int).toNat) = some [.list 1 ys]) ::
      (DV.int .i64 (IntKind.i64.wrap (IntKind.i64.wrap (IntKind.i64.wrap ((a : Int) + 4) + (ys.length : Int)) + Int.tmod (IntKind.i64.wrap (4 - Int.tmod (ys.length : Int) 4)) 4)) = iN q) :: (DV.int .i64 (IntKind.i64.wrap ((k : Int) + 1)) = iN (k + 1)) :: []) := by kernel_rfl
set_option maxRecDepth 1000000 in
theorem stO (xs : List (List DV)) (d : DV) (h : Hp) (a k : Nat) : zsee Try.prog tab ftab noC kSt [3] stL (stS xs d a k) h [(9, .b false)] = some (.exit 0, stF d, h, (decide ((k : Int) < (xs.length : Int)) = false) :: []) := by kernel_rfl
set_option maxRecDepth 1000000 in
theorem stR (xs : List (List DV)) (d : DV) (h : Hp) : zans Try.prog tab ftab noC fSt [.list 1 xs] [(0, .l [0, 3, 4, 5] (.exit 0) (stF d) h)] = some (d, h, (Goes Try.prog tab kSt (.loop stL) (stS xs .nil 0 0) h00 (.exit 0) (stF d) h) :: []) := by kernel_rfl
/-- the places of the first k delimiters -/
def sts (l : List (List UInt8)) (k : Nat) : List Nat := (List.range k).map fun i => stA (l.take i)
theorem sts_length (l : List (List UInt8)) (k : Nat) : (sts l k).length = k := by simp [sts]
theorem sts_succ (l : List (List UInt8)) (k : Nat) : sts l (k + 1) = sts l k ++ [stA (l.take k)] := by simp [sts, List.range_succ]
theorem sts_at (l : List (List UInt8)) {k i : Nat} (h : i < k) : (sts l k)[i]? = some (stA (l.take i)) := by simp [sts, h]
abbrev okPs (l : List (List UInt8)) : Prop := l.length ≤ 64 ∧ ∀ p ∈ l, okP p
theorem stA_le {l : List (List UInt8)} (h : ∀ p ∈ l, okP p) : stA l ≤ l.length * 2407 := by
  induction l with
  | nil => exact Nat.le_refl _
  | cons p l ih =>
    have h1 := (h p (List.mem_cons_self ..)).2
    have h2 := ih fun q hq => h q (List.mem_cons_of_mem _ hq)
    have h3 : mis p.length ≤ 3 := by unfold mis; omega
    rw [stA, List.length_cons, Nat.succ_mul]
    omega
theorem stA_small {l : List (List UInt8)} (h : okPs l) (k : Nat) : stA (l.take k) ≤ 160000 := by
  have h1 := stA_le (l := l.take k) fun p hp => h.2 p (List.mem_of_mem_take hp)
  have h2 : (l.take k).length ≤ 64 := by rw [List.length_take]; have := h.1; omega
  have h3 : (l.take k).length * 2407 ≤ 64 * 2407 := Nat.mul_le_mul_right _ h2
  omega
theorem stA_snoc (l : List (List UInt8)) (p : List UInt8) : stA (l ++ [p]) = stA l + 4 + p.length + mis p.length := by
  rw [stA_append, stA, stA]
  omega
theorem ansSt0 (l : List (List UInt8)) (hl : okPs l) : ∃ d h, Ans Try.prog fSt [fsD l] d h ∧ SbZ 3 h d (celI (sts l l.length)) ∧ h.ls = [] := by
  have hn := fs1_length l
  have h64 := hl.1
  have loop := Goes.loopI (P := Try.prog) (T := tab) (ks := kSt) (x := stL) (e := .exit 0) l.length
    (fun k sl h => ∃ d, sl = stS (fs1 l) d (stA (l.take k)) k ∧ SbZ 3 h d (celI (sts l k)) ∧ h.ls = [])
    (fun sl h => ∃ d, sl = stF d ∧ SbZ 3 h d (celI (sts l l.length)) ∧ h.ls = []) (by intro h; cases h) ?_ ?_
    (sl := stS (fs1 l) .nil 0 0) (hp := ⟨0, [], []⟩) ⟨.nil, rfl, .inl ⟨rfl, rfl⟩, rfl⟩
  · obtain ⟨s1, h, g, d, rfl, sb, z⟩ := loop
    exact ⟨d, h, zans_ok tab_ok mixed fun_ok noC_ok (stR (fs1 l) d h) (.cons g .nil), sb, z⟩
  · rintro k sl h0 hk ⟨d0, rfl, s0, l0⟩
    obtain ⟨p, hp⟩ : ∃ p, l[k]? = some p := ⟨_, List.getElem?_eq_getElem hk⟩
    have hpl := (hl.2 p (List.mem_of_getElem? hp)).2
    have hs := stA_small hl k
    have hm : mis p.length ≤ 3 := by unfold mis; omega
    obtain ⟨d1, h1, m1, e1, s1, l1⟩ := step_ok (stA (l.take k)) s0 (by rw [celI_length, sts_length]; omega)
    refine ⟨_, h1, zsee_ok tab_ok mixed fun_ok noC_ok (st1 (fs1 l) (by1 p) d0 d1 h0 h1 m1 (stA (l.take k)) (stA (l.take (k + 1))) k) (.cons (decide_eq_true (by omega)) (.cons e1 (.cons (idxOk_lt (by omega)) (.cons (fs1_nth hp) (.cons (idxOk_lt (by omega)) (.cons (fs1_nth hp) (.cons ?_ (.cons (congrArg (DV.int .i64) (wrapI (n := k + 1) (by omega))) .nil)))))))), d1, rfl, ?_, by rw [l1, l0]⟩
    · rw [by1_length, misI, take_snoc hp, stA_snoc]
      exact congrArg (DV.int .i64) (wrN (by omega) (by rw [wrN (n := stA (l.take k) + 4 + p.length) (by omega) (by rw [wrN (n := stA (l.take k) + 4) (by omega) (by omega)]; omega)]; omega))
    · rw [sts_succ, celI_append]
      exact s1
  · rintro sl h ⟨d, rfl, s0, z0⟩
    exact ⟨_, h, zsee_ok tab_ok mixed fun_ok noC_ok (stO (fs1 l) d h _ l.length) (.cons (decide_eq_false (by omega)) .nil), d, rfl, s0, z0⟩
abbrev Pcs : Type := {l : List (List UInt8) // okPs l}
theorem st_ans (x : Pcs) : Ans Try.prog fSt [fsD x.1] (.list 1 (bI (sts x.1 x.1.length))) ⟨0, [], []⟩ := by
  obtain ⟨d, h, a, s, l⟩ := ansSt0 x.1 x.2
  rcases s with ⟨rfl, s⟩ | ⟨id, o, rfl, h1, h2, h3, h4⟩
  · have hb : sts x.1 x.1.length = [] := by
      have := congrArg List.length s
      rw [celI_length] at this
      exact List.eq_nil_of_length_eq_zero this
    rw [hb]
    exact Ans.nil0 (AnsH.frz a l FrzD.nil')
  · refine AnsH.frz a l (FrzD.slice (o := o) rfl h1 (by rcases h2 with h | h | h <;> omega) (by rw [bI_length, celI_length]) ?_)
    rw [h4]
    exact bI_frz (sts x.1 x.1.length)
def cSt : ConF := liftC (eqC fSt (fun x : Pcs => [fsD x.1]) fun x => (.list 1 (bI (sts x.1 x.1.length)), ⟨0, [], []⟩))
theorem cSt_ok : ConOk Try.prog cSt := liftC_ok (eqC_ok st_ans fun _ => rfl)
theorem cSt_at (hp : Hp) (l : List (List UInt8)) (h : okPs l) : cSt fSt [fsD l] hp = some (.list 1 (bI (sts l l.length)), hp, none) :=
  lift_at (A := fun x : Pcs => [fsD x.1]) (D := fun x => .list 1 (bI (sts x.1 x.1.length))) (fun x y hxy => by
    simp only [List.cons.injEq, and_true] at hxy
    rw [fsD_inj hxy]) hp ⟨l, h⟩ rfl rfl
end
end Go.Proofs.Ytmpmhkjfpeagkaa
