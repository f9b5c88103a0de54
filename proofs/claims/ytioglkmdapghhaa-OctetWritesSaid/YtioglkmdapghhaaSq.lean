/- Split's contract. -/
import Derived.Test.YtioglkmdapghhaaSp
namespace Go.Proofs.Ytioglkmdapghhaa
open Go.RowKit

noncomputable section
/-! ### How bytes fall into fields -/
def badR (r : List UInt8) : Prop := r.length < 2 ∨ r.length - 2 < leN (r.take 2)
theorem leN2 (c0 c1 : UInt8) : leN [c0, c1] = c0.toNat + 256 * c1.toNat := by simp [leN]
theorem lo_hi (c0 c1 : UInt8) : lo8 (c0.toNat + 256 * c1.toNat) = c0 ∧ hi8 (c0.toNat + 256 * c1.toNat) = c1 := by
  have h0 := UInt8.toNat_lt c0
  have h1 := UInt8.toNat_lt c1
  unfold lo8 hi8
  rw [show (c0.toNat + 256 * c1.toNat) % 256 = c0.toNat by omega, show (c0.toNat + 256 * c1.toNat) / 256 = c1.toNat by omega]
  exact ⟨UInt8.ofNat_toNat, UInt8.ofNat_toNat⟩
theorem leN_lohi {n : Nat} (h : n ≤ 65535) : leN [lo8 n, hi8 n] = n := by
  rw [leN2]
  unfold lo8 hi8
  rw [UInt8.toNat_ofNat_of_lt' (show n % 256 < 256 by omega), UInt8.toNat_ofNat_of_lt' (show n / 256 < 256 by omega)]
  omega
theorem split_exK : ∀ (k : Nat) (b : List UInt8), ∃ fs r, b = joinB fs ++ r ∧ (∀ f ∈ fs, f.length ≤ 65535) ∧ fs.length ≤ k ∧ (r = [] ∨ (r ≠ [] ∧ (fs.length = k ∨ (fs.length < k ∧ badR r))))
  | 0, b => by
    refine ⟨[], b, rfl, fun f h => (by cases h), Nat.le_refl _, ?_⟩
    by_cases hb : b = []
    · exact .inl hb
    · exact .inr ⟨hb, .inl rfl⟩
  | k + 1, b => by
    by_cases hb : b = []
    · exact ⟨[], [], by simp [joinB, hb], fun f h => (by cases h), Nat.zero_le _, .inl rfl⟩
    by_cases hbad : badR b
    · exact ⟨[], b, rfl, fun f h => (by cases h), Nat.zero_le _, .inr ⟨hb, .inr ⟨Nat.succ_pos _, hbad⟩⟩⟩
    have h2 : ¬ b.length < 2 := fun h => hbad (.inl h)
    match b, hb, hbad, h2 with
    | [], hb, _, _ => exact absurd rfl hb
    | [_], _, _, h2 => simp at h2
    | c0 :: c1 :: t, _, hbad, _ =>
      have hn : ¬ t.length < c0.toNat + 256 * c1.toNat := fun h => hbad (.inr (by
        show (c0 :: c1 :: t).length - 2 < leN [c0, c1]
        rw [leN2]
        simpa using h))
      have h0 := UInt8.toNat_lt c0
      have h1 := UInt8.toNat_lt c1
      obtain ⟨fs, r, e, a1, a2, a3⟩ := split_exK k (t.drop (c0.toNat + 256 * c1.toNat))
      have hl : (t.take (c0.toNat + 256 * c1.toNat)).length = c0.toNat + 256 * c1.toNat := by rw [List.length_take]; omega
      obtain ⟨q0, q1⟩ := lo_hi c0 c1
      refine ⟨t.take (c0.toNat + 256 * c1.toNat) :: fs, r, ?_, fun f hf => ?_, by simpa using a2, ?_⟩
      · rw [joinB_cons, jf, hl, q0, q1, List.append_assoc, ← e]
        simp
      · rcases List.mem_cons.1 hf with rfl | hf
        · omega
        · exact a1 f hf
      · rcases a3 with h | ⟨h, h'⟩
        · exact .inl h
        · refine .inr ⟨h, ?_⟩
          simp only [List.length_cons]
          rcases h' with h' | ⟨h', h''⟩
          · exact .inl (by omega)
          · exact .inr ⟨by omega, h''⟩
/-- joined fields fall into these fields alone -/
theorem join_inj : ∀ {fs gs : List (List UInt8)} {r : List UInt8}, joinB fs = joinB gs ++ r → (∀ f ∈ fs, f.length ≤ 65535) → (∀ f ∈ gs, f.length ≤ 65535) → (r = [] ∨ badR r ∨ fs.length ≤ gs.length) → fs = gs ∧ r = []
  | [], [], r, h, _, _, _ => by
    simp [joinB] at h
    exact ⟨rfl, h⟩
  | [], g :: gs, r, h, _, _, _ => by
    have := congrArg List.length h
    rw [joinB_cons] at this
    simp [joinB, jf] at this
  | f :: fs, [], r, h, hf, _, hr => by
    exfalso
    have h : joinB (f :: fs) = r := by simpa [joinB] using h
    rw [joinB_cons] at h
    have hl := hf f (List.mem_cons_self ..)
    subst h
    rcases hr with hr | hr | hr
    · have := congrArg List.length hr
      simp [jf] at this
    · rcases hr with hr | hr
      · simp [jf] at hr
        omega
      · have e : (jf f ++ joinB fs).take 2 = [lo8 f.length, hi8 f.length] := by simp [jf]
        rw [e, leN_lohi hl] at hr
        simp [jf] at hr
        omega
    · simp at hr
  | f :: fs, g :: gs, r, h, hf, hg, hr => by
    have h1 := hf f (List.mem_cons_self ..)
    have h2 := hg g (List.mem_cons_self ..)
    rw [joinB_cons, joinB_cons, List.append_assoc] at h
    have e2 : [lo8 f.length, hi8 f.length] = [lo8 g.length, hi8 g.length] := by
      have := congrArg (List.take 2) h
      simpa [jf] using this
    have el : f.length = g.length := by rw [← leN_lohi h1, e2, leN_lohi h2]
    obtain ⟨e3, e4⟩ := List.append_inj h (by rw [jf_length, jf_length, el])
    have e5 : f = g := by
      have := congrArg (List.drop 2) e3
      simpa [jf] using this
    obtain ⟨e6, e7⟩ := join_inj e4 (fun x hx => hf x (List.mem_cons_of_mem _ hx)) (fun x hx => hg x (List.mem_cons_of_mem _ hx)) (by
      rcases hr with hr | hr | hr
      · exact .inl hr
      · exact .inr (.inl hr)
      · exact .inr (.inr (by simpa using hr)))
    exact ⟨by rw [e5, e6], e7⟩
/-! ### What getSized answers there -/
theorem gs_any (b : List UInt8) (x : Int) : ∃ ps ys y e, gsD b x = gsT ps ys y e := by
  unfold gsD
  split
  · exact ⟨_, _, _, _, rfl⟩
  · exact ⟨[], [], 0, _, rfl⟩
theorem cutE_ok {len : Nat} {x n : Nat} (h : x + n ≤ len) : cutE len (x : Int) (n : Int) = 0 := by
  unfold cutE
  rw [if_neg (by omega), if_neg (by omega), if_neg (by omega)]
theorem pcB_ok {pre mid post : List UInt8} {n : Nat} (h : mid.length = n) : pcB (pre ++ (mid ++ post)) (pre.length : Int) (n : Int) = mid := by
  unfold pcB
  rw [if_pos (cutE_ok (by simp; omega)), Int.toNat_natCast, Int.toNat_natCast, List.drop_left' rfl, List.take_left' h]
theorem gs_ok (pre f post : List UInt8) (hf : f.length ≤ 65535) : gsD (pre ++ (jf f ++ post)) (pre.length : Int) = gsT (by1 f) (by1 (pre ++ (jf f ++ post))) ((pre.length + (f.length + 2) : Nat) : Int) 0 := by
  have e : pre ++ (jf f ++ post) = pre ++ ([lo8 f.length, hi8 f.length] ++ (f ++ post)) := by rw [jf, List.append_assoc]
  have e' : pre ++ (jf f ++ post) = (pre ++ [lo8 f.length, hi8 f.length]) ++ (f ++ post) := by rw [e]; simp
  have c1 : cutE (pre ++ (jf f ++ post)).length (pre.length : Int) 2 = 0 := cutE_ok (n := 2) (by simp [jf])
  have hv : vA (pre ++ (jf f ++ post)) (pre.length : Int) 2 = f.length := by
    unfold vA
    rw [e, show (2 : Int) = ((2 : Nat) : Int) from rfl, pcB_ok (n := 2) rfl, leN_lohi hf]
  have hx : (pre.length : Int) + 2 = ((pre ++ [lo8 f.length, hi8 f.length]).length : Nat) := by simp
  have c2 : cutE (pre ++ (jf f ++ post)).length ((pre.length : Int) + 2) (f.length : Int) = 0 := by
    rw [hx]
    exact cutE_ok (by simp [jf]; omega)
  have hp : pcB (pre ++ (jf f ++ post)) ((pre.length : Int) + 2) (f.length : Int) = f := by
    rw [hx, e']
    exact pcB_ok rfl
  unfold gsD
  rw [if_pos c1, hv]
  unfold d3 afB afX
  rw [hp, if_pos c2, if_pos c2, c2]
  show DV.tuple [byL f, .agg [.list 1 (by1 _), .int .i64 _], _] = _
  rw [show (pre.length : Int) + 2 + (f.length : Int) = ((pre.length + (f.length + 2) : Nat) : Int) by omega]
  rfl
theorem gs_bad (pre r : List UInt8) (hb : badR r) : gsD (pre ++ r) (pre.length : Int) = gsT [] [] 0 10 := by
  by_cases h2 : r.length < 2
  · have c1 : cutE (pre ++ r).length (pre.length : Int) 2 = 10 := by
      unfold cutE
      rw [List.length_append, if_neg (by omega), if_neg (by omega), if_pos (by omega)]
    unfold gsD
    rw [if_neg (by rw [c1]; decide), c1]
  · have hb : r.length - 2 < leN (r.take 2) := hb.resolve_left h2
    have c1 : cutE (pre ++ r).length (pre.length : Int) 2 = 0 := cutE_ok (n := 2) (by rw [List.length_append]; omega)
    have hv : vA (pre ++ r) (pre.length : Int) 2 = leN (r.take 2) := by
      unfold vA
      have := pcB_ok (pre := pre) (mid := r.take 2) (post := r.drop 2) (n := 2) (by rw [List.length_take]; omega)
      rw [List.take_append_drop] at this
      rw [show (2 : Int) = ((2 : Nat) : Int) from rfl, this]
    have c2 : cutE (pre ++ r).length ((pre.length : Int) + 2) (leN (r.take 2) : Int) = 10 := by
      unfold cutE
      rw [List.length_append, if_neg (by omega), if_neg (by omega), if_pos (by omega)]
    unfold gsD
    rw [if_pos c1, hv]
    unfold d3 pcB afB afX
    rw [if_neg (by rw [c2]; decide), if_neg (by rw [c2]; decide), if_neg (by rw [c2]; decide), c2]
    rfl
/-! ### Appends -/
abbrev tyFF : List TypeId := [23, 23]
abbrev sTI : TI := ⟨.slice 5, 1, 24, [.nil], true⟩
theorem app_tabF (hp : Hp) (d x : DV) : builtinD tab hp .append [d, x] tyFF = match contD hp 1 x with
    | some (m, news) => appH hp 22 sTI d m news
    | none => none := by kernel_rfl
set_option maxRecDepth 1000000 in
theorem app_f0 (xs fs : List (List DV)) (x y : Int) : builtinD tab (sp7 xs x fs y) .append [.nil, .sl 7 0 1 1 1] tyFF = some (.sl 8 0 1 1 1, sp9 xs x fs y, none) := by kernel_rfl
theorem app_f1 (xs fs : List (List DV)) (x y : Int) (cl : List DV) (h : cl.length ≤ 1000) : builtinD tab (sp10 xs x cl.length cl fs y) .append [.sl 6 0 1 cl.length cl.length, .sl 8 0 1 1 1] tyFF = some (.sl 9 0 1 (cl.length + 1) (cl.length + 1), sp11 xs x cl.length cl fs y, some 6) := by
  rw [app_tabF, contD_one (id := 8) (o := oRw 0 0 [.list 1 fs]) (d := .list 1 fs) rfl rfl]
  have hg : (sp10 xs x cl.length cl fs y).get 6 = some (oRw 1 0 cl) := rfl
  have hf : fitB (cl.length + (0 + 1)) 24 = true := by
    have h1 : Nat.ble (cl.length + (0 + 1)) mxL = true := bleT (Nat.le_trans (show _ ≤ 1001 by omega) (by decide))
    have h2 : Nat.ble ((cl.length + (0 + 1)) * 24) mxB = true := bleT (Nat.le_trans (show _ ≤ 24024 by omega) (by decide))
    simp only [fitB, h1, h2, Bool.and_self]
  have hb : Nat.ble (cl.length + (0 + 1)) cl.length = false := bleF (by omega)
  have he : Nat.ble (0 + cl.length * 1) cl.length = true := bleT (by omega)
  have hq : Nat.beq (0 + cl.length * 1) cl.length = true := beqT (by omega)
  show appH (sp10 xs x cl.length cl fs y) 22 sTI (.sl 6 0 1 cl.length cl.length) (0 + 1) [.list 1 fs] = _
  simp only [appH, show Nat.beq 1 1 = true from rfl, hg, hb, he, hf, hq, show Nat.beq 22 22 = true from rfl, List.drop_zero]
  rfl
theorem flat_12 (xs fs : List (List DV)) (y : Int) (n : Nat) (cl : List DV) (h : ∀ d ∈ cl, flat0 d = true) : FlatIn [9] (sp12 xs n cl fs y) := by
  intro id o hid hg d hd
  obtain rfl : id = 9 := List.mem_singleton.1 hid
  cases hg
  rcases List.mem_append.1 hd with hd | hd
  · exact h d hd
  · obtain rfl := List.mem_singleton.1 hd
    rfl
end
end Go.Proofs.Ytioglkmdapghhaa
