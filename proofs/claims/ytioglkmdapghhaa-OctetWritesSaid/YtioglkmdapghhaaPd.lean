/- The reference's Join: a contract. -/
import Derived.Test.YtioglkmdapghhaaPc
namespace Go.Proofs.Ytioglkmdapghhaa
open Go.RowKit

noncomputable section
abbrev fRj : FuncId := 16
abbrev kRj : List (Nat × Nat) := ksF ftab fRj
abbrev rjL : Code := loopAt (bodyOf ftab fRj) 0
abbrev rjD (xs : List (List DV)) (d : DV) (k : Nat) : Slots := mkT 35 [(0, .list 1 xs), (4, d), (5, iN k)]
abbrev rjE (e : Int) : Slots := mkT 35 [(2, .nil), (3, .int .i64 e)]
abbrev rjA (xs zs : List (List DV)) (k : Nat) (t : List Prop) : List Prop := (decide ((k : Int) < (xs.length : Int)) = true) :: (idxOk (k : Int) xs.length = true) :: (nth xs ((k : Int).toNat) = some [.list 1 zs]) :: t
abbrev rjI (xs zs : List (List DV)) (k : Nat) (t : List Prop) : List Prop := (idxOk (k : Int) xs.length = true) :: (nth xs ((k : Int).toNat) = some [.list 1 zs]) :: t
set_option maxRecDepth 1000000 in
theorem rj1 (xs ys zs : List (List DV)) (cl tl : List DV) (k n m q : Nat) : zsee Try.prog tab ftab cRp kRj [0, 4, 5] rjL (rjD xs (.list 1 ys) k) h00 [(12, .b true), (17, .n (.fptr [.list 1 zs])), (20, .b false), (24, .n (.fptr [.list 1 zs])), (27, .w (i64u q)), (28, .r (.sl 0 0 1 n n) (J0 cl)), (31, .n (.fptr [.list 1 zs])), (33, .h (.sl 1 0 1 m m) (J1 cl tl) (some 0)), (14, .w (iN (k + 1)))] =
    some (.normal, rjD xs (.sl 1 0 1 m m) (k + 1), J1 cl tl, rjA xs zs k ((decide ((zs.length : Int) > 65535) = false) :: rjI xs zs k ((DV.int .u64 (IntKind.u64.wrap (zs.length : Int)) = i64u q) :: (cRp fRp [.list 1 ys, i64u q, iN 2] ⟨0, [], []⟩ = some (.sl 0 0 1 n n, J0 cl, none)) ::
      rjI xs zs k ((builtinD tab (J0 cl) .append [.sl 0 0 1 n n, .list 1 zs] tyBB = some (.sl 1 0 1 m m, J1 cl tl, some 0)) :: (DV.int .i64 (IntKind.i64.wrap ((k : Int) + 1)) = iN (k + 1)) :: [])))) := by kernel_rfl
set_option maxRecDepth 1000000 in
theorem rj0 (xs ys : List (List DV)) (cl : List DV) (k n : Nat) : zsee Try.prog tab ftab cRp kRj [0, 4, 5] rjL (rjD xs (.list 1 ys) k) h00 [(12, .b true), (17, .n (.fptr [.list 1 []])), (24, .n (.fptr [.list 1 []])), (28, .r (.sl 0 0 1 n n) (J0 cl)), (31, .n (.fptr [.list 1 []])), (14, .w (iN (k + 1)))] =
    some (.normal, rjD xs (.sl 0 0 1 n n) (k + 1), J0 cl, rjA xs [] k (rjI xs [] k ((cRp fRp [.list 1 ys, i64u 0, iN 2] ⟨0, [], []⟩ = some (.sl 0 0 1 n n, J0 cl, none)) ::
      rjI xs [] k ((DV.int .i64 (IntKind.i64.wrap ((k : Int) + 1)) = iN (k + 1)) :: [])))) := by kernel_rfl
set_option maxRecDepth 1000000 in
theorem rjX (xs ys zs : List (List DV)) (k : Nat) : zsee Try.prog tab ftab cRp kRj [2, 3] rjL (rjD xs (.list 1 ys) k) h00 [(12, .b true), (17, .n (.fptr [.list 1 zs])), (20, .b true)] =
    some (.ret, rjE 11, h00, rjA xs zs k ((decide ((zs.length : Int) > 65535) = true) :: [])) := by kernel_rfl
set_option maxRecDepth 1000000 in
theorem rjO (xs ys : List (List DV)) (k : Nat) : zsee Try.prog tab ftab cRp kRj [4] rjL (rjD xs (.list 1 ys) k) h00 [(12, .b false)] = some (.exit 0, mkT 35 [(4, .list 1 ys)], h00, (decide ((k : Int) < (xs.length : Int)) = false) :: []) := by kernel_rfl
set_option maxRecDepth 1000000 in
theorem rjM (xs : List (List DV)) : zflat (zans Try.prog tab ftab cRp fRj [.list 1 xs] [(8, .b true)]) = some (.tuple [.nil, .int .i64 4], (decide ((xs.length : Int) > 256) = true) :: []) := by kernel_rfl
set_option maxRecDepth 1000000 in
theorem rjZ (xs : List (List DV)) : zflat (zans Try.prog tab ftab cRp fRj [.list 1 xs] [(8, .b false), (0, .l [0, 4, 5] .ret (rjE 11) h00)]) = some (.tuple [.nil, .int .i64 11], (decide ((xs.length : Int) > 256) = false) :: (Goes Try.prog tab kRj (.loop rjL) (rjD xs .nil 0) h00 .ret (rjE 11) h00) :: []) := by kernel_rfl
set_option maxRecDepth 1000000 in
theorem rjG (xs ys : List (List DV)) : zflat (zans Try.prog tab ftab cRp fRj [.list 1 xs] [(8, .b false), (0, .l [0, 4, 5] (.exit 0) (mkT 35 [(4, .list 1 ys)]) h00)]) = some (.tuple [.list 1 ys, .int .i64 0], (decide ((xs.length : Int) > 256) = false) :: (Goes Try.prog tab kRj (.loop rjL) (rjD xs .nil 0) h00 (.exit 0) (mkT 35 [(4, .list 1 ys)]) h00) :: []) := by kernel_rfl
theorem le_jf {f : List UInt8} (h : f.length ≤ 65535) (b : List UInt8) : (b ++ leB f.length 2) ++ f = b ++ jf f := by
  have e : f.length / 256 % 256 = f.length / 256 := Nat.mod_eq_of_lt (by omega)
  simp [leB, jf, lo8, hi8, e]
/-- slots, all objects becoming lists -/
theorem rj_melt {xs : List (List DV)} {hp : Hp} {d e : DV} {k : Nat} (hl : hp.ls = []) (h : FrzD [] hp d e) : Seen (rjD xs d k) hp (rjD xs e k) h00 :=
  seen_melt (melt_nil hl) fun t a ht => by
    rcases List.mem_cons.1 ht with h1 | ht
    · cases h1
      exact ⟨.list 1 xs, by kernel_rfl, .frz _ _ (.flat _ rfl)⟩
    rcases List.mem_cons.1 ht with h1 | ht
    · cases h1
      exact ⟨d, by kernel_rfl, .frz _ _ h⟩
    · obtain h1 := List.mem_singleton.1 ht
      cases h1
      exact ⟨iN k, by kernel_rfl, .frz _ _ (.flat _ rfl)⟩
theorem rj_nil (xs : List (List DV)) (k : Nat) : Seen (rjD xs .nil k) h00 (rjD xs (.list 1 []) k) h00 :=
  seen_slots fun W0 S0 E w hs => ⟨E, .up (E := E) (E' := E) (fun _ h => h) rfl (fun _ => rfl) _, hs, fun t a ht => by
    rcases List.mem_cons.1 ht with h1 | ht
    · cases h1
      exact ⟨.list 1 xs, by kernel_rfl, fun _ h => h⟩
    rcases List.mem_cons.1 ht with h1 | ht
    · cases h1
      exact ⟨.nil, by kernel_rfl, fun _ h => vr_nl h⟩
    · obtain h1 := List.mem_singleton.1 ht
      cases h1
      exact ⟨iN k, by kernel_rfl, fun _ h => h⟩⟩
theorem rj_step {fs : List (List UInt8)} {k : Nat} {f : List UInt8} (hn : fs.length ≤ 256) (hf : fs[k]? = some f) (h1 : f.length ≤ 65535) (hs : ∀ g ∈ fs.take k, g.length ≤ 65535) :
    Goes Try.prog tab kRj rjL (rjD (fs1 fs) (byL (joinB (fs.take k))) k) h00 .normal (rjD (fs1 fs) (byL (joinB (fs.take (k + 1)))) (k + 1)) h00 := by
  have hl := fs1_length fs
  have hk := (List.getElem?_eq_some_iff.1 hf).1
  have h2 := szs_le k hs
  unfold szs at h2
  have hst : joinB (fs.take (k + 1)) = (joinB (fs.take k) ++ leB f.length 2) ++ f := by
    rw [le_jf h1, take_snoc hf, joinB_append]
    simp [joinB]
  have hlen := leB_length f.length 2
  rw [hst]
  generalize joinB (fs.take k) = bs at *
  have hlt : decide ((k : Int) < ((fs1 fs).length : Int)) = true := decide_eq_true (by omega)
  have hi : idxOk (k : Int) (fs1 fs).length = true := idxOk_lt (by omega)
  have hx := fs1_nth hf
  have hw : DV.int .i64 (IntKind.i64.wrap ((k : Int) + 1)) = iN (k + 1) := congrArg (DV.int .i64) (wrapI (n := k + 1) (by omega))
  have hbs : bs.length < 2 ^ 30 := by omega
  cases f with
  | nil =>
    have z := zsee_ok tab_ok mixed fun_ok cRp_ok (rj0 (fs1 fs) (by1 bs) (celB (bs ++ leB 0 2)) k (bs ++ leB 0 2).length) (.cons hlt (.cons hi (.cons hx (.cons hi (.cons hx (.cons (cRp_at ⟨bs, hbs⟩ 0 2 (by decide) (by decide) ⟨rfl, rfl⟩) (.cons hi (.cons hx (.cons hw .nil)))))))))
    exact z.post (rj_melt rfl (frz_oR (k := 1) rfl rfl (by decide) (by simp) (by simp)))
  | cons c f =>
    obtain ⟨N, hN⟩ : ∃ N, N = (c :: f).length := ⟨_, rfl⟩
    have lt : (by1 (c :: f)).length = N := by rw [by1_length, hN]
    have hN2 : N = f.length + 1 := by simp [hN]
    rw [← hN] at h1 hlen ⊢
    have hN3 : N < 2 ^ 64 := Nat.lt_of_le_of_lt h1 (by decide)
    have hbl : (bs ++ leB N 2).length = bs.length + 2 := by rw [List.length_append, hlen]
    have z := zsee_ok tab_ok mixed fun_ok cRp_ok (rj1 (fs1 fs) (by1 bs) (by1 (c :: f)) (celB (bs ++ leB N 2)) (celB (c :: f)) k (bs ++ leB N 2).length ((bs ++ leB N 2).length + N) N) (.cons hlt (.cons hi (.cons hx (.cons (decide_eq_false (by omega)) (.cons hi (.cons hx (.cons ?_ (.cons (cRp_at ⟨bs, hbs⟩ N 2 hN3 (by decide) ⟨rfl, rfl⟩) (.cons hi (.cons hx (.cons ?_ (.cons hw .nil))))))))))))
    · exact z.post (rj_melt rfl (frz_oR (k := 3) rfl rfl (by decide) (celB_append _ _).symm (by simp only [List.length_append, hlen, ← hN])))
    · rw [lt, wrapU rfl, Nat.mod_eq_of_lt (show N < 2 ^ IntKind.u64.bits from hN3)]
    · subst hN2
      exact app_row (hp := J0 (celB (bs ++ leB (f.length + 1) 2))) (id := 0) (m := f.length) (o := oR 1 (celB (bs ++ leB (f.length + 1) 2))) rfl (.inl rfl) rfl (celB_length _) (contD_list _ (c :: f)) (by omega)
theorem rj_ans (fs : List (List UInt8)) : Ans Try.prog fRj [fsD fs] (joD fs) ⟨0, [], []⟩ := by
  have hl := fs1_length fs
  unfold joD
  by_cases hm : fs.length > 256
  · rw [decide_eq_true hm]
    exact Ans.nil1 (zflat_ok tab_ok mixed fun_ok cRp_ok (rjM (fs1 fs)) (.cons (decide_eq_true (by omega)) .nil))
  rw [decide_eq_false hm]
  have hn : fs.length ≤ 256 := by omega
  have n1 : decide (((fs1 fs).length : Int) > 256) = false := decide_eq_false (by omega)
  cases hg : longF fs with
  | true =>
    obtain ⟨j, f, q1, q2, q3⟩ := first_long hg
    have hj := (List.getElem?_eq_some_iff.1 q1).1
    refine Ans.nil1 (zflat_ok tab_ok mixed fun_ok cRp_ok (rjZ (fs1 fs)) (.cons n1 (.cons (Goes.pre (rj_nil (fs1 fs) 0) ?_) .nil)))
    refine Goes.loop (P := Try.prog) (T := tab) (ks := kRj) (x := rjL) j (fun k => rjD (fs1 fs) (byL (joinB (fs.take k))) k) (fun _ => h00) (e := .ret) (s1 := rjE 11) (h1 := h00) (fun k hk => ?_) ?_ (by intro h; cases h)
    · obtain ⟨g, hgk⟩ : ∃ g, fs[k]? = some g := ⟨_, List.getElem?_eq_getElem (by omega)⟩
      have hmem : ∀ x ∈ fs.take (k + 1), x.length ≤ 65535 := fun x hx => q3 x (List.take_subset_take_left fs (by omega) hx)
      exact rj_step hn hgk (hmem g (by rw [take_snoc hgk]; exact List.mem_append_right _ (List.mem_singleton.2 rfl))) fun x hx => hmem x (by rw [take_snoc hgk]; exact List.mem_append_left _ hx)
    · exact zsee_ok tab_ok mixed fun_ok cRp_ok (rjX (fs1 fs) (by1 (joinB (fs.take j))) (by1 f) j) (.cons (decide_eq_true (by omega)) (.cons (idxOk_lt (by omega)) (.cons (fs1_nth q1) (.cons (decide_eq_true (by rw [by1_length]; omega)) .nil))))
  | false =>
    have hs := not_long hg
    refine zflat_ok tab_ok mixed fun_ok cRp_ok (rjG (fs1 fs) (by1 (joinB fs))) (.cons n1 (.cons (Goes.pre (rj_nil (fs1 fs) 0) ?_) .nil))
    have key := Goes.loop (P := Try.prog) (T := tab) (ks := kRj) (x := rjL) fs.length (fun k => rjD (fs1 fs) (byL (joinB (fs.take k))) k) (fun _ => h00) (e := .exit 0) (s1 := mkT 35 [(4, byL (joinB (fs.take fs.length)))]) (h1 := h00) (fun k hk => ?_) ?_ (by intro h; cases h)
    · rw [List.take_length] at key
      exact key
    · obtain ⟨g, hgk⟩ : ∃ g, fs[k]? = some g := ⟨_, List.getElem?_eq_getElem hk⟩
      exact rj_step hn hgk (hs g (List.mem_of_getElem? hgk)) fun x hx => hs x (List.mem_of_mem_take hx)
    · exact zsee_ok tab_ok mixed fun_ok cRp_ok (rjO (fs1 fs) (by1 (joinB (fs.take fs.length))) fs.length) (.cons (decide_eq_false (by omega)) .nil)
def cRj : ConF := liftC (eqC fRj (fun fs : List (List UInt8) => [fsD fs]) fun fs => (joD fs, ⟨0, [], []⟩))
theorem cRj_ok : ConOk Try.prog cRj := liftC_ok (eqC_ok rj_ans fun _ => rfl)
theorem cRj_at (hp : Hp) (fs : List (List UInt8)) : cRj fRj [fsD fs] hp = some (joD fs, hp, none) :=
  lift_at (A := fun fs : List (List UInt8) => [fsD fs]) (D := joD) (fun x y hxy => by
    simp only [List.cons.injEq, and_true] at hxy
    rw [fsD_inj hxy]) hp fs rfl (joD_flat fs)
end
end Go.Proofs.Ytioglkmdapghhaa
