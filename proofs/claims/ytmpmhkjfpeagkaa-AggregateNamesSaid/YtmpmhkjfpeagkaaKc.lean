/- The reference's guard on pieces, its comparison of lists, and the examples: contracts. -/
import Derived.Test.YtmpmhkjfpeagkaaKb
import Derived.Test.YtmpmhkjfpeagkaaKr
namespace Go.Proofs.Ytmpmhkjfpeagkaa
open Go.RowKit

noncomputable section
/-! ### SameAll -/
abbrev fSa : FuncId := 23
abbrev kSa : List (Nat × Nat) := ksF ftab fSa
abbrev saL : Code := loopAt (bodyOf ftab fSa) 0
abbrev sas (xs : List (List DV)) (k : Nat) : Slots := mkT 27 [(0, .list 1 xs), (1, .list 1 xs), (5, iN k)]
set_option maxRecDepth 1000000 in
theorem sa1 (xs ys : List (List DV)) (k : Nat) (s : ByteArray) : zsee Try.prog tab ftab noC kSa [0, 1, 5] saL (sas xs k) h00 [(14, .b true), (19, .n (.fptr [.list 1 ys])), (23, .n (.fptr [.list 1 ys])), (25, .c [(6, .h (.str s) h00 none), (8, .h (.str s) h00 none), (9, .b true)]), (16, .w (iN (k + 1)))] =
    some (.normal, sas xs (k + 1), h00, (decide ((k : Int) < (xs.length : Int)) = true) :: (idxOk (k : Int) xs.length = true) :: (nth xs ((k : Int).toNat) = some [.list 1 ys]) :: (idxOk (k : Int) xs.length = true) :: (nth xs ((k : Int).toNat) = some [.list 1 ys]) :: (convD tab h00 22 9 (.list 1 ys) = some (.str s, h00, none)) :: (convD tab h00 22 9 (.list 1 ys) = some (.str s, h00, none)) :: (eqBytes s.data.toList s.data.toList = true) :: (DV.int .i64 (IntKind.i64.wrap ((k : Int) + 1)) = iN (k + 1)) :: []) := by kernel_rfl
set_option maxRecDepth 1000000 in
theorem saO (xs : List (List DV)) (k : Nat) : zsee Try.prog tab ftab noC kSa [] saL (sas xs k) h00 [(14, .b false)] = some (.exit 0, mkT 27 [], h00, (decide ((k : Int) < (xs.length : Int)) = false) :: []) := by kernel_rfl
set_option maxRecDepth 1000000 in
theorem saA (xs : List (List DV)) : zflat (zans Try.prog tab ftab noC fSa [.list 1 xs, .list 1 xs] [(10, .b false), (0, .l [0, 1, 5] (.exit 0) (mkT 27 []) h00)]) = some (.bool true, (((xs.length : Int) != (xs.length : Int)) = false) :: (Goes Try.prog tab kSa (.loop saL) (sas xs 0) h00 (.exit 0) (mkT 27 []) h00) :: []) := by kernel_rfl
theorem eq_true : ∀ (l : List UInt8), eqBytes l l = true
  | [] => rfl
  | b :: l => by
    simp only [eqBytes, beqT (rfl : b.toNat = b.toNat)]
    exact eq_true l
theorem sa_loop (fs : List (List UInt8)) (hn : fs.length < 2 ^ 62) : Goes Try.prog tab kSa (.loop saL) (sas (fs1 fs) 0) h00 (.exit 0) (mkT 27 []) h00 := by
  have hl := fs1_length fs
  refine Goes.loop (P := Try.prog) (T := tab) (ks := kSa) (x := saL) fs.length (fun k => sas (fs1 fs) k) (fun _ => h00) (e := .exit 0) (s1 := mkT 27 []) (h1 := h00) (fun k hk => ?_) ?_ (by intro h; cases h)
  · obtain ⟨f, hf⟩ : ∃ f, fs[k]? = some f := ⟨_, List.getElem?_eq_getElem hk⟩
    exact zsee_ok tab_ok mixed fun_ok noC_ok (sa1 (fs1 fs) (by1 f) k ⟨f.toArray⟩) (.cons (decide_eq_true (by omega)) (.cons (idxOk_lt (by omega)) (.cons (fs1_nth hf) (.cons (idxOk_lt (by omega)) (.cons (fs1_nth hf) (.cons (conv_str (.inl rfl)) (.cons (conv_str (.inl rfl)) (.cons (eq_true _) (.cons (congrArg (DV.int .i64) (wrapI (n := k + 1) (by omega))) .nil)))))))))
  · exact zsee_ok tab_ok mixed fun_ok noC_ok (saO (fs1 fs) fs.length) (.cons (decide_eq_false (by omega)) .nil)
abbrev Fs : Type := {fs : List (List UInt8) // fs.length ≤ 256}
theorem sa_ans (x : Fs) : Ans Try.prog fSa [fsD x.1, fsD x.1] (.bool true) ⟨0, [], []⟩ :=
  zflat_ok tab_ok mixed fun_ok noC_ok (saA (fs1 x.1)) (.cons (by simp) (.cons (sa_loop x.1 (by have := x.2; omega)) .nil))
def cSa : ConF := liftC (eqC fSa (fun x : Fs => [fsD x.1, fsD x.1]) fun _ => (.bool true, ⟨0, [], []⟩))
theorem cSa_ok : ConOk Try.prog cSa := liftC_ok (eqC_ok sa_ans fun _ => rfl)
theorem cSa_at (hp : Hp) (fs : List (List UInt8)) (h : fs.length ≤ 256) : cSa fSa [fsD fs, fsD fs] hp = some (.bool true, hp, none) :=
  lift_at (A := fun x : Fs => [fsD x.1, fsD x.1]) (D := fun _ => .bool true) (fun _ _ _ => rfl) hp ⟨fs, h⟩ rfl rfl
/-! ### GreatPieces -/
abbrev fGp : FuncId := 22
abbrev kGp : List (Nat × Nat) := ksF ftab fGp
abbrev gpL : Code := loopAt (bodyOf ftab fGp) 0
abbrev gpS (xs : List (List DV)) (n : Int) (k : Nat) : Slots := mkT 25 [(0, .list 1 xs), (3, .int .i64 n), (4, iN k)]
abbrev gpE (n : Int) : Slots := mkT 25 [(3, .int .i64 n)]
set_option maxRecDepth 1000000 in
theorem gp1 (xs ys : List (List DV)) (n n' : Int) (k : Nat) : zsee Try.prog tab ftab noC kGp [0, 3, 4] gpL (gpS xs n k) h00 [(8, .b true), (11, .b true), (18, .n (.fptr [.list 1 ys])), (22, .w (.int .i64 n')), (14, .w (iN (k + 1)))] =
    some (.normal, gpS xs n' (k + 1), h00, (decide ((k : Int) < (xs.length : Int)) = true) :: (decide (n ≤ 80000) = true) :: (idxOk (k : Int) xs.length = true) :: (nth xs ((k : Int).toNat) = some [.list 1 ys]) :: (DV.int .i64 (IntKind.i64.wrap (IntKind.i64.wrap (n + (ys.length : Int)) + 4)) = .int .i64 n') :: (DV.int .i64 (IntKind.i64.wrap ((k : Int) + 1)) = iN (k + 1)) :: []) := by kernel_rfl
set_option maxRecDepth 1000000 in
theorem gpO (xs : List (List DV)) (n : Int) (k : Nat) : zsee Try.prog tab ftab noC kGp [3] gpL (gpS xs n k) h00 [(8, .b false)] = some (.exit 0, gpE n, h00, (decide ((k : Int) < (xs.length : Int)) = false) :: []) := by kernel_rfl
set_option maxRecDepth 1000000 in
theorem gpX (xs : List (List DV)) (n : Int) (k : Nat) : zsee Try.prog tab ftab noC kGp [3] gpL (gpS xs n k) h00 [(8, .b true), (11, .b false)] = some (.exit 0, gpE n, h00, (decide ((k : Int) < (xs.length : Int)) = true) :: (decide (n ≤ 80000) = false) :: []) := by kernel_rfl
set_option maxRecDepth 1000000 in
theorem gpA (xs : List (List DV)) (n : Int) (v : Bool) : zflat (zans Try.prog tab ftab noC fGp [.list 1 xs] [(0, .l [0, 3, 4] (.exit 0) (gpE n) h00), (24, .b v)]) = some (.bool v, (Goes Try.prog tab kGp (.loop gpL) (gpS xs 0 0) h00 (.exit 0) (gpE n) h00) :: (decide (n > 80000) = v) :: []) := by kernel_rfl
def gpV (n : Int) : List (List UInt8) → Int
  | [] => n
  | p :: l => match decide (n ≤ 80000) with
    | true => gpV (IntKind.i64.wrap (IntKind.i64.wrap (n + (p.length : Int)) + 4)) l
    | false => n
theorem gp_loop (l : List (List UInt8)) (hl : l.length < 2 ^ 63) : ∀ (r pre : List (List UInt8)) (n : Int), l = pre ++ r → ∃ m, GoesR Try.prog tab kGp gpL (m + 1) (gpS (fs1 l) n pre.length) h00 (.exit 0) (gpE (gpV n r)) h00
  | [], pre, n, e => by
    have hn := fs1_length l
    have : pre.length = l.length := by rw [e]; simp
    exact ⟨0, GoesR.last (zsee_ok tab_ok mixed fun_ok noC_ok (gpO (fs1 l) n pre.length) (.cons (decide_eq_false (by omega)) .nil)) (by intro h; cases h)⟩
  | p :: r, pre, n, e => by
    have hn := fs1_length l
    have hlen : l.length = pre.length + (1 + r.length) := by rw [e]; simp; omega
    have hj : l[pre.length]? = some p := by rw [e]; simp
    have hlt : decide ((pre.length : Int) < ((fs1 l).length : Int)) = true := decide_eq_true (by omega)
    unfold gpV
    cases hd : decide (n ≤ 80000) with
    | false => exact ⟨0, GoesR.last (zsee_ok tab_ok mixed fun_ok noC_ok (gpX (fs1 l) n pre.length) (.cons hlt (.cons hd .nil))) (by intro h; cases h)⟩
    | true =>
      obtain ⟨m, g⟩ := gp_loop l hl r (pre ++ [p]) (IntKind.i64.wrap (IntKind.i64.wrap (n + (p.length : Int)) + 4)) (by rw [e]; simp)
      rw [List.length_append, List.length_singleton] at g
      have z := zsee_ok tab_ok mixed fun_ok noC_ok (gp1 (fs1 l) (by1 p) n (IntKind.i64.wrap (IntKind.i64.wrap (n + (p.length : Int)) + 4)) pre.length) (.cons hlt (.cons hd (.cons (idxOk_lt (by omega)) (.cons (fs1_nth hj) (.cons (by rw [by1_length]) (.cons (congrArg (DV.int .i64) (wrapI (n := pre.length + 1) (by omega))) .nil))))))
      exact ⟨m + 1, GoesR.step z g⟩
abbrev Fl : Type := {fs : List (List UInt8) // fs.length < 2 ^ 63}
def gpB (l : List (List UInt8)) : Bool := decide (gpV 0 l > 80000)
theorem gp_ans (x : Fl) : Ans Try.prog fGp [fsD x.1] (.bool (gpB x.1)) ⟨0, [], []⟩ := by
  obtain ⟨m, g⟩ := gp_loop x.1 x.2 x.1 [] 0 rfl
  exact zflat_ok tab_ok mixed fun_ok noC_ok (gpA (fs1 x.1) (gpV 0 x.1) _) (.cons g.goes (.cons rfl .nil))
def cGp : ConF := liftC (eqC fGp (fun x : Fl => [fsD x.1]) fun x => (.bool (gpB x.1), ⟨0, [], []⟩))
theorem cGp_ok : ConOk Try.prog cGp := liftC_ok (eqC_ok gp_ans fun _ => rfl)
theorem cGp_at (hp : Hp) (l : List (List UInt8)) (h : l.length < 2 ^ 63) : cGp fGp [fsD l] hp = some (.bool (gpB l), hp, none) :=
  lift_at (A := fun x : Fl => [fsD x.1]) (D := fun x => .bool (gpB x.1)) (fun x y hxy => by
    simp only [List.cons.injEq, and_true] at hxy
    rw [fsD_inj hxy]) hp ⟨l, h⟩ rfl rfl
/-! ### The examples hold -/
abbrev fAl : FuncId := 16
set_option maxRecDepth 1000000 in
theorem alive_ans : zflat (zans Try.prog tab ftab noC fAl [] []) = some (.bool true, []) := by kernel_rfl
def cAl : ConF := fixC fAl (.bool true)
theorem cAl_ok : ConOk Try.prog cAl := fixC_ok (zflat_ok tab_ok mixed fun_ok noC_ok alive_ans .nil) rfl
end
end Go.Proofs.Ytmpmhkjfpeagkaa
