/- GreatPackets, Same: contracts. -/
import Derived.Test.YtmpmhkjfpeagkaaYf
namespace Go.Proofs.Ytmpmhkjfpeagkaa
open Go.RowKit

noncomputable section
abbrev fGk : FuncId := 17
abbrev kGk : List (Nat × Nat) := ksF ftab fGk
abbrev gkL : Code := loopAt (bodyOf ftab fGk) 0
abbrev gkS (xs : List (List DV)) (n : Int) (k : Nat) : Slots := mkT 26 [(0, .list 13 xs), (3, .int .i64 n), (4, iN k)]
abbrev gkE (n : Int) : Slots := mkT 26 [(3, .int .i64 n)]
set_option maxRecDepth 1000000 in
theorem gk1 (xs ys : List (List DV)) (n n' : Int) (k : Nat) (t0 t1 t2 t3 t4 t5 f0 f1 f2 f3 f4 f5 : UInt8) : zsee Try.prog tab ftab noC kGk [0, 3, 4] gkL (gkS xs n k) h00 [(8, .b true), (11, .b true), (18, .n (.fptr (pkc t0 t1 t2 t3 t4 t5 f0 f1 f2 f3 f4 f5 ys))), (23, .w (.int .i64 n')), (14, .w (iN (k + 1)))] =
    some (.normal, gkS xs n' (k + 1), h00, (decide ((k : Int) < (xs.length : Int)) = true) :: (decide (n ≤ 8000) = true) :: (idxOk (k : Int) xs.length = true) :: (nth xs ((k : Int).toNat) = some (pkc t0 t1 t2 t3 t4 t5 f0 f1 f2 f3 f4 f5 ys)) :: (DV.int .i64 (IntKind.i64.wrap (IntKind.i64.wrap (n + (ys.length : Int)) + 14)) = .int .i64 n') :: wrK k :: []) := by kernel_rfl
set_option maxRecDepth 1000000 in
theorem gkO (xs : List (List DV)) (n : Int) (k : Nat) : zsee Try.prog tab ftab noC kGk [3] gkL (gkS xs n k) h00 [(8, .b false)] = some (.exit 0, gkE n, h00, (decide ((k : Int) < (xs.length : Int)) = false) :: []) := by kernel_rfl
set_option maxRecDepth 1000000 in
theorem gkX (xs : List (List DV)) (n : Int) (k : Nat) : zsee Try.prog tab ftab noC kGk [3] gkL (gkS xs n k) h00 [(8, .b true), (11, .b false)] = some (.exit 0, gkE n, h00, (decide ((k : Int) < (xs.length : Int)) = true) :: (decide (n ≤ 8000) = false) :: []) := by kernel_rfl
set_option maxRecDepth 1000000 in
theorem gkA (xs : List (List DV)) (n : Int) (v : Bool) : zflat (zans Try.prog tab ftab noC fGk [.list 13 xs] [(0, .l [0, 3, 4] (.exit 0) (gkE n) h00), (25, .b v)]) = some (.bool v, (Goes Try.prog tab kGk (.loop gkL) (gkS xs 0 0) h00 (.exit 0) (gkE n) h00) :: (decide (n > 8000) = v) :: []) := by kernel_rfl
def gkV (n : Int) : List Pk → Int
  | [] => n
  | p :: l => match decide (n ≤ 8000) with
    | true => gkV (IntKind.i64.wrap (IntKind.i64.wrap (n + (p.d.length : Int)) + 14)) l
    | false => n
theorem gk_loop (l : List Pk) (hl : l.length < 2 ^ 63) : ∀ (r pre : List Pk) (n : Int), l = pre ++ r → ∃ m, GoesR Try.prog tab kGk gkL (m + 1) (gkS (pkR l) n pre.length) h00 (.exit 0) (gkE (gkV n r)) h00
  | [], pre, n, e => by
    have hn := pkR_length l
    have : pre.length = l.length := by rw [e]; simp
    exact ⟨0, GoesR.last (zsee_ok tab_ok mixed fun_ok noC_ok (gkO (pkR l) n pre.length) (.cons (decide_eq_false (by omega)) .nil)) (by intro h; cases h)⟩
  | p :: r, pre, n, e => by
    have hn := pkR_length l
    have hlen : l.length = pre.length + (1 + r.length) := by rw [e]; simp; omega
    have hj : l[pre.length]? = some p := by rw [e]; simp
    have hlt : decide ((pre.length : Int) < ((pkR l).length : Int)) = true := decide_eq_true (by omega)
    unfold gkV
    cases hd : decide (n ≤ 8000) with
    | false => exact ⟨0, GoesR.last (zsee_ok tab_ok mixed fun_ok noC_ok (gkX (pkR l) n pre.length) (.cons hlt (.cons hd .nil))) (by intro h; cases h)⟩
    | true =>
      obtain ⟨m, g⟩ := gk_loop l hl r (pre ++ [p]) (IntKind.i64.wrap (IntKind.i64.wrap (n + (p.d.length : Int)) + 14)) (by rw [e]; simp)
      rw [List.length_append, List.length_singleton] at g
      have z := zsee_ok tab_ok mixed fun_ok noC_ok (gk1 (pkR l) (by1 p.d) n (IntKind.i64.wrap (IntKind.i64.wrap (n + (p.d.length : Int)) + 14)) pre.length p.t0 p.t1 p.t2 p.t3 p.t4 p.t5 p.f0 p.f1 p.f2 p.f3 p.f4 p.f5) (.cons hlt (.cons hd (.cons (idxOk_lt (by omega)) (.cons (pkR_nth hj) (.cons (by rw [by1_length]) (.cons (congrArg (DV.int .i64) (wrapI (n := pre.length + 1) (by omega))) .nil))))))
      exact ⟨m + 1, GoesR.step z g⟩
abbrev Pks : Type := {l : List Pk // l.length < 2 ^ 63}
def gkB (l : List Pk) : Bool := decide (gkV 0 l > 8000)
theorem gk_ans (x : Pks) : Ans Try.prog fGk [pksD x.1] (.bool (gkB x.1)) ⟨0, [], []⟩ := by
  obtain ⟨m, g⟩ := gk_loop x.1 x.2 x.1 [] 0 rfl
  exact zflat_ok tab_ok mixed fun_ok noC_ok (gkA (pkR x.1) (gkV 0 x.1) _) (.cons g.goes (.cons rfl .nil))
def cGk : ConF := liftC (eqC fGk (fun x : Pks => [pksD x.1]) fun x => (.bool (gkB x.1), ⟨0, [], []⟩))
theorem cGk_ok : ConOk Try.prog cGk := liftC_ok (eqC_ok gk_ans fun _ => rfl)
theorem cGk_at (hp : Hp) (l : List Pk) (h : l.length < 2 ^ 63) : cGk fGk [pksD l] hp = some (.bool (gkB l), hp, none) :=
  lift_at (A := fun x : Pks => [pksD x.1]) (D := fun x => .bool (gkB x.1)) (fun x y hxy => by
    simp only [List.cons.injEq, and_true] at hxy
    rw [pksD_inj hxy]) hp ⟨l, h⟩ rfl rfl
/-! ### Same, of one list -/
abbrev fSm : FuncId := 20
abbrev kSm : List (Nat × Nat) := ksF ftab fSm
abbrev smL : Code := loopAt (bodyOf ftab fSm) 0
abbrev smS (xs : List (List DV)) (k : Nat) : Slots := mkT 56 [(0, .list 13 xs), (1, .list 13 xs), (5, iN k)]
set_option maxRecDepth 1000000 in
theorem sm1 (xs ys : List (List DV)) (k : Nat) (s : ByteArray) (t0 t1 t2 t3 t4 t5 f0 f1 f2 f3 f4 f5 : UInt8) : zsee Try.prog tab ftab noC kSm [0, 1, 5] smL (smS xs k) h00 [(14, .b true), (19, .n (.fptr (pkc t0 t1 t2 t3 t4 t5 f0 f1 f2 f3 f4 f5 ys))), (24, .n (.fptr (pkc t0 t1 t2 t3 t4 t5 f0 f1 f2 f3 f4 f5 ys))), (27, .b false), (31, .n (.fptr (pkc t0 t1 t2 t3 t4 t5 f0 f1 f2 f3 f4 f5 ys))), (36, .n (.fptr (pkc t0 t1 t2 t3 t4 t5 f0 f1 f2 f3 f4 f5 ys))), (39, .b false), (44, .n (.fptr (pkc t0 t1 t2 t3 t4 t5 f0 f1 f2 f3 f4 f5 ys))), (47, .h (.str s) h00 none), (50, .n (.fptr (pkc t0 t1 t2 t3 t4 t5 f0 f1 f2 f3 f4 f5 ys))), (53, .h (.str s) h00 none), (54, .b false), (16, .w (iN (k + 1)))] =
    some (.normal, smS xs (k + 1), h00, (decide ((k : Int) < (xs.length : Int)) = true) :: (idxOk (k : Int) xs.length = true) :: (nth xs ((k : Int).toNat) = some (pkc t0 t1 t2 t3 t4 t5 f0 f1 f2 f3 f4 f5 ys)) :: (idxOk (k : Int) xs.length = true) :: (nth xs ((k : Int).toNat) = some (pkc t0 t1 t2 t3 t4 t5 f0 f1 f2 f3 f4 f5 ys)) :: ((!((((t0.toNat : Int) == (t0.toNat : Int))) && ((((t1.toNat : Int) == (t1.toNat : Int))) && ((((t2.toNat : Int) == (t2.toNat : Int))) && ((((t3.toNat : Int) == (t3.toNat : Int))) && ((((t4.toNat : Int) == (t4.toNat : Int))) && ((((t5.toNat : Int) == (t5.toNat : Int))) && true))))))) = false) :: (idxOk (k : Int) xs.length = true) :: (nth xs ((k : Int).toNat) = some (pkc t0 t1 t2 t3 t4 t5 f0 f1 f2 f3 f4 f5 ys)) :: (idxOk (k : Int) xs.length = true) :: (nth xs ((k : Int).toNat) = some (pkc t0 t1 t2 t3 t4 t5 f0 f1 f2 f3 f4 f5 ys)) :: ((!((((f0.toNat : Int) == (f0.toNat : Int))) && ((((f1.toNat : Int) == (f1.toNat : Int))) && ((((f2.toNat : Int) == (f2.toNat : Int))) && ((((f3.toNat : Int) == (f3.toNat : Int))) && ((((f4.toNat : Int) == (f4.toNat : Int))) && ((((f5.toNat : Int) == (f5.toNat : Int))) && true))))))) = false) :: (idxOk (k : Int) xs.length = true) :: (nth xs ((k : Int).toNat) = some (pkc t0 t1 t2 t3 t4 t5 f0 f1 f2 f3 f4 f5 ys)) :: (convD tab h00 22 9 (.list 1 ys) = some (.str s, h00, none)) :: (idxOk (k : Int) xs.length = true) :: (nth xs ((k : Int).toNat) = some (pkc t0 t1 t2 t3 t4 t5 f0 f1 f2 f3 f4 f5 ys)) :: (convD tab h00 22 9 (.list 1 ys) = some (.str s, h00, none)) :: ((!eqBytes s.data.toList s.data.toList) = false) :: wrK k :: []) := by kernel_rfl
set_option maxRecDepth 1000000 in
theorem smO (xs : List (List DV)) (k : Nat) : zsee Try.prog tab ftab noC kSm [] smL (smS xs k) h00 [(14, .b false)] = some (.exit 0, mkT 56 [], h00, (decide ((k : Int) < (xs.length : Int)) = false) :: []) := by kernel_rfl
set_option maxRecDepth 1000000 in
theorem smA (xs : List (List DV)) : zflat (zans Try.prog tab ftab noC fSm [.list 13 xs, .list 13 xs] [(10, .b false), (0, .l [0, 1, 5] (.exit 0) (mkT 56 []) h00)]) = some (.bool true, (((xs.length : Int) != (xs.length : Int)) = false) :: (Goes Try.prog tab kSm (.loop smL) (smS xs 0) h00 (.exit 0) (mkT 56 []) h00) :: []) := by kernel_rfl
theorem sm_loop (l : List Pk) (hl : l.length < 2 ^ 62) : Goes Try.prog tab kSm (.loop smL) (smS (pkR l) 0) h00 (.exit 0) (mkT 56 []) h00 := by
  have hn := pkR_length l
  refine Goes.loop (P := Try.prog) (T := tab) (ks := kSm) (x := smL) l.length (fun k => smS (pkR l) k) (fun _ => h00) (e := .exit 0) (s1 := mkT 56 []) (h1 := h00) (fun k hk => ?_) ?_ (by intro h; cases h)
  · obtain ⟨p, hj⟩ : ∃ p, l[k]? = some p := ⟨_, List.getElem?_eq_getElem hk⟩
    have hi : idxOk (k : Int) (pkR l).length = true := idxOk_lt (by omega)
    have hx := pkR_nth hj
    have hc : convD tab h00 22 9 (.list 1 (by1 p.d)) = some (.str ⟨p.d.toArray⟩, h00, none) := conv_str (.inl rfl)
    exact zsee_ok tab_ok mixed fun_ok noC_ok (sm1 (pkR l) (by1 p.d) k ⟨p.d.toArray⟩ p.t0 p.t1 p.t2 p.t3 p.t4 p.t5 p.f0 p.f1 p.f2 p.f3 p.f4 p.f5) (.cons (decide_eq_true (by omega)) (.cons hi (.cons hx (.cons hi (.cons hx (.cons (by simp) (.cons hi (.cons hx (.cons hi (.cons hx (.cons (by simp) (.cons hi (.cons hx (.cons hc (.cons hi (.cons hx (.cons hc (.cons (by rw [eq_true]; rfl) (.cons (congrArg (DV.int .i64) (wrapI (n := k + 1) (by omega))) .nil)))))))))))))))))))
  · exact zsee_ok tab_ok mixed fun_ok noC_ok (smO (pkR l) l.length) (.cons (decide_eq_false (by omega)) .nil)
abbrev Pk62 : Type := {l : List Pk // l.length < 2 ^ 62}
theorem sm_ans (x : Pk62) : Ans Try.prog fSm [pksD x.1, pksD x.1] (.bool true) ⟨0, [], []⟩ :=
  zflat_ok tab_ok mixed fun_ok noC_ok (smA (pkR x.1)) (.cons (by simp) (.cons (sm_loop x.1 x.2) .nil))
def cSm : ConF := liftC (eqC fSm (fun x : Pk62 => [pksD x.1, pksD x.1]) fun _ => (.bool true, ⟨0, [], []⟩))
theorem cSm_ok : ConOk Try.prog cSm := liftC_ok (eqC_ok sm_ans fun _ => rfl)
theorem cSm_at (hp : Hp) (l : List Pk) (h : l.length < 2 ^ 62) : cSm fSm [pksD l, pksD l] hp = some (.bool true, hp, none) :=
  lift_at (A := fun x : Pk62 => [pksD x.1, pksD x.1]) (D := fun _ => .bool true) (fun _ _ _ => rfl) hp ⟨l, h⟩ rfl rfl
end
end Go.Proofs.Ytmpmhkjfpeagkaa
