/- The reference's Twin: a contract; the law RadioTells over data. -/
import Derived.Test.YtmnpkgonanpgfaaUl
namespace Go.Proofs.Ytmnpkgonanpgfaa
open Go.RowKit

noncomputable section
/-! ### Objects kept with cells that have become lists -/
section
variable {L : List Nat} {hp hp' : Hp}
def MltL (L : List Nat) (hp : Hp) : List DV → List DV → Prop
  | [], [] => True
  | d :: ds, e :: es => (Mlt L hp d e ∧ scal e = true) ∧ MltL L hp ds es
  | _, _ => False
theorem MltL.len : ∀ {ds es : List DV}, MltL L hp ds es → es.length = ds.length
  | [], [], _ => rfl
  | _ :: _, _ :: _, h => by simp [MltL.len h.2]
  | [], _ :: _, h => h.elim
  | _ :: _, [], h => h.elim
theorem MltL.sc : ∀ {ds es : List DV}, MltL L hp ds es → scals es = true
  | [], [], _ => rfl
  | _ :: _, _ :: _, h => by
    simp only [scals, Bool.and_eq_true]
    exact ⟨h.1.2, MltL.sc h.2⟩
  | [], _ :: _, h => h.elim
  | _ :: _, [], h => h.elim
theorem MltL.at : ∀ {ds es : List DV}, MltL L hp ds es → ∀ (j : Nat) (d e : DV), ds[j]? = some d → es[j]? = some e → Mlt L hp d e
  | d :: _, e :: _, h, 0, d', e', hd, he => by
    simp only [List.getElem?_cons_zero, Option.some.injEq] at hd he
    subst hd he
    exact h.1.1
  | _ :: _, _ :: _, h, j + 1, d, e, hd, he => MltL.at h.2 j d e (by simpa using hd) (by simpa using he)
  | [], [], _, j, d, e, hd, _ => by simp at hd
  | [], _ :: _, h, _, _, _, _, _ => h.elim
  | _ :: _, [], h, _, _, _, _, _ => h.elim
theorem MltL.flat : ∀ {ds : List DV}, (∀ d ∈ ds, flat0 d = true) → MltL L hp ds ds
  | [], _ => trivial
  | d :: _ds, h => ⟨⟨.frz _ _ (.flat _ (h d (List.mem_cons_self ..))), flat0_scal (h d (List.mem_cons_self ..))⟩, MltL.flat fun q hq => h q (List.mem_cons_of_mem _ hq)⟩
theorem MltL.app : ∀ {ds es us bs : List DV}, MltL L hp ds es → MltL L hp us bs → MltL L hp (ds ++ us) (es ++ bs)
  | [], [], _, _, _, h => h
  | _ :: _, _ :: _, _, _, h, k => ⟨h.1, MltL.app h.2 k⟩
  | [], _ :: _, _, _, h, _ => h.elim
  | _ :: _, [], _, _, h, _ => h.elim
theorem melt_objs (h1 : hp.ls = []) (h2 : hp'.ls = []) (hn : nodupN L = true) (ob : ∀ (i id : Nat), L[i]? = some id → ∃ o o', hp.get id = some o ∧ o.k ≠ 2 ∧ hp'.get i = some o' ∧ o'.k = (oldOb o).k ∧ o'.t = o.t ∧ MltL L hp o.cs o'.cs) : MeltH L hp hp' :=
  ⟨fun id R hR => (by rw [h2] at hR; cases hR), fun i => (by rw [h1, h2]), fun i hi => (by rw [h1] at hi; cases hi), nodupN_ok hn, fun i id hi => by
    obtain ⟨o, o', a1, a2, a3, a4, a5, a6⟩ := ob i id hi
    exact ⟨o, o', a1, a2, a3, a4, a5, a6.len, a6.sc, a6.at⟩⟩
end
/-! ### Twin -/
abbrev fTw : FuncId := 25
abbrev kTw : List (Nat × Nat) := ksF ftab fTw
abbrev twL : Code := loopAt (bodyOf ftab fTw) 0
abbrev twS (k : Nat) : Slots := mkT 30 [(1, .ptr 0 0), (2, .ptr 1 0), (3, .ptr 2 0), (4, iN k)]
abbrev twB : Slots := mkT 30 [(1, .ptr 0 0), (2, .ptr 1 0), (3, .ptr 2 0)]
abbrev twE : Slots := mkT 30 [(2, .ptr 1 0), (3, .ptr 2 0)]
abbrev twR (w : Wd) : DV := .list 4 (rsR w.r)
abbrev tw0 (w : Wd) : Hp := ⟨3, [oA (twR w) .nil, oA .nil .nil, oW w], []⟩
abbrev tw1 (w : Wd) (cl : List DV) (m : Nat) : Hp := ⟨4, [oRw 1 0 cl, oA (twR w) (.sl 3 0 1 m m), oA .nil .nil, oW w], []⟩
abbrev twX (w : Wd) (d : DV) (more : List Ob) : Hp := ⟨3 + more.length, more ++ [oA (twR w) d, oA .nil .nil, oW w], []⟩
set_option maxRecDepth 1000000 in
theorem tA0e (w : Wd) (k : Nat) : zsee Try.prog tab ftab noC kTw [1, 2, 3, 4] twL (twS k) (tw0 w) [(14, .b true), (23, .n (.fptr [.list 1 []])), (16, .w (iN (k + 1)))] = some (.normal, twS (k + 1), ⟨6, [oRw 1 0 [.sl 3 0 1 0 0], oRw 0 0 [.sl 3 0 1 0 0], oJ 0 [], oA (twR w) (.sl 5 0 1 1 1), oA .nil .nil, oW w], []⟩, ((decide ((k : Int) < ((ssR w.s).length : Int))) = true) :: ((idxOk (k : Int) (ssR w.s).length) = true) :: (nth (ssR w.s) ((k : Int).toNat) = some [.list 1 []]) :: wrK k :: []) := by kernel_rfl
set_option maxRecDepth 1000000 in
theorem tA0f (w : Wd) (y : List DV) (ys : List (List DV)) (rc : List DV) (k n : Nat) : zsee Try.prog tab ftab noC kTw [1, 2, 3, 4] twL (twS k) (tw0 w) [(14, .b true), (23, .n (.fptr [.list 1 (y :: ys)])), (25, .h (.sl 4 0 1 n n) ⟨5, [oJ 1 rc, oJ 0 [], oA (twR w) .nil, oA .nil .nil, oW w], []⟩ none), (16, .w (iN (k + 1)))] = some (.normal, twS (k + 1), ⟨7, [oRw 1 0 [.sl 4 0 1 n n], oRw 0 0 [.sl 4 0 1 n n], oJ 1 rc, oJ 0 [], oA (twR w) (.sl 6 0 1 1 1), oA .nil .nil, oW w], []⟩, ((decide ((k : Int) < ((ssR w.s).length : Int))) = true) :: ((idxOk (k : Int) (ssR w.s).length) = true) :: (nth (ssR w.s) ((k : Int).toNat) = some [.list 1 (y :: ys)]) :: (builtinD tab ⟨4, [oJ 0 [], oA (twR w) .nil, oA .nil .nil, oW w], []⟩ .append [.sl 3 0 1 0 0, .list 1 (y :: ys)] tyI = some (.sl 4 0 1 n n, ⟨5, [oJ 1 rc, oJ 0 [], oA (twR w) .nil, oA .nil .nil, oW w], []⟩, none)) :: wrK k :: []) := by kernel_rfl
set_option maxRecDepth 1000000 in
theorem tA1e (w : Wd) (cl : List DV) (m k : Nat) : zsee Try.prog tab ftab noC kTw [1, 2, 3, 4] twL (twS k) (tw1 w cl m) [(14, .b true), (23, .n (.fptr [.list 1 []])), (27, .h (.sl 6 0 1 (m + 1) (m + 1)) ⟨7, [oRw 3 3 (cl ++ [.sl 4 0 1 0 0]), oRw 0 0 [.sl 4 0 1 0 0], oJ 0 [], oRw 2 0 cl, oA (twR w) (.sl 3 0 1 m m), oA .nil .nil, oW w], []⟩ (some 3)), (16, .w (iN (k + 1)))] = some (.normal, twS (k + 1), ⟨7, [oRw 3 3 (cl ++ [.sl 4 0 1 0 0]), oRw 0 0 [.sl 4 0 1 0 0], oJ 0 [], oRw 2 0 cl, oA (twR w) (.sl 6 0 1 (m + 1) (m + 1)), oA .nil .nil, oW w], []⟩, ((decide ((k : Int) < ((ssR w.s).length : Int))) = true) :: ((idxOk (k : Int) (ssR w.s).length) = true) :: (nth (ssR w.s) ((k : Int).toNat) = some [.list 1 []]) :: (builtinD tab ⟨6, [oRw 0 0 [.sl 4 0 1 0 0], oJ 0 [], oRw 1 0 cl, oA (twR w) (.sl 3 0 1 m m), oA .nil .nil, oW w], []⟩ .append [.sl 3 0 1 m m, .sl 5 0 1 1 1] tyS = some (.sl 6 0 1 (m + 1) (m + 1), ⟨7, [oRw 3 3 (cl ++ [.sl 4 0 1 0 0]), oRw 0 0 [.sl 4 0 1 0 0], oJ 0 [], oRw 2 0 cl, oA (twR w) (.sl 3 0 1 m m), oA .nil .nil, oW w], []⟩, some 3)) :: wrK k :: []) := by kernel_rfl
set_option maxRecDepth 1000000 in
theorem tA1f (w : Wd) (cl : List DV) (y : List DV) (ys : List (List DV)) (rc : List DV) (m k n : Nat) : zsee Try.prog tab ftab noC kTw [1, 2, 3, 4] twL (twS k) (tw1 w cl m) [(14, .b true), (23, .n (.fptr [.list 1 (y :: ys)])), (25, .h (.sl 5 0 1 n n) ⟨6, [oJ 1 rc, oJ 0 [], oRw 1 0 cl, oA (twR w) (.sl 3 0 1 m m), oA .nil .nil, oW w], []⟩ none), (27, .h (.sl 7 0 1 (m + 1) (m + 1)) ⟨8, [oRw 3 3 (cl ++ [.sl 5 0 1 n n]), oRw 0 0 [.sl 5 0 1 n n], oJ 1 rc, oJ 0 [], oRw 2 0 cl, oA (twR w) (.sl 3 0 1 m m), oA .nil .nil, oW w], []⟩ (some 3)), (16, .w (iN (k + 1)))] = some (.normal, twS (k + 1), ⟨8, [oRw 3 3 (cl ++ [.sl 5 0 1 n n]), oRw 0 0 [.sl 5 0 1 n n], oJ 1 rc, oJ 0 [], oRw 2 0 cl, oA (twR w) (.sl 7 0 1 (m + 1) (m + 1)), oA .nil .nil, oW w], []⟩, ((decide ((k : Int) < ((ssR w.s).length : Int))) = true) :: ((idxOk (k : Int) (ssR w.s).length) = true) :: (nth (ssR w.s) ((k : Int).toNat) = some [.list 1 (y :: ys)]) :: (builtinD tab ⟨5, [oJ 0 [], oRw 1 0 cl, oA (twR w) (.sl 3 0 1 m m), oA .nil .nil, oW w], []⟩ .append [.sl 4 0 1 0 0, .list 1 (y :: ys)] tyI = some (.sl 5 0 1 n n, ⟨6, [oJ 1 rc, oJ 0 [], oRw 1 0 cl, oA (twR w) (.sl 3 0 1 m m), oA .nil .nil, oW w], []⟩, none)) :: (builtinD tab ⟨7, [oRw 0 0 [.sl 5 0 1 n n], oJ 1 rc, oJ 0 [], oRw 1 0 cl, oA (twR w) (.sl 3 0 1 m m), oA .nil .nil, oW w], []⟩ .append [.sl 3 0 1 m m, .sl 6 0 1 1 1] tyS = some (.sl 7 0 1 (m + 1) (m + 1), ⟨8, [oRw 3 3 (cl ++ [.sl 5 0 1 n n]), oRw 0 0 [.sl 5 0 1 n n], oJ 1 rc, oJ 0 [], oRw 2 0 cl, oA (twR w) (.sl 3 0 1 m m), oA .nil .nil, oW w], []⟩, some 3)) :: wrK k :: []) := by kernel_rfl
set_option maxRecDepth 1000000 in
theorem tO0 (w : Wd) (k : Nat) : zsee Try.prog tab ftab noC kTw [2, 3] twL (twS k) (tw0 w) [(14, .b false)] = some (.exit 0, twE, tw0 w, ((decide ((k : Int) < ((ssR w.s).length : Int))) = false) :: []) := by kernel_rfl
set_option maxRecDepth 1000000 in
theorem tO1 (w : Wd) (cl : List DV) (m k : Nat) : zsee Try.prog tab ftab noC kTw [2, 3] twL (twS k) (tw1 w cl m) [(14, .b false)] = some (.exit 0, twE, tw1 w cl m, ((decide ((k : Int) < ((ssR w.s).length : Int))) = false) :: []) := by kernel_rfl
set_option maxRecDepth 1000000 in
theorem twE0 (_rl : List DV) (_m : Nat) (s : List (List Int)) : zans Try.prog tab ftab noC fTw [wdD ⟨[], s⟩] [(8, .w (.sl 2 0 4 0 0)), (2, .s [1, 2, 3] twB (tw0 ⟨[], s⟩)), (0, .l [1, 2, 3, 4] (.exit 0) twE (tw0 ⟨[], s⟩))] = some (.agg [twR ⟨[], s⟩, .nil], ⟨3, [oA (twR ⟨[], s⟩) .nil, oA (twR ⟨[], s⟩) .nil, oW ⟨[], s⟩], []⟩, (DV.sl 2 0 4 0 0 = .sl 2 0 4 0 0) :: (Seen (mkT 30 [(1, .ptr 0 0), (2, .ptr 1 0), (3, .ptr 3 0)]) ⟨4, [oA (.sl 2 0 4 0 0) .nil, oRs 0 [], oA .nil .nil, oW ⟨[], s⟩], []⟩ twB (tw0 ⟨[], s⟩)) :: (Goes Try.prog tab kTw (.loop twL) (twS 0) (tw0 ⟨[], s⟩) (.exit 0) twE (tw0 ⟨[], s⟩)) :: []) := by kernel_rfl
set_option maxRecDepth 1000000 in
theorem twN0 (x : Rw) (l : List Rw) (cl _rl : List DV) (n _m : Nat) (s : List (List Int)) : zans Try.prog tab ftab noC fTw [wdD ⟨x :: l, s⟩] [(8, .h (.sl 3 0 4 n n) ⟨4, [oRs 1 cl, oRs 0 [], oA .nil .nil, oW ⟨x :: l, s⟩], []⟩ none), (2, .s [1, 2, 3] twB (tw0 ⟨x :: l, s⟩)), (0, .l [1, 2, 3, 4] (.exit 0) twE (tw0 ⟨x :: l, s⟩))] = some (.agg [twR ⟨x :: l, s⟩, .nil], ⟨3, [oA (twR ⟨x :: l, s⟩) .nil, oA (twR ⟨x :: l, s⟩) .nil, oW ⟨x :: l, s⟩], []⟩, (builtinD tab ⟨3, [oRs 0 [], oA .nil .nil, oW ⟨x :: l, s⟩], []⟩ .append [.sl 2 0 4 0 0, .list 4 (rsR (x :: l))] tyR = some (.sl 3 0 4 n n, ⟨4, [oRs 1 cl, oRs 0 [], oA .nil .nil, oW ⟨x :: l, s⟩], []⟩, none)) :: (Seen (mkT 30 [(1, .ptr 0 0), (2, .ptr 1 0), (3, .ptr 4 0)]) ⟨5, [oA (.sl 3 0 4 n n) .nil, oRs 1 cl, oRs 0 [], oA .nil .nil, oW ⟨x :: l, s⟩], []⟩ twB (tw0 ⟨x :: l, s⟩)) :: (Goes Try.prog tab kTw (.loop twL) (twS 0) (tw0 ⟨x :: l, s⟩) (.exit 0) twE (tw0 ⟨x :: l, s⟩)) :: []) := by kernel_rfl
set_option maxRecDepth 1000000 in
theorem twE1 (rl : List DV) (m : Nat) (s : List (List Int)) : zans Try.prog tab ftab noC fTw [wdD ⟨[], s⟩] [(8, .w (.sl 2 0 4 0 0)), (2, .s [1, 2, 3] twB (tw0 ⟨[], s⟩)), (0, .l [1, 2, 3, 4] (.exit 0) twE (tw1 ⟨[], s⟩ rl m))] = some (.agg [twR ⟨[], s⟩, .sl 3 0 1 m m], ⟨4, [oRw 1 0 rl, oA (twR ⟨[], s⟩) (.sl 3 0 1 m m), oA (twR ⟨[], s⟩) (.sl 3 0 1 m m), oW ⟨[], s⟩], []⟩, (DV.sl 2 0 4 0 0 = .sl 2 0 4 0 0) :: (Seen (mkT 30 [(1, .ptr 0 0), (2, .ptr 1 0), (3, .ptr 3 0)]) ⟨4, [oA (.sl 2 0 4 0 0) .nil, oRs 0 [], oA .nil .nil, oW ⟨[], s⟩], []⟩ twB (tw0 ⟨[], s⟩)) :: (Goes Try.prog tab kTw (.loop twL) (twS 0) (tw0 ⟨[], s⟩) (.exit 0) twE (tw1 ⟨[], s⟩ rl m)) :: []) := by kernel_rfl
set_option maxRecDepth 1000000 in
theorem twN1 (x : Rw) (l : List Rw) (cl rl : List DV) (n m : Nat) (s : List (List Int)) : zans Try.prog tab ftab noC fTw [wdD ⟨x :: l, s⟩] [(8, .h (.sl 3 0 4 n n) ⟨4, [oRs 1 cl, oRs 0 [], oA .nil .nil, oW ⟨x :: l, s⟩], []⟩ none), (2, .s [1, 2, 3] twB (tw0 ⟨x :: l, s⟩)), (0, .l [1, 2, 3, 4] (.exit 0) twE (tw1 ⟨x :: l, s⟩ rl m))] = some (.agg [twR ⟨x :: l, s⟩, .sl 3 0 1 m m], ⟨4, [oRw 1 0 rl, oA (twR ⟨x :: l, s⟩) (.sl 3 0 1 m m), oA (twR ⟨x :: l, s⟩) (.sl 3 0 1 m m), oW ⟨x :: l, s⟩], []⟩, (builtinD tab ⟨3, [oRs 0 [], oA .nil .nil, oW ⟨x :: l, s⟩], []⟩ .append [.sl 2 0 4 0 0, .list 4 (rsR (x :: l))] tyR = some (.sl 3 0 4 n n, ⟨4, [oRs 1 cl, oRs 0 [], oA .nil .nil, oW ⟨x :: l, s⟩], []⟩, none)) :: (Seen (mkT 30 [(1, .ptr 0 0), (2, .ptr 1 0), (3, .ptr 4 0)]) ⟨5, [oA (.sl 3 0 4 n n) .nil, oRs 1 cl, oRs 0 [], oA .nil .nil, oW ⟨x :: l, s⟩], []⟩ twB (tw0 ⟨x :: l, s⟩)) :: (Goes Try.prog tab kTw (.loop twL) (twS 0) (tw0 ⟨x :: l, s⟩) (.exit 0) twE (tw1 ⟨x :: l, s⟩ rl m)) :: []) := by kernel_rfl
theorem wdC_flat (w : Wd) : ∀ d ∈ wdC w, flat0 d = true := fun d h => by
  simp only [wdC, List.mem_cons, List.not_mem_nil, or_false] at h
  rcases h with rfl | rfl <;> rfl
theorem nn_flat : ∀ d ∈ [DV.nil, DV.nil], flat0 d = true := fun d h => by
  simp only [List.mem_cons, List.not_mem_nil, or_false] at h
  rcases h with rfl | rfl <;> rfl
/-- the radios have become a list -/
theorem tw_seen (w : Wd) {t3 id n : Nat} {hp : Hp} (hls : hp.ls = []) (g0 : hp.get 0 = some (oW w)) (g1 : hp.get 1 = some (oA .nil .nil)) (g3 : hp.get t3 = some (oA (.sl id 0 4 n n) .nil)) (hn : nodupN [0, 1, t3] = true) (hf : FrzD [0, 1, t3] hp (.sl id 0 4 n n) (twR w)) :
    Seen (mkT 30 [(1, .ptr 0 0), (2, .ptr 1 0), (3, .ptr t3 0)]) hp twB (tw0 w) := by
  have hp3 : posN t3 [0, 1, t3] = some 2 := by
    have h0 : t3 ≠ 0 := fun e => by subst e; cases hn
    have h1 : t3 ≠ 1 := fun e => by subst e; cases hn
    simp only [posN, beqF (show 0 ≠ t3 by omega), beqF (show 1 ≠ t3 by omega), beqT (rfl : t3 = t3)]
  refine seen_melt (L := [0, 1, t3]) (melt_objs hls rfl hn fun i id' hi => ?_) fun t d ht => ?_
  · match i with
    | 0 => cases hi; exact ⟨_, oW w, g0, by show (0 : Nat) ≠ 2; decide, rfl, rfl, rfl, MltL.flat (wdC_flat w)⟩
    | 1 => cases hi; exact ⟨_, oA .nil .nil, g1, by show (0 : Nat) ≠ 2; decide, rfl, rfl, rfl, MltL.flat nn_flat⟩
    | 2 => cases hi; exact ⟨_, oA (twR w) .nil, g3, by show (0 : Nat) ≠ 2; decide, rfl, rfl, rfl, ⟨⟨.frz _ _ hf, rfl⟩, ⟨.frz _ _ (.flat _ rfl), rfl⟩, trivial⟩⟩
    | i + 3 => simp at hi
  · simp only [List.mem_cons, List.not_mem_nil, or_false, Prod.mk.injEq] at ht
    rcases ht with ⟨rfl, rfl⟩ | ⟨rfl, rfl⟩ | ⟨rfl, rfl⟩
    · exact ⟨.ptr 0 0, by kernel_rfl, .ptr _ _ _ rfl⟩
    · exact ⟨.ptr 1 0, by kernel_rfl, .ptr _ _ _ rfl⟩
    · exact ⟨.ptr t3 0, by kernel_rfl, .ptr _ _ _ hp3⟩
/-- a row has become a list -/
theorem tw_row (w : Wd) (k : Nat) {q m : Nat} {hp : Hp} {cl : List DV} {c : DV} {row : List Int} {kk : Nat} (hls : hp.ls = []) (g0 : hp.get 0 = some (oW w)) (g1 : hp.get 1 = some (oA .nil .nil)) (g2 : hp.get 2 = some (oA (twR w) (.sl q 0 1 m m))) (gq : hp.get q = some ⟨kk, 0, 32, cl ++ [c]⟩ ∨ hp.get q = some ⟨kk, 3, 32, cl ++ [c]⟩) (hkk : kk = 1 ∨ kk = 3)
    (hn : nodupN [0, 1, 2, q] = true) (hpq : posN q [0, 1, 2, q] = some 3) (hcl : ∀ d ∈ cl, flat0 d = true) (hf : FrzD [0, 1, 2, q] hp c (.list 1 (i1 row))) : Seen (twS k) hp (twS k) (tw1 w (cl ++ [.list 1 (i1 row)]) m) := by
  refine seen_melt (L := [0, 1, 2, q]) (melt_objs hls rfl hn fun i id' hi => ?_) fun t d ht => ?_
  · match i with
    | 0 => cases hi; exact ⟨_, oW w, g0, by show (0 : Nat) ≠ 2; decide, rfl, rfl, rfl, MltL.flat (wdC_flat w)⟩
    | 1 => cases hi; exact ⟨_, oA .nil .nil, g1, by show (0 : Nat) ≠ 2; decide, rfl, rfl, rfl, MltL.flat nn_flat⟩
    | 2 => cases hi; exact ⟨_, oA (twR w) (.sl 3 0 1 m m), g2, by show (0 : Nat) ≠ 2; decide, rfl, rfl, rfl, ⟨⟨.frz _ _ (.flat _ rfl), rfl⟩, ⟨.sl _ _ _ _ _ _ hpq, rfl⟩, trivial⟩⟩
    | 3 =>
      cases hi
      have hc : MltL [0, 1, 2, q] hp (cl ++ [c]) (cl ++ [.list 1 (i1 row)]) := MltL.app (MltL.flat hcl) ⟨⟨.frz _ _ hf, rfl⟩, trivial⟩
      rcases gq with gq | gq <;> rcases hkk with rfl | rfl
      · exact ⟨_, oRw 1 0 (cl ++ [.list 1 (i1 row)]), gq, by show (1 : Nat) ≠ 2; decide, rfl, rfl, rfl, hc⟩
      · exact ⟨_, oRw 1 0 (cl ++ [.list 1 (i1 row)]), gq, by show (3 : Nat) ≠ 2; decide, rfl, rfl, rfl, hc⟩
      · exact ⟨_, oRw 1 0 (cl ++ [.list 1 (i1 row)]), gq, by show (1 : Nat) ≠ 2; decide, rfl, rfl, rfl, hc⟩
      · exact ⟨_, oRw 1 0 (cl ++ [.list 1 (i1 row)]), gq, by show (3 : Nat) ≠ 2; decide, rfl, rfl, rfl, hc⟩
    | i + 4 => simp at hi
  · simp only [List.mem_cons, List.not_mem_nil, or_false, Prod.mk.injEq] at ht
    rcases ht with ⟨rfl, rfl⟩ | ⟨rfl, rfl⟩ | ⟨rfl, rfl⟩ | ⟨rfl, rfl⟩
    · exact ⟨.ptr 0 0, by kernel_rfl, .ptr _ _ _ rfl⟩
    · exact ⟨.ptr 1 0, by kernel_rfl, .ptr _ _ _ rfl⟩
    · exact ⟨.ptr 2 0, by kernel_rfl, .ptr _ _ _ rfl⟩
    · exact ⟨iN k, by kernel_rfl, .frz _ _ (.flat _ rfl)⟩
def twHs (w : Wd) : List (List Int) → Hp
  | [] => tw0 w
  | r :: s => tw1 w (celS (r :: s)) (r :: s).length
theorem twHs_snoc (w : Wd) (s : List (List Int)) (r : List Int) : twHs w (s ++ [r]) = tw1 w (celS s ++ [.list 1 (i1 r)]) (s.length + 1) := by
  have e := celS_snoc s r
  cases s with
  | nil => rfl
  | cons a s =>
    show tw1 w (celS (a :: (s ++ [r]))) (a :: (s ++ [r])).length = _
    rw [List.cons_append] at e
    rw [e]
    simp
structure Sm (w : Wd) : Prop where
  r : w.r.length ≤ 1000
  s : w.s.length ≤ 1000
  row : ∀ r ∈ w.s, r.length ≤ 1000
theorem app_i {hp : Hp} {id : Nat} {v : Int} {l : List Int} (hg : hp.get id = some (oJ 0 [])) (h : (v :: l).length ≤ 1000) : builtinD tab hp .append [.sl id 0 1 0 0, .list 1 ([iI v] :: i1 l)] tyI = some (.sl hp.n 0 1 (v :: l).length (v :: l).length, pushH hp 1 3 (celI (v :: l)), none) := by
  rw [app_tabI]
  have := i1_length l
  simp only [List.length_cons] at h
  have e := appH_new (hp := hp) (id := id) (m := (i1 l).length) (e := 3) (j := inT) (news := celI (v :: l)) rfl rfl hg (fit_at (by show (_ + 1) * 8 ≤ _; omega) (by omega))
  rw [List.length_cons, ← this]
  exact e
theorem tw_loop (w : Wd) (sm : Sm w) : ∀ (r pre : List (List Int)), w.s = pre ++ r → ∃ q, GoesR Try.prog tab kTw twL (q + 1) (twS pre.length) (twHs w pre) (.exit 0) twE (twHs w w.s)
  | [], pre, e => by
    have hn := ssR_length w.s
    rw [List.append_nil] at e
    subst e
    have hd : decide ((w.s.length : Int) < ((ssR w.s).length : Int)) = false := decide_eq_false (by omega)
    refine ⟨0, GoesR.last ?_ (by intro h; cases h)⟩
    cases hs : w.s with
    | nil =>
      rw [hs] at hd
      exact zsee_ok tab_ok mixed fun_ok noC_ok (tO0 w 0) (.cons (by rw [hs]; rfl) .nil)
    | cons a s => exact zsee_ok tab_ok mixed fun_ok noC_ok (tO1 w (celS (a :: s)) (a :: s).length (a :: s).length) (.cons (by rw [← hs]; exact hd) .nil)
  | row :: r, pre, e => by
    have hn := ssR_length w.s
    have hs1 := sm.s
    have hlen : w.s.length = pre.length + (1 + r.length) := by rw [e]; simp; omega
    have hj : w.s[pre.length]? = some row := by rw [e]; simp
    have hro := sm.row row (List.mem_of_getElem? hj)
    have hlt : decide ((pre.length : Int) < ((ssR w.s).length : Int)) = true := decide_eq_true (by omega)
    have hi : idxOk (pre.length : Int) (ssR w.s).length = true := idxOk_lt (by omega)
    have hx := ssR_at hj
    have wr : wrK pre.length := wrK_at (by omega)
    obtain ⟨q, g⟩ := tw_loop w sm r (pre ++ [row]) (by rw [e]; simp)
    rw [List.length_append, List.length_singleton, twHs_snoc] at g
    cases pre with
    | nil =>
      refine ⟨q + 1, GoesR.step (?_ : Goes _ _ _ _ _ (tw0 w) _ _ _) g⟩
      cases row with
      | nil => exact (zsee_ok tab_ok mixed fun_ok noC_ok (tA0e w 0) (.cons hlt (.cons hi (.cons hx (.cons wr .nil))))).post (tw_row w 1 (cl := []) (row := []) rfl rfl rfl rfl (.inl rfl) (.inl rfl) rfl rfl (fun d h => by cases h) (frz_rows (xs := i1 []) rfl rfl (by show (0 : Nat) ≠ 2; decide) rfl rfl (i1_len1 _) (i1_flat _)))
      | cons v l => exact (zsee_ok tab_ok mixed fun_ok noC_ok (tA0f w [iI v] (i1 l) (celI (v :: l)) 0 (v :: l).length) (.cons hlt (.cons hi (.cons hx (.cons (app_i rfl hro) (.cons wr .nil)))))).post (tw_row w 1 (cl := []) (row := v :: l) rfl rfl rfl rfl (.inl rfl) (.inl rfl) rfl rfl (fun d h => by cases h) (frz_rows (xs := i1 (v :: l)) rfl rfl (by show (1 : Nat) ≠ 2; decide) rfl (i1_length _) (i1_len1 _) (i1_flat _)))
    | cons a p =>
      have hcl := flatten_flat (ssR_flat (a :: p))
      have grow : ∀ {hp : Hp} {c : DV} {id : Nat}, hp.get 3 = some (oRw 1 0 (celS (a :: p))) → contD hp 1 (.sl id 0 1 1 1) = some (1, [c]) → builtinD tab hp .append [.sl 3 0 1 (a :: p).length (a :: p).length, .sl id 0 1 1 1] tyS = some (.sl hp.n 0 1 ((a :: p).length + 1) ((a :: p).length + 1), (hp.put 3 ⟨2, 0, 32, celS (a :: p)⟩).push ⟨3, 3, 32, celS (a :: p) ++ [c]⟩, some 3) := fun {hp c id} hg hc => by
        rw [app_tabS, hc]
        exact appH_grow (id := 3) (n := (a :: p).length) (m := 0) (e := 32) (j := roT) (o := oRw 1 0 (celS (a :: p))) (news := [c]) rfl rfl hg (.inl rfl) rfl (by rw [celS_length, Nat.mul_one]) (fit_at (by show (_ + (0 + 1)) * 24 ≤ _; omega) (by omega))
      refine ⟨q + 1, GoesR.step (?_ : Goes _ _ _ _ _ (tw1 w (celS (a :: p)) (a :: p).length) _ _ _) g⟩
      cases row with
      | nil => exact (zsee_ok tab_ok mixed fun_ok noC_ok (tA1e w (celS (a :: p)) (a :: p).length (a :: p).length) (.cons hlt (.cons hi (.cons hx (.cons (grow rfl rfl) (.cons wr .nil)))))).post (tw_row w _ (row := []) rfl rfl rfl rfl (.inr rfl) (.inr rfl) rfl rfl hcl (frz_rows (xs := i1 []) rfl rfl (by show (0 : Nat) ≠ 2; decide) rfl rfl (i1_len1 _) (i1_flat _)))
      | cons v l => exact (zsee_ok tab_ok mixed fun_ok noC_ok (tA1f w (celS (a :: p)) [iI v] (i1 l) (celI (v :: l)) (a :: p).length (a :: p).length (v :: l).length) (.cons hlt (.cons hi (.cons hx (.cons (app_i rfl hro) (.cons (grow rfl rfl) (.cons wr .nil))))))).post (tw_row w _ (row := v :: l) rfl rfl rfl rfl (.inr rfl) (.inr rfl) rfl rfl hcl (frz_rows (xs := i1 (v :: l)) rfl rfl (by show (1 : Nat) ≠ 2; decide) rfl (i1_length _) (i1_len1 _) (i1_flat _)))
theorem tw_fin (w : Wd) (hp : Hp) (h : (w.s = [] ∧ True) ∨ (w.s ≠ [] ∧ hp.get 3 = some (oRw 1 0 (celS w.s)))) : FrzD [] hp (.agg [twR w, match w.s with
    | [] => .nil
    | r :: s => .sl 3 0 1 (r :: s).length (r :: s).length]) (wdD w) := by
  refine FrzL.agg ⟨.flat _ rfl, ?_, trivial⟩
  rcases h with ⟨h, _⟩ | ⟨h, h2⟩
  · rw [h]
    exact .nl _
  · cases hs : w.s with
    | nil => exact absurd hs h
    | cons r s =>
      rw [hs] at h2
      exact frz_rows rfl h2 (by show (1 : Nat) ≠ 2; decide) rfl (ssR_length _) (ssR_len1 _) (ssR_flat _)
theorem tw_ans (w : Wd) (sm : Sm w) : Ans Try.prog fTw [wdD w] (wdD w) ⟨0, [], []⟩ := by
  obtain ⟨q, g⟩ := tw_loop w sm w.s [] rfl
  have g := g.goes
  have hr := sm.r
  obtain ⟨l, s⟩ := w
  have fin := tw_fin ⟨l, s⟩
  cases l with
  | nil =>
    have sn := tw_seen ⟨[], s⟩ (t3 := 3) (id := 2) (n := 0) (hp := ⟨4, [oA (.sl 2 0 4 0 0) .nil, oRs 0 [], oA .nil .nil, oW ⟨[], s⟩], []⟩) rfl rfl rfl rfl rfl (frz_rows (xs := rsR []) rfl rfl (by show (0 : Nat) ≠ 2; decide) rfl rfl (rsR_len4 _) (rsR_flat _))
    cases s with
    | nil => exact (zans_ok tab_ok mixed fun_ok noC_ok (twE0 [] 0 []) (.cons rfl (.cons sn (.cons g .nil)))).frz rfl (fin _ (.inl ⟨rfl, trivial⟩))
    | cons r s => exact (zans_ok tab_ok mixed fun_ok noC_ok (twE1 (celS (r :: s)) (r :: s).length (r :: s)) (.cons rfl (.cons sn (.cons g .nil)))).frz rfl (fin _ (.inr ⟨by simp, rfl⟩))
  | cons x l =>
    have hl := rsR_length l
    have hr : (x :: l).length ≤ 1000 := hr
    simp only [List.length_cons] at hr
    have sn := tw_seen ⟨x :: l, s⟩ (t3 := 4) (id := 3) (n := (x :: l).length) (hp := ⟨5, [oA (.sl 3 0 4 (x :: l).length (x :: l).length) .nil, oRs 1 (celR (x :: l)), oRs 0 [], oA .nil .nil, oW ⟨x :: l, s⟩], []⟩) rfl rfl rfl rfl rfl (frz_rows (xs := rsR (x :: l)) rfl rfl (by show (1 : Nat) ≠ 2; decide) rfl (rsR_length _) (rsR_len4 _) (rsR_flat _))
    have ap : builtinD tab ⟨3, [oRs 0 [], oA .nil .nil, oW ⟨x :: l, s⟩], []⟩ .append [.sl 2 0 4 0 0, .list 4 (rsR (x :: l))] tyR = some (.sl 3 0 4 (x :: l).length (x :: l).length, ⟨4, [oRs 1 (celR (x :: l)), oRs 0 [], oA .nil .nil, oW ⟨x :: l, s⟩], []⟩, none) := by
      rw [app_tabR]
      have e := appH_new (hp := ⟨3, [oRs 0 [], oA .nil .nil, oW ⟨x :: l, s⟩], []⟩) (id := 2) (m := (rsR l).length) (e := 31) (j := riT) (news := celR (x :: l)) rfl rfl rfl (fit_at (by show (_ + 1) * 32 ≤ _; omega) (by omega))
      rw [List.length_cons, ← hl]
      exact e
    cases s with
    | nil => exact (zans_ok tab_ok mixed fun_ok noC_ok (twN0 x l (celR (x :: l)) [] (x :: l).length 0 []) (.cons ap (.cons sn (.cons g .nil)))).frz rfl (fin _ (.inl ⟨rfl, trivial⟩))
    | cons r s => exact (zans_ok tab_ok mixed fun_ok noC_ok (twN1 x l (celR (x :: l)) (celS (r :: s)) (x :: l).length (r :: s).length (r :: s)) (.cons ap (.cons sn (.cons g .nil)))).frz rfl (fin _ (.inr ⟨by simp, rfl⟩))
theorem gt_sm {w : Wd} (h : gtB w = false) : Sm w := by
  unfold gtB at h
  split at h
  · cases h
  · rename_i h1
    have h1 := of_decide_eq_false h1
    split at h
    · cases h
    · rename_i h2
      have h2 := of_decide_eq_false h2
      split at h
      · rename_i h3
        refine ⟨by omega, by omega, fun r hr => ?_⟩
        obtain ⟨k, hk⟩ := List.mem_iff_getElem?.1 hr
        have hlt := (List.getElem?_eq_some_iff.1 hk).1
        have := of_decide_eq_true (allB_t.1 h3 k hlt)
        rw [get_in ([] : List Int) hlt, Option.some.injEq] at hk
        rw [hk] at this
        omega
      · cases h
/-! ### RadioTells -/
def cT6 (w : Wd) (l : List Int) : ConF := orK (cW1 fGt fun w => .bool (gtB w)) (orK (calC fTw [wdD w] (wdD w)) (orK (cW3 fLe lvD) (orK (cW3 fRLe lvD) (orK (cW3 fHs hrD) (orK (cW3 fRHs hrD) (orK (cW2 fNb nbD) (orK (cW2 fRn nbD) (orK (cW1 fCk fun w => iI (chE w)) (orK (cW1 fRk fun w => iI (chE w)) (orK (cW1 fSy fun w => .bool (syB w)) (orK (cW1 fRs fun w => .bool (syB w)) (orK (calC fSi [.list 1 (i1 l), .list 1 (i1 l)] (.bool true)) cSm))))))))))))
theorem cT6_ok {w : Wd} (sm : Sm w) {l : List Int} (hl : l.length < 2 ^ 63) : ConOk Try.prog (cT6 w l) := orK_ok (cW1_ok gt_ans) (orK_ok (calC_ok (tw_ans w sm)) (orK_ok (cW3_ok le_ans) (orK_ok (cW3_ok rle_ans) (orK_ok (cW3_ok hs_ans) (orK_ok (cW3_ok rhs_ans) (orK_ok (cW2_ok nb_ans) (orK_ok (cW2_ok rn_ans) (orK_ok (cW1_ok ck_ans) (orK_ok (cW1_ok rk_ans) (orK_ok (cW1_ok sy_ans) (orK_ok (cW1_ok rs_ans) (orK_ok (calC_ok (sn_ans l hl)) cSm_ok))))))))))))
theorem cT6_gt {w : Wd} {l : List Int} (hp : Hp) (ok : OkW w) : cT6 w l fGt [wdD w] hp = some (.bool (gtB w), hp, none) := (orK_left (cW1_at hp ok rfl))
theorem cT6_tw {w : Wd} {l : List Int} (hp : Hp)  : cT6 w l fTw [wdD w] hp = some (wdD w, hp, none) := (orK_right (cW1_oth (by kernel_rfl)) (orK_left (calC_at hp rfl rfl)))
theorem cT6_le {w : Wd} {l : List Int} (hp : Hp) (ok : OkW w) (i j : Int) : cT6 w l fLe [wdD w, iI i, iI j] hp = some (lvD w i j, hp, none) := (orK_right (cW1_oth (by kernel_rfl)) (orK_right (calC_oth (by kernel_rfl)) (orK_left (cW3_at hp ok i j rfl))))
theorem cT6_rl {w : Wd} {l : List Int} (hp : Hp) (ok : OkW w) (i j : Int) : cT6 w l fRLe [wdD w, iI i, iI j] hp = some (lvD w i j, hp, none) := (orK_right (cW1_oth (by kernel_rfl)) (orK_right (calC_oth (by kernel_rfl)) (orK_right (cW3_oth (by kernel_rfl)) (orK_left (cW3_at hp ok i j rfl)))))
theorem cT6_hs {w : Wd} {l : List Int} (hp : Hp) (ok : OkW w) (i j : Int) : cT6 w l fHs [wdD w, iI i, iI j] hp = some (hrD w i j, hp, none) := (orK_right (cW1_oth (by kernel_rfl)) (orK_right (calC_oth (by kernel_rfl)) (orK_right (cW3_oth (by kernel_rfl)) (orK_right (cW3_oth (by kernel_rfl)) (orK_left (cW3_at hp ok i j rfl))))))
theorem cT6_rh {w : Wd} {l : List Int} (hp : Hp) (ok : OkW w) (i j : Int) : cT6 w l fRHs [wdD w, iI i, iI j] hp = some (hrD w i j, hp, none) := (orK_right (cW1_oth (by kernel_rfl)) (orK_right (calC_oth (by kernel_rfl)) (orK_right (cW3_oth (by kernel_rfl)) (orK_right (cW3_oth (by kernel_rfl)) (orK_right (cW3_oth (by kernel_rfl)) (orK_left (cW3_at hp ok i j rfl)))))))
theorem cT6_nb {w : Wd} {l : List Int} (hp : Hp) (ok : OkW w) (j : Int) : cT6 w l fNb [wdD w, iI j] hp = some (nbD w j, hp, none) := (orK_right (cW1_oth (by kernel_rfl)) (orK_right (calC_oth (by kernel_rfl)) (orK_right (cW3_oth (by kernel_rfl)) (orK_right (cW3_oth (by kernel_rfl)) (orK_right (cW3_oth (by kernel_rfl)) (orK_right (cW3_oth (by kernel_rfl)) (orK_left (cW2_at hp ok j rfl))))))))
theorem cT6_rn {w : Wd} {l : List Int} (hp : Hp) (ok : OkW w) (j : Int) : cT6 w l fRn [wdD w, iI j] hp = some (nbD w j, hp, none) := (orK_right (cW1_oth (by kernel_rfl)) (orK_right (calC_oth (by kernel_rfl)) (orK_right (cW3_oth (by kernel_rfl)) (orK_right (cW3_oth (by kernel_rfl)) (orK_right (cW3_oth (by kernel_rfl)) (orK_right (cW3_oth (by kernel_rfl)) (orK_right (cW2_oth (by kernel_rfl)) (orK_left (cW2_at hp ok j rfl)))))))))
theorem cT6_ck {w : Wd} {l : List Int} (hp : Hp) (ok : OkW w) : cT6 w l fCk [wdD w] hp = some (iI (chE w), hp, none) := (orK_right (cW1_oth (by kernel_rfl)) (orK_right (calC_oth (by kernel_rfl)) (orK_right (cW3_oth (by kernel_rfl)) (orK_right (cW3_oth (by kernel_rfl)) (orK_right (cW3_oth (by kernel_rfl)) (orK_right (cW3_oth (by kernel_rfl)) (orK_right (cW2_oth (by kernel_rfl)) (orK_right (cW2_oth (by kernel_rfl)) (orK_left (cW1_at hp ok rfl))))))))))
theorem cT6_rk {w : Wd} {l : List Int} (hp : Hp) (ok : OkW w) : cT6 w l fRk [wdD w] hp = some (iI (chE w), hp, none) := (orK_right (cW1_oth (by kernel_rfl)) (orK_right (calC_oth (by kernel_rfl)) (orK_right (cW3_oth (by kernel_rfl)) (orK_right (cW3_oth (by kernel_rfl)) (orK_right (cW3_oth (by kernel_rfl)) (orK_right (cW3_oth (by kernel_rfl)) (orK_right (cW2_oth (by kernel_rfl)) (orK_right (cW2_oth (by kernel_rfl)) (orK_right (cW1_oth (by kernel_rfl)) (orK_left (cW1_at hp ok rfl)))))))))))
theorem cT6_sy {w : Wd} {l : List Int} (hp : Hp) (ok : OkW w) : cT6 w l fSy [wdD w] hp = some (.bool (syB w), hp, none) := (orK_right (cW1_oth (by kernel_rfl)) (orK_right (calC_oth (by kernel_rfl)) (orK_right (cW3_oth (by kernel_rfl)) (orK_right (cW3_oth (by kernel_rfl)) (orK_right (cW3_oth (by kernel_rfl)) (orK_right (cW3_oth (by kernel_rfl)) (orK_right (cW2_oth (by kernel_rfl)) (orK_right (cW2_oth (by kernel_rfl)) (orK_right (cW1_oth (by kernel_rfl)) (orK_right (cW1_oth (by kernel_rfl)) (orK_left (cW1_at hp ok rfl))))))))))))
theorem cT6_rs {w : Wd} {l : List Int} (hp : Hp) (ok : OkW w) : cT6 w l fRs [wdD w] hp = some (.bool (syB w), hp, none) := (orK_right (cW1_oth (by kernel_rfl)) (orK_right (calC_oth (by kernel_rfl)) (orK_right (cW3_oth (by kernel_rfl)) (orK_right (cW3_oth (by kernel_rfl)) (orK_right (cW3_oth (by kernel_rfl)) (orK_right (cW3_oth (by kernel_rfl)) (orK_right (cW2_oth (by kernel_rfl)) (orK_right (cW2_oth (by kernel_rfl)) (orK_right (cW1_oth (by kernel_rfl)) (orK_right (cW1_oth (by kernel_rfl)) (orK_right (cW1_oth (by kernel_rfl)) (orK_left (cW1_at hp ok rfl)))))))))))))
theorem cT6_si {w : Wd} {l : List Int} (hp : Hp)  : cT6 w l fSi [.list 1 (i1 l), .list 1 (i1 l)] hp = some (.bool true, hp, none) := (orK_right (cW1_oth (by kernel_rfl)) (orK_right (calC_oth (by kernel_rfl)) (orK_right (cW3_oth (by kernel_rfl)) (orK_right (cW3_oth (by kernel_rfl)) (orK_right (cW3_oth (by kernel_rfl)) (orK_right (cW3_oth (by kernel_rfl)) (orK_right (cW2_oth (by kernel_rfl)) (orK_right (cW2_oth (by kernel_rfl)) (orK_right (cW1_oth (by kernel_rfl)) (orK_right (cW1_oth (by kernel_rfl)) (orK_right (cW1_oth (by kernel_rfl)) (orK_right (cW1_oth (by kernel_rfl)) (orK_left (calC_at hp rfl rfl))))))))))))))
theorem cT6_sm {w : Wd} {l : List Int} (hp : Hp) (ok : OkW w) : cT6 w l fSm [wdD w, wdD w] hp = some (.bool true, hp, none) := (orK_right (cW1_oth (by kernel_rfl)) (orK_right (calC_oth (by kernel_rfl)) (orK_right (cW3_oth (by kernel_rfl)) (orK_right (cW3_oth (by kernel_rfl)) (orK_right (cW3_oth (by kernel_rfl)) (orK_right (cW3_oth (by kernel_rfl)) (orK_right (cW2_oth (by kernel_rfl)) (orK_right (cW2_oth (by kernel_rfl)) (orK_right (cW1_oth (by kernel_rfl)) (orK_right (cW1_oth (by kernel_rfl)) (orK_right (cW1_oth (by kernel_rfl)) (orK_right (cW1_oth (by kernel_rfl)) (orK_right (calC_oth (by kernel_rfl)) (cSm_at hp ok))))))))))))))
set_option maxRecDepth 1000000 in
theorem tell0 (C : ConF) (w : Wd) (i j : Int) : zflat (zans Try.prog tab ftab C 4 [wdD w, iI i, iI j] [(22, .q (.bool true))]) = some (.bool true, (C fGt [wdD w] (hW w) = some (.bool true, (hW w), none)) :: []) := by kernel_rfl
set_option maxRecDepth 1000000 in
theorem tell1 (C : ConF) (w : Wd) (ys : List (List DV)) (i j a e f g c : Int) (u s : Bool) : zflat (zans Try.prog tab ftab C 4 [wdD w, iI i, iI j] [(22, .q (.bool false)), (24, .q (wdD w)), (29, .q (.tuple [iI a, iI e])), (36, .q (.tuple [iI a, iI e])), (43, .q (.tuple [.bool u, iI f])), (50, .q (.tuple [.bool u, iI f])), (56, .q (.tuple [.list 1 ys, iI g])), (62, .q (.tuple [.list 1 ys, iI g])), (66, .q (iI c)), (68, .q (iI c)), (69, .b true), (72, .q (.bool s)), (74, .q (.bool s)), (75, .b true), (80, .b true), (85, .b true), (90, .b true), (95, .b true), (101, .q (.bool true)), (106, .b true), (111, .q (.bool true))]) = some (.bool true, (C fGt [wdD w] (hW w) = some (.bool false, (hW w), none)) :: (C fTw [wdD w] (hW w) = some (wdD w, (hW w), none)) :: (C fLe [wdD w, iI i, iI j] (hWW w) = some (.tuple [iI a, iI e], (hWW w), none)) :: (C fRLe [wdD w, iI i, iI j] (hWW w) = some (.tuple [iI a, iI e], (hWW w), none)) :: (C fHs [wdD w, iI j, iI i] (hWW w) = some (.tuple [.bool u, iI f], (hWW w), none)) :: (C fRHs [wdD w, iI j, iI i] (hWW w) = some (.tuple [.bool u, iI f], (hWW w), none)) :: (C fNb [wdD w, iI j] (hWW w) = some (.tuple [.list 1 ys, iI g], (hWW w), none)) :: (C fRn [wdD w, iI j] (hWW w) = some (.tuple [.list 1 ys, iI g], (hWW w), none)) :: (C fCk [wdD w] (hWW w) = some (iI c, (hWW w), none)) :: (C fRk [wdD w] (hWW w) = some (iI c, (hWW w), none)) :: ((c == c) = true) :: (C fSy [wdD w] (hWW w) = some (.bool s, (hWW w), none)) :: (C fRs [wdD w] (hWW w) = some (.bool s, (hWW w), none)) :: ((s == s) = true) :: ((a == a) = true) :: ((e == e) = true) :: ((u == u) = true) :: ((f == f) = true) :: (C fSi [.list 1 ys, .list 1 ys] (hWW w) = some (.bool true, (hWW w), none)) :: ((g == g) = true) :: (C fSm [wdD w, wdD w] (hWW w) = some (.bool true, (hWW w), none)) :: []) := by kernel_rfl
theorem nbV_len (w : Wd) (ok : OkW w) (j : Int) : (nbV w j).length < 2 ^ 63 := by
  have := ok.r
  have := nbL_len w j w.r.length
  unfold nbV
  split
  · omega
  · show 0 < _
    decide
theorem tells_all (w : Wd) (ok : OkW w) (i j : Int) : Ans Try.prog 4 [wdD w, iI i, iI j] (.bool true) ⟨0, [], []⟩ := by
  cases hg : gtB w with
  | true =>
    have := gt_ans w ok
    rw [hg] at this
    exact zflat_ok tab_ok mixed fun_ok (calC_ok this) (tell0 _ w i j) (.cons (calC_at _ rfl rfl) .nil)
  | false =>
    have gt := cT6_gt (l := nbV w j) (hW w) ok
    rw [hg] at gt
    exact zflat_ok tab_ok mixed fun_ok (cT6_ok (gt_sm hg) (nbV_len w ok j)) (tell1 _ w (i1 (nbV w j)) i j _ _ _ _ _ _ _) (.cons gt (.cons (cT6_tw _) (.cons (cT6_le _ ok i j) (.cons (cT6_rl _ ok i j) (.cons (cT6_hs _ ok j i) (.cons (cT6_rh _ ok j i) (.cons (cT6_nb _ ok j) (.cons (cT6_rn _ ok j) (.cons (cT6_ck _ ok) (.cons (cT6_rk _ ok) (.cons (ieq _) (.cons (cT6_sy _ ok) (.cons (cT6_rs _ ok) (.cons (beq' _) (.cons (ieq _) (.cons (ieq _) (.cons (beq' _) (.cons (ieq _) (.cons (cT6_si _) (.cons (ieq _) (.cons (cT6_sm _ ok) .nil)))))))))))))))))))))
end
end Go.Proofs.Ytmnpkgonanpgfaa
