/- Walks of the reference's Same, Copy and of the law's examples. -/
import Derived.Test.YtgekkmhkklbgcaaJoin
import Derived.Test.YtgekkmhkklbgcaaRead4
import Derived.Lib.SlBytesConst
import Derived.Lib.SmallJoins
namespace Go.Proofs.Ytgekkmhkklbgcaa
open Go.RowKit

theorem byte_string : Try.prog.underlying 9 = some .string := Try.underlying9

def eqL (xs ys : List Nat) : Bool := decide (xs = ys)
theorem eqL_refl (xs : List Nat) : eqL xs xs = true := decide_eq_true rfl
theorem strOf_beq {xs ys : List Nat} (hx : ∀ x ∈ xs, x < 256) (hy : ∀ y ∈ ys, y < 256) : ((strOf xs).toList == (strOf ys).toList) = eqL xs ys := by
  unfold eqL
  rw [Bool.eq_iff_iff, beq_iff_eq, decide_eq_true_iff, ByteArray.toList_eq, ByteArray.toList_eq]
  exact ⟨fun h => strOf_inj hx hy (WideShapes.bytes_inj h), fun h => by rw [h]⟩

theorem same_any (S S2 : Nat → Prop) (A A2 : Option Addr) (n c m c2 : Nat) (xs ys : List Nat) (w : World) (h : Bs w S A n c xs) (h2 : Bs w S2 A2 m c2 ys) :
    Calls Try.prog 29 #[.slice A n c, .slice A2 m c2] w fun e w' => e = .returned (.bool (eqL xs ys)) ∧ w = w' := by
  have k1 : Sem.run Try.prog (convert 23 9 (.slice A n c)) w = .ok (.string (strOf xs)) w := run_bytes_string Try.underlying23 Try.underlying5 byte_string h.row
  have k2 : Sem.run Try.prog (convert 23 9 (.slice A2 m c2)) w = .ok (.string (strOf ys)) w := run_bytes_string Try.underlying23 Try.underlying5 byte_string h2.row
  have hb := Lib.hid (strOf_beq h.wf h2.wf)
  clear h h2
  go_enter Try.func29, Try.ntmps29
  go_wp2
  go_ret
  exact ⟨ret_bool hb.out, rfl⟩

/-- a literal -/
theorem bs_box {w : World} {g n : Nat} {cs : Array Value} (xs : List Nat) (h : Box w g 5 cs) (hcs : cs.toList = ints xs) (hn : xs.length = n) (hm : n ≤ 1000) (hx : ∀ x ∈ xs, x < 256) : Bs w (fun b => b = g) (some ⟨g, 0, none⟩) n n xs := by
  refine ⟨Row.mk_ints hn rfl (fun x hm => wf_u8_mk (hx x hm)) fun i x hi => ?_, fun b hb => hb ▸ h.lt, Nat.le_refl _, by omega⟩
  rw [Nat.zero_add, h.cell i, ← Array.getElem?_toList, hcs]
  simp [ints, hi]
/-- a literal of literals -/
theorem ls_box {w : World} {g n : Nat} {S : Nat → Prop} {cs : Array Value} (ls : List (List Nat)) (h : Box w g 23 cs) (hg : S g) (hn : ls.length = n) (hm : n ≤ 1000) (hS : ∀ b, S b → b < w.heap.size)
    (hx : ∀ (i : Nat) l, ls[i]? = some l → ∃ A c, cs[i]? = some (.slice A l.length c) ∧ A ≠ none ∧ Bs w S A l.length c l) : Ls w S (some ⟨g, 0, none⟩) n n ls := by
  refine ⟨⟨hn, fun _ => ⟨g, 0, rfl, hg, fun i l hi => ?_⟩⟩, hS, Nat.le_refl _, by omega⟩
  obtain ⟨A, c, hc, hA, hB⟩ := hx i l hi
  refine ⟨[.slice A l.length c], ⟨A, l.length, c, rfl, hB.room, hB.most, fun e => absurd e hA, hB.row⟩, fun j u hu => ?_⟩
  cases j with
  | zero => simp at hu; subst hu; rw [h.cell]; simpa [Ty.slice] using hc
  | succ j => simp at hu
theorem Bs.more {w : World} {S S' : Nat → Prop} {A : Option Addr} {len cap : Nat} {bs : List Nat} (h : Bs w S A len cap bs) (hS : ∀ b, S b → S' b) (hl : ∀ b, S' b → b < w.heap.size) : Bs w S' A len cap bs := ⟨h.row.more hS, hl, h.room, h.most⟩
theorem bs_nil (w : World) (A : Option Addr) : Bs w (fun _ => False) A 0 0 [] := ⟨Row.nil _ _ _ _, fun _ h => h.elim, Nat.le_refl _, Nat.zero_le _⟩

set_option maxHeartbeats 1000000 in
theorem alive_any (w : World) : Calls Try.prog 20 #[] w fun e w' => e = .returned (.bool true) ∧ Below w.heap.size w w' := by
  have kc := fun (w : World) (C : Array Value) (n c g : Nat) (hg : g = w.heap.size) => Joins.run_convert_bytes_const_at (P := Try.prog) w 23 5 C n c g hg Try.underlying23 Try.underlying5
  go_enter Try.func20, Try.ntmps20
  go_wp2_with fail
  have hX : Box (w.alloc (.cells #[.int .u8 2, .int .u8 7, .int .u8 8, .int .u8 9] 5)) w.heap.size 5 #[.int .u8 2, .int .u8 7, .int .u8 8, .int .u8 9] := Box.new _ _ _
  obtain ⟨A2, l2, c2, x2, hout, htext⟩ := text_any (bs_box [2, 7, 8, 9] hX rfl rfl (by decide) (by decide)) 0 (by decide) (by decide) (by decide)
  refine (htext _ (Below.refl _ _)).mono ?_
  clear htext
  rintro e w1 ⟨A1, m1, c1, rfl, hB1, hb1⟩
  rcases hout with ⟨_, rfl, rfl, rfl, rfl⟩ | ⟨hne, _⟩
  case inr => exact absurd (by decide) hne
  rw [show sizE [2, 7, 8, 9] 0 1 = 0 by decide, show sizV [2, 7, 8, 9] 0 1 = [7, 8] by decide, show (0 : Int) + (1 + sizB [2, 7, 8, 9] 0 1) = 3 by decide] at *
  obtain rfl : m1 = 2 := hB1.row.1.symm
  have HB1 := Lib.hid hB1
  clear hB1
  go_wp2_with fail
  refine (join_ok (fun b => w1.heap.size + 1 ≤ b ∧ b ≤ w1.heap.size + 3) _ _ _ [[97], []] _ ?_ (by decide) (by decide)).mono ?_
  · refine ls_box (cs := #[.slice (some ⟨w1.heap.size + 1, 0, none⟩) 1 1, .slice (some ⟨w1.heap.size + 1 + 1, 0, none⟩) 0 0]) [[97], []] (by (repeat' (first | (with_reducible assumption) | (with_reducible exact Box.new _ _ _) | (with_reducible refine Box.newAt _ _ _ ?_; simp; done) | (with_reducible apply Box.put2) | (with_reducible apply Box.drew) | (with_reducible apply Box.drewN) | (with_reducible apply Box.alloc) | (with_reducible refine Box.call ?_ (by with_reducible assumption)) | (with_reducible refine Box.far ?_ _ ?_) | (simp; done) | (simp; omega)))) (by omega) rfl (by decide) (by intro b hb; simp; omega) fun i l hi => ?_
    match i, hi with
    | 0, hi =>
      simp at hi
      subst hi
      refine ⟨_, 1, rfl, by simp, Row.mk_ints rfl (by omega) (by decide) fun i x hi => ?_, by intro b hb; simp; omega, Nat.le_refl _, by decide⟩
      match i, hi with
      | 0, hi =>
        simp at hi
        subst hi
        rw [World.cell?_alloc_lt _ _ _ (by simp), World.cell?_alloc_lt _ _ _ (by simp), Joins.cell_alloc_mark_at _ _ _ _ _ _ (by simp)]
        rfl
    | 1, hi =>
      simp at hi
      subst hi
      exact ⟨_, 0, rfl, by simp, Row.nil _ _ _ _, by intro b hb; simp; omega, Nat.le_refl _, by decide⟩
    | i + 2, hi => simp at hi
  rintro e w2 ⟨A3, c3, rfl, hB3, hb3⟩
  rw [show joinB [[97], []] = [1, 0, 97, 0, 0] by decide, show joinN [[97], []] = 5 by decide] at *
  have HB3 := Lib.hid hB3
  clear hB3
  have hbel2 : Bel w.heap.size w w2 := by (repeat' (first | (with_reducible assumption) | (with_reducible exact Bel.refl (Nat.le_refl _)) | (with_reducible apply Bel.drew) | (with_reducible apply Bel.drewN) | (with_reducible apply Bel.alloc) | (with_reducible refine Bel.set ?_ ?_ _) | (with_reducible refine Bel.call ?_ (by with_reducible assumption)) | (with_reducible exact Nat.le_refl _) | (simp; done) | (simp; omega)))
  have hR : Box w2 w1.heap.size 25 #[.slice (some ⟨w.heap.size, 0, none⟩) 4 4, .int .i64 3] := by (repeat' (first | (with_reducible assumption) | (with_reducible exact Box.new _ _ _) | (with_reducible refine Box.newAt _ _ _ ?_; simp; done) | (with_reducible apply Box.put2) | (with_reducible apply Box.drew) | (with_reducible apply Box.drewN) | (with_reducible apply Box.alloc) | (with_reducible refine Box.call ?_ (by with_reducible assumption)) | (with_reducible refine Box.far ?_ _ ?_) | (simp; done) | (simp; omega)))
  go_wp2_with (go_at_call 18; refine (bits_yes 245 4 4 _ (by decide) (by decide) (by decide)).mono ?_; rintro e w3 ⟨rfl, nq, rfl⟩; rw [show ((getB 245 4 4 : Nat) : Int) = 15 by decide])
  refine (Put16_any _ none 0 0 258 [] _ (bs_nil _ none) (by decide) (by decide)).mono ?_
  rintro e w4 ⟨A5, c5, rfl, hB5, hb4⟩
  rw [show [] ++ leB 258 2 = [2, 1] by decide] at *
  have HB5 := Lib.hid hB5
  clear hB5
  have hbel4 : Below w2.heap.size w2 w4 := by
    have h0 : Bel w2.heap.size w2 w2 := Bel.refl (Nat.le_refl _)
    exact (Bel.call (h0.drewN nq) hb4).below
  have hR4 : Box w4 w1.heap.size 25 #[.slice (some ⟨w.heap.size, 0, none⟩) 4 4, .int .i64 3] := hR.call hbel4
  have HB3b := Lib.hid (HB3.out.later hbel4)
  have HB1b := Lib.hid ((HB1.out.later (by (refine Bel.below ?_; repeat' (first | (with_reducible assumption) | (with_reducible exact Bel.refl (Nat.le_refl _)) | (with_reducible apply Bel.drew) | (with_reducible apply Bel.drewN) | (with_reducible apply Bel.alloc) | (with_reducible refine Bel.set ?_ ?_ _) | (with_reducible refine Bel.call ?_ (by with_reducible assumption)) | (with_reducible exact Nat.le_refl _) | (simp; done) | (simp; omega))) : Below w1.heap.size w1 w2)).later hbel4)
  have hbw4 : Bel w.heap.size w w4 := hbel2.call hbel4
  clear hb3 hbel4 hbel2 hR hb4
  go_wp2_with fail
  refine (same_any _ _ _ _ _ _ _ _ _ [2, 1] _ (HB5.out.later ?_) (bs_box (cs := #[.int .u8 2, .int .u8 1]) [2, 1] (Box.new _ _ _) rfl rfl (by decide) (by decide))).mono ?_
  · (refine Bel.below ?_; repeat' (first | (with_reducible assumption) | (with_reducible exact Bel.refl (Nat.le_refl _)) | (with_reducible apply Bel.drew) | (with_reducible apply Bel.drewN) | (with_reducible apply Bel.alloc) | (with_reducible refine Bel.set ?_ ?_ _) | (with_reducible refine Bel.call ?_ (by with_reducible assumption)) | (with_reducible exact Nat.le_refl _) | (simp; done) | (simp; omega)))
  rintro e w5 ⟨rfl, rfl⟩
  rw [eqL_refl]
  go_wp2_with fail
  refine (same_any _ _ _ _ _ _ _ _ _ [7, 8] _ (HB1b.out.later ?_) (bs_box (cs := #[.int .u8 7, .int .u8 8]) [7, 8] (by (repeat' (first | (with_reducible assumption) | (with_reducible exact Box.new _ _ _) | (with_reducible refine Box.newAt _ _ _ ?_; simp; done) | (with_reducible apply Box.put2) | (with_reducible apply Box.drew) | (with_reducible apply Box.drewN) | (with_reducible apply Box.alloc) | (with_reducible refine Box.call ?_ (by with_reducible assumption)) | (with_reducible refine Box.far ?_ _ ?_) | (simp; done) | (simp; omega)))) rfl rfl (by decide) (by decide))).mono ?_
  · (refine Bel.below ?_; repeat' (first | (with_reducible assumption) | (with_reducible exact Bel.refl (Nat.le_refl _)) | (with_reducible apply Bel.drew) | (with_reducible apply Bel.drewN) | (with_reducible apply Bel.alloc) | (with_reducible refine Bel.set ?_ ?_ _) | (with_reducible refine Bel.call ?_ (by with_reducible assumption)) | (with_reducible exact Nat.le_refl _) | (simp; done) | (simp; omega)))
  rintro e w5 ⟨rfl, rfl⟩
  rw [eqL_refl]
  have hR5 : w4.cell? ⟨w1.heap.size, 1, none⟩ = some (.int .i64 3) := hR4.cell 1
  have hlt := hR4.lt
  go_wp2_with fail
  refine (same_any _ _ _ _ _ _ _ _ _ [1, 0, 97, 0, 0] _ (HB3b.out.later ?_) (bs_box (cs := #[.int .u8 1, .int .u8 0, .int .u8 97, .int .u8 0, .int .u8 0]) [1, 0, 97, 0, 0] (by (repeat' (first | (with_reducible assumption) | (with_reducible exact Box.new _ _ _) | (with_reducible refine Box.newAt _ _ _ ?_; simp; done) | (with_reducible apply Box.put2) | (with_reducible apply Box.drew) | (with_reducible apply Box.drewN) | (with_reducible apply Box.alloc) | (with_reducible refine Box.call ?_ (by with_reducible assumption)) | (with_reducible refine Box.far ?_ _ ?_) | (simp; done) | (simp; omega)))) rfl rfl (by decide) (by decide))).mono ?_
  · (refine Bel.below ?_; repeat' (first | (with_reducible assumption) | (with_reducible exact Bel.refl (Nat.le_refl _)) | (with_reducible apply Bel.drew) | (with_reducible apply Bel.drewN) | (with_reducible apply Bel.alloc) | (with_reducible refine Bel.set ?_ ?_ _) | (with_reducible refine Bel.call ?_ (by with_reducible assumption)) | (with_reducible exact Nat.le_refl _) | (simp; done) | (simp; omega)))
  rintro e w5 ⟨rfl, rfl⟩
  rw [eqL_refl]
  go_wp2_with fail
  go_ret
  exact ⟨rfl, by (refine Bel.below ?_; repeat' (first | (with_reducible assumption) | (with_reducible exact Bel.refl (Nat.le_refl _)) | (with_reducible apply Bel.drew) | (with_reducible apply Bel.drewN) | (with_reducible apply Bel.alloc) | (with_reducible refine Bel.set ?_ ?_ _) | (with_reducible refine Bel.call ?_ (by with_reducible assumption)) | (with_reducible exact Nat.le_refl _) | (simp; done) | (simp; omega)))⟩
