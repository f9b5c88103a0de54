/- Walks of octet's readers: Take, U8 to U64, Text, Done. -/
import Derived.Test.YtgekkmhkklbgcaaRead2
namespace Go.Proofs.Ytgekkmhkklbgcaa
open Go.RowKit

/-- a byte slice that reads as bs -/
structure Bs (w : World) (S : Nat → Prop) (A : Option Addr) (len cap : Nat) (bs : List Nat) : Prop where
  row : Row (Ty.nat .u8) w S A len bs
  below : ∀ b, S b → b < w.heap.size
  room : len ≤ cap
  most : cap ≤ 9223372036854775807
theorem Bs.later {w w' : World} {S : Nat → Prop} {A : Option Addr} {len cap : Nat} {bs : List Nat} (h : Bs w S A len cap bs) (hb : Below w.heap.size w w') : Bs w' S A len cap bs :=
  ⟨h.row.below hb h.below, fun b hS => Nat.lt_of_lt_of_le (h.below b hS) hb.size, h.room, h.most⟩
theorem Bs.wf {w : World} {S : Nat → Prop} {A : Option Addr} {len cap : Nat} {bs : List Nat} (h : Bs w S A len cap bs) : ∀ x ∈ bs, x < 256 := fun x hx => wf_u8 (h.row.ints_wf x hx)

/-- what a reader is behind a read of n bytes with error e -/
def RdOut (A : Option Addr) (len cap : Nat) (x n e : Int) (A2 : Option Addr) (l2 c2 : Nat) (x2 : Int) : Prop :=
  (e = 0 ∧ A2 = A ∧ l2 = len ∧ c2 = cap ∧ x2 = x + n) ∨ (e ≠ 0 ∧ A2 = none ∧ l2 = 0 ∧ c2 = 0 ∧ x2 = 0)
/-- the bytes that are read -/
def cutB (bs : List Nat) (x n : Int) : List Nat := if cutE bs.length x n = 0 then (bs.drop x.toNat).take n.toNat else []

theorem cutE_zero {len : Nat} {x n : Int} (h : cutE len x n = 0) : 0 ≤ x ∧ x ≤ (len : Int) ∧ 0 ≤ n ∧ x + n ≤ (len : Int) := by
  unfold cutE at h
  split at h
  · omega
  · split at h
    · omega
    · split at h
      · omega
      · omega
theorem cutE_bad {len : Nat} {x n : Int} (h : cutE len x n ≠ 0) : x < 0 ∨ (len : Int) < x ∨ n < 0 ∨ (len : Int) - x < n := by
  unfold cutE at h
  split at h
  · omega
  · split at h
    · omega
    · split at h
      · omega
      · exact absurd rfl h

theorem cut_any {w : World} {S : Nat → Prop} {A : Option Addr} {len cap : Nat} {bs : List Nat} (h : Bs w S A len cap bs) (x n : Int) (b0 : -9223372036854775808 ≤ x) (b1 : x ≤ 9223372036854775807) :
    ∃ A' m c' A2 l2 c2 x2, RdOut A len cap x n (cutE len x n) A2 l2 c2 x2 ∧ Bs w S A' m c' (cutB bs x n) ∧ (m : Int) = (if cutE len x n = 0 then n else 0) ∧
      ∀ W : World, Calls Try.prog 47 #[.agg #[.slice A len cap, .int .i64 x], .int .i64 n] W fun e w' =>
        e = .returned (.tuple #[.slice A' m c', .agg #[.slice A2 l2 c2, .int .i64 x2], .int .i64 (cutE len x n)]) ∧ Below W.heap.size W w' := by
  have hl := h.row.1
  have h1 := h.room
  have h2 := h.most
  by_cases he : cutE len x n = 0
  · obtain ⟨e1, e2, e3, e4⟩ := cutE_zero he
    obtain ⟨x, rfl⟩ := Int.eq_ofNat_of_zero_le e1
    obtain ⟨n, rfl⟩ := Int.eq_ofNat_of_zero_le e3
    refine ⟨subA A cap x, n, cap - x, A, len, cap, _, .inl ⟨he, rfl, rfl, rfl, rfl⟩, ⟨?_, h.below, by omega, by omega⟩, by rw [if_pos he], fun W => ?_⟩
    · have := h.row.cut (lo := x) (m := n) (cap := cap) (by omega) h1
      unfold cutB
      rw [hl, if_pos he]
      simpa [subA, Ty.nat] using this
    · rw [he]
      exact cut_ok A len cap x n W (by omega) h1 h2
  · refine ⟨none, 0, 0, none, 0, 0, 0, .inr ⟨he, rfl, rfl, rfl, rfl⟩, ⟨?_, h.below, Nat.le_refl _, by omega⟩, by rw [if_neg he]; rfl, fun W => ?_⟩
    · unfold cutB
      rw [hl, if_neg he]
      exact Row.nil _ _ _ _
    · exact cut_no A len cap x n W (cutE_bad he) b0 b1 (by omega)

set_option maxHeartbeats 400000 in
/-- Take: the bytes in new memory -/
theorem take_any {w : World} {S : Nat → Prop} {A : Option Addr} {len cap : Nat} {bs : List Nat} (h : Bs w S A len cap bs) (x n : Int) (b0 : -9223372036854775808 ≤ x) (b1 : x ≤ 9223372036854775807) (hlen : len ≤ 70368744177664) :
    ∃ A2 l2 c2 x2, RdOut A len cap x n (cutE len x n) A2 l2 c2 x2 ∧
      ∀ W : World, Below w.heap.size w W → Calls Try.prog 13 #[.agg #[.slice A len cap, .int .i64 x], .int .i64 n] W fun e w' =>
        ∃ A' m c', e = .returned (.tuple #[.slice A' m c', .agg #[.slice A2 l2 c2, .int .i64 x2], .int .i64 (cutE len x n)]) ∧ Bs w' (fun b => W.heap.size ≤ b ∧ b < w'.heap.size) A' m c' (cutB bs x n) ∧ Below W.heap.size W w' := by
  obtain ⟨A1, m1, c1, A2, l2, c2, x2, hout, hB, hm, hcut⟩ := cut_any h x n b0 b1
  refine ⟨A2, l2, c2, x2, hout, fun W hW => ?_⟩
  have hm1 : m1 ≤ 70368744177664 := by
    by_cases he : cutE len x n = 0
    · have := cutE_zero he
      rw [if_pos he] at hm
      omega
    · rw [if_neg he] at hm
      omega
  have HB := Lib.hid hB
  have HC := Lib.hid hcut
  have HW := Lib.hid hW
  clear h hB hcut hW hout hm
  go_enter Try.func13, Try.ntmps13
  go_upto_region 2 with (go_at_call 47; refine (HC.out _).mono ?_; rintro e w1 ⟨rfl, hb1⟩; obtain ⟨hc1, hf1⟩ := bcell hb1)
  have hz1 : W.heap.size + 1 < w1.heap.size := (by have := hb1.size; simp at this; omega)
  go_region_held3 (fun w' => w'.cell? ⟨w1.heap.size, 0, none⟩ = some (.slice A2 l2 c2) ∧ w'.cell? ⟨w1.heap.size, 1, none⟩ = some (.int .i64 x2)) (first | done | (refine ⟨(Box.cell (cs := #[.slice A2 l2 c2, .int .i64 x2]) (t := 25) ?_ 0), (Box.cell (cs := #[.slice A2 l2 c2, .int .i64 x2]) (t := 25) ?_ 1)⟩ <;> (repeat' (first | (with_reducible assumption) | (with_reducible exact Box.new _ _ _) | (with_reducible refine Box.newAt _ _ _ ?_; simp; done) | (with_reducible apply Box.put2) | (with_reducible apply Box.drew) | (with_reducible apply Box.drewN) | (with_reducible apply Box.alloc) | (with_reducible refine Box.call ?_ (by with_reducible assumption)) | (with_reducible refine Box.far ?_ _ ?_) | (simp; done) | (simp; omega))); done)) (first | (go_at_call 48; refine (clone_any S A1 m1 c1 (cutB bs x n) _ ?_ ?_ hm1).mono ?_; (exact HB.out.row.below (B := w.heap.size) (HW.out.trans (Below.mono (by (refine Bel.below ?_; repeat' (first | (with_reducible assumption) | (with_reducible exact Bel.refl (Nat.le_refl _)) | (with_reducible apply Bel.drew) | (with_reducible apply Bel.drewN) | (with_reducible apply Bel.alloc) | (with_reducible refine Bel.set ?_ ?_ _) | (with_reducible refine Bel.call ?_ (by with_reducible assumption)) | (with_reducible exact Nat.le_refl _) | (simp; done) | (simp; omega))) : Below W.heap.size W _) HW.out.size)) HB.out.below); (intro b hS; have := HB.out.below b hS; have := HW.out.size; have := hb1.size; simp at *; omega); rintro e w2 ⟨v, rfl, hr2, hb2⟩; obtain ⟨A', m', c', rfl, hmc', hmax', hnil', hrow'⟩ := rep_slice hr2; have hB5 : Box w2 (W.heap.size + 1) 25 #[.slice none 0 0, .int .i64 0] := (by (repeat' (first | (with_reducible assumption) | (with_reducible exact Box.new _ _ _) | (with_reducible refine Box.newAt _ _ _ ?_; simp; done) | (with_reducible apply Box.put2) | (with_reducible apply Box.drew) | (with_reducible apply Box.drewN) | (with_reducible apply Box.alloc) | (with_reducible refine Box.call ?_ (by with_reducible assumption)) | (with_reducible refine Box.far ?_ _ ?_) | (simp; done) | (simp; omega)))); have hB5c0 : World.cell? w2 ⟨W.heap.size + 1, 0, none⟩ = some (.slice none 0 0) := Box.cell hB5 0; have hB5c1 : World.cell? w2 ⟨W.heap.size + 1, 1, none⟩ = some (.int .i64 0) := Box.cell hB5 1; have hB5f0 := Box.frozen hB5 0; have hB5f1 := Box.frozen hB5 1))
  have hE : Below W.heap.size W ((w2.setCell ⟨W.heap.size + 1, 0, none⟩ (.slice A2 l2 c2)).setCell ⟨W.heap.size + 1, 1, none⟩ (.int .i64 x2)) := by (refine Bel.below ?_; repeat' (first | (with_reducible assumption) | (with_reducible exact Bel.refl (Nat.le_refl _)) | (with_reducible apply Bel.drew) | (with_reducible apply Bel.drewN) | (with_reducible apply Bel.alloc) | (with_reducible refine Bel.set ?_ ?_ _) | (with_reducible refine Bel.call ?_ (by with_reducible assumption)) | (with_reducible exact Nat.le_refl _) | (simp; done) | (simp; omega)))
  have hrow2 := Lib.hid (((hrow'.setCell (q := ⟨W.heap.size + 1, 0, none⟩) (.slice A2 l2 c2) (by simp; omega)).setCell (q := ⟨W.heap.size + 1, 1, none⟩) (.int .i64 x2) (by simp; omega)).more (S' := fun b => W.heap.size ≤ b ∧ b < ((w2.setCell ⟨W.heap.size + 1, 0, none⟩ (.slice A2 l2 c2)).setCell ⟨W.heap.size + 1, 1, none⟩ (.int .i64 x2)).heap.size) (by intro b hb; have h1 := hb.1; have h2 := hb.2; simp at h1; simp; omega))
  go_wp2
  refine bodyPost_ret (v := .tuple #[.slice A' m' c', .agg #[.slice A2 l2 c2, .int .i64 x2], .int .i64 (cutE len x n)]) ?_ rfl ⟨A', m', c', rfl, ⟨hrow2.out, fun _ h => h.2, hmc', hmax'⟩, hE⟩
  simp [results, Try.results13, go_sem, hB5c0, hB5c1]



set_option maxHeartbeats 400000 in
theorem u8_any {w : World} {S : Nat → Prop} {A : Option Addr} {len cap : Nat} {bs : List Nat} (h : Bs w S A len cap bs) (x : Int) (b0 : -9223372036854775808 ≤ x) (b1 : x ≤ 9223372036854775807) :
    ∃ A2 l2 c2 x2, RdOut A len cap x 1 (cutE len x 1) A2 l2 c2 x2 ∧
      ∀ W : World, Below w.heap.size w W → Calls Try.prog 46 #[.agg #[.slice A len cap, .int .i64 x]] W fun e w' =>
        e = .returned (.tuple #[.int .u8 (leV (cutB bs x 1) : Int), .agg #[.slice A2 l2 c2, .int .i64 x2], .int .i64 (cutE len x 1)]) ∧ Below W.heap.size W w' := by
  obtain ⟨A1, m1, c1, A2, l2, c2, x2, hout, hB, hm, hcut⟩ := cut_any h x 1 b0 b1
  refine ⟨A2, l2, c2, x2, hout, fun W hW => ?_⟩
  exact get8_any A A1 A2 len cap m1 c1 l2 c2 x x2 _ _ S W (hB.later hW).row (hB.later hW).below (by split at hm <;> omega) hcut
set_option maxHeartbeats 400000 in
theorem U8_any {w : World} {S : Nat → Prop} {A : Option Addr} {len cap : Nat} {bs : List Nat} (h : Bs w S A len cap bs) (x : Int) (b0 : -9223372036854775808 ≤ x) (b1 : x ≤ 9223372036854775807) :
    ∃ A2 l2 c2 x2, RdOut A len cap x 1 (cutE len x 1) A2 l2 c2 x2 ∧
      ∀ W : World, Below w.heap.size w W → Calls Try.prog 12 #[.agg #[.slice A len cap, .int .i64 x]] W fun e w' =>
        e = .returned (.tuple #[.int .u8 (leV (cutB bs x 1) : Int), .agg #[.slice A2 l2 c2, .int .i64 x2], .int .i64 (cutE len x 1)]) ∧ Below W.heap.size W w' := by
  obtain ⟨A2, l2, c2, x2, hout, hget⟩ := u8_any h x b0 b1
  refine ⟨A2, l2, c2, x2, hout, fun W hW => ?_⟩
  have HG := Lib.hid hget
  have HW := Lib.hid hW
  clear h hget hW hout
  go_enter Try.func12, Try.ntmps12
  go_wp2_with (go_at_call 46; refine (HG.out _ ?_).mono ?_; (exact HW.out.trans (Below.mono (by (refine Bel.below ?_; repeat' (first | (with_reducible assumption) | (with_reducible exact Bel.refl (Nat.le_refl _)) | (with_reducible apply Bel.drew) | (with_reducible apply Bel.drewN) | (with_reducible apply Bel.alloc) | (with_reducible refine Bel.set ?_ ?_ _) | (with_reducible refine Bel.call ?_ (by with_reducible assumption)) | (with_reducible exact Nat.le_refl _) | (simp; done) | (simp; omega))) : Below W.heap.size W _) HW.out.size)); rintro e w1 ⟨rfl, hb1⟩; have hB5 : Box w1 (W.heap.size + 1) 25 #[.slice none 0 0, .int .i64 0] := (by (repeat' (first | (with_reducible assumption) | (with_reducible exact Box.new _ _ _) | (with_reducible refine Box.newAt _ _ _ ?_; simp; done) | (with_reducible apply Box.put2) | (with_reducible apply Box.drew) | (with_reducible apply Box.drewN) | (with_reducible apply Box.alloc) | (with_reducible refine Box.call ?_ (by with_reducible assumption)) | (with_reducible refine Box.far ?_ _ ?_) | (simp; done) | (simp; omega)))); have hB5c0 : World.cell? w1 ⟨W.heap.size + 1, 0, none⟩ = some (.slice none 0 0) := Box.cell hB5 0; have hB5c1 : World.cell? w1 ⟨W.heap.size + 1, 1, none⟩ = some (.int .i64 0) := Box.cell hB5 1; have hB5f0 := Box.frozen hB5 0; have hB5f1 := Box.frozen hB5 1)
  refine bodyPost_ret (v := .tuple #[.int .u8 (leV (cutB bs x 1) : Int), .agg #[.slice A2 l2 c2, .int .i64 x2], .int .i64 (cutE len x 1)]) ?_ rfl ⟨rfl, ?_⟩
  · simp [results, Try.results12, go_sem, hB5c0, hB5c1]
  · (refine Bel.below ?_; repeat' (first | (with_reducible assumption) | (with_reducible exact Bel.refl (Nat.le_refl _)) | (with_reducible apply Bel.drew) | (with_reducible apply Bel.drewN) | (with_reducible apply Bel.alloc) | (with_reducible refine Bel.set ?_ ?_ _) | (with_reducible refine Bel.call ?_ (by with_reducible assumption)) | (with_reducible exact Nat.le_refl _) | (simp; done) | (simp; omega)))

set_option maxHeartbeats 400000 in
theorem u16_any {w : World} {S : Nat → Prop} {A : Option Addr} {len cap : Nat} {bs : List Nat} (h : Bs w S A len cap bs) (x : Int) (b0 : -9223372036854775808 ≤ x) (b1 : x ≤ 9223372036854775807) :
    ∃ A2 l2 c2 x2, RdOut A len cap x 2 (cutE len x 2) A2 l2 c2 x2 ∧
      ∀ W : World, Below w.heap.size w W → Calls Try.prog 45 #[.agg #[.slice A len cap, .int .i64 x]] W fun e w' =>
        e = .returned (.tuple #[.int .u16 (leV (cutB bs x 2) : Int), .agg #[.slice A2 l2 c2, .int .i64 x2], .int .i64 (cutE len x 2)]) ∧ Below W.heap.size W w' := by
  obtain ⟨A1, m1, c1, A2, l2, c2, x2, hout, hB, hm, hcut⟩ := cut_any h x 2 b0 b1
  refine ⟨A2, l2, c2, x2, hout, fun W hW => ?_⟩
  exact get16_any A A1 A2 len cap m1 c1 l2 c2 x x2 _ _ S W (hB.later hW).row (hB.later hW).below (by split at hm <;> omega) hcut
set_option maxHeartbeats 400000 in
theorem U16_any {w : World} {S : Nat → Prop} {A : Option Addr} {len cap : Nat} {bs : List Nat} (h : Bs w S A len cap bs) (x : Int) (b0 : -9223372036854775808 ≤ x) (b1 : x ≤ 9223372036854775807) :
    ∃ A2 l2 c2 x2, RdOut A len cap x 2 (cutE len x 2) A2 l2 c2 x2 ∧
      ∀ W : World, Below w.heap.size w W → Calls Try.prog 11 #[.agg #[.slice A len cap, .int .i64 x]] W fun e w' =>
        e = .returned (.tuple #[.int .u16 (leV (cutB bs x 2) : Int), .agg #[.slice A2 l2 c2, .int .i64 x2], .int .i64 (cutE len x 2)]) ∧ Below W.heap.size W w' := by
  obtain ⟨A2, l2, c2, x2, hout, hget⟩ := u16_any h x b0 b1
  refine ⟨A2, l2, c2, x2, hout, fun W hW => ?_⟩
  have HG := Lib.hid hget
  have HW := Lib.hid hW
  clear h hget hW hout
  go_enter Try.func11, Try.ntmps11
  go_wp2_with (go_at_call 45; refine (HG.out _ ?_).mono ?_; (exact HW.out.trans (Below.mono (by (refine Bel.below ?_; repeat' (first | (with_reducible assumption) | (with_reducible exact Bel.refl (Nat.le_refl _)) | (with_reducible apply Bel.drew) | (with_reducible apply Bel.drewN) | (with_reducible apply Bel.alloc) | (with_reducible refine Bel.set ?_ ?_ _) | (with_reducible refine Bel.call ?_ (by with_reducible assumption)) | (with_reducible exact Nat.le_refl _) | (simp; done) | (simp; omega))) : Below W.heap.size W _) HW.out.size)); rintro e w1 ⟨rfl, hb1⟩; have hB5 : Box w1 (W.heap.size + 1) 25 #[.slice none 0 0, .int .i64 0] := (by (repeat' (first | (with_reducible assumption) | (with_reducible exact Box.new _ _ _) | (with_reducible refine Box.newAt _ _ _ ?_; simp; done) | (with_reducible apply Box.put2) | (with_reducible apply Box.drew) | (with_reducible apply Box.drewN) | (with_reducible apply Box.alloc) | (with_reducible refine Box.call ?_ (by with_reducible assumption)) | (with_reducible refine Box.far ?_ _ ?_) | (simp; done) | (simp; omega)))); have hB5c0 : World.cell? w1 ⟨W.heap.size + 1, 0, none⟩ = some (.slice none 0 0) := Box.cell hB5 0; have hB5c1 : World.cell? w1 ⟨W.heap.size + 1, 1, none⟩ = some (.int .i64 0) := Box.cell hB5 1; have hB5f0 := Box.frozen hB5 0; have hB5f1 := Box.frozen hB5 1)
  refine bodyPost_ret (v := .tuple #[.int .u16 (leV (cutB bs x 2) : Int), .agg #[.slice A2 l2 c2, .int .i64 x2], .int .i64 (cutE len x 2)]) ?_ rfl ⟨rfl, ?_⟩
  · simp [results, Try.results11, go_sem, hB5c0, hB5c1]
  · (refine Bel.below ?_; repeat' (first | (with_reducible assumption) | (with_reducible exact Bel.refl (Nat.le_refl _)) | (with_reducible apply Bel.drew) | (with_reducible apply Bel.drewN) | (with_reducible apply Bel.alloc) | (with_reducible refine Bel.set ?_ ?_ _) | (with_reducible refine Bel.call ?_ (by with_reducible assumption)) | (with_reducible exact Nat.le_refl _) | (simp; done) | (simp; omega)))

set_option maxHeartbeats 400000 in
theorem u32_any {w : World} {S : Nat → Prop} {A : Option Addr} {len cap : Nat} {bs : List Nat} (h : Bs w S A len cap bs) (x : Int) (b0 : -9223372036854775808 ≤ x) (b1 : x ≤ 9223372036854775807) :
    ∃ A2 l2 c2 x2, RdOut A len cap x 4 (cutE len x 4) A2 l2 c2 x2 ∧
      ∀ W : World, Below w.heap.size w W → Calls Try.prog 58 #[.agg #[.slice A len cap, .int .i64 x]] W fun e w' =>
        e = .returned (.tuple #[.int .u32 (leV (cutB bs x 4) : Int), .agg #[.slice A2 l2 c2, .int .i64 x2], .int .i64 (cutE len x 4)]) ∧ Below W.heap.size W w' := by
  obtain ⟨A1, m1, c1, A2, l2, c2, x2, hout, hB, hm, hcut⟩ := cut_any h x 4 b0 b1
  refine ⟨A2, l2, c2, x2, hout, fun W hW => ?_⟩
  exact get32_any A A1 A2 len cap m1 c1 l2 c2 x x2 _ _ S W (hB.later hW).row (hB.later hW).below (by split at hm <;> omega) hcut
set_option maxHeartbeats 400000 in
theorem U32_any {w : World} {S : Nat → Prop} {A : Option Addr} {len cap : Nat} {bs : List Nat} (h : Bs w S A len cap bs) (x : Int) (b0 : -9223372036854775808 ≤ x) (b1 : x ≤ 9223372036854775807) :
    ∃ A2 l2 c2 x2, RdOut A len cap x 4 (cutE len x 4) A2 l2 c2 x2 ∧
      ∀ W : World, Below w.heap.size w W → Calls Try.prog 24 #[.agg #[.slice A len cap, .int .i64 x]] W fun e w' =>
        e = .returned (.tuple #[.int .u32 (leV (cutB bs x 4) : Int), .agg #[.slice A2 l2 c2, .int .i64 x2], .int .i64 (cutE len x 4)]) ∧ Below W.heap.size W w' := by
  obtain ⟨A2, l2, c2, x2, hout, hget⟩ := u32_any h x b0 b1
  refine ⟨A2, l2, c2, x2, hout, fun W hW => ?_⟩
  have HG := Lib.hid hget
  have HW := Lib.hid hW
  clear h hget hW hout
  go_enter Try.func24, Try.ntmps24
  go_wp2_with (go_at_call 58; refine (HG.out _ ?_).mono ?_; (exact HW.out.trans (Below.mono (by (refine Bel.below ?_; repeat' (first | (with_reducible assumption) | (with_reducible exact Bel.refl (Nat.le_refl _)) | (with_reducible apply Bel.drew) | (with_reducible apply Bel.drewN) | (with_reducible apply Bel.alloc) | (with_reducible refine Bel.set ?_ ?_ _) | (with_reducible refine Bel.call ?_ (by with_reducible assumption)) | (with_reducible exact Nat.le_refl _) | (simp; done) | (simp; omega))) : Below W.heap.size W _) HW.out.size)); rintro e w1 ⟨rfl, hb1⟩; have hB5 : Box w1 (W.heap.size + 1) 25 #[.slice none 0 0, .int .i64 0] := (by (repeat' (first | (with_reducible assumption) | (with_reducible exact Box.new _ _ _) | (with_reducible refine Box.newAt _ _ _ ?_; simp; done) | (with_reducible apply Box.put2) | (with_reducible apply Box.drew) | (with_reducible apply Box.drewN) | (with_reducible apply Box.alloc) | (with_reducible refine Box.call ?_ (by with_reducible assumption)) | (with_reducible refine Box.far ?_ _ ?_) | (simp; done) | (simp; omega)))); have hB5c0 : World.cell? w1 ⟨W.heap.size + 1, 0, none⟩ = some (.slice none 0 0) := Box.cell hB5 0; have hB5c1 : World.cell? w1 ⟨W.heap.size + 1, 1, none⟩ = some (.int .i64 0) := Box.cell hB5 1; have hB5f0 := Box.frozen hB5 0; have hB5f1 := Box.frozen hB5 1)
  refine bodyPost_ret (v := .tuple #[.int .u32 (leV (cutB bs x 4) : Int), .agg #[.slice A2 l2 c2, .int .i64 x2], .int .i64 (cutE len x 4)]) ?_ rfl ⟨rfl, ?_⟩
  · simp [results, Try.results24, go_sem, hB5c0, hB5c1]
  · (refine Bel.below ?_; repeat' (first | (with_reducible assumption) | (with_reducible exact Bel.refl (Nat.le_refl _)) | (with_reducible apply Bel.drew) | (with_reducible apply Bel.drewN) | (with_reducible apply Bel.alloc) | (with_reducible refine Bel.set ?_ ?_ _) | (with_reducible refine Bel.call ?_ (by with_reducible assumption)) | (with_reducible exact Nat.le_refl _) | (simp; done) | (simp; omega)))

set_option maxHeartbeats 400000 in
theorem u64_any {w : World} {S : Nat → Prop} {A : Option Addr} {len cap : Nat} {bs : List Nat} (h : Bs w S A len cap bs) (x : Int) (b0 : -9223372036854775808 ≤ x) (b1 : x ≤ 9223372036854775807) :
    ∃ A2 l2 c2 x2, RdOut A len cap x 8 (cutE len x 8) A2 l2 c2 x2 ∧
      ∀ W : World, Below w.heap.size w W → Calls Try.prog 59 #[.agg #[.slice A len cap, .int .i64 x]] W fun e w' =>
        e = .returned (.tuple #[.int .u64 (leV (cutB bs x 8) : Int), .agg #[.slice A2 l2 c2, .int .i64 x2], .int .i64 (cutE len x 8)]) ∧ Below W.heap.size W w' := by
  obtain ⟨A1, m1, c1, A2, l2, c2, x2, hout, hB, hm, hcut⟩ := cut_any h x 8 b0 b1
  refine ⟨A2, l2, c2, x2, hout, fun W hW => ?_⟩
  exact get64_any A A1 A2 len cap m1 c1 l2 c2 x x2 _ _ S W (hB.later hW).row (hB.later hW).below (by split at hm <;> omega) hcut
set_option maxHeartbeats 400000 in
theorem U64_any {w : World} {S : Nat → Prop} {A : Option Addr} {len cap : Nat} {bs : List Nat} (h : Bs w S A len cap bs) (x : Int) (b0 : -9223372036854775808 ≤ x) (b1 : x ≤ 9223372036854775807) :
    ∃ A2 l2 c2 x2, RdOut A len cap x 8 (cutE len x 8) A2 l2 c2 x2 ∧
      ∀ W : World, Below w.heap.size w W → Calls Try.prog 25 #[.agg #[.slice A len cap, .int .i64 x]] W fun e w' =>
        e = .returned (.tuple #[.int .u64 (leV (cutB bs x 8) : Int), .agg #[.slice A2 l2 c2, .int .i64 x2], .int .i64 (cutE len x 8)]) ∧ Below W.heap.size W w' := by
  obtain ⟨A2, l2, c2, x2, hout, hget⟩ := u64_any h x b0 b1
  refine ⟨A2, l2, c2, x2, hout, fun W hW => ?_⟩
  have HG := Lib.hid hget
  have HW := Lib.hid hW
  clear h hget hW hout
  go_enter Try.func25, Try.ntmps25
  go_wp2_with (go_at_call 59; refine (HG.out _ ?_).mono ?_; (exact HW.out.trans (Below.mono (by (refine Bel.below ?_; repeat' (first | (with_reducible assumption) | (with_reducible exact Bel.refl (Nat.le_refl _)) | (with_reducible apply Bel.drew) | (with_reducible apply Bel.drewN) | (with_reducible apply Bel.alloc) | (with_reducible refine Bel.set ?_ ?_ _) | (with_reducible refine Bel.call ?_ (by with_reducible assumption)) | (with_reducible exact Nat.le_refl _) | (simp; done) | (simp; omega))) : Below W.heap.size W _) HW.out.size)); rintro e w1 ⟨rfl, hb1⟩; have hB5 : Box w1 (W.heap.size + 1) 25 #[.slice none 0 0, .int .i64 0] := (by (repeat' (first | (with_reducible assumption) | (with_reducible exact Box.new _ _ _) | (with_reducible refine Box.newAt _ _ _ ?_; simp; done) | (with_reducible apply Box.put2) | (with_reducible apply Box.drew) | (with_reducible apply Box.drewN) | (with_reducible apply Box.alloc) | (with_reducible refine Box.call ?_ (by with_reducible assumption)) | (with_reducible refine Box.far ?_ _ ?_) | (simp; done) | (simp; omega)))); have hB5c0 : World.cell? w1 ⟨W.heap.size + 1, 0, none⟩ = some (.slice none 0 0) := Box.cell hB5 0; have hB5c1 : World.cell? w1 ⟨W.heap.size + 1, 1, none⟩ = some (.int .i64 0) := Box.cell hB5 1; have hB5f0 := Box.frozen hB5 0; have hB5f1 := Box.frozen hB5 1)
  refine bodyPost_ret (v := .tuple #[.int .u64 (leV (cutB bs x 8) : Int), .agg #[.slice A2 l2 c2, .int .i64 x2], .int .i64 (cutE len x 8)]) ?_ rfl ⟨rfl, ?_⟩
  · simp [results, Try.results25, go_sem, hB5c0, hB5c1]
  · (refine Bel.below ?_; repeat' (first | (with_reducible assumption) | (with_reducible exact Bel.refl (Nat.le_refl _)) | (with_reducible apply Bel.drew) | (with_reducible apply Bel.drewN) | (with_reducible apply Bel.alloc) | (with_reducible refine Bel.set ?_ ?_ _) | (with_reducible refine Bel.call ?_ (by with_reducible assumption)) | (with_reducible exact Nat.le_refl _) | (simp; done) | (simp; omega)))
end Go.Proofs.Ytgekkmhkklbgcaa
