/- Walks of octet's readers. -/
import Derived.Test.YtgekkmhkklbgcaaOps
import Derived.Test.YtgekkmhkklbgcaaBits
import Derived.WalkKit
import Derived.WalkSpells
import Derived.WalkLawsBesides
import Derived.Deep.QuietTactic
import Derived.Deep.RegionWith
import Derived.BigQuiet
import Derived.BigRegion
import Derived.RegionTactic
import Derived.Lib.Hide
namespace Go.Proofs.Ytgekkmhkklbgcaa
open Go.RowKit

/-- the error of a cut: 0 none -/
def cutE (len : Nat) (x n : Int) : Int := if x < 0 ∨ (len : Int) < x then 8 else if n < 0 then 2 else if (len : Int) - x < n then 10 else 0

theorem check_ok (A : Option Addr) (len cap : Nat) (x : Int) (w : World) (h0 : 0 ≤ x) (h1 : x ≤ (len : Int)) :
    Calls Try.prog 32 #[.agg #[.slice A len cap, .int .i64 x]] w fun e w' => e = .returned (.int .i64 0) ∧ Below w.heap.size w w' := by
  go_enter Try.func32, Try.ntmps32
  go_wp2
  go_ret
  exact ⟨rfl, (Below.refl _ _).alloc (Nat.le_refl _) _⟩
theorem check_bad (A : Option Addr) (len cap : Nat) (x : Int) (w : World) (h0 : x < 0 ∨ (len : Int) < x) :
    Calls Try.prog 32 #[.agg #[.slice A len cap, .int .i64 x]] w fun e w' => e = .returned (.int .i64 8) ∧ Below w.heap.size w w' := by
  by_cases h1 : x < 0
  · clear h0
    go_enter Try.func32, Try.ntmps32
    go_wp2
    go_ret
    exact ⟨rfl, (Below.refl _ _).alloc (Nat.le_refl _) _⟩
  · have h2 : (len : Int) < x := by omega
    clear h0
    go_enter Try.func32, Try.ntmps32
    go_wp2
    go_ret
    exact ⟨rfl, (Below.refl _ _).alloc (Nat.le_refl _) _⟩

/-- the address of s[lo:] -/
def subA (A : Option Addr) (cap lo : Nat) : Option Addr := if cap = lo then A else A.map (·.add lo)

set_option maxHeartbeats 400000 in
theorem cut_ok (A : Option Addr) (len cap : Nat) (x n : Nat) (w : World) (h1 : x + n ≤ len) (hc : len ≤ cap) (hm : cap ≤ 9223372036854775807) :
    Calls Try.prog 47 #[.agg #[.slice A len cap, .int .i64 (x : Int)], .int .i64 (n : Int)] w fun e w' =>
      e = .returned (.tuple #[.slice (subA A cap x) n (cap - x), .agg #[.slice A len cap, .int .i64 ((x : Int) + (n : Int))], .int .i64 0]) ∧ Below w.heap.size w w' := by
  have hn : Hid (x + n - x = n) := by exact (by omega : x + n - x = n)
  go_enter Try.func47, Try.ntmps47
  go_wp2_with (go_at_call 32; refine (check_ok _ _ _ _ _ (by omega) (by omega)).mono ?_; rintro e w1 ⟨rfl, hb1⟩; obtain ⟨hc1, hf1⟩ := bcell hb1)
  have hz : w.heap.size + 1 < w1.heap.size := by have := hb1.size; simp at this; omega
  go_region
  rw [show (if cap = x then A else A.map (·.add x)) = subA A cap x from rfl]
  go_wp2
  refine bodyPost_ret (v := .tuple #[.slice (subA A cap x) n (cap - x), .agg #[.slice A len cap, .int .i64 ((x : Int) + (n : Int))], .int .i64 0]) ?_ rfl ⟨rfl, ?_⟩
  · simp [results, Try.results47, go_sem, hc1, hn.out]
  · (refine Bel.below ?_; repeat' (first | (with_reducible assumption) | (with_reducible exact Bel.refl (Nat.le_refl _)) | (with_reducible apply Bel.drew) | (with_reducible apply Bel.drewN) | (with_reducible apply Bel.alloc) | (with_reducible refine Bel.set ?_ ?_ _) | (with_reducible refine Bel.call ?_ (by with_reducible assumption)) | (with_reducible exact Nat.le_refl _) | (simp; done) | (simp; omega)))

set_option maxHeartbeats 400000 in
theorem cut_no (A : Option Addr) (len cap : Nat) (x n : Int) (w : World) (h1 : x < 0 ∨ (len : Int) < x ∨ n < 0 ∨ (len : Int) - x < n) (b0 : -9223372036854775808 ≤ x) (b1 : x ≤ 9223372036854775807) (hm : len ≤ 9223372036854775807) :
    Calls Try.prog 47 #[.agg #[.slice A len cap, .int .i64 x], .int .i64 n] w fun e w' =>
      e = .returned (.tuple #[.slice none 0 0, .agg #[.slice none 0 0, .int .i64 0], .int .i64 (cutE len x n)]) ∧ Below w.heap.size w w' := by
  by_cases c1 : x < 0 ∨ (len : Int) < x
  · have he : Hid (cutE len x n = 8) := by unfold cutE; exact if_pos c1
    clear h1
    go_enter Try.func47, Try.ntmps47
    go_wp2_with (go_at_call 32; refine (check_bad _ _ _ _ _ c1).mono ?_; rintro e w1 ⟨rfl, hb1⟩; obtain ⟨hc1, hf1⟩ := bcell hb1; have hz : w.heap.size + 1 < w1.heap.size := (by have := hb1.size; simp at this; omega))
    refine bodyPost_ret (v := .tuple #[.slice none 0 0, .agg #[.slice none 0 0, .int .i64 0], .int .i64 8]) ?_ rfl ⟨by rw [he.out], ?_⟩
    · simp [results, Try.results47, go_sem, hc1]
    · (refine Bel.below ?_; repeat' (first | (with_reducible assumption) | (with_reducible exact Bel.refl (Nat.le_refl _)) | (with_reducible apply Bel.drew) | (with_reducible apply Bel.drewN) | (with_reducible apply Bel.alloc) | (with_reducible refine Bel.set ?_ ?_ _) | (with_reducible refine Bel.call ?_ (by with_reducible assumption)) | (with_reducible exact Nat.le_refl _) | (simp; done) | (simp; omega)))
  · have c2 : 0 ≤ x := by omega
    have c3 : x ≤ (len : Int) := by omega
    by_cases c4 : n < 0
    · have he : Hid (cutE len x n = 2) := by unfold cutE; rw [if_neg c1]; exact if_pos c4
      clear h1 c1
      go_enter Try.func47, Try.ntmps47
      go_wp2_with (go_at_call 32; refine (check_ok _ _ _ _ _ c2 c3).mono ?_; rintro e w1 ⟨rfl, hb1⟩; obtain ⟨hc1, hf1⟩ := bcell hb1; have hz : w.heap.size + 1 < w1.heap.size := (by have := hb1.size; simp at this; omega))
      refine bodyPost_ret (v := .tuple #[.slice none 0 0, .agg #[.slice none 0 0, .int .i64 0], .int .i64 2]) ?_ rfl ⟨by rw [he.out], ?_⟩
      · simp [results, Try.results47, go_sem, hc1]
      · (refine Bel.below ?_; repeat' (first | (with_reducible assumption) | (with_reducible exact Bel.refl (Nat.le_refl _)) | (with_reducible apply Bel.drew) | (with_reducible apply Bel.drewN) | (with_reducible apply Bel.alloc) | (with_reducible refine Bel.set ?_ ?_ _) | (with_reducible refine Bel.call ?_ (by with_reducible assumption)) | (with_reducible exact Nat.le_refl _) | (simp; done) | (simp; omega)))
    · have c5 : (len : Int) - x < n := by omega
      have he : Hid (cutE len x n = 10) := by unfold cutE; rw [if_neg c1, if_neg c4]; exact if_pos c5
      clear h1 c1
      go_enter Try.func47, Try.ntmps47
      go_wp2_with (go_at_call 32; refine (check_ok _ _ _ _ _ c2 c3).mono ?_; rintro e w1 ⟨rfl, hb1⟩; obtain ⟨hc1, hf1⟩ := bcell hb1; have hz : w.heap.size + 1 < w1.heap.size := (by have := hb1.size; simp at this; omega))
      refine bodyPost_ret (v := .tuple #[.slice none 0 0, .agg #[.slice none 0 0, .int .i64 0], .int .i64 10]) ?_ rfl ⟨by rw [he.out], ?_⟩
      · simp [results, Try.results47, go_sem, hc1]
      · (refine Bel.below ?_; repeat' (first | (with_reducible assumption) | (with_reducible exact Bel.refl (Nat.le_refl _)) | (with_reducible apply Bel.drew) | (with_reducible apply Bel.drewN) | (with_reducible apply Bel.alloc) | (with_reducible refine Bel.set ?_ ?_ _) | (with_reducible refine Bel.call ?_ (by with_reducible assumption)) | (with_reducible exact Nat.le_refl _) | (simp; done) | (simp; omega)))

theorem info_u8 : (Try.prog.info? 5).map (fun i => (i.zero, i.size, i.bytes)) = some (some (.int .u8 0), 1, 1) := by kernel_rfl

theorem clone_any (S : Nat → Prop) (A : Option Addr) (n c : Nat) (xs : List Nat) (w : World) (h : Row (Ty.nat .u8) w S A n xs) (hS : ∀ b, S b → b < w.heap.size) (hn : n ≤ 70368744177664) :
    Calls Try.prog 48 #[.slice A n c] w fun e w' => ∃ v, e = .returned v ∧ (Ty.slice (Ty.nat .u8)).rep w' (fun b => w.heap.size ≤ b ∧ b < w'.heap.size) xs [v] ∧ Below w.heap.size w w' := by
  have H := Lib.hid h
  have HS := Lib.hid hS
  clear h hS
  have he := fun W : World => Lib.run_eql_slice_nil (P := Try.prog) W 23 5 A n c 0 0 Try.underlying23
  rcases A with _ | ad
  · go_enter Try.func48, Try.ntmps48
    go_wp2_with fail
    go_ret
    have hx : xs = [] := by
      rcases Nat.eq_zero_or_pos n with h0 | h0
      · exact List.eq_nil_of_length_eq_zero (H.out.1.trans h0)
      · obtain ⟨_, _, h, _⟩ := H.out.2 h0
        cases h
    subst hx
    exact ⟨_, rfl, ⟨none, 0, 0, rfl, Nat.le_refl _, Nat.zero_le _, fun _ => rfl, Row.nil _ _ _ _⟩, Below.refl _ _⟩
  · obtain ⟨i0, hi, hz0, hz1, hz2⟩ := info_parts info_u8
    go_enter Try.func48, Try.ntmps48
    go_wp2_with (at_builtin; refine wpList_append_src _ rfl _ _ _ rfl w.heap.size 5 i0 _ 1 1 Try.underlying23 hi hz0 hz1 hz2 rfl (by decide) (.slice (some ⟨w.heap.size, 0, none⟩) 0 0) 0 [] rfl (World.ownsRow_lit w #[] 0 (Nat.le_refl _) (Nat.zero_le _) rfl) (some ad) n c (xs.map fun x : Nat => Value.int .u8 (x : Int)) rfl H.out.src_len (Row.src (H.out.alloc _ HS.out)) (oneCell_ints xs) (by simp only [maxLen]; omega) (by omega) (by simp) ?_; intro v1 w1 hown1 hg1 hat1)
    go_ret
    simp only [Nat.zero_add, List.nil_append] at hown1
    have hb : Bel w.heap.size w w1 := Bel.grown ((Bel.refl (Nat.le_refl _)).alloc _) hg1 (fun g hg => by simp [Value.ownBlock] at hg; omega)
    exact ⟨_, rfl, rep_of_own hown1 H.out.ints_wf (fun b h1 h2 => ⟨h1, h2⟩), hb.below⟩
end Go.Proofs.Ytgekkmhkklbgcaa
