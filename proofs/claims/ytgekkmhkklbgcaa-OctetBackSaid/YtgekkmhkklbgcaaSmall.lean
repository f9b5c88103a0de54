/- Small callees of the laws: great, Copy; the arguments' shapes. -/
import Derived.Test.YtgekkmhkklbgcaaAlive
namespace Go.Proofs.Ytgekkmhkklbgcaa
open Go.RowKit

theorem lt_append {xs ys : List Nat} (hx : ∀ x ∈ xs, x < 256) (hy : ∀ y ∈ ys, y < 256) : ∀ z ∈ xs ++ ys, z < 256 := fun z hz => (List.mem_append.1 hz).elim (hx z) (hy z)
theorem great_any (A : Option Addr) (n c : Nat) (w : World) : Calls Try.prog 22 #[.slice A n c] w fun e w' => e = .returned (.bool (decide ((70000 : Int) < (n : Int)))) ∧ w = w' := by
  go_enter Try.func22, Try.ntmps22
  go_wp2
  go_ret
  exact ⟨rfl, rfl⟩
theorem great_no (A : Option Addr) (n c : Nat) (w : World) (h : n ≤ 70000) : Calls Try.prog 22 #[.slice A n c] w fun e w' => e = .returned (.bool false) ∧ w = w' :=
  (great_any A n c w).mono fun _ _ ⟨he, hw⟩ => ⟨by rw [he, decide_eq_false (by omega)], hw⟩
theorem great_yes (A : Option Addr) (n c : Nat) (w : World) (h : 70000 < n) : Calls Try.prog 22 #[.slice A n c] w fun e w' => e = .returned (.bool true) ∧ w = w' :=
  (great_any A n c w).mono fun _ _ ⟨he, hw⟩ => ⟨by rw [he, decide_eq_true (by omega)], hw⟩

set_option maxHeartbeats 400000 in
theorem copy_own (S : Nat → Prop) (A : Option Addr) (n c : Nat) (xs : List Nat) (w : World) (h : Bs w S A n c xs) (hn : n ≤ 70368744177664) :
    Calls Try.prog 23 #[.slice A n c] w fun e w' => ∃ v, e = .returned v ∧ w'.ownsRow w.heap.size 5 1 v n (ints xs) ∧ Below w.heap.size w w' := by
  have H := Lib.hid h.row
  have HS := Lib.hid h.below
  clear h
  obtain ⟨i0, hi, hz0, hz1, hz2⟩ := info_parts info_u8
  go_enter Try.func23, Try.ntmps23
  go_wp2_with (at_builtin; refine wpList_append_src _ rfl _ _ _ rfl w.heap.size 5 i0 _ 1 1 Try.underlying23 hi hz0 hz1 hz2 rfl (by decide) (.slice (some ⟨w.heap.size, 0, none⟩) 0 0) 0 [] rfl (World.ownsRow_lit w #[] 0 (Nat.le_refl _) (Nat.zero_le _) rfl) A n c (ints xs) rfl H.out.src_len (Row.src (H.out.alloc _ HS.out)) (oneCell_ints xs) (by simp only [maxLen]; omega) (by omega) (by simp) ?_; intro v1 w1 hown1 hg1 hat1)
  go_ret
  simp only [Nat.zero_add, List.nil_append] at hown1
  have hb : Bel w.heap.size w w1 := Bel.grown ((Bel.refl (Nat.le_refl _)).alloc _) hg1 (fun g hg => by simp [Value.ownBlock] at hg; omega)
  exact ⟨_, rfl, hown1, hb.below⟩
theorem copy_any (S : Nat → Prop) (A : Option Addr) (n c : Nat) (xs : List Nat) (w : World) (h : Bs w S A n c xs) (hn : n ≤ 70368744177664) :
    Calls Try.prog 23 #[.slice A n c] w fun e w' => ∃ A' c', e = .returned (.slice A' n c') ∧ Bs w' (fun b => w.heap.size ≤ b ∧ b < w'.heap.size) A' n c' xs ∧ Below w.heap.size w w' :=
  (copy_own S A n c xs w h hn).mono fun _ _ ⟨v, he, ho, hb⟩ => by
    obtain ⟨A', c', rfl, hB⟩ := bs_own ho h.wf
    exact ⟨A', c', he, hB, hb⟩

theorem opensBytes : Opens Try.prog 23 (Ty.slice (Ty.nat .u8)) := Opens.slice Try.underlying23 (by kernel_rfl) (Opens.nat rfl Try.underlying5 (by kernel_rfl)) (by decide)
theorem opensLists : Opens Try.prog 37 (Ty.slice (Ty.slice (Ty.nat .u8))) := Opens.slice Try.underlying37 (by kernel_rfl) opensBytes (by decide)
/-- an argument that is a byte slice -/
theorem bs_arg {w : World} {A : Option Addr} {n c : Nat} {xs : List Nat} (h : (Ty.slice (Ty.nat .u8)).rep w (· < w.heap.size) xs [.slice A n c]) : Bs w (· < w.heap.size) A n c xs := by
  obtain ⟨A', n', c', h0, h1, h2, _, h4⟩ := h
  simp at h0
  obtain ⟨rfl, rfl, rfl⟩ := h0
  exact ⟨h4, fun _ h => h, h1, h2⟩
theorem ls_arg {w : World} {A : Option Addr} {n c : Nat} {ls : List (List Nat)} (h : (Ty.slice (Ty.slice (Ty.nat .u8))).rep w (· < w.heap.size) ls [.slice A n c]) : Ls w (· < w.heap.size) A n c ls := by
  obtain ⟨A', n', c', h0, h1, h2, _, h4⟩ := h
  simp at h0
  obtain ⟨rfl, rfl, rfl⟩ := h0
  exact ⟨h4, fun _ h => h, h1, h2⟩
def readerTy : Ty (List Nat × Int × Unit) := Ty.pair (Ty.slice (Ty.nat .u8)) (Ty.pair (Ty.int .i64) Ty.unit)
theorem opensReader : Opens Try.prog 25 readerTy :=
  Opens.struct Try.underlying25 (by kernel_rfl)
    (by show OpensF Try.prog 0 (_ :: _ :: []) (Ty.pair _ (Ty.pair _ Ty.unit)); exact OpensF.cons opensBytes rfl (OpensF.cons (Opens.int Try.underlying3 (by kernel_rfl)) rfl (OpensF.nil _)))
/-- an argument that is a reader -/
theorem rd_arg {w : World} {cs : Array Value} {a : List Nat × Int × Unit} (h : readerTy.rep w (· < w.heap.size) a cs.toList) : ∃ A n c x, cs = #[.slice A n c, .int .i64 x] ∧ (Lit.int .i64 x).wf = true ∧ Bs w (· < w.heap.size) A n c a.1 := by
  obtain ⟨c1, c2, h0, h1, c3, c4, rfl, ⟨rfl, h3⟩, rfl⟩ := h
  obtain ⟨A, n, c, rfl, h4, h5, _, h7⟩ := h1
  refine ⟨A, n, c, a.2.1, ?_, h3, h7, fun _ h => h, h4, h5⟩
  cases cs
  simp at h0
  simp [h0]
theorem wf_u64 {a : Int} (h : (Lit.int .u64 a).wf = true) : ∃ n : Nat, a = (n : Int) ∧ n < 18446744073709551616 := by
  have hx : 0 ≤ a ∧ a ≤ 18446744073709551615 := by simpa [Lit.wf, IntKind.min, IntKind.max, IntKind.signed, IntKind.bits] using h
  exact ⟨a.toNat, by omega, by omega⟩
theorem wf_i64 {a : Int} (h : (Lit.int .i64 a).wf = true) : -9223372036854775808 ≤ a ∧ a ≤ 9223372036854775807 := by
  simpa [Lit.wf, IntKind.min, IntKind.max, IntKind.signed, IntKind.bits] using h
end Go.Proofs.Ytgekkmhkklbgcaa
