/- Walks of octet's writers: Put8 to Put64, PutText, Join. -/
import Derived.Test.YtgekkmhkklbgcaaPut
import Derived.Test.YtgekkmhkklbgcaaRead3
namespace Go.Proofs.Ytgekkmhkklbgcaa
open Go.RowKit

theorem bs_own {w0 w : World} {n : Nat} {v : Value} {xs : List Nat} (h : w.ownsRow w0.heap.size 5 1 v n (ints xs)) (hx : ∀ x ∈ xs, x < 256) : ∃ A c, v = .slice A n c ∧ Bs w (fun b => w0.heap.size ≤ b ∧ b < w.heap.size) A n c xs := by
  obtain ⟨A, m, c, rfl, h1, h2, _, h4⟩ := rep_slice (rep_of_own (S := fun b => w0.heap.size ≤ b ∧ b < w.heap.size) h (fun x hm => wf_u8_mk (hx x hm)) (fun b a c => ⟨a, c⟩))
  obtain rfl : m = n := by have := h4.1; have := h.1; simp [ints] at this; omega
  exact ⟨A, c, rfl, h4, fun b hb => hb.2, h1, h2⟩

set_option maxHeartbeats 400000 in
theorem put8_any (S : Nat → Prop) (A : Option Addr) (n c x : Nat) (xs : List Nat) (w : World) (h : Bs w S A n c xs) (hn : n ≤ 70368744177) (hx : x < 256) :
    Calls Try.prog 60 #[.slice A n c, .int .u8 (x : Int)] w fun e w' => ∃ A' c', e = .returned (.slice A' (n + 1) c') ∧ Bs w' (fun b => w.heap.size ≤ b ∧ b < w'.heap.size) A' (n + 1) c' (xs ++ leB x 1) ∧ Below w.heap.size w w' := by
  have H := Lib.hid h
  clear h
  go_enter Try.func60, Try.ntmps60
  go_wp2_with (first
    | (go_at_call 52; refine (width8 _).mono ?_; rintro e w1 ⟨rfl, rfl⟩)
    | (go_at_call 51; refine (grown_any S A n c 1 xs _ H.out.row H.out.below (by omega) (by omega)).mono ?_; rintro e w1 ⟨v1, rfl, hown1, hb1⟩; have HO := Lib.hid hown1; clear hown1)
    | (go_at_call 65; refine (add8_any w.heap.size n x v1 xs _ HO.out hb1.size (by omega) hx).mono ?_; rintro e w2 ⟨v2, rfl, hown2, hon2⟩; have HO2 := Lib.hid hown2; clear hown2))
  go_ret
  obtain ⟨A', c', rfl, hB⟩ := bs_own HO2.out (by
    intro y hy
    rcases List.mem_append.1 hy with h | h
    · exact H.out.wf y h
    · exact leB_lt _ _ _ h)
  have hb := hon2.bel (Bel.call (Bel.refl (Nat.le_refl _)) hb1) (own_block HO.out)
  exact ⟨A', c', rfl, hB, hb.below⟩
set_option maxHeartbeats 400000 in
theorem Put8_any (S : Nat → Prop) (A : Option Addr) (n c x : Nat) (xs : List Nat) (w : World) (h : Bs w S A n c xs) (hn : n ≤ 70368744177) (hx : x < 256) :
    Calls Try.prog 37 #[.slice A n c, .int .u8 (x : Int)] w fun e w' => ∃ A' c', e = .returned (.slice A' (n + 1) c') ∧ Bs w' (fun b => w.heap.size ≤ b ∧ b < w'.heap.size) A' (n + 1) c' (xs ++ leB x 1) ∧ Below w.heap.size w w' := by
  have H := Lib.hid h
  clear h
  go_enter Try.func37, Try.ntmps37
  go_wp2_with (go_at_call 60; refine (put8_any S A n c x xs _ H.out hn hx).mono ?_; rintro e w1 ⟨A', c', rfl, hB, hb1⟩; have HB := Lib.hid hB; clear hB)
  go_ret
  exact ⟨A', c', rfl, HB.out, hb1⟩

set_option maxHeartbeats 400000 in
theorem put16_any (S : Nat → Prop) (A : Option Addr) (n c x : Nat) (xs : List Nat) (w : World) (h : Bs w S A n c xs) (hn : n ≤ 70368744177) (hx : x < 65536) :
    Calls Try.prog 61 #[.slice A n c, .int .u16 (x : Int)] w fun e w' => ∃ A' c', e = .returned (.slice A' (n + 2) c') ∧ Bs w' (fun b => w.heap.size ≤ b ∧ b < w'.heap.size) A' (n + 2) c' (xs ++ leB x 2) ∧ Below w.heap.size w w' := by
  have H := Lib.hid h
  clear h
  go_enter Try.func61, Try.ntmps61
  go_wp2_with (first
    | (go_at_call 53; refine (width16 _).mono ?_; rintro e w1 ⟨rfl, rfl⟩)
    | (go_at_call 51; refine (grown_any S A n c 2 xs _ H.out.row H.out.below (by omega) (by omega)).mono ?_; rintro e w1 ⟨v1, rfl, hown1, hb1⟩; have HO := Lib.hid hown1; clear hown1)
    | (go_at_call 67; refine (add16_any w.heap.size n x v1 xs _ HO.out hb1.size (by omega) hx).mono ?_; rintro e w2 ⟨v2, rfl, hown2, hon2⟩; have HO2 := Lib.hid hown2; clear hown2))
  go_ret
  obtain ⟨A', c', rfl, hB⟩ := bs_own HO2.out (by
    intro y hy
    rcases List.mem_append.1 hy with h | h
    · exact H.out.wf y h
    · exact leB_lt _ _ _ h)
  have hb := hon2.bel (Bel.call (Bel.refl (Nat.le_refl _)) hb1) (own_block HO.out)
  exact ⟨A', c', rfl, hB, hb.below⟩
set_option maxHeartbeats 400000 in
theorem Put16_any (S : Nat → Prop) (A : Option Addr) (n c x : Nat) (xs : List Nat) (w : World) (h : Bs w S A n c xs) (hn : n ≤ 70368744177) (hx : x < 65536) :
    Calls Try.prog 39 #[.slice A n c, .int .u16 (x : Int)] w fun e w' => ∃ A' c', e = .returned (.slice A' (n + 2) c') ∧ Bs w' (fun b => w.heap.size ≤ b ∧ b < w'.heap.size) A' (n + 2) c' (xs ++ leB x 2) ∧ Below w.heap.size w w' := by
  have H := Lib.hid h
  clear h
  go_enter Try.func39, Try.ntmps39
  go_wp2_with (go_at_call 61; refine (put16_any S A n c x xs _ H.out hn hx).mono ?_; rintro e w1 ⟨A', c', rfl, hB, hb1⟩; have HB := Lib.hid hB; clear hB)
  go_ret
  exact ⟨A', c', rfl, HB.out, hb1⟩

set_option maxHeartbeats 400000 in
theorem put32_any (S : Nat → Prop) (A : Option Addr) (n c x : Nat) (xs : List Nat) (w : World) (h : Bs w S A n c xs) (hn : n ≤ 70368744177) (hx : x < 4294967296) :
    Calls Try.prog 62 #[.slice A n c, .int .u32 (x : Int)] w fun e w' => ∃ A' c', e = .returned (.slice A' (n + 4) c') ∧ Bs w' (fun b => w.heap.size ≤ b ∧ b < w'.heap.size) A' (n + 4) c' (xs ++ leB x 4) ∧ Below w.heap.size w w' := by
  have H := Lib.hid h
  clear h
  go_enter Try.func62, Try.ntmps62
  go_wp2_with (first
    | (go_at_call 70; refine (width32 _).mono ?_; rintro e w1 ⟨rfl, rfl⟩)
    | (go_at_call 51; refine (grown_any S A n c 4 xs _ H.out.row H.out.below (by omega) (by omega)).mono ?_; rintro e w1 ⟨v1, rfl, hown1, hb1⟩; have HO := Lib.hid hown1; clear hown1)
    | (go_at_call 72; refine (add32_any w.heap.size n x v1 xs _ HO.out hb1.size (by omega) hx).mono ?_; rintro e w2 ⟨v2, rfl, hown2, hon2⟩; have HO2 := Lib.hid hown2; clear hown2))
  go_ret
  obtain ⟨A', c', rfl, hB⟩ := bs_own HO2.out (by
    intro y hy
    rcases List.mem_append.1 hy with h | h
    · exact H.out.wf y h
    · exact leB_lt _ _ _ h)
  have hb := hon2.bel (Bel.call (Bel.refl (Nat.le_refl _)) hb1) (own_block HO.out)
  exact ⟨A', c', rfl, hB, hb.below⟩
set_option maxHeartbeats 400000 in
theorem Put32_any (S : Nat → Prop) (A : Option Addr) (n c x : Nat) (xs : List Nat) (w : World) (h : Bs w S A n c xs) (hn : n ≤ 70368744177) (hx : x < 4294967296) :
    Calls Try.prog 40 #[.slice A n c, .int .u32 (x : Int)] w fun e w' => ∃ A' c', e = .returned (.slice A' (n + 4) c') ∧ Bs w' (fun b => w.heap.size ≤ b ∧ b < w'.heap.size) A' (n + 4) c' (xs ++ leB x 4) ∧ Below w.heap.size w w' := by
  have H := Lib.hid h
  clear h
  go_enter Try.func40, Try.ntmps40
  go_wp2_with (go_at_call 62; refine (put32_any S A n c x xs _ H.out hn hx).mono ?_; rintro e w1 ⟨A', c', rfl, hB, hb1⟩; have HB := Lib.hid hB; clear hB)
  go_ret
  exact ⟨A', c', rfl, HB.out, hb1⟩

set_option maxHeartbeats 400000 in
theorem put64_any (S : Nat → Prop) (A : Option Addr) (n c x : Nat) (xs : List Nat) (w : World) (h : Bs w S A n c xs) (hn : n ≤ 70368744177) (hx : x < 18446744073709551616) :
    Calls Try.prog 63 #[.slice A n c, .int .u64 (x : Int)] w fun e w' => ∃ A' c', e = .returned (.slice A' (n + 8) c') ∧ Bs w' (fun b => w.heap.size ≤ b ∧ b < w'.heap.size) A' (n + 8) c' (xs ++ leB x 8) ∧ Below w.heap.size w w' := by
  have H := Lib.hid h
  clear h
  go_enter Try.func63, Try.ntmps63
  go_wp2_with (first
    | (go_at_call 71; refine (width64 _).mono ?_; rintro e w1 ⟨rfl, rfl⟩)
    | (go_at_call 51; refine (grown_any S A n c 8 xs _ H.out.row H.out.below (by omega) (by omega)).mono ?_; rintro e w1 ⟨v1, rfl, hown1, hb1⟩; have HO := Lib.hid hown1; clear hown1)
    | (go_at_call 73; refine (add64_any w.heap.size n x v1 xs _ HO.out hb1.size (by omega) hx).mono ?_; rintro e w2 ⟨v2, rfl, hown2, hon2⟩; have HO2 := Lib.hid hown2; clear hown2))
  go_ret
  obtain ⟨A', c', rfl, hB⟩ := bs_own HO2.out (by
    intro y hy
    rcases List.mem_append.1 hy with h | h
    · exact H.out.wf y h
    · exact leB_lt _ _ _ h)
  have hb := hon2.bel (Bel.call (Bel.refl (Nat.le_refl _)) hb1) (own_block HO.out)
  exact ⟨A', c', rfl, hB, hb.below⟩
set_option maxHeartbeats 400000 in
theorem Put64_any (S : Nat → Prop) (A : Option Addr) (n c x : Nat) (xs : List Nat) (w : World) (h : Bs w S A n c xs) (hn : n ≤ 70368744177) (hx : x < 18446744073709551616) :
    Calls Try.prog 41 #[.slice A n c, .int .u64 (x : Int)] w fun e w' => ∃ A' c', e = .returned (.slice A' (n + 8) c') ∧ Bs w' (fun b => w.heap.size ≤ b ∧ b < w'.heap.size) A' (n + 8) c' (xs ++ leB x 8) ∧ Below w.heap.size w w' := by
  have H := Lib.hid h
  clear h
  go_enter Try.func41, Try.ntmps41
  go_wp2_with (go_at_call 63; refine (put64_any S A n c x xs _ H.out hn hx).mono ?_; rintro e w1 ⟨A', c', rfl, hB, hb1⟩; have HB := Lib.hid hB; clear hB)
  go_ret
  exact ⟨A', c', rfl, HB.out, hb1⟩

set_option maxHeartbeats 400000 in
theorem addSized8_any (B n : Nat) (v : Value) (xs : List Nat) (S : Nat → Prop) (A : Option Addr) (m c : Nat) (ys : List Nat) (w : World) (hown : w.ownsRow B 5 1 v n (ints xs)) (hB : B ≤ w.heap.size) (hn : n ≤ 70368744177) (hy : Bs w S A m c ys) (hm : m < 256) (hS : ∀ b, S b → b < B) :
    Calls Try.prog 50 #[v, .slice A m c] w fun e w' => ∃ v', e = .returned v' ∧ w'.ownsRow B 5 1 v' (n + 1 + m) (ints (xs ++ leB m 1 ++ ys)) ∧ Onto w v w' v' := by
  obtain ⟨i0, hi, hz0, hz1, hz2⟩ := info_parts info_u8
  have HO := Lib.hid hown
  have HY := Lib.hid hy
  have HS := Lib.hid hS
  have hmod : Hid (((m : Int) % 256) = (m : Int)) := by exact (by omega : ((m : Int) % 256) = (m : Int))
  have hwr : Hid (IntKind.u8.wrap (m : Int) = (m : Int)) := by
    show _ = _
    rw [IntKind.wrap_u8']
    omega
  clear hown hy hS
  go_enter Try.func50, Try.ntmps50
  go_wp2_with (first
    | (go_at_call 65; refine (add8_any B n m v xs _ HO.out hB (by omega) hm).mono ?_; rintro e w1 ⟨v1, rfl, hown1, hon1⟩; have HO1 := Lib.hid hown1; clear hown1; have hk : ∀ p : Addr, S p.block → w1.cell? p = w.cell? p := (fun p hp => World.cell?_of_block (hon1.grown.block p.block (HY.out.below _ hp) (fun e => by have := own_block HO.out _ e.symm; have := HS.out _ hp; omega))); have HK := Lib.hid hk; clear hk; have hsz1 := hon1.grown.size)
    | (at_builtin; refine wpList_append_src _ rfl _ _ _ rfl B 5 i0 _ 1 1 Try.underlying23 hi hz0 hz1 hz2 rfl (by decide) v1 (n + 1) (ints (xs ++ leB m 1)) rfl HO1.out A m c (ints ys) rfl HY.out.row.src_len (Row.src (HY.out.row.keep HK.out)) (oneCell_ints ys) (by simp only [maxLen]; omega) (by omega) (by omega) ?_; intro v2 w2 hown2 hg2 hat2))
  go_ret
  exact ⟨v2, rfl, by rw [ints_append]; exact hown2, hon1.app hg2 hat2⟩

set_option maxHeartbeats 400000 in
theorem addSized16_any (B n : Nat) (v : Value) (xs : List Nat) (S : Nat → Prop) (A : Option Addr) (m c : Nat) (ys : List Nat) (w : World) (hown : w.ownsRow B 5 1 v n (ints xs)) (hB : B ≤ w.heap.size) (hn : n ≤ 70368744177) (hy : Bs w S A m c ys) (hm : m < 65536) (hS : ∀ b, S b → b < B) :
    Calls Try.prog 54 #[v, .slice A m c] w fun e w' => ∃ v', e = .returned v' ∧ w'.ownsRow B 5 1 v' (n + 2 + m) (ints (xs ++ leB m 2 ++ ys)) ∧ Onto w v w' v' := by
  obtain ⟨i0, hi, hz0, hz1, hz2⟩ := info_parts info_u8
  have HO := Lib.hid hown
  have HY := Lib.hid hy
  have HS := Lib.hid hS
  have hmod : Hid (((m : Int) % 65536) = (m : Int)) := by exact (by omega : ((m : Int) % 65536) = (m : Int))
  have hwr : Hid (IntKind.u16.wrap (m : Int) = (m : Int)) := by
    show _ = _
    rw [IntKind.wrap_u16]
    omega
  clear hown hy hS
  go_enter Try.func54, Try.ntmps54
  go_wp2_with (first
    | (go_at_call 67; refine (add16_any B n m v xs _ HO.out hB (by omega) hm).mono ?_; rintro e w1 ⟨v1, rfl, hown1, hon1⟩; have HO1 := Lib.hid hown1; clear hown1; have hk : ∀ p : Addr, S p.block → w1.cell? p = w.cell? p := (fun p hp => World.cell?_of_block (hon1.grown.block p.block (HY.out.below _ hp) (fun e => by have := own_block HO.out _ e.symm; have := HS.out _ hp; omega))); have HK := Lib.hid hk; clear hk; have hsz1 := hon1.grown.size)
    | (at_builtin; refine wpList_append_src _ rfl _ _ _ rfl B 5 i0 _ 1 1 Try.underlying23 hi hz0 hz1 hz2 rfl (by decide) v1 (n + 2) (ints (xs ++ leB m 2)) rfl HO1.out A m c (ints ys) rfl HY.out.row.src_len (Row.src (HY.out.row.keep HK.out)) (oneCell_ints ys) (by simp only [maxLen]; omega) (by omega) (by omega) ?_; intro v2 w2 hown2 hg2 hat2))
  go_ret
  exact ⟨v2, rfl, by rw [ints_append]; exact hown2, hon1.app hg2 hat2⟩

set_option maxHeartbeats 400000 in
theorem puttext_ok (S S2 : Nat → Prop) (A A2 : Option Addr) (n c m c2 : Nat) (xs ys : List Nat) (w : World) (h : Bs w S A n c xs) (h2 : Bs w S2 A2 m c2 ys) (hn : n ≤ 70368744177) (hm : m ≤ 255) :
    Calls Try.prog 15 #[.slice A n c, .slice A2 m c2] w fun e w' => ∃ A' c', e = .returned (.tuple #[.slice A' (n + 1 + m) c', .int .i64 0]) ∧ Bs w' (fun b => w.heap.size ≤ b ∧ b < w'.heap.size) A' (n + 1 + m) c' (xs ++ leB m 1 ++ ys) ∧ Below w.heap.size w w' := by
  have H := Lib.hid h
  have H2 := Lib.hid h2
  clear h h2
  go_enter Try.func15, Try.ntmps15
  go_wp2_with (first
    | (go_at_call 52; refine (width8 _).mono ?_; rintro e w1 ⟨rfl, rfl⟩)
    | (go_at_call 51; refine (grown_any S A n c (1 + m) xs _ H.out.row H.out.below (by omega) (by omega)).mono ?_; rintro e w1 ⟨v1, rfl, hown1, hb1⟩; have HO := Lib.hid hown1; clear hown1)
    | (go_at_call 50; refine (addSized8_any w.heap.size n v1 xs S2 A2 m c2 ys _ HO.out hb1.size (by omega) (H2.out.later hb1) (by omega) H2.out.below).mono ?_; rintro e w2 ⟨v2, rfl, hown2, hon2⟩; have HO2 := Lib.hid hown2; clear hown2))
  go_ret2
  obtain ⟨A', c', rfl, hB⟩ := bs_own HO2.out (by
    intro y hy
    rcases List.mem_append.1 hy with h | h
    · rcases List.mem_append.1 h with h | h
      · exact H.out.wf y h
      · exact leB_lt _ _ _ h
    · exact H2.out.wf y h)
  have hb := hon2.bel (Bel.call (Bel.refl (Nat.le_refl _)) hb1) (own_block HO.out)
  exact ⟨A', c', rfl, hB, hb.below⟩
theorem puttext_long (A A2 : Option Addr) (n c m c2 : Nat) (w : World) (hm : 255 < m) (hm2 : m ≤ 9223372036854775807) :
    Calls Try.prog 15 #[.slice A n c, .slice A2 m c2] w fun e w' => e = .returned (.tuple #[.slice none 0 0, .int .i64 11]) ∧ w = w' := by
  go_enter Try.func15, Try.ntmps15
  go_wp2
  go_ret2
  exact ⟨rfl, rfl⟩
end Go.Proofs.Ytgekkmhkklbgcaa
