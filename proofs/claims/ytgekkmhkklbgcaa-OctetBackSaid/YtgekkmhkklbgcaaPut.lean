/- Walks of octet's writers: numbers. -/
import Derived.Test.YtgekkmhkklbgcaaOps
import Derived.Test.YtgekkmhkklbgcaaWidth
import Derived.Test.YtgekkmhkklbgcaaNatLe
namespace Go.Proofs.Ytgekkmhkklbgcaa
open Go.RowKit

/-- bytes as values -/
def ints (xs : List Nat) : List Value := xs.map fun x : Nat => Value.int .u8 (x : Int)
theorem ints_append (xs ys : List Nat) : ints (xs ++ ys) = ints xs ++ ints ys := List.map_append
theorem ints_length (xs : List Nat) : (ints xs).length = xs.length := List.length_map ..
/-- world and slice have gone on: only the slice's own row, and what is new, has turned -/
structure Onto (w : World) (v : Value) (w' : World) (v' : Value) : Prop where
  grown : w.grownBy w' v.ownBlock
  at_ : v'.ownBlock = v.ownBlock ∨ ∃ g, v'.ownBlock = some g ∧ w.heap.size ≤ g
theorem Onto.refl (w : World) (v : Value) : Onto w v w v := ⟨World.grownBy.refl _ _, .inl rfl⟩
theorem Onto.trans {w w1 w2 : World} {v v1 v2 : Value} (h : Onto w v w1 v1) (h2 : Onto w1 v1 w2 v2) : Onto w v w2 v2 := by
  refine ⟨⟨h2.grown.os.trans h.grown.os, h2.grown.tape.trans h.grown.tape, h2.grown.output.trans h.grown.output, Nat.le_trans h.grown.size h2.grown.size, fun k hk hne => ?_⟩, ?_⟩
  · refine (h2.grown.block k (Nat.lt_of_lt_of_le hk h.grown.size) (fun e => ?_)).trans (h.grown.block k hk hne)
    rcases h.at_ with h1 | ⟨g, h1, hg⟩
    · exact hne (e.trans h1)
    · rw [h1] at e
      injection e with e
      omega
  · rcases h2.at_ with h1 | ⟨g, h1, hg⟩
    · rcases h.at_ with h3 | ⟨g, h3, hg⟩
      · exact .inl (h1.trans h3)
      · exact .inr ⟨g, h1.trans h3, hg⟩
    · exact .inr ⟨g, h1, Nat.le_trans h.grown.size hg⟩
theorem Onto.alloc {w w1 : World} {v v1 : Value} (h : Onto w v w1 v1) (o : Obj) : Onto w v (w1.alloc o) v1 :=
  ⟨⟨h.grown.os, h.grown.tape, h.grown.output, Nat.le_trans h.grown.size (by simp), fun k hk hne => (Below.heap_alloc w1 o k (Nat.lt_of_lt_of_le hk h.grown.size)).trans (h.grown.block k hk hne)⟩, h.at_⟩
theorem Onto.bel {B : Nat} {w w1 : World} {v v1 : Value} (h : Onto w v w1 v1) {a : World} (hb : Bel B a w) (hv : ∀ g, v.ownBlock = some g → B ≤ g) : Bel B a w1 := hb.grown h.grown hv
theorem Onto.app {w w1 w2 : World} {v v1 v2 : Value} (h : Onto w v w1 v1) (hg : w1.grownBy w2 v1.ownBlock) (ha : v2.ownBlock = v1.ownBlock ∨ v2.ownBlock = some w1.heap.size) : Onto w v w2 v2 :=
  h.trans ⟨hg, ha.imp id fun e => ⟨_, e, Nat.le_refl _⟩⟩

theorem byte_at (x k : Nat) : ((x : Int) / 2 ^ (8 * k) % 256) = ((x / 256 ^ k % 256 : Nat) : Int) := by rw [pow256]; simp
theorem own_block {w : World} {base e size n : Nat} {v : Value} {xs : List Value} (h : w.ownsRow base e size v n xs) : ∀ g, v.ownBlock = some g → base ≤ g := by
  intro g hg
  rcases h.2 with ⟨rfl, _⟩ | ⟨g', cap, cur, rfl, hb, _⟩
  · cases hg
  · simp [Value.ownBlock] at hg; omega

set_option maxHeartbeats 400000 in
theorem grown_any (S : Nat → Prop) (A : Option Addr) (n c : Nat) (k : Nat) (xs : List Nat) (w : World) (h : Row (Ty.nat .u8) w S A n xs) (hS : ∀ b, S b → b < w.heap.size) (hn : n ≤ 70368744177664) (hk : k ≤ 70368744177) :
    Calls Try.prog 51 #[.slice A n c, .int .i64 (k : Int)] w fun e w' => ∃ v, e = .returned v ∧ w'.ownsRow w.heap.size 5 1 v n (ints xs) ∧ Below w.heap.size w w' := by
  have H := Lib.hid h
  have HS := Lib.hid hS
  clear h hS
  obtain ⟨i0, hi, hz0, hz1, hz2⟩ := info_parts info_u8
  go_enter Try.func51, Try.ntmps51
  go_wp2_with (first
    | (at_make; refine wpList_make_own _ rfl _ _ _ rfl w.heap.size 5 i0 _ 1 Try.underlying23 hi hz0 hz1 .i64 .i64 _ (n + k) rfl rfl (by omega) (by rw [hz2]; omega) (by simp only [maxLen]; omega) (Nat.le_refl _) ?_; intro w1 hown1 hg1)
    | (at_builtin; refine wpList_append_src _ rfl _ _ _ rfl w.heap.size 5 i0 _ 1 1 Try.underlying23 hi hz0 hz1 hz2 rfl (by decide) (.slice (some ⟨w.heap.size, 0, none⟩) 0 (n + k)) 0 [] rfl hown1 A n c (ints xs) rfl H.out.src_len (Row.src (H.out.keep (fun p hp => World.cell?_of_block (hg1.block p.block (HS.out _ hp) (by simp))))) (oneCell_ints xs) (by simp only [maxLen]; omega) (by omega) hg1.size ?_; intro v2 w2 hown2 hg2 hat2))
  go_ret
  simp only [Nat.zero_add, List.nil_append] at hown2
  have hb : Bel w.heap.size w w2 := Bel.grown (Bel.grown (Bel.refl (Nat.le_refl _)) hg1 (fun g hg => by cases hg)) hg2 (fun g hg => by simp [Value.ownBlock] at hg; omega)
  exact ⟨_, rfl, hown2, hb.below⟩

set_option maxHeartbeats 1000000 in
theorem add8_any (B n x : Nat) (v : Value) (xs : List Nat) (w : World) (hown : w.ownsRow B 5 1 v n (ints xs)) (hB : B ≤ w.heap.size) (hn : n ≤ 70368744177664) (hx : x < 256) :
    Calls Try.prog 65 #[v, .int .u8 (x : Int)] w fun e w' => ∃ v', e = .returned v' ∧ w'.ownsRow B 5 1 v' (n + 1) (ints (xs ++ leB x 1)) ∧ Onto w v w' v' := by
  obtain ⟨i0, hi, hz0, hz1, hz2⟩ := info_parts info_u8
  have HO := Lib.hid hown
  clear hown
  go_enter Try.func65, Try.ntmps65
  go_wp2_with (go_at_call 52; refine (width8 _).mono ?_; rintro e w1 ⟨rfl, rfl⟩)
  go_loopw [0, 7] (fun u i wr => ∃ k : Nat, k ≤ 1 ∧ i = .int .i64 k ∧ wr.ownsRow B 5 1 u (n + k) (ints (xs ++ leB x k)) ∧ Onto w v wr u) (fun _ i _ => 1 - (intOf i).toNat)
  case atStart => exact ⟨0, Nat.zero_le _, rfl, by simpa [leB] using HO.out, Onto.refl _ _⟩
  case round =>
    obtain ⟨k, hk, rfl, hown, hon⟩ := hrel
    have HO2 := Lib.hid hown
    have HON := Lib.hid hon
    have hsz : B ≤ wr.heap.size := Nat.le_trans hB hon.grown.size
    clear hown hon
    have hby := Lib.hid (byte_at x k)
    by_cases hlt : k < 1
    · go_wp2_with (at_builtin; refine wpList_append_src _ rfl _ _ _ rfl B 5 i0 _ 1 1 Try.underlying23 hi hz0 hz1 hz2 rfl (by decide) u0 (n + k) (ints (xs ++ leB x k)) rfl (HO2.out.alloc _) (some ⟨wr.heap.size, 0, none⟩) 1 1 [.int .u8 ((x : Int) / 2 ^ (8 * k) % 256)] rfl rfl (SrcCells.one _ _ _) (by simp [Value.oneCell']) (by simp only [maxLen]; omega) (by omega) (by simp; omega) ?_; intro v1 w1 hown1 hg1 hat1)
      go_roundw
      case rel =>
        refine ⟨k + 1, by omega, by go_num, ?_, ?_⟩
        · rw [leB_succ, ← List.append_assoc, ints_append]
          rw [hby.out] at hown1
          exact hown1
        · exact Onto.app (HON.out.alloc _) hg1 hat1
      case measure => simp [intOf]; omega
    · obtain rfl : k = 1 := by omega
      go_wp2
      go_ret
      exact ⟨_, rfl, HO2.out, HON.out⟩

set_option maxHeartbeats 1000000 in
theorem add16_any (B n x : Nat) (v : Value) (xs : List Nat) (w : World) (hown : w.ownsRow B 5 1 v n (ints xs)) (hB : B ≤ w.heap.size) (hn : n ≤ 70368744177664) (hx : x < 65536) :
    Calls Try.prog 67 #[v, .int .u16 (x : Int)] w fun e w' => ∃ v', e = .returned v' ∧ w'.ownsRow B 5 1 v' (n + 2) (ints (xs ++ leB x 2)) ∧ Onto w v w' v' := by
  obtain ⟨i0, hi, hz0, hz1, hz2⟩ := info_parts info_u8
  have HO := Lib.hid hown
  clear hown
  go_enter Try.func67, Try.ntmps67
  go_wp2_with (go_at_call 53; refine (width16 _).mono ?_; rintro e w1 ⟨rfl, rfl⟩)
  go_loopw [0, 7] (fun u i wr => ∃ k : Nat, k ≤ 2 ∧ i = .int .i64 k ∧ wr.ownsRow B 5 1 u (n + k) (ints (xs ++ leB x k)) ∧ Onto w v wr u) (fun _ i _ => 2 - (intOf i).toNat)
  case atStart => exact ⟨0, Nat.zero_le _, rfl, by simpa [leB] using HO.out, Onto.refl _ _⟩
  case round =>
    obtain ⟨k, hk, rfl, hown, hon⟩ := hrel
    have HO2 := Lib.hid hown
    have HON := Lib.hid hon
    have hsz : B ≤ wr.heap.size := Nat.le_trans hB hon.grown.size
    clear hown hon
    have hby := Lib.hid (byte_at x k)
    by_cases hlt : k < 2
    · go_wp2_with (at_builtin; refine wpList_append_src _ rfl _ _ _ rfl B 5 i0 _ 1 1 Try.underlying23 hi hz0 hz1 hz2 rfl (by decide) u0 (n + k) (ints (xs ++ leB x k)) rfl (HO2.out.alloc _) (some ⟨wr.heap.size, 0, none⟩) 1 1 [.int .u8 ((x : Int) / 2 ^ (8 * k) % 256)] rfl rfl (SrcCells.one _ _ _) (by simp [Value.oneCell']) (by simp only [maxLen]; omega) (by omega) (by simp; omega) ?_; intro v1 w1 hown1 hg1 hat1)
      go_roundw
      case rel =>
        refine ⟨k + 1, by omega, by go_num, ?_, ?_⟩
        · rw [leB_succ, ← List.append_assoc, ints_append]
          rw [hby.out] at hown1
          exact hown1
        · exact Onto.app (HON.out.alloc _) hg1 hat1
      case measure => simp [intOf]; omega
    · obtain rfl : k = 2 := by omega
      go_wp2
      go_ret
      exact ⟨_, rfl, HO2.out, HON.out⟩

set_option maxHeartbeats 1000000 in
theorem add32_any (B n x : Nat) (v : Value) (xs : List Nat) (w : World) (hown : w.ownsRow B 5 1 v n (ints xs)) (hB : B ≤ w.heap.size) (hn : n ≤ 70368744177664) (hx : x < 4294967296) :
    Calls Try.prog 72 #[v, .int .u32 (x : Int)] w fun e w' => ∃ v', e = .returned v' ∧ w'.ownsRow B 5 1 v' (n + 4) (ints (xs ++ leB x 4)) ∧ Onto w v w' v' := by
  obtain ⟨i0, hi, hz0, hz1, hz2⟩ := info_parts info_u8
  have HO := Lib.hid hown
  clear hown
  go_enter Try.func72, Try.ntmps72
  go_wp2_with (go_at_call 70; refine (width32 _).mono ?_; rintro e w1 ⟨rfl, rfl⟩)
  go_loopw [0, 7] (fun u i wr => ∃ k : Nat, k ≤ 4 ∧ i = .int .i64 k ∧ wr.ownsRow B 5 1 u (n + k) (ints (xs ++ leB x k)) ∧ Onto w v wr u) (fun _ i _ => 4 - (intOf i).toNat)
  case atStart => exact ⟨0, Nat.zero_le _, rfl, by simpa [leB] using HO.out, Onto.refl _ _⟩
  case round =>
    obtain ⟨k, hk, rfl, hown, hon⟩ := hrel
    have HO2 := Lib.hid hown
    have HON := Lib.hid hon
    have hsz : B ≤ wr.heap.size := Nat.le_trans hB hon.grown.size
    clear hown hon
    have hby := Lib.hid (byte_at x k)
    by_cases hlt : k < 4
    · go_wp2_with (at_builtin; refine wpList_append_src _ rfl _ _ _ rfl B 5 i0 _ 1 1 Try.underlying23 hi hz0 hz1 hz2 rfl (by decide) u0 (n + k) (ints (xs ++ leB x k)) rfl (HO2.out.alloc _) (some ⟨wr.heap.size, 0, none⟩) 1 1 [.int .u8 ((x : Int) / 2 ^ (8 * k) % 256)] rfl rfl (SrcCells.one _ _ _) (by simp [Value.oneCell']) (by simp only [maxLen]; omega) (by omega) (by simp; omega) ?_; intro v1 w1 hown1 hg1 hat1)
      go_roundw
      case rel =>
        refine ⟨k + 1, by omega, by go_num, ?_, ?_⟩
        · rw [leB_succ, ← List.append_assoc, ints_append]
          rw [hby.out] at hown1
          exact hown1
        · exact Onto.app (HON.out.alloc _) hg1 hat1
      case measure => simp [intOf]; omega
    · obtain rfl : k = 4 := by omega
      go_wp2
      go_ret
      exact ⟨_, rfl, HO2.out, HON.out⟩

set_option maxHeartbeats 1000000 in
theorem add64_any (B n x : Nat) (v : Value) (xs : List Nat) (w : World) (hown : w.ownsRow B 5 1 v n (ints xs)) (hB : B ≤ w.heap.size) (hn : n ≤ 70368744177664) (hx : x < 18446744073709551616) :
    Calls Try.prog 73 #[v, .int .u64 (x : Int)] w fun e w' => ∃ v', e = .returned v' ∧ w'.ownsRow B 5 1 v' (n + 8) (ints (xs ++ leB x 8)) ∧ Onto w v w' v' := by
  obtain ⟨i0, hi, hz0, hz1, hz2⟩ := info_parts info_u8
  have HO := Lib.hid hown
  clear hown
  go_enter Try.func73, Try.ntmps73
  go_wp2_with (go_at_call 71; refine (width64 _).mono ?_; rintro e w1 ⟨rfl, rfl⟩)
  go_loopw [0, 7] (fun u i wr => ∃ k : Nat, k ≤ 8 ∧ i = .int .i64 k ∧ wr.ownsRow B 5 1 u (n + k) (ints (xs ++ leB x k)) ∧ Onto w v wr u) (fun _ i _ => 8 - (intOf i).toNat)
  case atStart => exact ⟨0, Nat.zero_le _, rfl, by simpa [leB] using HO.out, Onto.refl _ _⟩
  case round =>
    obtain ⟨k, hk, rfl, hown, hon⟩ := hrel
    have HO2 := Lib.hid hown
    have HON := Lib.hid hon
    have hsz : B ≤ wr.heap.size := Nat.le_trans hB hon.grown.size
    clear hown hon
    have hby := Lib.hid (byte_at x k)
    by_cases hlt : k < 8
    · go_wp2_with (at_builtin; refine wpList_append_src _ rfl _ _ _ rfl B 5 i0 _ 1 1 Try.underlying23 hi hz0 hz1 hz2 rfl (by decide) u0 (n + k) (ints (xs ++ leB x k)) rfl (HO2.out.alloc _) (some ⟨wr.heap.size, 0, none⟩) 1 1 [.int .u8 ((x : Int) / 2 ^ (8 * k) % 256)] rfl rfl (SrcCells.one _ _ _) (by simp [Value.oneCell']) (by simp only [maxLen]; omega) (by omega) (by simp; omega) ?_; intro v1 w1 hown1 hg1 hat1)
      go_roundw
      case rel =>
        refine ⟨k + 1, by omega, by go_num, ?_, ?_⟩
        · rw [leB_succ, ← List.append_assoc, ints_append]
          rw [hby.out] at hown1
          exact hown1
        · exact Onto.app (HON.out.alloc _) hg1 hat1
      case measure => simp [intOf]; omega
    · obtain rfl : k = 8 := by omega
      go_wp2
      go_ret
      exact ⟨_, rfl, HO2.out, HON.out⟩
end Go.Proofs.Ytgekkmhkklbgcaa
