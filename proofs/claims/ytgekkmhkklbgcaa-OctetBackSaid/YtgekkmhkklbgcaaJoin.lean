/- Walks of octet's Join. -/
import Derived.Test.YtgekkmhkklbgcaaPut2
namespace Go.Proofs.Ytgekkmhkklbgcaa
open Go.RowKit

/-- the joined form -/
def joinB : List (List Nat) → List Nat
  | [] => []
  | l :: r => leB l.length 2 ++ l ++ joinB r
theorem joinB_append (ls : List (List Nat)) (l : List Nat) : joinB (ls ++ [l]) = joinB ls ++ leB l.length 2 ++ l := by
  induction ls with
  | nil => simp [joinB]
  | cons x r ih => simp [joinB, ih]
def joinN : List (List Nat) → Nat
  | [] => 0
  | l :: r => 2 + l.length + joinN r
theorem joinN_append (ls : List (List Nat)) (l : List Nat) : joinN (ls ++ [l]) = joinN ls + 2 + l.length := by
  induction ls with
  | nil => simp [joinN]
  | cons x r ih => simp [joinN, ih]; omega
theorem joinB_length (ls : List (List Nat)) : (joinB ls).length = joinN ls := by
  induction ls with
  | nil => rfl
  | cons x r ih => simp [joinB, joinN, ih, leB_length]; omega
theorem joinN_le (ls : List (List Nat)) (h : ∀ l ∈ ls, l.length ≤ 65535) : joinN ls ≤ 65537 * ls.length := by
  induction ls with
  | nil => simp [joinN]
  | cons x r ih =>
    have h1 := h x (List.mem_cons_self ..)
    have h2 := ih fun l hl => h l (List.mem_cons_of_mem _ hl)
    simp only [joinN, List.length_cons]
    omega
theorem take_succL {α : Type} (xs : List α) (k : Nat) (x : α) (h : xs[k]? = some x) : xs.take (k + 1) = xs.take k ++ [x] := by
  rw [List.take_add_one, h]
  rfl
theorem take_joinN (ls : List (List Nat)) (k : Nat) (l : List Nat) (h : ls[k]? = some l) : joinN (ls.take (k + 1)) = joinN (ls.take k) + 2 + l.length := by rw [take_succL ls k l h, joinN_append]
theorem take_joinB (ls : List (List Nat)) (k : Nat) (l : List Nat) (h : ls[k]? = some l) : joinB (ls.take (k + 1)) = joinB (ls.take k) ++ leB l.length 2 ++ l := by rw [take_succL ls k l h, joinB_append]

/-- a slice of byte slices that reads as ls -/
structure Ls (w : World) (S : Nat → Prop) (A : Option Addr) (n cap : Nat) (ls : List (List Nat)) : Prop where
  row : Row (Ty.slice (Ty.nat .u8)) w S A n ls
  below : ∀ b, S b → b < w.heap.size
  room : n ≤ cap
  most : cap ≤ 9223372036854775807
theorem Ls.later {w w' : World} {S : Nat → Prop} {A : Option Addr} {n cap : Nat} {ls : List (List Nat)} (h : Ls w S A n cap ls) (hb : Below w.heap.size w w') : Ls w' S A n cap ls :=
  ⟨h.row.below hb h.below, fun b hS => Nat.lt_of_lt_of_le (h.below b hS) hb.size, h.room, h.most⟩
theorem Ls.at_ {w : World} {S : Nat → Prop} {A : Option Addr} {n cap : Nat} {ls : List (List Nat)} (h : Ls w S A n cap ls) {k : Nat} (hk : k < n) :
    ∃ b off l A' c', A = some ⟨b, off, none⟩ ∧ ls[k]? = some l ∧ w.cell? ⟨b, off + k, none⟩ = some (.slice A' l.length c') ∧ Bs w S A' l.length c' l := by
  have hl := h.row.1
  obtain ⟨b, off, e, _, hc⟩ := Row.one rfl h.row (by omega)
  obtain ⟨v, hr, hv⟩ := hc k _ (List.getElem?_eq_getElem (by omega))
  obtain ⟨A', m, c', rfl, h1, h2, _, h4⟩ := rep_slice hr
  obtain rfl := h4.1
  exact ⟨b, off, _, A', c', e, List.getElem?_eq_getElem (by omega), hv, h4, h.below, h1, h2⟩

theorem joinB_mem (ls : List (List Nat)) (h : ∀ l ∈ ls, ∀ y ∈ l, y < 256) : ∀ y ∈ joinB ls, y < 256 := by
  induction ls with
  | nil => intro y hy; cases hy
  | cons x r ih =>
    intro y hy
    simp only [joinB] at hy
    rcases List.mem_append.1 hy with h1 | h1
    · rcases List.mem_append.1 h1 with h2 | h2
      · exact leB_lt _ _ _ h2
      · exact h x (List.mem_cons_self ..) y h2
    · exact ih (fun l hl => h l (List.mem_cons_of_mem _ hl)) y h1
theorem Ls.wf {w : World} {S : Nat → Prop} {A : Option Addr} {n cap : Nat} {ls : List (List Nat)} (h : Ls w S A n cap ls) : ∀ l ∈ ls, ∀ y ∈ l, y < 256 := by
  intro l hl
  obtain ⟨k, hk, rfl⟩ := List.getElem_of_mem hl
  obtain ⟨b, off, l', A', c', _, hx, _, hB⟩ := h.at_ (k := k) (by have := h.row.1; omega)
  rw [List.getElem?_eq_getElem hk] at hx
  injection hx with hx
  subst hx
  exact hB.wf
theorem Ls.joinB_lt {w : World} {S : Nat → Prop} {A : Option Addr} {n cap : Nat} {ls : List (List Nat)} (h : Ls w S A n cap ls) : ∀ y ∈ joinB ls, y < 256 := joinB_mem ls h.wf

theorem join_many (A : Option Addr) (n c : Nat) (w : World) (hn : 256 < n) (hn2 : n ≤ 9223372036854775807) :
    Calls Try.prog 16 #[.slice A n c] w fun e w' => e = .returned (.tuple #[.slice none 0 0, .int .i64 4]) ∧ w = w' := by
  go_enter Try.func16, Try.ntmps16
  go_wp2
  go_ret2
  exact ⟨rfl, rfl⟩

set_option maxHeartbeats 1000000 in
theorem join_long (S : Nat → Prop) (A : Option Addr) (n c : Nat) (ls : List (List Nat)) (w : World) (h : Ls w S A n c ls) (hn : n ≤ 256) (hlong : ∃ l ∈ ls, 65535 < l.length) :
    Calls Try.prog 16 #[.slice A n c] w fun e w' => e = .returned (.tuple #[.slice none 0 0, .int .i64 11]) ∧ w = w' := by
  have H := Lib.hid h
  have HL := Lib.hid hlong
  clear h hlong
  go_enter Try.func16, Try.ntmps16
  go_wp2
  go_loop [4, 15] (fun s i => ∃ k : Nat, k ≤ n ∧ i = .int .i64 k ∧ s = .int .i64 (joinN (ls.take k) : Int) ∧ ∀ l ∈ ls.take k, l.length ≤ 65535) (fun _ i => n - (intOf i).toNat)
  case atStart => exact ⟨0, Nat.zero_le _, rfl, rfl, by simp⟩
  case round =>
    obtain ⟨k, hk, rfl, rfl, hall⟩ := hrel
    have hsum := joinN_le _ hall
    rw [List.length_take] at hsum
    have HA := Lib.hid hall
    clear hall
    by_cases hlt : k < n
    · obtain ⟨b, off, l, A', c', rfl, hx, hcell, hB⟩ := H.out.at_ hlt
      have HX := Lib.hid hx
      have HJ := Lib.hid (take_joinN ls k l hx)
      have hmx : l.length ≤ 9223372036854775807 := Nat.le_trans hB.room hB.most
      clear hx hB
      by_cases hbig : 65535 < l.length
      · go_wp2
        go_ret2
        exact ⟨rfl, rfl⟩
      · go_wp2_with (go_at_call 53; refine (width16 _).mono ?_; rintro e w1 ⟨rfl, rfl⟩)
        go_round
        case rel =>
          refine ⟨k + 1, by omega, by go_num, by rw [HJ.out]; go_num, ?_⟩
          rw [take_succL ls k l HX.out]
          intro y hy
          rcases List.mem_append.1 hy with h | h
          · exact HA.out y h
          · rw [List.mem_singleton.1 h]; omega
        case measure => simp [intOf]; omega
    · obtain rfl : k = n := by omega
      exfalso
      obtain ⟨l, hl, hbig⟩ := HL.out
      have := HA.out l (by rw [List.take_of_length_le (by have := H.out.row.1; omega)]; exact hl)
      omega

set_option maxHeartbeats 1000000 in
theorem join_ok (S : Nat → Prop) (A : Option Addr) (n c : Nat) (ls : List (List Nat)) (w : World) (h : Ls w S A n c ls) (hn : n ≤ 256) (hall : ∀ l ∈ ls, l.length ≤ 65535) :
    Calls Try.prog 16 #[.slice A n c] w fun e w' => ∃ A' c', e = .returned (.tuple #[.slice A' (joinN ls) c', .int .i64 0]) ∧ Bs w' (fun b => w.heap.size ≤ b ∧ b < w'.heap.size) A' (joinN ls) c' (joinB ls) ∧ Below w.heap.size w w' := by
  obtain ⟨i0, hi, hz0, hz1, hz2⟩ := info_parts info_u8
  have H := Lib.hid h
  have HA := Lib.hid hall
  have hlen := h.row.1
  have hsz := joinN_le ls hall
  have hsl : ∀ k, joinN (ls.take k) ≤ 65537 * 256 := fun k => Nat.le_trans (joinN_le _ fun l hl => hall l (List.mem_of_mem_take hl)) (by rw [List.length_take]; omega)
  have HSL := Lib.hid hsl
  clear h hall hsl
  go_enter Try.func16, Try.ntmps16
  go_wp2
  go_loop [4, 15] (fun s i => ∃ k : Nat, k ≤ n ∧ i = .int .i64 k ∧ s = .int .i64 (joinN (ls.take k) : Int)) (fun _ i => n - (intOf i).toNat)
  case atStart => exact ⟨0, Nat.zero_le _, rfl, rfl⟩
  case round =>
    obtain ⟨k, hk, rfl, rfl⟩ := hrel
    have hsum := HSL.out k
    by_cases hlt : k < n
    · obtain ⟨b, off, l, A', c', rfl, hx, hcell, hB⟩ := H.out.at_ hlt
      have HJ := Lib.hid (take_joinN ls k l hx)
      have hsmall := HA.out l (List.mem_of_getElem? hx)
      clear hx hB
      go_wp2_with (go_at_call 53; refine (width16 _).mono ?_; rintro e w1 ⟨rfl, rfl⟩)
      go_round
      case rel => exact ⟨k + 1, by omega, by go_num, by rw [HJ.out]; go_num⟩
      case measure => simp [intOf]; omega
    · obtain rfl : k = n := by omega
      have hfull : Hid (joinN (ls.take k) = joinN ls) := by show _ = _; rw [List.take_of_length_le (by omega)]
      have hcap : Hid (joinB (ls.take k) = joinB ls) := by show _ = _; rw [List.take_of_length_le (by omega)]
      go_wp2_with (at_make; refine wpList_make_own _ rfl _ _ _ rfl w.heap.size 5 i0 _ 1 Try.underlying23 hi hz0 hz1 .i64 .i64 _ (joinN (ls.take k)) rfl rfl rfl (by rw [hz2]; omega) (by simp only [maxLen]; omega) (Nat.le_refl _) ?_; intro w1 hown1 hg1)
      go_loopw [7, 33] (fun v i wr => ∃ j : Nat, j ≤ k ∧ i = .int .i64 j ∧ wr.ownsRow w.heap.size 5 1 v (joinN (ls.take j)) (ints (joinB (ls.take j))) ∧ Bel w.heap.size w wr) (fun _ i _ => k - (intOf i).toNat)
      case atStart => exact ⟨0, Nat.zero_le _, rfl, hown1, Bel.grown (Bel.refl (Nat.le_refl _)) hg1 (fun g hg => by cases hg)⟩
      case round =>
        obtain ⟨j, hj, rfl, hown, hbel⟩ := hrel
        have HO := Lib.hid hown
        have HB := Lib.hid hbel
        have hsumj := HSL.out j
        clear hown hbel hown1 hg1
        by_cases hlt2 : j < k
        · obtain ⟨b, off, l, A', c', rfl, hx, hcell, hBl⟩ := (H.out.later HB.out.below).at_ hlt2
          have HX := Lib.hid hx
          have HBl := Lib.hid hBl
          have hsmall := HA.out l (List.mem_of_getElem? hx)
          have hle := HB.out.below.size
          clear hx hBl
          go_wp2_with (go_at_call 54; refine (addSized16_any w.heap.size (joinN (ls.take j)) u7 (joinB (ls.take j)) S A' l.length c' l _ HO.out hle (by omega) HBl.out (by omega) H.out.below).mono ?_; rintro e w2 ⟨v2, rfl, hown2, hon2⟩; have HO2 := Lib.hid hown2; have HON := Lib.hid hon2; clear hown2 hon2)
          go_roundw
          case rel =>
            refine ⟨j + 1, by omega, by go_num, ?_, HON.out.bel HB.out (own_block HO.out)⟩
            rw [take_joinN ls j l HX.out, take_joinB ls j l HX.out]
            exact HO2.out
          case measure => simp [intOf]; omega
        · obtain rfl : j = k := by omega
          go_wp2
          go_ret2
          rw [hfull.out, hcap.out] at HO
          obtain ⟨A', c', rfl, hB⟩ := bs_own HO.out (by
            exact H.out.joinB_lt)
          exact ⟨A', c', rfl, hB, HB.out.below⟩
end Go.Proofs.Ytgekkmhkklbgcaa
