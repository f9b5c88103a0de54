/- Walks of octet's readers: texts, Done. -/
import Derived.Test.YtgekkmhkklbgcaaRead3
namespace Go.Proofs.Ytgekkmhkklbgcaa
open Go.RowKit

/-- a sized read: its error, its bytes, how far it goes; d bytes hold the size -/
def sizB (bs : List Nat) (x : Int) (d : Int) : Int := (leV (cutB bs x d) : Int)
def sizE (bs : List Nat) (x d : Int) : Int := if cutE bs.length x d = 0 then cutE bs.length (x + d) (sizB bs x d) else cutE bs.length x d
def sizV (bs : List Nat) (x d : Int) : List Nat := if cutE bs.length x d = 0 then cutB bs (x + d) (sizB bs x d) else []

theorem siz8_lt {w : World} {S : Nat → Prop} {A : Option Addr} {len cap : Nat} {bs : List Nat} (h : Bs w S A len cap bs) (x : Int) : 0 ≤ sizB bs x 1 ∧ sizB bs x 1 < 256 := by
  have h1 := leV_lt (cutB bs x 1) (fun y hy => h.wf y (by
    unfold cutB at hy
    split at hy
    · exact List.mem_of_mem_drop (List.mem_of_mem_take hy)
    · cases hy))
  have h2 : (cutB bs x 1).length ≤ 1 := by
    unfold cutB
    split
    · rw [List.length_take]; omega
    · simp
  have h3 : 256 ^ (cutB bs x 1).length ≤ 256 ^ 1 := Nat.pow_le_pow_right (by omega) h2
  unfold sizB
  omega

set_option maxHeartbeats 1000000 in
theorem sized8_any {w : World} {S : Nat → Prop} {A : Option Addr} {len cap : Nat} {bs : List Nat} (h : Bs w S A len cap bs) (x : Int) (b0 : -9223372036854775808 ≤ x) (b1 : x ≤ 9223372036854775807) (hlen : len ≤ 70368744177664) :
    ∃ A2 l2 c2 x2, RdOut A len cap x (1 + sizB bs x 1) (sizE bs x 1) A2 l2 c2 x2 ∧
      ∀ W : World, Below w.heap.size w W → Calls Try.prog 49 #[.agg #[.slice A len cap, .int .i64 x]] W fun e w' =>
        ∃ A' m c', e = .returned (.tuple #[.slice A' m c', .agg #[.slice A2 l2 c2, .int .i64 x2], .int .i64 (sizE bs x 1)]) ∧ Bs w' (fun b => W.heap.size ≤ b ∧ b < w'.heap.size) A' m c' (sizV bs x 1) ∧ Below W.heap.size W w' := by
  have hl := h.row.1
  have hm := h.most
  have hr := h.room
  have hsz := siz8_lt h x
  obtain ⟨A1, l1, c1, x1, hout1, hget⟩ := u8_any h x b0 b1
  by_cases he : cutE len x 1 = 0
  · rcases hout1 with ⟨_, rfl, rfl, rfl, rfl⟩ | ⟨hne, _⟩
    case inr => exact absurd he hne
    have hz := cutE_zero he
    obtain ⟨A2, l2, c2, x2, hout2, htake⟩ := take_any h (x + 1) (sizB bs x 1) (by omega) (by omega) hlen
    have eE : sizE bs x 1 = cutE l1 (x + 1) (sizB bs x 1) := by unfold sizE; rw [hl, if_pos he]
    have eV : sizV bs x 1 = cutB bs (x + 1) (sizB bs x 1) := by unfold sizV; rw [hl, if_pos he]
    refine ⟨A2, l2, c2, x2, ?_, fun W hW => ?_⟩
    · rw [eE]
      rcases hout2 with ⟨a, b, c, d, e⟩ | ⟨a, b, c, d, e⟩
      · exact .inl ⟨a, b, c, d, by omega⟩
      · exact .inr ⟨a, b, c, d, e⟩
    rw [eE, eV]
    have HG := Lib.hid hget
    have HT := Lib.hid htake
    have HW := Lib.hid hW
    have HE := Lib.hid he
    have HS : Hid (sizB bs x 1 = (leV (cutB bs x 1) : Int)) := by exact rfl
    clear hget htake hW he eE eV hout2
    generalize sizB bs x 1 = sb at *
    go_enter Try.func49, Try.ntmps49
    go_wp2_with (first | (go_at_call 46; refine (HG.out _ ?_).mono ?_; (exact HW.out.trans (Below.mono (by (refine Bel.below ?_; repeat' (first | (with_reducible assumption) | (with_reducible exact Bel.refl (Nat.le_refl _)) | (with_reducible apply Bel.drew) | (with_reducible apply Bel.drewN) | (with_reducible apply Bel.alloc) | (with_reducible refine Bel.set ?_ ?_ _) | (with_reducible refine Bel.call ?_ (by with_reducible assumption)) | (with_reducible exact Nat.le_refl _) | (simp; done) | (simp; omega))) : Below W.heap.size W _) HW.out.size)); rw [HE.out, ← HS.out]; rintro e w1 ⟨rfl, hb1⟩; have hB5 : Box w1 (W.heap.size + 1) 25 #[.slice none 0 0, .int .i64 0] := (by (repeat' (first | (with_reducible assumption) | (with_reducible exact Box.new _ _ _) | (with_reducible refine Box.newAt _ _ _ ?_; simp; done) | (with_reducible apply Box.put2) | (with_reducible apply Box.drew) | (with_reducible apply Box.drewN) | (with_reducible apply Box.alloc) | (with_reducible refine Box.call ?_ (by with_reducible assumption)) | (with_reducible refine Box.far ?_ _ ?_) | (simp; done) | (simp; omega)))); have hB5c0 : World.cell? w1 ⟨W.heap.size + 1, 0, none⟩ = some (.slice none 0 0) := Box.cell hB5 0; have hB5c1 : World.cell? w1 ⟨W.heap.size + 1, 1, none⟩ = some (.int .i64 0) := Box.cell hB5 1; have hB5f0 := Box.frozen hB5 0; have hB5f1 := Box.frozen hB5 1) | (go_at_call 13; refine (HT.out _ ?_).mono ?_; (exact HW.out.trans (Below.mono (by (refine Bel.below ?_; repeat' (first | (with_reducible assumption) | (with_reducible exact Bel.refl (Nat.le_refl _)) | (with_reducible apply Bel.drew) | (with_reducible apply Bel.drewN) | (with_reducible apply Bel.alloc) | (with_reducible refine Bel.set ?_ ?_ _) | (with_reducible refine Bel.call ?_ (by with_reducible assumption)) | (with_reducible exact Nat.le_refl _) | (simp; done) | (simp; omega))) : Below W.heap.size W _) HW.out.size)); rintro e w2 ⟨A', m', c', rfl, hB', hb2⟩; have hB6 : Box w2 (W.heap.size + 1) 25 #[.slice none 0 0, .int .i64 0] := (by (repeat' (first | (with_reducible assumption) | (with_reducible exact Box.new _ _ _) | (with_reducible refine Box.newAt _ _ _ ?_; simp; done) | (with_reducible apply Box.put2) | (with_reducible apply Box.drew) | (with_reducible apply Box.drewN) | (with_reducible apply Box.alloc) | (with_reducible refine Box.call ?_ (by with_reducible assumption)) | (with_reducible refine Box.far ?_ _ ?_) | (simp; done) | (simp; omega)))); have hB6c0 : World.cell? w2 ⟨W.heap.size + 1, 0, none⟩ = some (.slice none 0 0) := Box.cell hB6 0; have hB6c1 : World.cell? w2 ⟨W.heap.size + 1, 1, none⟩ = some (.int .i64 0) := Box.cell hB6 1; have hB6f0 := Box.frozen hB6 0; have hB6f1 := Box.frozen hB6 1))
    have hz1 : W.heap.size + 1 < w1.heap.size := (by have := hb1.size; simp at this; omega)
    have hE : Below W.heap.size W ((w2.setCell ⟨W.heap.size + 1, 0, none⟩ (.slice A2 l2 c2)).setCell ⟨W.heap.size + 1, 1, none⟩ (.int .i64 x2)) := by (refine Bel.below ?_; repeat' (first | (with_reducible assumption) | (with_reducible exact Bel.refl (Nat.le_refl _)) | (with_reducible apply Bel.drew) | (with_reducible apply Bel.drewN) | (with_reducible apply Bel.alloc) | (with_reducible refine Bel.set ?_ ?_ _) | (with_reducible refine Bel.call ?_ (by with_reducible assumption)) | (with_reducible exact Nat.le_refl _) | (simp; done) | (simp; omega)))
    have hrow2 := Lib.hid (((hB'.row.setCell (q := ⟨W.heap.size + 1, 0, none⟩) (.slice A2 l2 c2) (by simp; omega)).setCell (q := ⟨W.heap.size + 1, 1, none⟩) (.int .i64 x2) (by simp; omega)).more (S' := fun b => W.heap.size ≤ b ∧ b < ((w2.setCell ⟨W.heap.size + 1, 0, none⟩ (.slice A2 l2 c2)).setCell ⟨W.heap.size + 1, 1, none⟩ (.int .i64 x2)).heap.size) (by intro b hb; have h1 := hb.1; have h2 := hb.2; simp at h1; simp; omega))
    refine bodyPost_ret (v := .tuple #[.slice A' m' c', .agg #[.slice A2 l2 c2, .int .i64 x2], .int .i64 (cutE l1 (x + 1) sb)]) ?_ rfl ⟨A', m', c', rfl, ⟨hrow2.out, fun _ h => h.2, hB'.room, hB'.most⟩, hE⟩
    simp [results, Try.results49, go_sem, hB6c0, hB6c1]
  · rcases hout1 with ⟨hz, _⟩ | ⟨hne, rfl, rfl, rfl, rfl⟩
    · exact absurd hz he
    have eE : sizE bs x 1 = cutE len x 1 := by unfold sizE; rw [hl, if_neg he]
    have eV : sizV bs x 1 = [] := by unfold sizV; rw [hl, if_neg he]
    have e0 : cutB bs x 1 = [] := by unfold cutB; rw [hl, if_neg he]
    refine ⟨none, 0, 0, 0, .inr ⟨by rw [eE]; exact he, rfl, rfl, rfl, rfl⟩, fun W hW => ?_⟩
    rw [eE, eV]
    have HG := Lib.hid hget
    have HW := Lib.hid hW
    have HE := Lib.hid e0
    have hne' : (cutE len x 1 != 0) = true := by simpa using he
    clear hget hW he eE eV e0 hne
    generalize cutE len x 1 = ce at *
    go_enter Try.func49, Try.ntmps49
    go_wp2_with (go_at_call 46; refine (HG.out _ ?_).mono ?_; (exact HW.out.trans (Below.mono (by (refine Bel.below ?_; repeat' (first | (with_reducible assumption) | (with_reducible exact Bel.refl (Nat.le_refl _)) | (with_reducible apply Bel.drew) | (with_reducible apply Bel.drewN) | (with_reducible apply Bel.alloc) | (with_reducible refine Bel.set ?_ ?_ _) | (with_reducible refine Bel.call ?_ (by with_reducible assumption)) | (with_reducible exact Nat.le_refl _) | (simp; done) | (simp; omega))) : Below W.heap.size W _) HW.out.size)); rintro e w1 ⟨rfl, hb1⟩; have hB5 : Box w1 (W.heap.size + 1) 25 #[.slice none 0 0, .int .i64 0] := (by (repeat' (first | (with_reducible assumption) | (with_reducible exact Box.new _ _ _) | (with_reducible refine Box.newAt _ _ _ ?_; simp; done) | (with_reducible apply Box.put2) | (with_reducible apply Box.drew) | (with_reducible apply Box.drewN) | (with_reducible apply Box.alloc) | (with_reducible refine Box.call ?_ (by with_reducible assumption)) | (with_reducible refine Box.far ?_ _ ?_) | (simp; done) | (simp; omega)))); have hB5c0 : World.cell? w1 ⟨W.heap.size + 1, 0, none⟩ = some (.slice none 0 0) := Box.cell hB5 0; have hB5c1 : World.cell? w1 ⟨W.heap.size + 1, 1, none⟩ = some (.int .i64 0) := Box.cell hB5 1; have hB5f0 := Box.frozen hB5 0; have hB5f1 := Box.frozen hB5 1; have hz1 : W.heap.size + 1 < w1.heap.size := (by have := hb1.size; simp at this; omega))
    refine bodyPost_ret (v := .tuple #[.slice none 0 0, .agg #[.slice none 0 0, .int .i64 0], .int .i64 ce]) ?_ rfl ⟨none, 0, 0, rfl, ⟨Row.nil _ _ _ _, fun _ h => h.2, Nat.le_refl _, by omega⟩, ?_⟩
    · simp [results, Try.results49, go_sem, hB5c0, hB5c1, hz1]
    · (refine Bel.below ?_; repeat' (first | (with_reducible assumption) | (with_reducible exact Bel.refl (Nat.le_refl _)) | (with_reducible apply Bel.drew) | (with_reducible apply Bel.drewN) | (with_reducible apply Bel.alloc) | (with_reducible refine Bel.set ?_ ?_ _) | (with_reducible refine Bel.call ?_ (by with_reducible assumption)) | (with_reducible exact Nat.le_refl _) | (simp; done) | (simp; omega)))

theorem siz16_lt {w : World} {S : Nat → Prop} {A : Option Addr} {len cap : Nat} {bs : List Nat} (h : Bs w S A len cap bs) (x : Int) : 0 ≤ sizB bs x 2 ∧ sizB bs x 2 < 65536 := by
  have h1 := leV_lt (cutB bs x 2) (fun y hy => h.wf y (by
    unfold cutB at hy
    split at hy
    · exact List.mem_of_mem_drop (List.mem_of_mem_take hy)
    · cases hy))
  have h2 : (cutB bs x 2).length ≤ 2 := by
    unfold cutB
    split
    · rw [List.length_take]; omega
    · simp
  have h3 : 256 ^ (cutB bs x 2).length ≤ 256 ^ 2 := Nat.pow_le_pow_right (by omega) h2
  unfold sizB
  omega

set_option maxHeartbeats 1000000 in
theorem sized16_any {w : World} {S : Nat → Prop} {A : Option Addr} {len cap : Nat} {bs : List Nat} (h : Bs w S A len cap bs) (x : Int) (b0 : -9223372036854775808 ≤ x) (b1 : x ≤ 9223372036854775807) (hlen : len ≤ 70368744177664) :
    ∃ A2 l2 c2 x2, RdOut A len cap x (2 + sizB bs x 2) (sizE bs x 2) A2 l2 c2 x2 ∧
      ∀ W : World, Below w.heap.size w W → Calls Try.prog 69 #[.agg #[.slice A len cap, .int .i64 x]] W fun e w' =>
        ∃ A' m c', e = .returned (.tuple #[.slice A' m c', .agg #[.slice A2 l2 c2, .int .i64 x2], .int .i64 (sizE bs x 2)]) ∧ Bs w' (fun b => W.heap.size ≤ b ∧ b < w'.heap.size) A' m c' (sizV bs x 2) ∧ Below W.heap.size W w' := by
  have hl := h.row.1
  have hm := h.most
  have hr := h.room
  have hsz := siz16_lt h x
  obtain ⟨A1, l1, c1, x1, hout1, hget⟩ := u16_any h x b0 b1
  by_cases he : cutE len x 2 = 0
  · rcases hout1 with ⟨_, rfl, rfl, rfl, rfl⟩ | ⟨hne, _⟩
    case inr => exact absurd he hne
    have hz := cutE_zero he
    obtain ⟨A2, l2, c2, x2, hout2, htake⟩ := take_any h (x + 2) (sizB bs x 2) (by omega) (by omega) hlen
    have eE : sizE bs x 2 = cutE l1 (x + 2) (sizB bs x 2) := by unfold sizE; rw [hl, if_pos he]
    have eV : sizV bs x 2 = cutB bs (x + 2) (sizB bs x 2) := by unfold sizV; rw [hl, if_pos he]
    refine ⟨A2, l2, c2, x2, ?_, fun W hW => ?_⟩
    · rw [eE]
      rcases hout2 with ⟨a, b, c, d, e⟩ | ⟨a, b, c, d, e⟩
      · exact .inl ⟨a, b, c, d, by omega⟩
      · exact .inr ⟨a, b, c, d, e⟩
    rw [eE, eV]
    have HG := Lib.hid hget
    have HT := Lib.hid htake
    have HW := Lib.hid hW
    have HE := Lib.hid he
    have HS : Hid (sizB bs x 2 = (leV (cutB bs x 2) : Int)) := by exact rfl
    clear hget htake hW he eE eV hout2
    generalize sizB bs x 2 = sb at *
    go_enter Try.func69, Try.ntmps69
    go_wp2_with (first | (go_at_call 45; refine (HG.out _ ?_).mono ?_; (exact HW.out.trans (Below.mono (by (refine Bel.below ?_; repeat' (first | (with_reducible assumption) | (with_reducible exact Bel.refl (Nat.le_refl _)) | (with_reducible apply Bel.drew) | (with_reducible apply Bel.drewN) | (with_reducible apply Bel.alloc) | (with_reducible refine Bel.set ?_ ?_ _) | (with_reducible refine Bel.call ?_ (by with_reducible assumption)) | (with_reducible exact Nat.le_refl _) | (simp; done) | (simp; omega))) : Below W.heap.size W _) HW.out.size)); rw [HE.out, ← HS.out]; rintro e w1 ⟨rfl, hb1⟩; have hB5 : Box w1 (W.heap.size + 1) 25 #[.slice none 0 0, .int .i64 0] := (by (repeat' (first | (with_reducible assumption) | (with_reducible exact Box.new _ _ _) | (with_reducible refine Box.newAt _ _ _ ?_; simp; done) | (with_reducible apply Box.put2) | (with_reducible apply Box.drew) | (with_reducible apply Box.drewN) | (with_reducible apply Box.alloc) | (with_reducible refine Box.call ?_ (by with_reducible assumption)) | (with_reducible refine Box.far ?_ _ ?_) | (simp; done) | (simp; omega)))); have hB5c0 : World.cell? w1 ⟨W.heap.size + 1, 0, none⟩ = some (.slice none 0 0) := Box.cell hB5 0; have hB5c1 : World.cell? w1 ⟨W.heap.size + 1, 1, none⟩ = some (.int .i64 0) := Box.cell hB5 1; have hB5f0 := Box.frozen hB5 0; have hB5f1 := Box.frozen hB5 1) | (go_at_call 13; refine (HT.out _ ?_).mono ?_; (exact HW.out.trans (Below.mono (by (refine Bel.below ?_; repeat' (first | (with_reducible assumption) | (with_reducible exact Bel.refl (Nat.le_refl _)) | (with_reducible apply Bel.drew) | (with_reducible apply Bel.drewN) | (with_reducible apply Bel.alloc) | (with_reducible refine Bel.set ?_ ?_ _) | (with_reducible refine Bel.call ?_ (by with_reducible assumption)) | (with_reducible exact Nat.le_refl _) | (simp; done) | (simp; omega))) : Below W.heap.size W _) HW.out.size)); rintro e w2 ⟨A', m', c', rfl, hB', hb2⟩; have hB6 : Box w2 (W.heap.size + 1) 25 #[.slice none 0 0, .int .i64 0] := (by (repeat' (first | (with_reducible assumption) | (with_reducible exact Box.new _ _ _) | (with_reducible refine Box.newAt _ _ _ ?_; simp; done) | (with_reducible apply Box.put2) | (with_reducible apply Box.drew) | (with_reducible apply Box.drewN) | (with_reducible apply Box.alloc) | (with_reducible refine Box.call ?_ (by with_reducible assumption)) | (with_reducible refine Box.far ?_ _ ?_) | (simp; done) | (simp; omega)))); have hB6c0 : World.cell? w2 ⟨W.heap.size + 1, 0, none⟩ = some (.slice none 0 0) := Box.cell hB6 0; have hB6c1 : World.cell? w2 ⟨W.heap.size + 1, 1, none⟩ = some (.int .i64 0) := Box.cell hB6 1; have hB6f0 := Box.frozen hB6 0; have hB6f1 := Box.frozen hB6 1))
    have hz1 : W.heap.size + 1 < w1.heap.size := (by have := hb1.size; simp at this; omega)
    have hE : Below W.heap.size W ((w2.setCell ⟨W.heap.size + 1, 0, none⟩ (.slice A2 l2 c2)).setCell ⟨W.heap.size + 1, 1, none⟩ (.int .i64 x2)) := by (refine Bel.below ?_; repeat' (first | (with_reducible assumption) | (with_reducible exact Bel.refl (Nat.le_refl _)) | (with_reducible apply Bel.drew) | (with_reducible apply Bel.drewN) | (with_reducible apply Bel.alloc) | (with_reducible refine Bel.set ?_ ?_ _) | (with_reducible refine Bel.call ?_ (by with_reducible assumption)) | (with_reducible exact Nat.le_refl _) | (simp; done) | (simp; omega)))
    have hrow2 := Lib.hid (((hB'.row.setCell (q := ⟨W.heap.size + 1, 0, none⟩) (.slice A2 l2 c2) (by simp; omega)).setCell (q := ⟨W.heap.size + 1, 1, none⟩) (.int .i64 x2) (by simp; omega)).more (S' := fun b => W.heap.size ≤ b ∧ b < ((w2.setCell ⟨W.heap.size + 1, 0, none⟩ (.slice A2 l2 c2)).setCell ⟨W.heap.size + 1, 1, none⟩ (.int .i64 x2)).heap.size) (by intro b hb; have h1 := hb.1; have h2 := hb.2; simp at h1; simp; omega))
    refine bodyPost_ret (v := .tuple #[.slice A' m' c', .agg #[.slice A2 l2 c2, .int .i64 x2], .int .i64 (cutE l1 (x + 2) sb)]) ?_ rfl ⟨A', m', c', rfl, ⟨hrow2.out, fun _ h => h.2, hB'.room, hB'.most⟩, hE⟩
    simp [results, Try.results69, go_sem, hB6c0, hB6c1]
  · rcases hout1 with ⟨hz, _⟩ | ⟨hne, rfl, rfl, rfl, rfl⟩
    · exact absurd hz he
    have eE : sizE bs x 2 = cutE len x 2 := by unfold sizE; rw [hl, if_neg he]
    have eV : sizV bs x 2 = [] := by unfold sizV; rw [hl, if_neg he]
    have e0 : cutB bs x 2 = [] := by unfold cutB; rw [hl, if_neg he]
    refine ⟨none, 0, 0, 0, .inr ⟨by rw [eE]; exact he, rfl, rfl, rfl, rfl⟩, fun W hW => ?_⟩
    rw [eE, eV]
    have HG := Lib.hid hget
    have HW := Lib.hid hW
    have HE := Lib.hid e0
    have hne' : (cutE len x 2 != 0) = true := by simpa using he
    clear hget hW he eE eV e0 hne
    generalize cutE len x 2 = ce at *
    go_enter Try.func69, Try.ntmps69
    go_wp2_with (go_at_call 45; refine (HG.out _ ?_).mono ?_; (exact HW.out.trans (Below.mono (by (refine Bel.below ?_; repeat' (first | (with_reducible assumption) | (with_reducible exact Bel.refl (Nat.le_refl _)) | (with_reducible apply Bel.drew) | (with_reducible apply Bel.drewN) | (with_reducible apply Bel.alloc) | (with_reducible refine Bel.set ?_ ?_ _) | (with_reducible refine Bel.call ?_ (by with_reducible assumption)) | (with_reducible exact Nat.le_refl _) | (simp; done) | (simp; omega))) : Below W.heap.size W _) HW.out.size)); rintro e w1 ⟨rfl, hb1⟩; have hB5 : Box w1 (W.heap.size + 1) 25 #[.slice none 0 0, .int .i64 0] := (by (repeat' (first | (with_reducible assumption) | (with_reducible exact Box.new _ _ _) | (with_reducible refine Box.newAt _ _ _ ?_; simp; done) | (with_reducible apply Box.put2) | (with_reducible apply Box.drew) | (with_reducible apply Box.drewN) | (with_reducible apply Box.alloc) | (with_reducible refine Box.call ?_ (by with_reducible assumption)) | (with_reducible refine Box.far ?_ _ ?_) | (simp; done) | (simp; omega)))); have hB5c0 : World.cell? w1 ⟨W.heap.size + 1, 0, none⟩ = some (.slice none 0 0) := Box.cell hB5 0; have hB5c1 : World.cell? w1 ⟨W.heap.size + 1, 1, none⟩ = some (.int .i64 0) := Box.cell hB5 1; have hB5f0 := Box.frozen hB5 0; have hB5f1 := Box.frozen hB5 1; have hz1 : W.heap.size + 1 < w1.heap.size := (by have := hb1.size; simp at this; omega))
    refine bodyPost_ret (v := .tuple #[.slice none 0 0, .agg #[.slice none 0 0, .int .i64 0], .int .i64 ce]) ?_ rfl ⟨none, 0, 0, rfl, ⟨Row.nil _ _ _ _, fun _ h => h.2, Nat.le_refl _, by omega⟩, ?_⟩
    · simp [results, Try.results69, go_sem, hB5c0, hB5c1, hz1]
    · (refine Bel.below ?_; repeat' (first | (with_reducible assumption) | (with_reducible exact Bel.refl (Nat.le_refl _)) | (with_reducible apply Bel.drew) | (with_reducible apply Bel.drewN) | (with_reducible apply Bel.alloc) | (with_reducible refine Bel.set ?_ ?_ _) | (with_reducible refine Bel.call ?_ (by with_reducible assumption)) | (with_reducible exact Nat.le_refl _) | (simp; done) | (simp; omega)))

set_option maxHeartbeats 400000 in
theorem text_any {w : World} {S : Nat → Prop} {A : Option Addr} {len cap : Nat} {bs : List Nat} (h : Bs w S A len cap bs) (x : Int) (b0 : -9223372036854775808 ≤ x) (b1 : x ≤ 9223372036854775807) (hlen : len ≤ 70368744177664) :
    ∃ A2 l2 c2 x2, RdOut A len cap x (1 + sizB bs x 1) (sizE bs x 1) A2 l2 c2 x2 ∧
      ∀ W : World, Below w.heap.size w W → Calls Try.prog 14 #[.agg #[.slice A len cap, .int .i64 x]] W fun e w' =>
        ∃ A' m c', e = .returned (.tuple #[.slice A' m c', .agg #[.slice A2 l2 c2, .int .i64 x2], .int .i64 (sizE bs x 1)]) ∧ Bs w' (fun b => W.heap.size ≤ b ∧ b < w'.heap.size) A' m c' (sizV bs x 1) ∧ Below W.heap.size W w' := by
  obtain ⟨A2, l2, c2, x2, hout, hget⟩ := sized8_any h x b0 b1 hlen
  refine ⟨A2, l2, c2, x2, hout, fun W hW => ?_⟩
  have HG := Lib.hid hget
  have HW := Lib.hid hW
  clear h hget hW hout
  go_enter Try.func14, Try.ntmps14
  go_wp2_with (go_at_call 49; refine (HG.out _ ?_).mono ?_; (exact HW.out.trans (Below.mono (by (refine Bel.below ?_; repeat' (first | (with_reducible assumption) | (with_reducible exact Bel.refl (Nat.le_refl _)) | (with_reducible apply Bel.drew) | (with_reducible apply Bel.drewN) | (with_reducible apply Bel.alloc) | (with_reducible refine Bel.set ?_ ?_ _) | (with_reducible refine Bel.call ?_ (by with_reducible assumption)) | (with_reducible exact Nat.le_refl _) | (simp; done) | (simp; omega))) : Below W.heap.size W _) HW.out.size)); rintro e w2 ⟨A', m', c', rfl, hB', hb2⟩; have hB6 : Box w2 (W.heap.size + 1) 25 #[.slice none 0 0, .int .i64 0] := (by (repeat' (first | (with_reducible assumption) | (with_reducible exact Box.new _ _ _) | (with_reducible refine Box.newAt _ _ _ ?_; simp; done) | (with_reducible apply Box.put2) | (with_reducible apply Box.drew) | (with_reducible apply Box.drewN) | (with_reducible apply Box.alloc) | (with_reducible refine Box.call ?_ (by with_reducible assumption)) | (with_reducible refine Box.far ?_ _ ?_) | (simp; done) | (simp; omega)))); have hB6c0 : World.cell? w2 ⟨W.heap.size + 1, 0, none⟩ = some (.slice none 0 0) := Box.cell hB6 0; have hB6c1 : World.cell? w2 ⟨W.heap.size + 1, 1, none⟩ = some (.int .i64 0) := Box.cell hB6 1; have hB6f0 := Box.frozen hB6 0; have hB6f1 := Box.frozen hB6 1)
  have hE : Below W.heap.size W ((w2.setCell ⟨W.heap.size + 1, 0, none⟩ (.slice A2 l2 c2)).setCell ⟨W.heap.size + 1, 1, none⟩ (.int .i64 x2)) := by (refine Bel.below ?_; repeat' (first | (with_reducible assumption) | (with_reducible exact Bel.refl (Nat.le_refl _)) | (with_reducible apply Bel.drew) | (with_reducible apply Bel.drewN) | (with_reducible apply Bel.alloc) | (with_reducible refine Bel.set ?_ ?_ _) | (with_reducible refine Bel.call ?_ (by with_reducible assumption)) | (with_reducible exact Nat.le_refl _) | (simp; done) | (simp; omega)))
  have hrow2 := Lib.hid (((hB'.row.setCell (q := ⟨W.heap.size + 1, 0, none⟩) (.slice A2 l2 c2) (by simp; try omega)).setCell (q := ⟨W.heap.size + 1, 1, none⟩) (.int .i64 x2) (by simp; try omega)).more (S' := fun b => W.heap.size ≤ b ∧ b < ((w2.setCell ⟨W.heap.size + 1, 0, none⟩ (.slice A2 l2 c2)).setCell ⟨W.heap.size + 1, 1, none⟩ (.int .i64 x2)).heap.size) (by intro b hb; have h1 := hb.1; have h2 := hb.2; simp at h1; simp; omega))
  refine bodyPost_ret (v := .tuple #[.slice A' m' c', .agg #[.slice A2 l2 c2, .int .i64 x2], .int .i64 (sizE bs x 1)]) ?_ rfl ⟨A', m', c', rfl, ⟨hrow2.out, fun _ h => h.2, hB'.room, hB'.most⟩, hE⟩
  simp [results, Try.results14, go_sem, hB6c0, hB6c1]

/-- whether a reader is at its end -/
def doneE (len : Nat) (x : Int) : Int := if x < 0 ∨ (len : Int) < x then 8 else if x < (len : Int) then 11 else 0
set_option maxHeartbeats 400000 in
theorem done_any (A : Option Addr) (len cap : Nat) (x : Int) (w : World) (b0 : -9223372036854775808 ≤ x) (b1 : x ≤ 9223372036854775807) :
    Calls Try.prog 21 #[.agg #[.slice A len cap, .int .i64 x]] w fun e w' => e = .returned (.int .i64 (doneE len x)) ∧ Below w.heap.size w w' := by
  by_cases c1 : x < 0 ∨ (len : Int) < x
  · have he := Lib.hid (show doneE len x = 8 by unfold doneE; rw [if_pos c1])
    go_enter Try.func21, Try.ntmps21
    go_wp2_with (go_at_call 32; refine (check_bad _ _ _ _ _ c1).mono ?_; rintro e w1 ⟨rfl, hb1⟩)
    go_ret
    exact ⟨by rw [he.out]; rfl, by (refine Bel.below ?_; repeat' (first | (with_reducible assumption) | (with_reducible exact Bel.refl (Nat.le_refl _)) | (with_reducible apply Bel.drew) | (with_reducible apply Bel.drewN) | (with_reducible apply Bel.alloc) | (with_reducible refine Bel.set ?_ ?_ _) | (with_reducible refine Bel.call ?_ (by with_reducible assumption)) | (with_reducible exact Nat.le_refl _) | (simp; done) | (simp; omega)))⟩
  · have c2 : 0 ≤ x := by omega
    have c3 : x ≤ (len : Int) := by omega
    by_cases c4 : x < (len : Int)
    · have he := Lib.hid (show doneE len x = 11 by unfold doneE; rw [if_neg c1, if_pos c4])
      clear c1
      go_enter Try.func21, Try.ntmps21
      go_wp2_with (go_at_call 32; refine (check_ok _ _ _ _ _ c2 c3).mono ?_; rintro e w1 ⟨rfl, hb1⟩; obtain ⟨hc1, hf1⟩ := bcell hb1)
      go_ret
      exact ⟨by rw [he.out]; rfl, by (refine Bel.below ?_; repeat' (first | (with_reducible assumption) | (with_reducible exact Bel.refl (Nat.le_refl _)) | (with_reducible apply Bel.drew) | (with_reducible apply Bel.drewN) | (with_reducible apply Bel.alloc) | (with_reducible refine Bel.set ?_ ?_ _) | (with_reducible refine Bel.call ?_ (by with_reducible assumption)) | (with_reducible exact Nat.le_refl _) | (simp; done) | (simp; omega)))⟩
    · have he := Lib.hid (show doneE len x = 0 by unfold doneE; rw [if_neg c1, if_neg c4])
      clear c1
      go_enter Try.func21, Try.ntmps21
      go_wp2_with (go_at_call 32; refine (check_ok _ _ _ _ _ c2 c3).mono ?_; rintro e w1 ⟨rfl, hb1⟩; obtain ⟨hc1, hf1⟩ := bcell hb1)
      go_ret
      exact ⟨by rw [he.out]; rfl, by (refine Bel.below ?_; repeat' (first | (with_reducible assumption) | (with_reducible exact Bel.refl (Nat.le_refl _)) | (with_reducible apply Bel.drew) | (with_reducible apply Bel.drewN) | (with_reducible apply Bel.alloc) | (with_reducible refine Bel.set ?_ ?_ _) | (with_reducible refine Bel.call ?_ (by with_reducible assumption)) | (with_reducible exact Nat.le_refl _) | (simp; done) | (simp; omega)))⟩
end Go.Proofs.Ytgekkmhkklbgcaa
