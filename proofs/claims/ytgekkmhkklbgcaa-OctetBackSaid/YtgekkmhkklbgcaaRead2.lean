/- Walks of octet's readers: numbers. -/
import Derived.Test.YtgekkmhkklbgcaaWidth
import Derived.Test.YtgekkmhkklbgcaaNatLe
import Derived.Deep.RegionHeld3
import Derived.Deep.DeepCutAuto
namespace Go.Proofs.Ytgekkmhkklbgcaa
open Go.RowKit

theorem or_byte (xs : List Nat) (k y : Nat) (hl : xs.length ≤ 8) (hx : ∀ x ∈ xs, x < 256) (h : xs[k]? = some y) :
    bits .or .u64 (leV (xs.take k) : Int) (IntKind.u64.wrap ((y : Int) * 2 ^ (8 * k))) = (leV (xs.take (k + 1)) : Int) := by
  have hk : k < xs.length := (List.getElem?_eq_some_iff.1 h).1
  have hy := hx y (List.mem_of_getElem? h)
  have h1 := leV_lt (xs.take (k + 1)) fun z hz => hx z (List.mem_of_mem_take hz)
  have h2 : 256 ^ (xs.take (k + 1)).length ≤ 256 ^ 8 := Nat.pow_le_pow_right (by omega) (by rw [List.length_take]; omega)
  have h3 := leV_take xs k y h
  have h4 := leV_or xs k y hx h
  rw [← pow256] at h4
  have e1 : (y : Int) * 2 ^ (8 * k) = ((y * 256 ^ k : Nat) : Int) := by rw [pow256]; simp
  have e2 : IntKind.u64.wrap ((y * 256 ^ k : Nat) : Int) = ((y * 256 ^ k : Nat) : Int) := by
    rw [IntKind.wrap_u64]
    omega
  rw [e1, e2, u64_or_nat _ _ (by omega) (by omega), h4]

set_option maxHeartbeats 1000000 in
theorem get8_any (A A' A2 : Option Addr) (len cap m c' l2 c2 : Nat) (x x2 er : Int) (xs : List Nat) (S : Nat → Prop) (w : World) (hrow : Row (Ty.nat .u8) w S A' m xs) (hS : ∀ b, S b → b < w.heap.size) (hm : m ≤ 1)
    (hcut : ∀ W : World, Calls Try.prog 47 #[.agg #[.slice A len cap, .int .i64 x], .int .i64 1] W fun e w' => e = .returned (.tuple #[.slice A' m c', .agg #[.slice A2 l2 c2, .int .i64 x2], .int .i64 er]) ∧ Below W.heap.size W w') :
    Calls Try.prog 46 #[.agg #[.slice A len cap, .int .i64 x]] w fun e w' =>
      e = .returned (.tuple #[.int .u8 (leV xs : Int), .agg #[.slice A2 l2 c2, .int .i64 x2], .int .i64 er]) ∧ Below w.heap.size w w' := by
  have HR := Lib.hid hrow
  have HS := Lib.hid hS
  have HC := Lib.hid hcut
  clear hrow hS hcut
  go_enter Try.func46, Try.ntmps46
  go_upto_region 1 with fail
  go_cut [5, 6, 7] (fun s5 s6 s7 wx => s5 = .slice A' m c' ∧ s7 = .int .i64 er ∧ ∃ g, s6 = .pointer (some ⟨g, 0, none⟩) ∧ g ≠ w.heap.size + 1 ∧ Box wx g 25 #[.slice A2 l2 c2, .int .i64 x2] ∧ Box wx (w.heap.size + 1) 25 #[.slice none 0 0, .int .i64 0] ∧ Bel w.heap.size w wx)
  case first =>
    go_region_held3 (fun w' => w'.cell? ⟨w.heap.size, 0, none⟩ = some (.slice A len cap) ∧ w'.cell? ⟨w.heap.size, 1, none⟩ = some (.int .i64 x)) (first | done | (refine ⟨(Box.cell (cs := #[.slice A len cap, .int .i64 x]) (t := 25) ?_ 0), (Box.cell (cs := #[.slice A len cap, .int .i64 x]) (t := 25) ?_ 1)⟩ <;> (repeat' (first | (with_reducible assumption) | (with_reducible exact Box.new _ _ _) | (with_reducible refine Box.newAt _ _ _ ?_; simp; done) | (with_reducible apply Box.put2) | (with_reducible apply Box.drew) | (with_reducible apply Box.drewN) | (with_reducible apply Box.alloc) | (with_reducible refine Box.call ?_ (by with_reducible assumption)) | (with_reducible refine Box.far ?_ _ ?_) | (simp; done) | (simp; omega))); done)) (first | (go_at_call 52; refine (width8 _).mono ?_; rintro e w1 ⟨rfl, rfl⟩) | (go_at_call 47; refine (HC.out _).mono ?_; rintro e w1 ⟨rfl, hb1⟩; obtain ⟨hc1, hf1⟩ := bcell hb1; have hz1 : w.heap.size + 1 < w1.heap.size := (by have := hb1.size; simp at this; omega)))
    all_goals (go_wp2_with fail; go_meet; refine ⟨rfl, rfl, _, rfl, ?_, ?_, ?_, ?_⟩)
    all_goals first | (repeat' (first | (with_reducible assumption) | (with_reducible exact Bel.refl (Nat.le_refl _)) | (with_reducible apply Bel.drew) | (with_reducible apply Bel.drewN) | (with_reducible apply Bel.alloc) | (with_reducible refine Bel.set ?_ ?_ _) | (with_reducible refine Bel.call ?_ (by with_reducible assumption)) | (with_reducible exact Nat.le_refl _) | (simp; done) | (simp; omega))); done | (repeat' (first | (with_reducible assumption) | (with_reducible exact Box.new _ _ _) | (with_reducible refine Box.newAt _ _ _ ?_; simp; done) | (with_reducible apply Box.put2) | (with_reducible apply Box.drew) | (with_reducible apply Box.drewN) | (with_reducible apply Box.alloc) | (with_reducible refine Box.call ?_ (by with_reducible assumption)) | (with_reducible refine Box.far ?_ _ ?_) | (simp; done) | (simp; omega))); done
  case rest =>
    obtain ⟨rfl, rfl, g, rfl, hg, hB, hB3, hbw⟩ := hcut
    have hRow := Lib.hid (HR.out.below hbw.below HS.out)
    have e0 : wc.cell? ⟨g, 0, none⟩ = some (.slice A2 l2 c2) := hB.cell 0
    have e1 : wc.cell? ⟨g, 1, none⟩ = some (.int .i64 x2) := hB.cell 1
    have d0 : wc.cell? ⟨w.heap.size + 1, 0, none⟩ = some (.slice none 0 0) := hB3.cell 0
    have d1 : wc.cell? ⟨w.heap.size + 1, 1, none⟩ = some (.int .i64 0) := hB3.cell 1
    have q0 := hB3.frozen 0
    have q1 := hB3.frozen 1
    go_wp2
    go_loop [8, 20] (fun v i => ∃ k : Nat, k ≤ m ∧ i = .int .i64 k ∧ v = .int .u64 (leV (xs.take k) : Int)) (fun _ i => m - (intOf i).toNat)
    case atStart => exact ⟨0, Nat.zero_le _, rfl, rfl⟩
    case round =>
      obtain ⟨k, hk, rfl, rfl⟩ := hrel
      by_cases hlt : k < m
      · obtain ⟨b, off, rfl, hb, hcell⟩ := hRow.out.ints (by omega)
        have hl := hRow.out.1
        have hx : xs[k]? = some (xs[k]'(by omega)) := List.getElem?_eq_getElem (by omega)
        have hck := hcell k _ hx
        have hwx := wf_u8 (hRow.out.ints_wf _ (List.mem_of_getElem? hx))
        have hx' := Lib.hid hx
        generalize xs[k]'(by omega) = y at *
        clear hcell hl hx
        have hor := Lib.hid (or_byte xs k y (by have := hRow.out.1; omega) (fun x hx => wf_u8 (hRow.out.ints_wf x hx)) hx'.out)
        go_wp2
        go_round
        case rel => exact ⟨k + 1, by omega, by go_num, by rw [hor.out]⟩
        case measure => simp [intOf]; omega
      · obtain rfl : k = m := by omega
        have hval : Hid ((leV (xs.take k) : Int) % 256 = (leV xs : Int)) := by
          have hl := hRow.out.1
          have h1 : xs.take k = xs := List.take_of_length_le (by omega)
          have h2 := leV_lt xs fun x hx => wf_u8 (hRow.out.ints_wf x hx)
          have h3 : 256 ^ xs.length ≤ 256 ^ 1 := Nat.pow_le_pow_right (by omega) (by omega)
          show _ = _
          rw [h1]
          omega
        go_wp2
        go_region
        go_wp2
        refine bodyPost_ret (v := .tuple #[.int .u8 (leV xs : Int), .agg #[.slice A2 l2 c2, .int .i64 x2], .int .i64 er]) ?_ rfl ⟨rfl, ?_⟩
        · simp [results, Try.results46, go_sem, hval.out, e0, e1, d0, d1]
        · exact (Bel.drew (Bel.set (Bel.set hbw (by simp) _) (by simp) _)).below

set_option maxHeartbeats 1000000 in
theorem get16_any (A A' A2 : Option Addr) (len cap m c' l2 c2 : Nat) (x x2 er : Int) (xs : List Nat) (S : Nat → Prop) (w : World) (hrow : Row (Ty.nat .u8) w S A' m xs) (hS : ∀ b, S b → b < w.heap.size) (hm : m ≤ 2)
    (hcut : ∀ W : World, Calls Try.prog 47 #[.agg #[.slice A len cap, .int .i64 x], .int .i64 2] W fun e w' => e = .returned (.tuple #[.slice A' m c', .agg #[.slice A2 l2 c2, .int .i64 x2], .int .i64 er]) ∧ Below W.heap.size W w') :
    Calls Try.prog 45 #[.agg #[.slice A len cap, .int .i64 x]] w fun e w' =>
      e = .returned (.tuple #[.int .u16 (leV xs : Int), .agg #[.slice A2 l2 c2, .int .i64 x2], .int .i64 er]) ∧ Below w.heap.size w w' := by
  have HR := Lib.hid hrow
  have HS := Lib.hid hS
  have HC := Lib.hid hcut
  clear hrow hS hcut
  go_enter Try.func45, Try.ntmps45
  go_upto_region 1 with fail
  go_cut [5, 6, 7] (fun s5 s6 s7 wx => s5 = .slice A' m c' ∧ s7 = .int .i64 er ∧ ∃ g, s6 = .pointer (some ⟨g, 0, none⟩) ∧ g ≠ w.heap.size + 1 ∧ Box wx g 25 #[.slice A2 l2 c2, .int .i64 x2] ∧ Box wx (w.heap.size + 1) 25 #[.slice none 0 0, .int .i64 0] ∧ Bel w.heap.size w wx)
  case first =>
    go_region_held3 (fun w' => w'.cell? ⟨w.heap.size, 0, none⟩ = some (.slice A len cap) ∧ w'.cell? ⟨w.heap.size, 1, none⟩ = some (.int .i64 x)) (first | done | (refine ⟨(Box.cell (cs := #[.slice A len cap, .int .i64 x]) (t := 25) ?_ 0), (Box.cell (cs := #[.slice A len cap, .int .i64 x]) (t := 25) ?_ 1)⟩ <;> (repeat' (first | (with_reducible assumption) | (with_reducible exact Box.new _ _ _) | (with_reducible refine Box.newAt _ _ _ ?_; simp; done) | (with_reducible apply Box.put2) | (with_reducible apply Box.drew) | (with_reducible apply Box.drewN) | (with_reducible apply Box.alloc) | (with_reducible refine Box.call ?_ (by with_reducible assumption)) | (with_reducible refine Box.far ?_ _ ?_) | (simp; done) | (simp; omega))); done)) (first | (go_at_call 53; refine (width16 _).mono ?_; rintro e w1 ⟨rfl, rfl⟩) | (go_at_call 47; refine (HC.out _).mono ?_; rintro e w1 ⟨rfl, hb1⟩; obtain ⟨hc1, hf1⟩ := bcell hb1; have hz1 : w.heap.size + 1 < w1.heap.size := (by have := hb1.size; simp at this; omega)))
    all_goals (go_wp2_with fail; go_meet; refine ⟨rfl, rfl, _, rfl, ?_, ?_, ?_, ?_⟩)
    all_goals first | (repeat' (first | (with_reducible assumption) | (with_reducible exact Bel.refl (Nat.le_refl _)) | (with_reducible apply Bel.drew) | (with_reducible apply Bel.drewN) | (with_reducible apply Bel.alloc) | (with_reducible refine Bel.set ?_ ?_ _) | (with_reducible refine Bel.call ?_ (by with_reducible assumption)) | (with_reducible exact Nat.le_refl _) | (simp; done) | (simp; omega))); done | (repeat' (first | (with_reducible assumption) | (with_reducible exact Box.new _ _ _) | (with_reducible refine Box.newAt _ _ _ ?_; simp; done) | (with_reducible apply Box.put2) | (with_reducible apply Box.drew) | (with_reducible apply Box.drewN) | (with_reducible apply Box.alloc) | (with_reducible refine Box.call ?_ (by with_reducible assumption)) | (with_reducible refine Box.far ?_ _ ?_) | (simp; done) | (simp; omega))); done
  case rest =>
    obtain ⟨rfl, rfl, g, rfl, hg, hB, hB3, hbw⟩ := hcut
    have hRow := Lib.hid (HR.out.below hbw.below HS.out)
    have e0 : wc.cell? ⟨g, 0, none⟩ = some (.slice A2 l2 c2) := hB.cell 0
    have e1 : wc.cell? ⟨g, 1, none⟩ = some (.int .i64 x2) := hB.cell 1
    have d0 : wc.cell? ⟨w.heap.size + 1, 0, none⟩ = some (.slice none 0 0) := hB3.cell 0
    have d1 : wc.cell? ⟨w.heap.size + 1, 1, none⟩ = some (.int .i64 0) := hB3.cell 1
    have q0 := hB3.frozen 0
    have q1 := hB3.frozen 1
    go_wp2
    go_loop [8, 20] (fun v i => ∃ k : Nat, k ≤ m ∧ i = .int .i64 k ∧ v = .int .u64 (leV (xs.take k) : Int)) (fun _ i => m - (intOf i).toNat)
    case atStart => exact ⟨0, Nat.zero_le _, rfl, rfl⟩
    case round =>
      obtain ⟨k, hk, rfl, rfl⟩ := hrel
      by_cases hlt : k < m
      · obtain ⟨b, off, rfl, hb, hcell⟩ := hRow.out.ints (by omega)
        have hl := hRow.out.1
        have hx : xs[k]? = some (xs[k]'(by omega)) := List.getElem?_eq_getElem (by omega)
        have hck := hcell k _ hx
        have hwx := wf_u8 (hRow.out.ints_wf _ (List.mem_of_getElem? hx))
        have hx' := Lib.hid hx
        generalize xs[k]'(by omega) = y at *
        clear hcell hl hx
        have hor := Lib.hid (or_byte xs k y (by have := hRow.out.1; omega) (fun x hx => wf_u8 (hRow.out.ints_wf x hx)) hx'.out)
        go_wp2
        go_round
        case rel => exact ⟨k + 1, by omega, by go_num, by rw [hor.out]⟩
        case measure => simp [intOf]; omega
      · obtain rfl : k = m := by omega
        have hval : Hid (IntKind.u16.wrap (leV (xs.take k) : Int) = (leV xs : Int)) := by
          have hl := hRow.out.1
          have h1 : xs.take k = xs := List.take_of_length_le (by omega)
          have h2 := leV_lt xs fun x hx => wf_u8 (hRow.out.ints_wf x hx)
          have h3 : 256 ^ xs.length ≤ 256 ^ 2 := Nat.pow_le_pow_right (by omega) (by omega)
          show _ = _
          rw [h1, IntKind.wrap_u16]
          omega
        go_wp2
        go_region
        go_wp2
        refine bodyPost_ret (v := .tuple #[.int .u16 (leV xs : Int), .agg #[.slice A2 l2 c2, .int .i64 x2], .int .i64 er]) ?_ rfl ⟨rfl, ?_⟩
        · simp [results, Try.results45, go_sem, hval.out, e0, e1, d0, d1]
        · exact (Bel.drew (Bel.set (Bel.set hbw (by simp) _) (by simp) _)).below

set_option maxHeartbeats 1000000 in
theorem get32_any (A A' A2 : Option Addr) (len cap m c' l2 c2 : Nat) (x x2 er : Int) (xs : List Nat) (S : Nat → Prop) (w : World) (hrow : Row (Ty.nat .u8) w S A' m xs) (hS : ∀ b, S b → b < w.heap.size) (hm : m ≤ 4)
    (hcut : ∀ W : World, Calls Try.prog 47 #[.agg #[.slice A len cap, .int .i64 x], .int .i64 4] W fun e w' => e = .returned (.tuple #[.slice A' m c', .agg #[.slice A2 l2 c2, .int .i64 x2], .int .i64 er]) ∧ Below W.heap.size W w') :
    Calls Try.prog 58 #[.agg #[.slice A len cap, .int .i64 x]] w fun e w' =>
      e = .returned (.tuple #[.int .u32 (leV xs : Int), .agg #[.slice A2 l2 c2, .int .i64 x2], .int .i64 er]) ∧ Below w.heap.size w w' := by
  have HR := Lib.hid hrow
  have HS := Lib.hid hS
  have HC := Lib.hid hcut
  clear hrow hS hcut
  go_enter Try.func58, Try.ntmps58
  go_upto_region 1 with fail
  go_cut [5, 6, 7] (fun s5 s6 s7 wx => s5 = .slice A' m c' ∧ s7 = .int .i64 er ∧ ∃ g, s6 = .pointer (some ⟨g, 0, none⟩) ∧ g ≠ w.heap.size + 1 ∧ Box wx g 25 #[.slice A2 l2 c2, .int .i64 x2] ∧ Box wx (w.heap.size + 1) 25 #[.slice none 0 0, .int .i64 0] ∧ Bel w.heap.size w wx)
  case first =>
    go_region_held3 (fun w' => w'.cell? ⟨w.heap.size, 0, none⟩ = some (.slice A len cap) ∧ w'.cell? ⟨w.heap.size, 1, none⟩ = some (.int .i64 x)) (first | done | (refine ⟨(Box.cell (cs := #[.slice A len cap, .int .i64 x]) (t := 25) ?_ 0), (Box.cell (cs := #[.slice A len cap, .int .i64 x]) (t := 25) ?_ 1)⟩ <;> (repeat' (first | (with_reducible assumption) | (with_reducible exact Box.new _ _ _) | (with_reducible refine Box.newAt _ _ _ ?_; simp; done) | (with_reducible apply Box.put2) | (with_reducible apply Box.drew) | (with_reducible apply Box.drewN) | (with_reducible apply Box.alloc) | (with_reducible refine Box.call ?_ (by with_reducible assumption)) | (with_reducible refine Box.far ?_ _ ?_) | (simp; done) | (simp; omega))); done)) (first | (go_at_call 70; refine (width32 _).mono ?_; rintro e w1 ⟨rfl, rfl⟩) | (go_at_call 47; refine (HC.out _).mono ?_; rintro e w1 ⟨rfl, hb1⟩; obtain ⟨hc1, hf1⟩ := bcell hb1; have hz1 : w.heap.size + 1 < w1.heap.size := (by have := hb1.size; simp at this; omega)))
    all_goals (go_wp2_with fail; go_meet; refine ⟨rfl, rfl, _, rfl, ?_, ?_, ?_, ?_⟩)
    all_goals first | (repeat' (first | (with_reducible assumption) | (with_reducible exact Bel.refl (Nat.le_refl _)) | (with_reducible apply Bel.drew) | (with_reducible apply Bel.drewN) | (with_reducible apply Bel.alloc) | (with_reducible refine Bel.set ?_ ?_ _) | (with_reducible refine Bel.call ?_ (by with_reducible assumption)) | (with_reducible exact Nat.le_refl _) | (simp; done) | (simp; omega))); done | (repeat' (first | (with_reducible assumption) | (with_reducible exact Box.new _ _ _) | (with_reducible refine Box.newAt _ _ _ ?_; simp; done) | (with_reducible apply Box.put2) | (with_reducible apply Box.drew) | (with_reducible apply Box.drewN) | (with_reducible apply Box.alloc) | (with_reducible refine Box.call ?_ (by with_reducible assumption)) | (with_reducible refine Box.far ?_ _ ?_) | (simp; done) | (simp; omega))); done
  case rest =>
    obtain ⟨rfl, rfl, g, rfl, hg, hB, hB3, hbw⟩ := hcut
    have hRow := Lib.hid (HR.out.below hbw.below HS.out)
    have e0 : wc.cell? ⟨g, 0, none⟩ = some (.slice A2 l2 c2) := hB.cell 0
    have e1 : wc.cell? ⟨g, 1, none⟩ = some (.int .i64 x2) := hB.cell 1
    have d0 : wc.cell? ⟨w.heap.size + 1, 0, none⟩ = some (.slice none 0 0) := hB3.cell 0
    have d1 : wc.cell? ⟨w.heap.size + 1, 1, none⟩ = some (.int .i64 0) := hB3.cell 1
    have q0 := hB3.frozen 0
    have q1 := hB3.frozen 1
    go_wp2
    go_loop [8, 20] (fun v i => ∃ k : Nat, k ≤ m ∧ i = .int .i64 k ∧ v = .int .u64 (leV (xs.take k) : Int)) (fun _ i => m - (intOf i).toNat)
    case atStart => exact ⟨0, Nat.zero_le _, rfl, rfl⟩
    case round =>
      obtain ⟨k, hk, rfl, rfl⟩ := hrel
      by_cases hlt : k < m
      · obtain ⟨b, off, rfl, hb, hcell⟩ := hRow.out.ints (by omega)
        have hl := hRow.out.1
        have hx : xs[k]? = some (xs[k]'(by omega)) := List.getElem?_eq_getElem (by omega)
        have hck := hcell k _ hx
        have hwx := wf_u8 (hRow.out.ints_wf _ (List.mem_of_getElem? hx))
        have hx' := Lib.hid hx
        generalize xs[k]'(by omega) = y at *
        clear hcell hl hx
        have hor := Lib.hid (or_byte xs k y (by have := hRow.out.1; omega) (fun x hx => wf_u8 (hRow.out.ints_wf x hx)) hx'.out)
        go_wp2
        go_round
        case rel => exact ⟨k + 1, by omega, by go_num, by rw [hor.out]⟩
        case measure => simp [intOf]; omega
      · obtain rfl : k = m := by omega
        have hval : Hid ((leV (xs.take k) : Int) % 4294967296 = (leV xs : Int)) := by
          have hl := hRow.out.1
          have h1 : xs.take k = xs := List.take_of_length_le (by omega)
          have h2 := leV_lt xs fun x hx => wf_u8 (hRow.out.ints_wf x hx)
          have h3 : 256 ^ xs.length ≤ 256 ^ 4 := Nat.pow_le_pow_right (by omega) (by omega)
          show _ = _
          rw [h1]
          omega
        go_wp2
        go_region
        go_wp2
        refine bodyPost_ret (v := .tuple #[.int .u32 (leV xs : Int), .agg #[.slice A2 l2 c2, .int .i64 x2], .int .i64 er]) ?_ rfl ⟨rfl, ?_⟩
        · simp [results, Try.results58, go_sem, hval.out, e0, e1, d0, d1]
        · exact (Bel.drew (Bel.set (Bel.set hbw (by simp) _) (by simp) _)).below

set_option maxHeartbeats 1000000 in
theorem get64_any (A A' A2 : Option Addr) (len cap m c' l2 c2 : Nat) (x x2 er : Int) (xs : List Nat) (S : Nat → Prop) (w : World) (hrow : Row (Ty.nat .u8) w S A' m xs) (hS : ∀ b, S b → b < w.heap.size) (hm : m ≤ 8)
    (hcut : ∀ W : World, Calls Try.prog 47 #[.agg #[.slice A len cap, .int .i64 x], .int .i64 8] W fun e w' => e = .returned (.tuple #[.slice A' m c', .agg #[.slice A2 l2 c2, .int .i64 x2], .int .i64 er]) ∧ Below W.heap.size W w') :
    Calls Try.prog 59 #[.agg #[.slice A len cap, .int .i64 x]] w fun e w' =>
      e = .returned (.tuple #[.int .u64 (leV xs : Int), .agg #[.slice A2 l2 c2, .int .i64 x2], .int .i64 er]) ∧ Below w.heap.size w w' := by
  have HR := Lib.hid hrow
  have HS := Lib.hid hS
  have HC := Lib.hid hcut
  clear hrow hS hcut
  go_enter Try.func59, Try.ntmps59
  go_upto_region 1 with fail
  go_cut [5, 6, 7] (fun s5 s6 s7 wx => s5 = .slice A' m c' ∧ s7 = .int .i64 er ∧ ∃ g, s6 = .pointer (some ⟨g, 0, none⟩) ∧ g ≠ w.heap.size + 1 ∧ Box wx g 25 #[.slice A2 l2 c2, .int .i64 x2] ∧ Box wx (w.heap.size + 1) 25 #[.slice none 0 0, .int .i64 0] ∧ Bel w.heap.size w wx)
  case first =>
    go_region_held3 (fun w' => w'.cell? ⟨w.heap.size, 0, none⟩ = some (.slice A len cap) ∧ w'.cell? ⟨w.heap.size, 1, none⟩ = some (.int .i64 x)) (first | done | (refine ⟨(Box.cell (cs := #[.slice A len cap, .int .i64 x]) (t := 25) ?_ 0), (Box.cell (cs := #[.slice A len cap, .int .i64 x]) (t := 25) ?_ 1)⟩ <;> (repeat' (first | (with_reducible assumption) | (with_reducible exact Box.new _ _ _) | (with_reducible refine Box.newAt _ _ _ ?_; simp; done) | (with_reducible apply Box.put2) | (with_reducible apply Box.drew) | (with_reducible apply Box.drewN) | (with_reducible apply Box.alloc) | (with_reducible refine Box.call ?_ (by with_reducible assumption)) | (with_reducible refine Box.far ?_ _ ?_) | (simp; done) | (simp; omega))); done)) (first | (go_at_call 71; refine (width64 _).mono ?_; rintro e w1 ⟨rfl, rfl⟩) | (go_at_call 47; refine (HC.out _).mono ?_; rintro e w1 ⟨rfl, hb1⟩; obtain ⟨hc1, hf1⟩ := bcell hb1; have hz1 : w.heap.size + 1 < w1.heap.size := (by have := hb1.size; simp at this; omega)))
    all_goals (go_wp2_with fail; go_meet; refine ⟨rfl, rfl, _, rfl, ?_, ?_, ?_, ?_⟩)
    all_goals first | (repeat' (first | (with_reducible assumption) | (with_reducible exact Bel.refl (Nat.le_refl _)) | (with_reducible apply Bel.drew) | (with_reducible apply Bel.drewN) | (with_reducible apply Bel.alloc) | (with_reducible refine Bel.set ?_ ?_ _) | (with_reducible refine Bel.call ?_ (by with_reducible assumption)) | (with_reducible exact Nat.le_refl _) | (simp; done) | (simp; omega))); done | (repeat' (first | (with_reducible assumption) | (with_reducible exact Box.new _ _ _) | (with_reducible refine Box.newAt _ _ _ ?_; simp; done) | (with_reducible apply Box.put2) | (with_reducible apply Box.drew) | (with_reducible apply Box.drewN) | (with_reducible apply Box.alloc) | (with_reducible refine Box.call ?_ (by with_reducible assumption)) | (with_reducible refine Box.far ?_ _ ?_) | (simp; done) | (simp; omega))); done
  case rest =>
    obtain ⟨rfl, rfl, g, rfl, hg, hB, hB3, hbw⟩ := hcut
    have hRow := Lib.hid (HR.out.below hbw.below HS.out)
    have e0 : wc.cell? ⟨g, 0, none⟩ = some (.slice A2 l2 c2) := hB.cell 0
    have e1 : wc.cell? ⟨g, 1, none⟩ = some (.int .i64 x2) := hB.cell 1
    have d0 : wc.cell? ⟨w.heap.size + 1, 0, none⟩ = some (.slice none 0 0) := hB3.cell 0
    have d1 : wc.cell? ⟨w.heap.size + 1, 1, none⟩ = some (.int .i64 0) := hB3.cell 1
    have q0 := hB3.frozen 0
    have q1 := hB3.frozen 1
    go_wp2
    go_loop [8, 20] (fun v i => ∃ k : Nat, k ≤ m ∧ i = .int .i64 k ∧ v = .int .u64 (leV (xs.take k) : Int)) (fun _ i => m - (intOf i).toNat)
    case atStart => exact ⟨0, Nat.zero_le _, rfl, rfl⟩
    case round =>
      obtain ⟨k, hk, rfl, rfl⟩ := hrel
      by_cases hlt : k < m
      · obtain ⟨b, off, rfl, hb, hcell⟩ := hRow.out.ints (by omega)
        have hl := hRow.out.1
        have hx : xs[k]? = some (xs[k]'(by omega)) := List.getElem?_eq_getElem (by omega)
        have hck := hcell k _ hx
        have hwx := wf_u8 (hRow.out.ints_wf _ (List.mem_of_getElem? hx))
        have hx' := Lib.hid hx
        generalize xs[k]'(by omega) = y at *
        clear hcell hl hx
        have hor := Lib.hid (or_byte xs k y (by have := hRow.out.1; omega) (fun x hx => wf_u8 (hRow.out.ints_wf x hx)) hx'.out)
        go_wp2
        go_round
        case rel => exact ⟨k + 1, by omega, by go_num, by rw [hor.out]⟩
        case measure => simp [intOf]; omega
      · obtain rfl : k = m := by omega
        have hval : Hid ((leV (xs.take k) : Int) = (leV xs : Int)) := by
          have hl := hRow.out.1
          have h1 : xs.take k = xs := List.take_of_length_le (by omega)
          have h2 := leV_lt xs fun x hx => wf_u8 (hRow.out.ints_wf x hx)
          have h3 : 256 ^ xs.length ≤ 256 ^ 8 := Nat.pow_le_pow_right (by omega) (by omega)
          show _ = _
          rw [h1]
        go_wp2
        go_region
        go_wp2
        refine bodyPost_ret (v := .tuple #[.int .u64 (leV xs : Int), .agg #[.slice A2 l2 c2, .int .i64 x2], .int .i64 er]) ?_ rfl ⟨rfl, ?_⟩
        · simp [results, Try.results59, go_sem, hval.out, e0, e1, d0, d1]
        · exact (Bel.drew (Bel.set (Bel.set hbw (by simp) _) (by simp) _)).below

end Go.Proofs.Ytgekkmhkklbgcaa
