/- OctetBack: for any values (at most 100, texts of at most 255 bytes, as the law itself asks): what is written one after the other is read back in the same order, and nothing is left. No condition. -/
import Derived.Test.YtgekkmhkklbgcaaVals
import Derived.WalkKit
import Derived.ProofKit
import Derived.OpenShut
import Derived.ShutString
import Derived.ChangeOld
import Derived.Below
namespace Go.Proofs.Ytgekkmhkklbgcaa.octetBack
open Go.ChangeShapes Go.WideShapes Go.ChangeAt Go.RowKit

theorem own : ownKnob Try.prog.godebug = none := by kernel_rfl
theorem laidOut : laidOutB Try.prog = true := by kernel_rfl

set_option maxRecDepth 100000 in
set_option maxHeartbeats 8000000 in
theorem walk (w : World) (A0 : Option Addr) (n0 c0 : Nat) (a0 : _) (r0 : (Ty.slice valTy).rep w (· < w.heap.size) a0 [.slice A0 n0 c0]) :
    Calls Try.prog 7 #[.slice A0 n0 c0] w fun e w' => e = .returned (.bool true) ∧ Below w.heap.size w w' := by
  have B0 := vs_arg r0
  have hl0 := B0.room
  have hl1 := B0.most
  have hx0 := B0.row.1
  clear r0
  by_cases g0 : (100 : Int) < (n0 : Int)
  · clear B0
    go_enter Try.func7, Try.ntmps7
    go_wp2_with (go_at_call 20; refine (alive_any _).mono ?_; rintro e w1 ⟨rfl, hb1⟩)
    go_ret
    exact ⟨rfl, by (refine Bel.below ?_; repeat' (first | (with_reducible assumption) | (with_reducible exact Bel.refl (Nat.le_refl _)) | (with_reducible apply Bel.drew) | (with_reducible apply Bel.drewN) | (with_reducible apply Bel.alloc) | (with_reducible refine Bel.set ?_ ?_ _) | (with_reducible refine Bel.call ?_ (by with_reducible assumption)) | (with_reducible exact Nat.le_refl _) | (simp; done) | (simp; omega)))⟩
  have h0 : n0 ≤ 100 := by omega
  have H0 := Lib.hid B0
  have HX0 := Lib.hid hx0
  clear B0 hx0
  go_enter Try.func7, Try.ntmps7
  go_wp2_with (go_at_call 20; refine (alive_any _).mono ?_; rintro e w1 ⟨rfl, hb1⟩)
  go_loopw [4, 5] (fun b i wr => ∃ k : Nat, k ≤ n0 ∧ i = .int .i64 k ∧ (∃ A' c', b = .slice A' (encL (a0.take k)).length c' ∧ Bs wr (fun b => w.heap.size ≤ b ∧ b < wr.heap.size) A' (encL (a0.take k)).length c' (encL (a0.take k))) ∧ Bel w.heap.size w wr ∧ ∀ v ∈ a0.take k, okV v) (fun _ i _ => n0 - (intOf i).toNat)
  case atStart => exact ⟨0, Nat.zero_le _, rfl, ⟨none, 0, rfl, Row.nil _ _ _ _, fun b h => h.2, Nat.le_refl _, Nat.zero_le _⟩, by (repeat' (first | (with_reducible assumption) | (with_reducible exact Bel.refl (Nat.le_refl _)) | (with_reducible apply Bel.drew) | (with_reducible apply Bel.drewN) | (with_reducible apply Bel.alloc) | (with_reducible refine Bel.set ?_ ?_ _) | (with_reducible refine Bel.call ?_ (by with_reducible assumption)) | (with_reducible exact Nat.le_refl _) | (simp; done) | (simp; omega))), by simp⟩
  case round =>
    obtain ⟨k, hk, rfl, ⟨Ab, cb, rfl, hB⟩, hbel, hok⟩ := hrel
    have hlen : (encL (a0.take k)).length ≤ 25600 := by
      have := encL_len _ hok
      rw [List.length_take] at this
      omega
    have hszw : w.heap.size ≤ wr.heap.size := hbel.below.size
    have HB := Lib.hid hB
    have HBel := Lib.hid hbel
    have HOK := Lib.hid hok
    clear hB hbel hok hb1
    by_cases hlt : k < n0
    · generalize hm : (encL (a0.take k)).length = m at *
      have HM := Lib.hid hm
      clear hm
      obtain ⟨b, off, kd, N, txt, At, ct, rfl, hb, hx, hkd, hN, e0, e1, e2, hT⟩ := (H0.out.later HBel.out.below).at_ hlt
      have HX := Lib.hid hx
      have HT := Lib.hid hT
      have htm : txt.length ≤ 9223372036854775807 := Nat.le_trans hT.room hT.most
      clear hx hT
      by_cases q0 : kd = 0
      · subst q0
        go_wp2_with fail
        rw [show ((N : Int) % 256) = ((N % 256 : Nat) : Int) from by omega]
        refine (Put8_any _ _ _ _ (N % 256) _ _ HB.out (by omega) (by omega)).mono ?_
        rintro e w2 ⟨A2, c2, rfl, hB2, hb2⟩
        have hb3 : Bel w.heap.size w w2 := HBel.out.call hb2
        have HB2 := Lib.hid hB2
        clear hB2
        go_wp2_with fail
        go_roundw
        case rel => exact back_step HX.out hlt HM.out HOK.out (by simp [encV]) (by rw [leB_length]) HB2.out hszw hb3 (fun h => absurd h (by omega))
        case measure => simp [intOf]; omega
      by_cases q1 : kd = 1
      · subst q1
        go_wp2_with fail
        rw [show IntKind.u16.wrap (N : Int) = ((N % 65536 : Nat) : Int) from by rw [IntKind.wrap_u16]; omega]
        refine (Put16_any _ _ _ _ (N % 65536) _ _ HB.out (by omega) (by omega)).mono ?_
        rintro e w2 ⟨A2, c2, rfl, hB2, hb2⟩
        have hb3 : Bel w.heap.size w w2 := HBel.out.call hb2
        have HB2 := Lib.hid hB2
        clear hB2
        go_wp2_with fail
        go_roundw
        case rel => exact back_step HX.out hlt HM.out HOK.out (by simp [encV]) (by rw [leB_length]) HB2.out hszw hb3 (fun h => absurd h (by omega))
        case measure => simp [intOf]; omega
      by_cases q2 : kd = 2
      · subst q2
        go_wp2_with fail
        rw [show ((N : Int) % 4294967296) = ((N % 4294967296 : Nat) : Int) from by omega]
        refine (Put32_any _ _ _ _ (N % 4294967296) _ _ HB.out (by omega) (by omega)).mono ?_
        rintro e w2 ⟨A2, c2, rfl, hB2, hb2⟩
        have hb3 : Bel w.heap.size w w2 := HBel.out.call hb2
        have HB2 := Lib.hid hB2
        clear hB2
        go_wp2_with fail
        go_roundw
        case rel => exact back_step HX.out hlt HM.out HOK.out (by simp [encV]) (by rw [leB_length]) HB2.out hszw hb3 (fun h => absurd h (by omega))
        case measure => simp [intOf]; omega
      by_cases q3 : kd = 3
      · subst q3
        go_wp2_with fail
        refine (Put64_any _ _ _ _ (N) _ _ HB.out (by omega) (by omega)).mono ?_
        rintro e w2 ⟨A2, c2, rfl, hB2, hb2⟩
        have hb3 : Bel w.heap.size w w2 := HBel.out.call hb2
        have HB2 := Lib.hid hB2
        clear hB2
        go_wp2_with fail
        go_roundw
        case rel => exact back_step HX.out hlt HM.out HOK.out (by simp [encV]) (by rw [leB_length]) HB2.out hszw hb3 (fun h => absurd h (by omega))
        case measure => simp [intOf]; omega
      have c4 : 4 ≤ kd := by omega
      by_cases ht : txt.length ≤ 255
      · go_wp2_with fail
        refine (puttext_ok _ _ _ _ _ _ _ _ _ _ _ HB.out HT.out (by omega) ht).mono ?_
        rintro e w2 ⟨A2, c2, rfl, hB2, hb2⟩
        have hb3 : Bel w.heap.size w w2 := HBel.out.call hb2
        have e2' : w2.cell? ⟨b, off + k * 3 + 2, none⟩ = some (.slice At txt.length ct) := (hb2.cell (p := ⟨b, off + k * 3 + 2, none⟩) hb).trans e2
        have HB2 := Lib.hid hB2
        clear hB2
        go_wp2_with fail
        go_roundw
        case rel => exact back_step (bytes := leB txt.length 1 ++ txt) HX.out hlt HM.out HOK.out (by unfold encV; simp only; rw [if_neg q0, if_neg q1, if_neg q2, if_neg q3]) (by rw [List.length_append, leB_length]; omega) (by rw [← List.append_assoc]; exact HB2.out) hszw hb3 (fun _ => ht)
        case measure => simp [intOf]; omega
      · have ht' : 255 < txt.length := by omega
        go_wp2_with (go_at_call 15; refine (puttext_long _ _ _ _ _ _ _ ht' htm).mono ?_; rintro e w2 ⟨rfl, rfl⟩)
        go_ret
        exact ⟨rfl, HBel.out.below⟩
    · obtain rfl : k = n0 := by omega
      have hfull : a0.take k = a0 := List.take_of_length_le (by rw [HX0.out]; exact Nat.le_refl _)
      rw [hfull] at hlen HB HOK
      rw [hfull]
      clear hfull
      obtain ⟨wo, rfl⟩ : ∃ wo : World, wo = wr := ⟨_, rfl⟩
      go_wp2_with fail
      go_loopw [9] (fun i wx => ∃ j : Nat, j ≤ k ∧ i = .int .i64 j ∧ Box wx wo.heap.size 25 #[.slice Ab (encL a0).length cb, .int .i64 ((encL (a0.take j)).length : Int)] ∧ Bel wo.heap.size wo wx) (fun i _ => k - (intOf i).toNat)
      case atStart => exact ⟨0, Nat.zero_le _, rfl, Box.new _ _ _, by (repeat' (first | (with_reducible assumption) | (with_reducible exact Bel.refl (Nat.le_refl _)) | (with_reducible apply Bel.drew) | (with_reducible apply Bel.drewN) | (with_reducible apply Bel.alloc) | (with_reducible refine Bel.set ?_ ?_ _) | (with_reducible refine Bel.call ?_ (by with_reducible assumption)) | (with_reducible exact Nat.le_refl _) | (simp; done) | (simp; omega)))⟩
      case round =>
        obtain ⟨j, hj, rfl, hbox, hbx⟩ := hrel
        have r0 : wr.cell? ⟨wo.heap.size, 0, none⟩ = some (.slice Ab (encL a0).length cb) := hbox.cell 0
        have r1 : wr.cell? ⟨wo.heap.size, 1, none⟩ = some (.int .i64 ((encL (a0.take j)).length : Int)) := hbox.cell 1
        have hgl := hbox.lt
        have HBX := Lib.hid hbx
        have HBOX := Lib.hid hbox
        have HBr := Lib.hid (HB.out.later hbx.below)
        have HBel2 := Lib.hid (show Bel w.heap.size w wr from ⟨HBel.out.below.trans (hbx.below.mono hszw), HBel.out.le⟩)
        have hpl : (encL (a0.take j)).length ≤ 25600 := by
          have := encL_len (a0.take j) fun v hv => HOK.out v (List.mem_of_mem_take hv)
          rw [List.length_take] at this
          omega
        by_cases hlt2 : j < k
        · obtain ⟨b, off, kd, N, txt, At, ct, rfl, hb, hx, hkd, hN, e0, e1, e2, hT⟩ := (H0.out.later HBel2.out.below).at_ hlt2
          have HT := Lib.hid hT
          have hsplit := encL_split a0 j _ hx
          have HS := Lib.hid hsplit
          have HTK := Lib.hid (take_encL a0 j _ hx)
          have HOKV := Lib.hid (HOK.out _ (List.mem_of_getElem? hx))
          clear hx hT hsplit
          by_cases q0 : kd = 0
          · subst q0
            have hev : encV (0, N, txt, ()) = leB (N % 256) 1 := by simp [encV]
            have hrb := read_back (encL (a0.take j)) (leB (N % 256) 1) (encL (a0.drop (j + 1)))
            rw [← hev, ← HS.out, hev, leB_length] at hrb
            obtain ⟨A2, l2, c2, x2, hout, hu⟩ := U8_any HBr.out ((encL (a0.take j)).length : Int) (by omega) (by omega)
            rcases hout with ⟨_, rfl, rfl, rfl, rfl⟩ | ⟨hne, _⟩
            case inr => exact absurd hrb.1 hne
            have hq : Hid ((leV (leB (N % 256) 1) : Int) = (N : Int) % 256) := by show _ = _; rw [leV_leB]; omega
            rw [show cutE (encL a0).length ((encL (a0.take j)).length : Int) 1 = 0 from hrb.1, show cutB (encL a0) ((encL (a0.take j)).length : Int) 1 = leB (N % 256) 1 from hrb.2, hq.out] at hu
            have hnl : Hid ((((encL (a0.take (j + 1))).length : Nat) : Int) = ((encL (a0.take j)).length : Int) + 1) := by show _ = _; rw [HTK.out, List.length_append, hev, leB_length]; omega
            have HU := Lib.hid hu
            clear hu hrb hev
            generalize (encL (a0.take j)).length = m at *
            generalize (encL a0).length = L at *
            go_wp2_with fail
            refine (HU.out _ ?_).mono ?_
            · (refine Bel.below ?_; repeat' (first | (with_reducible assumption) | (with_reducible exact Bel.refl (Nat.le_refl _)) | (with_reducible apply Bel.drew) | (with_reducible apply Bel.drewN) | (with_reducible apply Bel.alloc) | (with_reducible refine Bel.set ?_ ?_ _) | (with_reducible refine Bel.call ?_ (by with_reducible assumption)) | (with_reducible exact Nat.le_refl _) | (simp; done) | (simp; omega)))
            rintro e w2 ⟨rfl, hb2⟩
            have hzz : wr.heap.size < w2.heap.size := by have := hb2.size; simp at this; omega
            have hz0 : wo.heap.size < w2.heap.size := by omega
            have hzb : b < w2.heap.size := by omega
            have hz1 : wo.heap.size ≠ wr.heap.size := by omega
            have e1' : w2.cell? ⟨b, off + j * 3 + 1, none⟩ = some (.int .u64 (N : Int)) := (hb2.cell (p := ⟨b, off + j * 3 + 1, none⟩) (by simp; omega)).trans ((World.cell?_alloc_lt _ _ _ hb).trans e1)
            have hB8 : Box w2 (wo.heap.size) 25 #[.slice A2 L c2, .int .i64 (m : Int)] := (by (repeat' (first | (with_reducible assumption) | (with_reducible exact Box.new _ _ _) | (with_reducible refine Box.newAt _ _ _ ?_; simp; done) | (with_reducible apply Box.put2) | (with_reducible apply Box.drew) | (with_reducible apply Box.drewN) | (with_reducible apply Box.alloc) | (with_reducible refine Box.call ?_ (by with_reducible assumption)) | (with_reducible refine Box.far ?_ _ ?_) | (simp; done) | (simp; omega)))); have hB8c0 : World.cell? w2 ⟨wo.heap.size, 0, none⟩ = some (.slice A2 L c2) := Box.cell hB8 0; have hB8c1 : World.cell? w2 ⟨wo.heap.size, 1, none⟩ = some (.int .i64 (m : Int)) := Box.cell hB8 1; have hB8f0 := Box.frozen hB8 0; have hB8f1 := Box.frozen hB8 1
            have hB11 : Box w2 (wr.heap.size) 25 #[.slice none 0 0, .int .i64 0] := (by (repeat' (first | (with_reducible assumption) | (with_reducible exact Box.new _ _ _) | (with_reducible refine Box.newAt _ _ _ ?_; simp; done) | (with_reducible apply Box.put2) | (with_reducible apply Box.drew) | (with_reducible apply Box.drewN) | (with_reducible apply Box.alloc) | (with_reducible refine Box.call ?_ (by with_reducible assumption)) | (with_reducible refine Box.far ?_ _ ?_) | (simp; done) | (simp; omega)))); have hB11c0 : World.cell? w2 ⟨wr.heap.size, 0, none⟩ = some (.slice none 0 0) := Box.cell hB11 0; have hB11c1 : World.cell? w2 ⟨wr.heap.size, 1, none⟩ = some (.int .i64 0) := Box.cell hB11 1; have hB11f0 := Box.frozen hB11 0; have hB11f1 := Box.frozen hB11 1
            go_wp2_with fail
            go_region
            go_wp2_with fail
            go_roundw
            case rel =>
              refine ⟨j + 1, by omega, by go_num, ?_, ?_⟩
              · rw [hnl.out]
                (repeat' (first | (with_reducible assumption) | (with_reducible exact Box.new _ _ _) | (with_reducible refine Box.newAt _ _ _ ?_; simp; done) | (with_reducible apply Box.put2) | (with_reducible apply Box.drew) | (with_reducible apply Box.drewN) | (with_reducible apply Box.alloc) | (with_reducible refine Box.call ?_ (by with_reducible assumption)) | (with_reducible refine Box.far ?_ _ ?_) | (simp; done) | (simp; omega)))
              · (repeat' (first | (with_reducible assumption) | (with_reducible exact Bel.refl (Nat.le_refl _)) | (with_reducible apply Bel.drew) | (with_reducible apply Bel.drewN) | (with_reducible apply Bel.alloc) | (with_reducible refine Bel.set ?_ ?_ _) | (with_reducible refine Bel.call ?_ (by with_reducible assumption)) | (with_reducible exact Nat.le_refl _) | (simp; done) | (simp; omega)))
            case measure => simp [intOf]; omega
          by_cases q1 : kd = 1
          · subst q1
            have hev : encV (1, N, txt, ()) = leB (N % 65536) 2 := by simp [encV]
            have hrb := read_back (encL (a0.take j)) (leB (N % 65536) 2) (encL (a0.drop (j + 1)))
            rw [← hev, ← HS.out, hev, leB_length] at hrb
            obtain ⟨A2, l2, c2, x2, hout, hu⟩ := U16_any HBr.out ((encL (a0.take j)).length : Int) (by omega) (by omega)
            rcases hout with ⟨_, rfl, rfl, rfl, rfl⟩ | ⟨hne, _⟩
            case inr => exact absurd hrb.1 hne
            have hq : Hid ((leV (leB (N % 65536) 2) : Int) = IntKind.u16.wrap (N : Int)) := by show _ = _; rw [leV_leB]; rw [IntKind.wrap_u16]; omega
            rw [show cutE (encL a0).length ((encL (a0.take j)).length : Int) 2 = 0 from hrb.1, show cutB (encL a0) ((encL (a0.take j)).length : Int) 2 = leB (N % 65536) 2 from hrb.2, hq.out] at hu
            have hnl : Hid ((((encL (a0.take (j + 1))).length : Nat) : Int) = ((encL (a0.take j)).length : Int) + 2) := by show _ = _; rw [HTK.out, List.length_append, hev, leB_length]; omega
            have HU := Lib.hid hu
            clear hu hrb hev
            generalize (encL (a0.take j)).length = m at *
            generalize (encL a0).length = L at *
            go_wp2_with fail
            refine (HU.out _ ?_).mono ?_
            · (refine Bel.below ?_; repeat' (first | (with_reducible assumption) | (with_reducible exact Bel.refl (Nat.le_refl _)) | (with_reducible apply Bel.drew) | (with_reducible apply Bel.drewN) | (with_reducible apply Bel.alloc) | (with_reducible refine Bel.set ?_ ?_ _) | (with_reducible refine Bel.call ?_ (by with_reducible assumption)) | (with_reducible exact Nat.le_refl _) | (simp; done) | (simp; omega)))
            rintro e w2 ⟨rfl, hb2⟩
            have hzz : wr.heap.size < w2.heap.size := by have := hb2.size; simp at this; omega
            have hz0 : wo.heap.size < w2.heap.size := by omega
            have hzb : b < w2.heap.size := by omega
            have hz1 : wo.heap.size ≠ wr.heap.size := by omega
            have e1' : w2.cell? ⟨b, off + j * 3 + 1, none⟩ = some (.int .u64 (N : Int)) := (hb2.cell (p := ⟨b, off + j * 3 + 1, none⟩) (by simp; omega)).trans ((World.cell?_alloc_lt _ _ _ hb).trans e1)
            have hB8 : Box w2 (wo.heap.size) 25 #[.slice A2 L c2, .int .i64 (m : Int)] := (by (repeat' (first | (with_reducible assumption) | (with_reducible exact Box.new _ _ _) | (with_reducible refine Box.newAt _ _ _ ?_; simp; done) | (with_reducible apply Box.put2) | (with_reducible apply Box.drew) | (with_reducible apply Box.drewN) | (with_reducible apply Box.alloc) | (with_reducible refine Box.call ?_ (by with_reducible assumption)) | (with_reducible refine Box.far ?_ _ ?_) | (simp; done) | (simp; omega)))); have hB8c0 : World.cell? w2 ⟨wo.heap.size, 0, none⟩ = some (.slice A2 L c2) := Box.cell hB8 0; have hB8c1 : World.cell? w2 ⟨wo.heap.size, 1, none⟩ = some (.int .i64 (m : Int)) := Box.cell hB8 1; have hB8f0 := Box.frozen hB8 0; have hB8f1 := Box.frozen hB8 1
            have hB11 : Box w2 (wr.heap.size) 25 #[.slice none 0 0, .int .i64 0] := (by (repeat' (first | (with_reducible assumption) | (with_reducible exact Box.new _ _ _) | (with_reducible refine Box.newAt _ _ _ ?_; simp; done) | (with_reducible apply Box.put2) | (with_reducible apply Box.drew) | (with_reducible apply Box.drewN) | (with_reducible apply Box.alloc) | (with_reducible refine Box.call ?_ (by with_reducible assumption)) | (with_reducible refine Box.far ?_ _ ?_) | (simp; done) | (simp; omega)))); have hB11c0 : World.cell? w2 ⟨wr.heap.size, 0, none⟩ = some (.slice none 0 0) := Box.cell hB11 0; have hB11c1 : World.cell? w2 ⟨wr.heap.size, 1, none⟩ = some (.int .i64 0) := Box.cell hB11 1; have hB11f0 := Box.frozen hB11 0; have hB11f1 := Box.frozen hB11 1
            go_wp2_with fail
            go_region
            go_wp2_with fail
            go_roundw
            case rel =>
              refine ⟨j + 1, by omega, by go_num, ?_, ?_⟩
              · rw [hnl.out]
                (repeat' (first | (with_reducible assumption) | (with_reducible exact Box.new _ _ _) | (with_reducible refine Box.newAt _ _ _ ?_; simp; done) | (with_reducible apply Box.put2) | (with_reducible apply Box.drew) | (with_reducible apply Box.drewN) | (with_reducible apply Box.alloc) | (with_reducible refine Box.call ?_ (by with_reducible assumption)) | (with_reducible refine Box.far ?_ _ ?_) | (simp; done) | (simp; omega)))
              · (repeat' (first | (with_reducible assumption) | (with_reducible exact Bel.refl (Nat.le_refl _)) | (with_reducible apply Bel.drew) | (with_reducible apply Bel.drewN) | (with_reducible apply Bel.alloc) | (with_reducible refine Bel.set ?_ ?_ _) | (with_reducible refine Bel.call ?_ (by with_reducible assumption)) | (with_reducible exact Nat.le_refl _) | (simp; done) | (simp; omega)))
            case measure => simp [intOf]; omega
          by_cases q2 : kd = 2
          · subst q2
            have hev : encV (2, N, txt, ()) = leB (N % 4294967296) 4 := by simp [encV]
            have hrb := read_back (encL (a0.take j)) (leB (N % 4294967296) 4) (encL (a0.drop (j + 1)))
            rw [← hev, ← HS.out, hev, leB_length] at hrb
            obtain ⟨A2, l2, c2, x2, hout, hu⟩ := U32_any HBr.out ((encL (a0.take j)).length : Int) (by omega) (by omega)
            rcases hout with ⟨_, rfl, rfl, rfl, rfl⟩ | ⟨hne, _⟩
            case inr => exact absurd hrb.1 hne
            have hq : Hid ((leV (leB (N % 4294967296) 4) : Int) = (N : Int) % 4294967296) := by show _ = _; rw [leV_leB]; omega
            rw [show cutE (encL a0).length ((encL (a0.take j)).length : Int) 4 = 0 from hrb.1, show cutB (encL a0) ((encL (a0.take j)).length : Int) 4 = leB (N % 4294967296) 4 from hrb.2, hq.out] at hu
            have hnl : Hid ((((encL (a0.take (j + 1))).length : Nat) : Int) = ((encL (a0.take j)).length : Int) + 4) := by show _ = _; rw [HTK.out, List.length_append, hev, leB_length]; omega
            have HU := Lib.hid hu
            clear hu hrb hev
            generalize (encL (a0.take j)).length = m at *
            generalize (encL a0).length = L at *
            go_wp2_with fail
            refine (HU.out _ ?_).mono ?_
            · (refine Bel.below ?_; repeat' (first | (with_reducible assumption) | (with_reducible exact Bel.refl (Nat.le_refl _)) | (with_reducible apply Bel.drew) | (with_reducible apply Bel.drewN) | (with_reducible apply Bel.alloc) | (with_reducible refine Bel.set ?_ ?_ _) | (with_reducible refine Bel.call ?_ (by with_reducible assumption)) | (with_reducible exact Nat.le_refl _) | (simp; done) | (simp; omega)))
            rintro e w2 ⟨rfl, hb2⟩
            have hzz : wr.heap.size < w2.heap.size := by have := hb2.size; simp at this; omega
            have hz0 : wo.heap.size < w2.heap.size := by omega
            have hzb : b < w2.heap.size := by omega
            have hz1 : wo.heap.size ≠ wr.heap.size := by omega
            have e1' : w2.cell? ⟨b, off + j * 3 + 1, none⟩ = some (.int .u64 (N : Int)) := (hb2.cell (p := ⟨b, off + j * 3 + 1, none⟩) (by simp; omega)).trans ((World.cell?_alloc_lt _ _ _ hb).trans e1)
            have hB8 : Box w2 (wo.heap.size) 25 #[.slice A2 L c2, .int .i64 (m : Int)] := (by (repeat' (first | (with_reducible assumption) | (with_reducible exact Box.new _ _ _) | (with_reducible refine Box.newAt _ _ _ ?_; simp; done) | (with_reducible apply Box.put2) | (with_reducible apply Box.drew) | (with_reducible apply Box.drewN) | (with_reducible apply Box.alloc) | (with_reducible refine Box.call ?_ (by with_reducible assumption)) | (with_reducible refine Box.far ?_ _ ?_) | (simp; done) | (simp; omega)))); have hB8c0 : World.cell? w2 ⟨wo.heap.size, 0, none⟩ = some (.slice A2 L c2) := Box.cell hB8 0; have hB8c1 : World.cell? w2 ⟨wo.heap.size, 1, none⟩ = some (.int .i64 (m : Int)) := Box.cell hB8 1; have hB8f0 := Box.frozen hB8 0; have hB8f1 := Box.frozen hB8 1
            have hB11 : Box w2 (wr.heap.size) 25 #[.slice none 0 0, .int .i64 0] := (by (repeat' (first | (with_reducible assumption) | (with_reducible exact Box.new _ _ _) | (with_reducible refine Box.newAt _ _ _ ?_; simp; done) | (with_reducible apply Box.put2) | (with_reducible apply Box.drew) | (with_reducible apply Box.drewN) | (with_reducible apply Box.alloc) | (with_reducible refine Box.call ?_ (by with_reducible assumption)) | (with_reducible refine Box.far ?_ _ ?_) | (simp; done) | (simp; omega)))); have hB11c0 : World.cell? w2 ⟨wr.heap.size, 0, none⟩ = some (.slice none 0 0) := Box.cell hB11 0; have hB11c1 : World.cell? w2 ⟨wr.heap.size, 1, none⟩ = some (.int .i64 0) := Box.cell hB11 1; have hB11f0 := Box.frozen hB11 0; have hB11f1 := Box.frozen hB11 1
            go_wp2_with fail
            go_region
            go_wp2_with fail
            go_roundw
            case rel =>
              refine ⟨j + 1, by omega, by go_num, ?_, ?_⟩
              · rw [hnl.out]
                (repeat' (first | (with_reducible assumption) | (with_reducible exact Box.new _ _ _) | (with_reducible refine Box.newAt _ _ _ ?_; simp; done) | (with_reducible apply Box.put2) | (with_reducible apply Box.drew) | (with_reducible apply Box.drewN) | (with_reducible apply Box.alloc) | (with_reducible refine Box.call ?_ (by with_reducible assumption)) | (with_reducible refine Box.far ?_ _ ?_) | (simp; done) | (simp; omega)))
              · (repeat' (first | (with_reducible assumption) | (with_reducible exact Bel.refl (Nat.le_refl _)) | (with_reducible apply Bel.drew) | (with_reducible apply Bel.drewN) | (with_reducible apply Bel.alloc) | (with_reducible refine Bel.set ?_ ?_ _) | (with_reducible refine Bel.call ?_ (by with_reducible assumption)) | (with_reducible exact Nat.le_refl _) | (simp; done) | (simp; omega)))
            case measure => simp [intOf]; omega
          by_cases q3 : kd = 3
          · subst q3
            have hev : encV (3, N, txt, ()) = leB N 8 := by simp [encV]
            have hrb := read_back (encL (a0.take j)) (leB N 8) (encL (a0.drop (j + 1)))
            rw [← hev, ← HS.out, hev, leB_length] at hrb
            obtain ⟨A2, l2, c2, x2, hout, hu⟩ := U64_any HBr.out ((encL (a0.take j)).length : Int) (by omega) (by omega)
            rcases hout with ⟨_, rfl, rfl, rfl, rfl⟩ | ⟨hne, _⟩
            case inr => exact absurd hrb.1 hne
            have hq : Hid ((leV (leB N 8) : Int) = (N : Int)) := by show _ = _; rw [leV_leB]; omega
            rw [show cutE (encL a0).length ((encL (a0.take j)).length : Int) 8 = 0 from hrb.1, show cutB (encL a0) ((encL (a0.take j)).length : Int) 8 = leB N 8 from hrb.2, hq.out] at hu
            have hnl : Hid ((((encL (a0.take (j + 1))).length : Nat) : Int) = ((encL (a0.take j)).length : Int) + 8) := by show _ = _; rw [HTK.out, List.length_append, hev, leB_length]; omega
            have HU := Lib.hid hu
            clear hu hrb hev
            generalize (encL (a0.take j)).length = m at *
            generalize (encL a0).length = L at *
            go_wp2_with fail
            refine (HU.out _ ?_).mono ?_
            · (refine Bel.below ?_; repeat' (first | (with_reducible assumption) | (with_reducible exact Bel.refl (Nat.le_refl _)) | (with_reducible apply Bel.drew) | (with_reducible apply Bel.drewN) | (with_reducible apply Bel.alloc) | (with_reducible refine Bel.set ?_ ?_ _) | (with_reducible refine Bel.call ?_ (by with_reducible assumption)) | (with_reducible exact Nat.le_refl _) | (simp; done) | (simp; omega)))
            rintro e w2 ⟨rfl, hb2⟩
            have hzz : wr.heap.size < w2.heap.size := by have := hb2.size; simp at this; omega
            have hz0 : wo.heap.size < w2.heap.size := by omega
            have hzb : b < w2.heap.size := by omega
            have hz1 : wo.heap.size ≠ wr.heap.size := by omega
            have e1' : w2.cell? ⟨b, off + j * 3 + 1, none⟩ = some (.int .u64 (N : Int)) := (hb2.cell (p := ⟨b, off + j * 3 + 1, none⟩) (by simp; omega)).trans ((World.cell?_alloc_lt _ _ _ hb).trans e1)
            have hB8 : Box w2 (wo.heap.size) 25 #[.slice A2 L c2, .int .i64 (m : Int)] := (by (repeat' (first | (with_reducible assumption) | (with_reducible exact Box.new _ _ _) | (with_reducible refine Box.newAt _ _ _ ?_; simp; done) | (with_reducible apply Box.put2) | (with_reducible apply Box.drew) | (with_reducible apply Box.drewN) | (with_reducible apply Box.alloc) | (with_reducible refine Box.call ?_ (by with_reducible assumption)) | (with_reducible refine Box.far ?_ _ ?_) | (simp; done) | (simp; omega)))); have hB8c0 : World.cell? w2 ⟨wo.heap.size, 0, none⟩ = some (.slice A2 L c2) := Box.cell hB8 0; have hB8c1 : World.cell? w2 ⟨wo.heap.size, 1, none⟩ = some (.int .i64 (m : Int)) := Box.cell hB8 1; have hB8f0 := Box.frozen hB8 0; have hB8f1 := Box.frozen hB8 1
            have hB11 : Box w2 (wr.heap.size) 25 #[.slice none 0 0, .int .i64 0] := (by (repeat' (first | (with_reducible assumption) | (with_reducible exact Box.new _ _ _) | (with_reducible refine Box.newAt _ _ _ ?_; simp; done) | (with_reducible apply Box.put2) | (with_reducible apply Box.drew) | (with_reducible apply Box.drewN) | (with_reducible apply Box.alloc) | (with_reducible refine Box.call ?_ (by with_reducible assumption)) | (with_reducible refine Box.far ?_ _ ?_) | (simp; done) | (simp; omega)))); have hB11c0 : World.cell? w2 ⟨wr.heap.size, 0, none⟩ = some (.slice none 0 0) := Box.cell hB11 0; have hB11c1 : World.cell? w2 ⟨wr.heap.size, 1, none⟩ = some (.int .i64 0) := Box.cell hB11 1; have hB11f0 := Box.frozen hB11 0; have hB11f1 := Box.frozen hB11 1
            go_wp2_with fail
            go_region
            go_wp2_with fail
            go_roundw
            case rel =>
              refine ⟨j + 1, by omega, by go_num, ?_, ?_⟩
              · rw [hnl.out]
                (repeat' (first | (with_reducible assumption) | (with_reducible exact Box.new _ _ _) | (with_reducible refine Box.newAt _ _ _ ?_; simp; done) | (with_reducible apply Box.put2) | (with_reducible apply Box.drew) | (with_reducible apply Box.drewN) | (with_reducible apply Box.alloc) | (with_reducible refine Box.call ?_ (by with_reducible assumption)) | (with_reducible refine Box.far ?_ _ ?_) | (simp; done) | (simp; omega)))
              · (repeat' (first | (with_reducible assumption) | (with_reducible exact Bel.refl (Nat.le_refl _)) | (with_reducible apply Bel.drew) | (with_reducible apply Bel.drewN) | (with_reducible apply Bel.alloc) | (with_reducible refine Bel.set ?_ ?_ _) | (with_reducible refine Bel.call ?_ (by with_reducible assumption)) | (with_reducible exact Nat.le_refl _) | (simp; done) | (simp; omega)))
            case measure => simp [intOf]; omega
          have q4 : 4 ≤ kd := by omega
          have hle : txt.length ≤ 255 := HOKV.out q4
          have hev : encV (kd, N, txt, ()) = leB txt.length 1 ++ txt := by unfold encV; simp only; rw [if_neg q0, if_neg q1, if_neg q2, if_neg q3]
          have htb := text_back (encL (a0.take j)) txt (encL (a0.drop (j + 1))) hle
          rw [← hev, ← HS.out] at htb
          obtain ⟨A2, l2, c2, x2, hout, hu⟩ := text_any HBr.out ((encL (a0.take j)).length : Int) (by omega) (by omega) (by omega)
          rcases hout with ⟨_, rfl, rfl, rfl, rfl⟩ | ⟨hne, _⟩
          case inr => exact absurd htb.2.1 hne
          rw [htb.1, htb.2.1, htb.2.2] at hu
          have hnl : Hid ((((encL (a0.take (j + 1))).length : Nat) : Int) = ((encL (a0.take j)).length : Int) + (1 + (txt.length : Int))) := by show _ = _; rw [HTK.out, List.length_append, hev, List.length_append, leB_length]; omega
          have HU := Lib.hid hu
          clear hu htb hev
          generalize (encL (a0.take j)).length = m at *
          generalize (encL a0).length = L at *
          go_wp2_with fail
          refine (HU.out _ ?_).mono ?_
          · (refine Bel.below ?_; repeat' (first | (with_reducible assumption) | (with_reducible exact Bel.refl (Nat.le_refl _)) | (with_reducible apply Bel.drew) | (with_reducible apply Bel.drewN) | (with_reducible apply Bel.alloc) | (with_reducible refine Bel.set ?_ ?_ _) | (with_reducible refine Bel.call ?_ (by with_reducible assumption)) | (with_reducible exact Nat.le_refl _) | (simp; done) | (simp; omega)))
          rintro e w2 ⟨At2, mt, ct2, rfl, hB2, hb2⟩
          obtain rfl : mt = txt.length := hB2.row.1.symm
          have HB2 := Lib.hid hB2
          clear hB2
          have hzz : wr.heap.size < w2.heap.size := by have := hb2.size; simp at this; omega
          have hz0 : wo.heap.size < w2.heap.size := by omega
          have hzb : b < w2.heap.size := by omega
          have hz1 : wo.heap.size ≠ wr.heap.size := by omega
          have e2' : w2.cell? ⟨b, off + j * 3 + 2, none⟩ = some (.slice At txt.length ct) := (hb2.cell (p := ⟨b, off + j * 3 + 2, none⟩) (by simp; omega)).trans ((World.cell?_alloc_lt _ _ _ hb).trans e2)
          have HT2 := Lib.hid (HT.out.later (by (refine Bel.below ?_; repeat' (first | (with_reducible assumption) | (with_reducible exact Bel.refl (Nat.le_refl _)) | (with_reducible apply Bel.drew) | (with_reducible apply Bel.drewN) | (with_reducible apply Bel.alloc) | (with_reducible refine Bel.set ?_ ?_ _) | (with_reducible refine Bel.call ?_ (by with_reducible assumption)) | (with_reducible exact Nat.le_refl _) | (simp; done) | (simp; omega))) : Below wr.heap.size wr w2))
          have hne1 : ¬ b = wr.heap.size := by omega
          have hne2 : ¬ wr.heap.size = b := by omega
          have hne3 : ¬ w2.heap.size = wr.heap.size := by omega
          have hne4 : ¬ wr.heap.size = w2.heap.size := by omega
          have hne5 : ¬ b = w2.heap.size := by omega
          have hB8 : Box w2 (wo.heap.size) 25 #[.slice A2 L c2, .int .i64 (m : Int)] := (by (repeat' (first | (with_reducible assumption) | (with_reducible exact Box.new _ _ _) | (with_reducible refine Box.newAt _ _ _ ?_; simp; done) | (with_reducible apply Box.put2) | (with_reducible apply Box.drew) | (with_reducible apply Box.drewN) | (with_reducible apply Box.alloc) | (with_reducible refine Box.call ?_ (by with_reducible assumption)) | (with_reducible refine Box.far ?_ _ ?_) | (simp; done) | (simp; omega)))); have hB8c0 : World.cell? w2 ⟨wo.heap.size, 0, none⟩ = some (.slice A2 L c2) := Box.cell hB8 0; have hB8c1 : World.cell? w2 ⟨wo.heap.size, 1, none⟩ = some (.int .i64 (m : Int)) := Box.cell hB8 1; have hB8f0 := Box.frozen hB8 0; have hB8f1 := Box.frozen hB8 1
          have hB11 : Box w2 (wr.heap.size) 25 #[.slice none 0 0, .int .i64 0] := (by (repeat' (first | (with_reducible assumption) | (with_reducible exact Box.new _ _ _) | (with_reducible refine Box.newAt _ _ _ ?_; simp; done) | (with_reducible apply Box.put2) | (with_reducible apply Box.drew) | (with_reducible apply Box.drewN) | (with_reducible apply Box.alloc) | (with_reducible refine Box.call ?_ (by with_reducible assumption)) | (with_reducible refine Box.far ?_ _ ?_) | (simp; done) | (simp; omega)))); have hB11c0 : World.cell? w2 ⟨wr.heap.size, 0, none⟩ = some (.slice none 0 0) := Box.cell hB11 0; have hB11c1 : World.cell? w2 ⟨wr.heap.size, 1, none⟩ = some (.int .i64 0) := Box.cell hB11 1; have hB11f0 := Box.frozen hB11 0; have hB11f1 := Box.frozen hB11 1
          go_wp2_with fail
          go_region_with (first | (go_at_call 29; refine (same_any _ _ _ _ _ _ _ _ txt txt _ (HB2.out.later (by (refine Bel.below ?_; repeat' (first | (with_reducible assumption) | (with_reducible exact Bel.refl (Nat.le_refl _)) | (with_reducible apply Bel.drew) | (with_reducible apply Bel.drewN) | (with_reducible apply Bel.alloc) | (with_reducible refine Bel.set ?_ ?_ _) | (with_reducible refine Bel.call ?_ (by with_reducible assumption)) | (with_reducible exact Nat.le_refl _) | (simp; done) | (simp; omega))))) (HT2.out.later (by (refine Bel.below ?_; repeat' (first | (with_reducible assumption) | (with_reducible exact Bel.refl (Nat.le_refl _)) | (with_reducible apply Bel.drew) | (with_reducible apply Bel.drewN) | (with_reducible apply Bel.alloc) | (with_reducible refine Bel.set ?_ ?_ _) | (with_reducible refine Bel.call ?_ (by with_reducible assumption)) | (with_reducible exact Nat.le_refl _) | (simp; done) | (simp; omega)))))).mono ?_; rintro e w3 ⟨rfl, rfl⟩; rw [eqL_refl]))
          all_goals go_wp2_with fail
          all_goals
            go_roundw
            case rel =>
              refine ⟨j + 1, by omega, by go_num, ?_, ?_⟩
              · rw [hnl.out]
                (repeat' (first | (with_reducible assumption) | (with_reducible exact Box.new _ _ _) | (with_reducible refine Box.newAt _ _ _ ?_; simp; done) | (with_reducible apply Box.put2) | (with_reducible apply Box.drew) | (with_reducible apply Box.drewN) | (with_reducible apply Box.alloc) | (with_reducible refine Box.call ?_ (by with_reducible assumption)) | (with_reducible refine Box.far ?_ _ ?_) | (simp; done) | (simp; omega)))
              · (repeat' (first | (with_reducible assumption) | (with_reducible exact Bel.refl (Nat.le_refl _)) | (with_reducible apply Bel.drew) | (with_reducible apply Bel.drewN) | (with_reducible apply Bel.alloc) | (with_reducible refine Bel.set ?_ ?_ _) | (with_reducible refine Bel.call ?_ (by with_reducible assumption)) | (with_reducible exact Nat.le_refl _) | (simp; done) | (simp; omega)))
            case measure => simp [intOf]; omega
        · obtain rfl : j = k := by omega
          have hfull : a0.take j = a0 := List.take_of_length_le (by rw [HX0.out]; exact Nat.le_refl _)
          rw [hfull] at r1
          clear HBOX hfull
          have hdone : Hid (doneE (encL a0).length ((encL a0).length : Int) = 0) := by show _ = _; unfold doneE; rw [if_neg (by omega), if_neg (by omega)]
          go_wp2_with fail
          refine (done_any _ _ _ _ _ (by omega) (by omega)).mono ?_
          rintro e w2 ⟨rfl, hb2⟩
          rw [hdone.out]
          go_wp2_with fail
          go_ret
          exact ⟨rfl, (HBel2.out.call hb2).below⟩

set_option maxRecDepth 100000 in
theorem lifted (os : Os) (started : os.Started) (H : Type) (enc : TypeId × Value → H) :
    ReturnsInHanded {} Try.checked os 7 .any (Rows.octetBackSpec.pre6 enc Try.prog Try.f7 Rows.octetBackRow.domain false) (Rows.octetBackSpec.post enc Try.prog Try.f7 false true false false) := by
  refine returnsInHanded_of_change (C := Try.checked) own started (by kernel_rfl) Try.func7
    (ChangeSpec.witness6 (enc := enc) (C := Try.checked) false ⟨#[], #[.slice none 0 0], []⟩ 8 (by kernel_rfl) (by kernel_rfl) (by kernel_rfl) (by kernel_rfl)) ?_
  intro W base args ds gs before hval0 hW hcnd _
  have hval : ∀ (j : Nat) t v, Try.f7.params[j]? = some t → args[j]? = some v → Value.okWide Try.prog W .any base t v := hval0
  have hW' := hW
  obtain ⟨p, q, hA0, hV, rfl, hfz, hnd⟩ := hW
  have hA : DataW.TrodAll enc Try.prog W 0 (fun _ => true) true Try.f7.params.toList args.toList ds p := hA0
  rw [Try.params7] at hA hval
  obtain ⟨v0, vs0, d0, ds0, p0, q0, hargs, rfl, rfl, h0, r0'⟩ := trodAll_cons hA
  obtain ⟨rfl, rfl, rfl⟩ := trodAll_nil r0'
  obtain rfl : args = #[v0] := by cases args; simp_all
  obtain ⟨rfl, rfl⟩ := trodVars_none hV
  have k0 := h0
  have lt0 : ∀ x ∈ p0, x.block < W.heap.size := by obtain ⟨m, hm⟩ := k0; exact DataW.trod_lt m _ _ _ hm
  obtain ⟨A0, n0, c0, rfl⟩ := okWide_slice Try.underlying79 (hval 0 79 v0 rfl rfl)
  obtain ⟨fu0, hf0⟩ := h0
  obtain ⟨a0, ra0⟩ := (opensVals).2 hf0
  clear hA0 hval0
  refine (walk W A0 n0 c0 a0 (by simpa [Value.cells] using ra0)).mono fun e W' ⟨he, bel⟩ => ?_
  subst he
  exact ⟨_, rfl, _, _, _, [], _, [], hW', trodAll_mk1 (shut_bool Try.underlying4 _), (trodAll_cons_mk (Below.trod laidOut (by kernel_rfl) (of_decide_eq_true (by kernel_rfl)) k0 bel lt0) trodAll_mk0), rfl, bel.frame _, fun h => by cases h⟩

theorem over : Rows.octetBackRow.holds Try.pinned (OpenSpec.ofChange Rows.octetBackSpec) :=
  OpenClaim.holds_of_wide 7 Try.f7 rfl rfl rfl rfl rfl rfl rfl ⟨rfl, rfl, rfl, rfl, rfl⟩ rfl rfl rfl rfl rfl (by kernel_rfl) Try.func7 (by kernel_rfl)
    (of_decide_eq_true (by kernel_rfl)) (by unfold Func.isWrapper; first | (rw [if_pos (by decide +kernel)]; kernel_rfl) | (rw [if_neg (by decide +kernel)]; exact ⟨rfl, rfl⟩))
    (fun os started H enc _ => lifted os started H enc)

theorem proved : Rows.OctetBackSaid :=
  over
end Go.Proofs.Ytgekkmhkklbgcaa.octetBack
