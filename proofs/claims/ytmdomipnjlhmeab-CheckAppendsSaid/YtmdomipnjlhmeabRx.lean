/- The reference's verifying, as contracts. -/
import Derived.Test.YtmdomipnjlhmeabRw
namespace Go.Proofs.Ytmdomipnjlhmeab
open Go.RowKit

noncomputable section

set_option maxRecDepth 1000000 in
theorem rshortL (xs : List (List DV)) : zans Try.prog tab ftab cRA 41 [.list 1 xs] [(7, .b true)] = some (.tuple [.nil, .int .i64 10], ⟨0, []⟩, [decide ((xs.length : Int) < 4) = true]) := by
  kernel_rfl
set_option maxRecDepth 1000000 in
theorem rbadL (xs ys : List (List DV)) (m : Nat) (d1 d2 : DV) (h1 h2 : Hp) (m1 : Mut) (s1 s2 : ByteArray) : zflat (zans Try.prog tab ftab cRA 41 [.list 1 xs] [(7, .b false), (12, .w (iN m)), (13, .n (.list 1 ys)), (14, .h d1 h1 m1), (16, .r d2 h2), (17, .h (.str s1) h2 none), (19, .h (.str s2) h2 none), (20, .b true)]) = some (.tuple [.nil, .int .i64 31], [decide ((xs.length : Int) < 4) = false, DV.int .i64 (IntKind.i64.wrap ((xs.length : Int) - 4)) = iN m, sliceD tab (oneH []) bTI (.list 1 xs) none (some (iN m)) none = some (.list 1 ys), builtinD tab (oneH []) .append [.sl 0 0 1 0 0, .list 1 ys] tyB = some (d1, h1, m1), cRA 43 [d1] h1 = some (d2, h2, none), convD tab h2 45 9 d2 = some (.str s1, h2, none), convD tab h2 45 9 (.list 1 xs) = some (.str s2, h2, none), (!eqBytes s1.data.toList s2.data.toList) = true]) := by
  kernel_rfl
set_option maxRecDepth 1000000 in
theorem rgoodL (xs ys : List (List DV)) (m : Nat) (d1 d2 : DV) (h1 h2 : Hp) (m1 : Mut) (s1 s2 : ByteArray) : zans Try.prog tab ftab cRA 41 [.list 1 xs] [(7, .b false), (12, .w (iN m)), (13, .n (.list 1 ys)), (14, .h d1 h1 m1), (16, .r d2 h2), (17, .h (.str s1) h2 none), (19, .h (.str s2) h2 none), (20, .b false)] = some (.tuple [d1, .int .i64 0], h2, [decide ((xs.length : Int) < 4) = false, DV.int .i64 (IntKind.i64.wrap ((xs.length : Int) - 4)) = iN m, sliceD tab (oneH []) bTI (.list 1 xs) none (some (iN m)) none = some (.list 1 ys), builtinD tab (oneH []) .append [.sl 0 0 1 0 0, .list 1 ys] tyB = some (d1, h1, m1), cRA 43 [d1] h1 = some (d2, h2, none), convD tab h2 45 9 d2 = some (.str s1, h2, none), convD tab h2 45 9 (.list 1 xs) = some (.str s2, h2, none), (!eqBytes s1.data.toList s2.data.toList) = false]) := by
  kernel_rfl
def rverL (bs : List UInt8) : DV × Hp :=
  if bs.length < 4 then (.tuple [.nil, .int .i64 10], ⟨0, []⟩)
  else if withL (bs.take (bs.length - 4)) = bs then (.tuple [.sl 0 0 1 (bs.take (bs.length - 4)).length (bs.take (bs.length - 4)).length, .int .i64 0], ownH 5 1 (celB (bs.take (bs.length - 4))))
  else (.tuple [.nil, .int .i64 31], ⟨0, []⟩)
theorem ansRVerL (b : Bs) : Ans Try.prog 41 (AB b) (rverL b.1).1 (rverL b.1).2 := by
  obtain ⟨bs, hb⟩ := b
  simp only [AB]
  by_cases h : bs.length < 4
  · rw [rverL, if_pos h]
    exact zans_ok tab_ok mixed fun_ok cRA_ok (rshortL (by1 bs)) (.cons (decide_eq_true (by rw [by1_length]; omega)) .nil)
  have hl : (by1 bs).length = bs.length := by1_length bs
  have n1 : decide (((by1 bs).length : Int) < 4) = false := decide_eq_false (by omega)
  have n2 : DV.int .i64 (IntKind.i64.wrap (((by1 bs).length : Int) - 4)) = iN (bs.length - 4) := by
    rw [show ((by1 bs).length : Int) - 4 = ((bs.length - 4 : Nat) : Int) by omega, wrapI (by omega)]
    rfl
  have ht : (bs.take (bs.length - 4)).length < 2 ^ 30 := by rw [List.length_take]; omega
  have n3 : sliceD tab (oneH []) bTI (.list 1 (by1 bs)) none (some (iN (bs.length - 4))) none = some (.list 1 (by1 (bs.take (bs.length - 4)))) := by
    rw [← by1_take]
    exact slice_list (by omega)
  obtain ⟨d1, h1, m1, e1, s1⟩ := app_own (cs := bs.take (bs.length - 4)) sbO_new (contD_list _ _) (by simp only [List.length_nil]; omega)
  rw [List.nil_append] at s1
  have n4 := cRA_at (hp := h1) ⟨bs.take (bs.length - 4), ht⟩ s1.sh.frz
  have t2 := sh_fl h1 (withL (bs.take (bs.length - 4))) (withL (bs.take (bs.length - 4))).length
  have s1' : SbO 5 (layH h1 (ownH 5 1 (celB (withL (bs.take (bs.length - 4)))))) d1 (celB (bs.take (bs.length - 4))) := by
    obtain ⟨id, ob, r0, r1, r2⟩ := s1
    exact ⟨id, ob, r0, by rw [layH_get rfl, if_pos (Hp.get_lt r1)]; exact r1, r2⟩
  by_cases h2 : withL (bs.take (bs.length - 4)) = bs
  · rw [rverL, if_neg h, if_pos h2]
    have key := zans_ok tab_ok mixed fun_ok cRA_ok (rgoodL (by1 bs) _ (bs.length - 4) d1 _ h1 _ m1 _ _) (.cons n1 (.cons n2 (.cons n3 (.cons e1 (.cons n4 (.cons (conv_str t2) (.cons (conv_str (bs := bs) (.inl rfl)) (.cons ?_ .nil))))))))
    · obtain ⟨id, ob, rfl, r1, r2, r3, r4⟩ := s1'
      have sv := seenV_forget (d := .tuple [.sl id 0 1 (celB (bs.take (bs.length - 4))).length (celB (bs.take (bs.length - 4))).length, .int .i64 0]) (d' := .tuple [.sl 0 0 1 (bs.take (bs.length - 4)).length (bs.take (bs.length - 4)).length, .int .i64 0]) r1 (fun x hx => by
        rw [r4] at hx
        simp only [celB, List.mem_map] at hx
        obtain ⟨c, _, rfl⟩ := hx
        rfl) (by simp only [ren3, ren2, ren1, rens, posN, beqT, celB_length])
      rw [r3, r4] at sv
      exact key.see sv
    · rw [eqBytes_iff, decide_eq_true (by simpa using h2)]
      rfl
  · rw [rverL, if_neg h, if_neg h2]
    refine zflat_ok tab_ok mixed fun_ok cRA_ok (rbadL (by1 bs) _ (bs.length - 4) d1 _ h1 _ m1 _ _) (.cons n1 (.cons n2 (.cons n3 (.cons e1 (.cons n4 (.cons (conv_str t2) (.cons (conv_str (bs := bs) (.inl rfl)) (.cons ?_ .nil))))))))
    rw [eqBytes_iff, decide_eq_false (by simpa using h2)]
    rfl
theorem fineRVerL (bs : List UInt8) : Fine (rverL bs).1 (rverL bs).2 := by
  unfold rverL
  split
  · exact ⟨rfl, fun id o h => by simp [Hp.get_eq] at h, rfl⟩
  · split
    · exact ⟨rfl, plain_own _ _ _, rfl⟩
    · exact ⟨rfl, fun id o h => by simp [Hp.get_eq] at h, rfl⟩
def cRVerL : CallF := conC 41 AB fun b => rverL b.1
theorem cRVerL_ok : CallOk Try.prog cRVerL := conC_ok ansRVerL fun _ => fineRVerL _
theorem cRVerL_at {hp : Hp} {d : DV} (b : Bs) (h : frz1 hp d (byL b.1)) : cRVerL 41 [d] hp = some (sh3 hp.n (rverL b.1).1, layH hp (rverL b.1).2, none) :=
  conC_at (f0 := 41) (A := AB) (B := fun b => rverL b.1) (fun x y hxy => by
    simp only [AB, List.cons.injEq, and_true] at hxy
    rw [byL_inj hxy]) b ⟨h, trivial⟩

set_option maxRecDepth 1000000 in
theorem rshortS (xs : List (List DV)) : zans Try.prog tab ftab cRA8 42 [.list 1 xs] [(7, .b true)] = some (.tuple [.nil, .int .i64 10], ⟨0, []⟩, [decide ((xs.length : Int) < 1) = true]) := by
  kernel_rfl
set_option maxRecDepth 1000000 in
theorem rbadS (xs ys : List (List DV)) (m : Nat) (d1 d2 : DV) (h1 h2 : Hp) (m1 : Mut) (s1 s2 : ByteArray) : zflat (zans Try.prog tab ftab cRA8 42 [.list 1 xs] [(7, .b false), (12, .w (iN m)), (13, .n (.list 1 ys)), (14, .h d1 h1 m1), (16, .r d2 h2), (17, .h (.str s1) h2 none), (19, .h (.str s2) h2 none), (20, .b true)]) = some (.tuple [.nil, .int .i64 31], [decide ((xs.length : Int) < 1) = false, DV.int .i64 (IntKind.i64.wrap ((xs.length : Int) - 1)) = iN m, sliceD tab (oneH []) bTI (.list 1 xs) none (some (iN m)) none = some (.list 1 ys), builtinD tab (oneH []) .append [.sl 0 0 1 0 0, .list 1 ys] tyB = some (d1, h1, m1), cRA8 44 [d1] h1 = some (d2, h2, none), convD tab h2 45 9 d2 = some (.str s1, h2, none), convD tab h2 45 9 (.list 1 xs) = some (.str s2, h2, none), (!eqBytes s1.data.toList s2.data.toList) = true]) := by
  kernel_rfl
set_option maxRecDepth 1000000 in
theorem rgoodS (xs ys : List (List DV)) (m : Nat) (d1 d2 : DV) (h1 h2 : Hp) (m1 : Mut) (s1 s2 : ByteArray) : zans Try.prog tab ftab cRA8 42 [.list 1 xs] [(7, .b false), (12, .w (iN m)), (13, .n (.list 1 ys)), (14, .h d1 h1 m1), (16, .r d2 h2), (17, .h (.str s1) h2 none), (19, .h (.str s2) h2 none), (20, .b false)] = some (.tuple [d1, .int .i64 0], h2, [decide ((xs.length : Int) < 1) = false, DV.int .i64 (IntKind.i64.wrap ((xs.length : Int) - 1)) = iN m, sliceD tab (oneH []) bTI (.list 1 xs) none (some (iN m)) none = some (.list 1 ys), builtinD tab (oneH []) .append [.sl 0 0 1 0 0, .list 1 ys] tyB = some (d1, h1, m1), cRA8 44 [d1] h1 = some (d2, h2, none), convD tab h2 45 9 d2 = some (.str s1, h2, none), convD tab h2 45 9 (.list 1 xs) = some (.str s2, h2, none), (!eqBytes s1.data.toList s2.data.toList) = false]) := by
  kernel_rfl
def rverS (bs : List UInt8) : DV × Hp :=
  if bs.length < 1 then (.tuple [.nil, .int .i64 10], ⟨0, []⟩)
  else if withS (bs.take (bs.length - 1)) = bs then (.tuple [.sl 0 0 1 (bs.take (bs.length - 1)).length (bs.take (bs.length - 1)).length, .int .i64 0], ownH 5 1 (celB (bs.take (bs.length - 1))))
  else (.tuple [.nil, .int .i64 31], ⟨0, []⟩)
theorem ansRVerS (b : Bs) : Ans Try.prog 42 (AB b) (rverS b.1).1 (rverS b.1).2 := by
  obtain ⟨bs, hb⟩ := b
  simp only [AB]
  by_cases h : bs.length < 1
  · rw [rverS, if_pos h]
    exact zans_ok tab_ok mixed fun_ok cRA8_ok (rshortS (by1 bs)) (.cons (decide_eq_true (by rw [by1_length]; omega)) .nil)
  have hl : (by1 bs).length = bs.length := by1_length bs
  have n1 : decide (((by1 bs).length : Int) < 1) = false := decide_eq_false (by omega)
  have n2 : DV.int .i64 (IntKind.i64.wrap (((by1 bs).length : Int) - 1)) = iN (bs.length - 1) := by
    rw [show ((by1 bs).length : Int) - 1 = ((bs.length - 1 : Nat) : Int) by omega, wrapI (by omega)]
    rfl
  have ht : (bs.take (bs.length - 1)).length < 2 ^ 30 := by rw [List.length_take]; omega
  have n3 : sliceD tab (oneH []) bTI (.list 1 (by1 bs)) none (some (iN (bs.length - 1))) none = some (.list 1 (by1 (bs.take (bs.length - 1)))) := by
    rw [← by1_take]
    exact slice_list (by omega)
  obtain ⟨d1, h1, m1, e1, s1⟩ := app_own (cs := bs.take (bs.length - 1)) sbO_new (contD_list _ _) (by simp only [List.length_nil]; omega)
  rw [List.nil_append] at s1
  have n4 := cRA8_at (hp := h1) ⟨bs.take (bs.length - 1), ht⟩ s1.sh.frz
  have t2 := sh_fl h1 (withS (bs.take (bs.length - 1))) (withS (bs.take (bs.length - 1))).length
  have s1' : SbO 5 (layH h1 (ownH 5 1 (celB (withS (bs.take (bs.length - 1)))))) d1 (celB (bs.take (bs.length - 1))) := by
    obtain ⟨id, ob, r0, r1, r2⟩ := s1
    exact ⟨id, ob, r0, by rw [layH_get rfl, if_pos (Hp.get_lt r1)]; exact r1, r2⟩
  by_cases h2 : withS (bs.take (bs.length - 1)) = bs
  · rw [rverS, if_neg h, if_pos h2]
    have key := zans_ok tab_ok mixed fun_ok cRA8_ok (rgoodS (by1 bs) _ (bs.length - 1) d1 _ h1 _ m1 _ _) (.cons n1 (.cons n2 (.cons n3 (.cons e1 (.cons n4 (.cons (conv_str t2) (.cons (conv_str (bs := bs) (.inl rfl)) (.cons ?_ .nil))))))))
    · obtain ⟨id, ob, rfl, r1, r2, r3, r4⟩ := s1'
      have sv := seenV_forget (d := .tuple [.sl id 0 1 (celB (bs.take (bs.length - 1))).length (celB (bs.take (bs.length - 1))).length, .int .i64 0]) (d' := .tuple [.sl 0 0 1 (bs.take (bs.length - 1)).length (bs.take (bs.length - 1)).length, .int .i64 0]) r1 (fun x hx => by
        rw [r4] at hx
        simp only [celB, List.mem_map] at hx
        obtain ⟨c, _, rfl⟩ := hx
        rfl) (by simp only [ren3, ren2, ren1, rens, posN, beqT, celB_length])
      rw [r3, r4] at sv
      exact key.see sv
    · rw [eqBytes_iff, decide_eq_true (by simpa using h2)]
      rfl
  · rw [rverS, if_neg h, if_neg h2]
    refine zflat_ok tab_ok mixed fun_ok cRA8_ok (rbadS (by1 bs) _ (bs.length - 1) d1 _ h1 _ m1 _ _) (.cons n1 (.cons n2 (.cons n3 (.cons e1 (.cons n4 (.cons (conv_str t2) (.cons (conv_str (bs := bs) (.inl rfl)) (.cons ?_ .nil))))))))
    rw [eqBytes_iff, decide_eq_false (by simpa using h2)]
    rfl
theorem fineRVerS (bs : List UInt8) : Fine (rverS bs).1 (rverS bs).2 := by
  unfold rverS
  split
  · exact ⟨rfl, fun id o h => by simp [Hp.get_eq] at h, rfl⟩
  · split
    · exact ⟨rfl, plain_own _ _ _, rfl⟩
    · exact ⟨rfl, fun id o h => by simp [Hp.get_eq] at h, rfl⟩
def cRVerS : CallF := conC 42 AB fun b => rverS b.1
theorem cRVerS_ok : CallOk Try.prog cRVerS := conC_ok ansRVerS fun _ => fineRVerS _
theorem cRVerS_at {hp : Hp} {d : DV} (b : Bs) (h : frz1 hp d (byL b.1)) : cRVerS 42 [d] hp = some (sh3 hp.n (rverS b.1).1, layH hp (rverS b.1).2, none) :=
  conC_at (f0 := 42) (A := AB) (B := fun b => rverS b.1) (fun x y hxy => by
    simp only [AB, List.cons.injEq, and_true] at hxy
    rw [byL_inj hxy]) b ⟨h, trivial⟩

end
end Go.Proofs.Ytmdomipnjlhmeab
