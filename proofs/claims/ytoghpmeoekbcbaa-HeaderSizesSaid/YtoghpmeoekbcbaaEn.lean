/- Encode, as a contract: the header's bytes. -/
import Derived.Test.YtoghpmeoekbcbaaHb
import Derived.Test.YtoghpmeoekbcbaaCa
namespace Go.Proofs.Ytoghpmeoekbcbaa
open Go.RowKit

noncomputable section
def cE : ConF := orK cLy (orK cVa (orK cBt cApp))
theorem cE_ok : ConOk Try.prog cE := orK_ok cLy_ok (orK_ok cVa_ok (orK_ok cBt_ok cApp_ok))
def encH (h : Hd) (l : Lay) (xs : List (List DV)) : Hp := ⟨3, [⟨1, 0, 5, []⟩, ⟨0, 0, 72, lcs l⟩, ⟨0, 0, 28, hcs h ++ [.list 1 xs]⟩], []⟩
def putR (h : Hd) (l : Lay) (xs : List (List DV)) : Option (DV × Hp × Mut) := callE tab ftab cE (exec tab ftab cE 900) 34 [.sl 2 0 1 0 0, hdr h, lyD l] (encH h l xs)
def putH (h : Hd) (l : Lay) (xs : List (List DV)) : Hp := match putR h l xs with
  | some (_, hp, _) => hp
  | none => ⟨0, [], []⟩
def putD (h : Hd) (l : Lay) (xs : List (List DV)) : DV := match putR h l xs with
  | some (d, _, _) => d
  | none => .any
def numI (n : Int) : List Int := [IntKind.u8.wrap n, IntKind.u8.wrap (shrD .i64 n 8)]
def flagsI (h : Hd) : Int := bitD .or .i64 (bitD .or .i64 (bitD .or .i64 (bitD .or .i64 (bitD .or .i64 (bitD .or .i64 (cond h.f0 1 0) (cond h.f1 2 0)) (cond h.f2 4 0)) (cond h.f3 8 0)) (cond h.f4 16 0)) (cond h.f5 32 0)) (cond h.f6 64 0)
def seqI (h : Hd) : Int := bitD .or .i64 h.frag (shlD .i64 h.seq 4)
def tidI (h : Hd) : Int := bitD .or .i64 (bitD .or .i64 (bitD .or .i64 h.tid (cond h.eos 16 0)) (shlD .i64 (IntKind.i64.wrap h.ack) 5)) (cond h.ams 128 0)
def adI (a : Ad6) : List Int := [a.b0, a.b1, a.b2, a.b3, a.b4, a.b5]
def hbI (h : Hd) (l : Lay) : List Int := [bitD .or .u8 (shlD .u8 h.kind 2) (shlD .u8 h.sub 4), IntKind.u8.wrap (flagsI h)] ++ (numI h.dur ++ (adI h.a1 ++ ((match decide (l.addrs > 1) with | true => adI h.a2 | false => []) ++ ((match decide (l.addrs > 2) with | true => adI h.a3 ++ numI (seqI h) | false => []) ++
  ((match decide (l.addrs > 3) with | true => adI h.a4 | false => []) ++ (match l.traffic with | true => numI (tidI h) | false => []))))))
def hbC (h : Hd) (l : Lay) : List DV := (hbI h l).map fun n => .int .u8 n
def okPut (h : Hd) (l : Lay) (xs : List (List DV)) : Option (Nat × Nat × List DV) := match putD h l xs with
  | .sl id 0 1 n c => match Nat.beq n c, (putH h l xs).get id, (putH h l xs).ls with
    | true, some ⟨3, 2, t, cs⟩, [] => match Nat.ble 2 id with
      | true => some (n, t, cs)
      | false => none
    | _, _, _ => none
  | _ => none
set_option maxRecDepth 1000000 in
theorem put_ok (h : Hd) (l : Lay) (xs : List (List DV)) (hg : goodL l = true) : okPut h l xs = some ((hbC h l).length, 5, hbC h l) := by
  obtain ⟨fl, bd, hl⟩ := good_cases hg
  rcases hl with rfl | rfl | rfl | rfl | rfl | rfl <;> kernel_rfl
/-- a row of one's own that has grown, from object 2 on -/
def Sb3 (hp : Hp) (d : DV) (cl : List DV) : Prop := ∃ id o, d = .sl id 0 1 cl.length cl.length ∧ hp.get id = some o ∧ o.k = 3 ∧ o.r = 2 ∧ 2 ≤ id ∧ o.t = 5 ∧ o.cs = cl
theorem put_Sb3 (h : Hd) (l : Lay) (xs : List (List DV)) (hg : goodL l = true) : Sb3 (putH h l xs) (putD h l xs) (hbC h l) ∧ (putH h l xs).ls = [] := by
  have := put_ok h l xs hg
  unfold okPut at this
  split at this
  · rename_i id n c hd
    split at this
    · rename_i t cs hn ho hls
      split at this
      · rename_i hle
        cases this
        have := Nat.eq_of_beq_eq_true hn
        subst this
        rw [hd]
        exact ⟨⟨id, _, rfl, ho, rfl, rfl, Nat.le_of_ble_eq_true hle, rfl, rfl⟩, hls⟩
      · cases this
    · cases this
  · cases this
theorem app_own3 {hp : Hp} {d x : DV} {bs cs : List UInt8} (h : Sb3 hp d (celB bs)) (hx : contD hp 1 x = some (cs.length, celB cs)) (hl : bs.length + cs.length ≤ 2 ^ 40) : ∃ d' h' m, builtinD tab hp .append [d, x] tyB = some (d', h', m) ∧ SbO 5 h' d' (celB (bs ++ cs)) ∧ h'.ls = hp.ls ∧ (m = none ∨ m = some 2) := by
  obtain ⟨id, o, rfl, h1, h2, h3, h4, h5, h6⟩ := h
  rw [app_tab, hx, celB_append]
  cases cs with
  | nil =>
    refine ⟨.sl id 0 1 (celB bs).length (celB bs).length, hp, none, rfl, ?_, rfl, .inl rfl⟩
    exact ⟨id, o, by simp [celB], h1, .inr (.inr h2), h5, by rw [h6]; simp [celB]⟩
  | cons b cs =>
    have hle : (celB bs ++ celB (b :: cs)).length = (celB bs).length + (cs.length + 1) := by simp [celB]
    have hl' : (celB bs).length + (cs.length + 1) ≤ 2 ^ 40 := by rw [celB_length]; simpa using hl
    have hf := fitB_le2 (n := (celB bs).length + (cs.length + 1)) (b := 1) hl' (by decide)
    have hb : Nat.ble ((celB bs).length + (cs.length + 1)) (celB bs).length = false := bleF (by omega)
    have he : Nat.ble (0 + (celB bs).length * 1) o.cs.length = true := bleT (by rw [h6]; omega)
    have hq : Nat.beq (0 + (celB bs).length * 1) o.cs.length = true := beqT (by rw [h6]; omega)
    have hte : Nat.beq o.t 5 = true := beqT h5
    have hr : rootOf 3 o.r id = 2 := by
      rw [h3]
      simp only [rootOf, bleT h4]
    have hmm : mmin (some 2) (some id) = some 2 := by simp only [mmin, bleT h4]
    refine ⟨.sl hp.n 0 1 ((celB bs).length + (cs.length + 1)) ((celB bs).length + (cs.length + 1)), (hp.put id ⟨2, o.r, o.t, o.cs⟩).push ⟨3, 2, o.t, o.cs.drop 0 ++ celB (b :: cs)⟩, some 2, ?_, ⟨hp.n, _, by rw [hle], get_push_new (hp.put id _) _, .inr (.inr rfl), h5, by simp [h6]⟩, rfl, .inr rfl⟩
    show appH hp 5 u8TI (.sl id 0 1 (celB bs).length (celB bs).length) (cs.length + 1) (celB (b :: cs)) = _
    have q1 : Nat.beq 1 1 = true := rfl
    simp only [appH, q1, h1, hb, he, hf, h2, hq, hte, hr, hmm]
end
end Go.Proofs.Ytoghpmeoekbcbaa
