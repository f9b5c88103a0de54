/- The difference of two sets: the rounds. -/
import Derived.Test.YtnhbhdfeenpedaaAo
namespace Go.Proofs.Ytnhbhdfeenpedaa
open Go.RowKit

noncomputable section

set_option maxRecDepth 1000000 in
theorem mgRS (xs xt ys : List (List DV)) (x : Nat) (k N : Nat) (cl cl' : List DV) (m : Mut) : zgc [0] (zsee Try.prog tab ftab cCo (ksF ftab 118) [0, 1, 2, 7] (loopAt (bodyOf ftab 118) 0) ((fun f => mkT 82 [(0, .list 6 xs), (1, .list 6 ys), (2, .fn f [] []), (7, .sl 0 0 6 k N)]) 119) ⟨1, [⟨0, 0, 77, cl⟩]⟩ [(19, .b true), (27, .b true), (45, .b false), (49, .b false), (63, .n (.fptr (aC x))), (66, .n (.list 6 xt)), (80, .h (.sl 0 0 6 (k + 1) N) ⟨3, [⟨0, 0, 77, aC x⟩, ⟨0, 0, 77, aC x⟩, ⟨0, 0, 77, cl'⟩]⟩ m)]) =
    some (.normal, (fun f => mkT 82 [(0, .list 6 xt), (1, .list 6 ys), (2, .fn f [] []), (7, .sl 0 0 6 (k + 1) N)]) 119, ⟨1, [⟨0, 0, 77, cl'⟩]⟩, [Plain ⟨3, [⟨0, 0, 77, aC x⟩, ⟨0, 0, 77, aC x⟩, ⟨0, 0, 77, cl'⟩]⟩, decide ((xs.length : Int) > 0) = true,
      ((ys.length : Int) == 0) = true,
      ((xs.length : Int) == 0) = false,
      decide ((ys.length : Int) > 0) = false,
      idxOk (0 : Int) xs.length = true,
      nth xs (0 : Int).toNat = some (aC x),
      sliceD tab ⟨2, [⟨0, 0, 77, [.int .u8 0, .int .u8 0, .int .u8 0, .int .u8 0, .int .u8 0, .int .u8 0]⟩, ⟨0, 0, 77, cl⟩]⟩ adT (.list 6 xs) (some (.int .i64 1)) none none = some (.list 6 xt),
      builtinD tab ⟨3, [⟨0, 0, 77, aC x⟩, ⟨0, 0, 77, aC x⟩, ⟨0, 0, 77, cl⟩]⟩ .append [.sl 0 0 6 k N, .sl 2 0 6 1 1] [82, 82] = some (.sl 0 0 6 (k + 1) N, ⟨3, [⟨0, 0, 77, aC x⟩, ⟨0, 0, 77, aC x⟩, ⟨0, 0, 77, cl'⟩]⟩, m)]) := by
  kernel_rfl

set_option maxRecDepth 1000000 in
theorem mgRT (xs ys yt : List (List DV)) (y : Nat) (k N : Nat) (cl : List DV) : zgc [0] (zsee Try.prog tab ftab cCo (ksF ftab 118) [0, 1, 2, 7] (loopAt (bodyOf ftab 118) 0) ((fun f => mkT 82 [(0, .list 6 xs), (1, .list 6 ys), (2, .fn f [] []), (7, .sl 0 0 6 k N)]) 119) ⟨1, [⟨0, 0, 77, cl⟩]⟩ [(19, .b false), (23, .b true), (27, .b false), (31, .b false), (45, .b true), (69, .n (.fptr (aC y))), (72, .n (.list 6 yt))]) =
    some (.normal, (fun f => mkT 82 [(0, .list 6 xs), (1, .list 6 yt), (2, .fn f [] []), (7, .sl 0 0 6 k N)]) 119, ⟨1, [⟨0, 0, 77, cl⟩]⟩, [Plain ⟨2, [⟨0, 0, 77, aC y⟩, ⟨0, 0, 77, cl⟩]⟩, decide ((xs.length : Int) > 0) = false,
      decide ((ys.length : Int) > 0) = true,
      ((ys.length : Int) == 0) = false,
      decide ((xs.length : Int) > 0) = false,
      ((xs.length : Int) == 0) = true,
      idxOk (0 : Int) ys.length = true,
      nth ys (0 : Int).toNat = some (aC y),
      sliceD tab ⟨2, [⟨0, 0, 77, [.int .u8 0, .int .u8 0, .int .u8 0, .int .u8 0, .int .u8 0, .int .u8 0]⟩, ⟨0, 0, 77, cl⟩]⟩ adT (.list 6 ys) (some (.int .i64 1)) none none = some (.list 6 yt)]) := by
  kernel_rfl

set_option maxRecDepth 1000000 in
theorem mgRL (xs xt ys : List (List DV)) (x y : Nat) (k N : Nat) (cl cl' : List DV) (m : Mut) : zgc [0] (zsee Try.prog tab ftab cCo (ksF ftab 118) [0, 1, 2, 7] (loopAt (bodyOf ftab 118) 0) ((fun f => mkT 82 [(0, .list 6 xs), (1, .list 6 ys), (2, .fn f [] []), (7, .sl 0 0 6 k N)]) 119) ⟨1, [⟨0, 0, 77, cl⟩]⟩ [(19, .b true), (27, .b false), (31, .b true), (34, .n (.fptr (aC x))), (37, .n (.fptr (aC y))), (39, .q (.int .i64 (-1))), (45, .b false), (49, .b true), (52, .n (.fptr (aC y))), (55, .n (.fptr (aC x))), (57, .q (.int .i64 (1))), (63, .n (.fptr (aC x))), (66, .n (.list 6 xt)), (80, .h (.sl 0 0 6 (k + 1) N) ⟨3, [⟨0, 0, 77, aC x⟩, ⟨0, 0, 77, aC x⟩, ⟨0, 0, 77, cl'⟩]⟩ m)]) =
    some (.normal, (fun f => mkT 82 [(0, .list 6 xt), (1, .list 6 ys), (2, .fn f [] []), (7, .sl 0 0 6 (k + 1) N)]) 119, ⟨1, [⟨0, 0, 77, cl'⟩]⟩, [Plain ⟨3, [⟨0, 0, 77, aC x⟩, ⟨0, 0, 77, aC x⟩, ⟨0, 0, 77, cl'⟩]⟩, decide ((xs.length : Int) > 0) = true,
      ((ys.length : Int) == 0) = false,
      decide ((xs.length : Int) > 0) = true,
      idxOk (0 : Int) xs.length = true,
      nth xs (0 : Int).toNat = some (aC x),
      idxOk (0 : Int) ys.length = true,
      nth ys (0 : Int).toNat = some (aC y),
      cCo 60 [aD x, aD y] ⟨1, [⟨0, 0, 77, cl⟩]⟩ = some (.int .i64 (-1), ⟨1, [⟨0, 0, 77, cl⟩]⟩, none),
      ((xs.length : Int) == 0) = false,
      decide ((ys.length : Int) > 0) = true,
      idxOk (0 : Int) ys.length = true,
      nth ys (0 : Int).toNat = some (aC y),
      idxOk (0 : Int) xs.length = true,
      nth xs (0 : Int).toNat = some (aC x),
      cCo 60 [aD y, aD x] ⟨1, [⟨0, 0, 77, cl⟩]⟩ = some (.int .i64 (1), ⟨1, [⟨0, 0, 77, cl⟩]⟩, none),
      idxOk (0 : Int) xs.length = true,
      nth xs (0 : Int).toNat = some (aC x),
      sliceD tab ⟨2, [⟨0, 0, 77, [.int .u8 0, .int .u8 0, .int .u8 0, .int .u8 0, .int .u8 0, .int .u8 0]⟩, ⟨0, 0, 77, cl⟩]⟩ adT (.list 6 xs) (some (.int .i64 1)) none none = some (.list 6 xt),
      builtinD tab ⟨3, [⟨0, 0, 77, aC x⟩, ⟨0, 0, 77, aC x⟩, ⟨0, 0, 77, cl⟩]⟩ .append [.sl 0 0 6 k N, .sl 2 0 6 1 1] [82, 82] = some (.sl 0 0 6 (k + 1) N, ⟨3, [⟨0, 0, 77, aC x⟩, ⟨0, 0, 77, aC x⟩, ⟨0, 0, 77, cl'⟩]⟩, m)]) := by
  kernel_rfl

set_option maxRecDepth 1000000 in
theorem mgRE (xs xt ys yt : List (List DV)) (x y : Nat) (k N : Nat) (cl : List DV) : zgc [0] (zsee Try.prog tab ftab cCo (ksF ftab 118) [0, 1, 2, 7] (loopAt (bodyOf ftab 118) 0) ((fun f => mkT 82 [(0, .list 6 xs), (1, .list 6 ys), (2, .fn f [] []), (7, .sl 0 0 6 k N)]) 119) ⟨1, [⟨0, 0, 77, cl⟩]⟩ [(19, .b true), (27, .b false), (31, .b true), (34, .n (.fptr (aC x))), (37, .n (.fptr (aC y))), (39, .q (.int .i64 (0))), (45, .b false), (49, .b true), (52, .n (.fptr (aC y))), (55, .n (.fptr (aC x))), (57, .q (.int .i64 (0))), (63, .n (.fptr (aC x))), (66, .n (.list 6 xt)), (69, .n (.fptr (aC y))), (72, .n (.list 6 yt))]) =
    some (.normal, (fun f => mkT 82 [(0, .list 6 xt), (1, .list 6 yt), (2, .fn f [] []), (7, .sl 0 0 6 k N)]) 119, ⟨1, [⟨0, 0, 77, cl⟩]⟩, [Plain ⟨2, [⟨0, 0, 77, aC y⟩, ⟨0, 0, 77, cl⟩]⟩, decide ((xs.length : Int) > 0) = true,
      ((ys.length : Int) == 0) = false,
      decide ((xs.length : Int) > 0) = true,
      idxOk (0 : Int) xs.length = true,
      nth xs (0 : Int).toNat = some (aC x),
      idxOk (0 : Int) ys.length = true,
      nth ys (0 : Int).toNat = some (aC y),
      cCo 60 [aD x, aD y] ⟨1, [⟨0, 0, 77, cl⟩]⟩ = some (.int .i64 (0), ⟨1, [⟨0, 0, 77, cl⟩]⟩, none),
      ((xs.length : Int) == 0) = false,
      decide ((ys.length : Int) > 0) = true,
      idxOk (0 : Int) ys.length = true,
      nth ys (0 : Int).toNat = some (aC y),
      idxOk (0 : Int) xs.length = true,
      nth xs (0 : Int).toNat = some (aC x),
      cCo 60 [aD y, aD x] ⟨1, [⟨0, 0, 77, cl⟩]⟩ = some (.int .i64 (0), ⟨1, [⟨0, 0, 77, cl⟩]⟩, none),
      idxOk (0 : Int) xs.length = true,
      nth xs (0 : Int).toNat = some (aC x),
      sliceD tab ⟨2, [⟨0, 0, 77, [.int .u8 0, .int .u8 0, .int .u8 0, .int .u8 0, .int .u8 0, .int .u8 0]⟩, ⟨0, 0, 77, cl⟩]⟩ adT (.list 6 xs) (some (.int .i64 1)) none none = some (.list 6 xt),
      idxOk (0 : Int) ys.length = true,
      nth ys (0 : Int).toNat = some (aC y),
      sliceD tab ⟨2, [⟨0, 0, 77, aC x⟩, ⟨0, 0, 77, cl⟩]⟩ adT (.list 6 ys) (some (.int .i64 1)) none none = some (.list 6 yt)]) := by
  kernel_rfl

set_option maxRecDepth 1000000 in
theorem mgRG (xs ys yt : List (List DV)) (x y : Nat) (k N : Nat) (cl : List DV) : zgc [0] (zsee Try.prog tab ftab cCo (ksF ftab 118) [0, 1, 2, 7] (loopAt (bodyOf ftab 118) 0) ((fun f => mkT 82 [(0, .list 6 xs), (1, .list 6 ys), (2, .fn f [] []), (7, .sl 0 0 6 k N)]) 119) ⟨1, [⟨0, 0, 77, cl⟩]⟩ [(19, .b true), (27, .b false), (31, .b true), (34, .n (.fptr (aC x))), (37, .n (.fptr (aC y))), (39, .q (.int .i64 (1))), (45, .b false), (49, .b true), (52, .n (.fptr (aC y))), (55, .n (.fptr (aC x))), (57, .q (.int .i64 (-1))), (69, .n (.fptr (aC y))), (72, .n (.list 6 yt))]) =
    some (.normal, (fun f => mkT 82 [(0, .list 6 xs), (1, .list 6 yt), (2, .fn f [] []), (7, .sl 0 0 6 k N)]) 119, ⟨1, [⟨0, 0, 77, cl⟩]⟩, [Plain ⟨2, [⟨0, 0, 77, aC y⟩, ⟨0, 0, 77, cl⟩]⟩, decide ((xs.length : Int) > 0) = true,
      ((ys.length : Int) == 0) = false,
      decide ((xs.length : Int) > 0) = true,
      idxOk (0 : Int) xs.length = true,
      nth xs (0 : Int).toNat = some (aC x),
      idxOk (0 : Int) ys.length = true,
      nth ys (0 : Int).toNat = some (aC y),
      cCo 60 [aD x, aD y] ⟨1, [⟨0, 0, 77, cl⟩]⟩ = some (.int .i64 (1), ⟨1, [⟨0, 0, 77, cl⟩]⟩, none),
      ((xs.length : Int) == 0) = false,
      decide ((ys.length : Int) > 0) = true,
      idxOk (0 : Int) ys.length = true,
      nth ys (0 : Int).toNat = some (aC y),
      idxOk (0 : Int) xs.length = true,
      nth xs (0 : Int).toNat = some (aC x),
      cCo 60 [aD y, aD x] ⟨1, [⟨0, 0, 77, cl⟩]⟩ = some (.int .i64 (-1), ⟨1, [⟨0, 0, 77, cl⟩]⟩, none),
      idxOk (0 : Int) ys.length = true,
      nth ys (0 : Int).toNat = some (aC y),
      sliceD tab ⟨2, [⟨0, 0, 77, [.int .u8 0, .int .u8 0, .int .u8 0, .int .u8 0, .int .u8 0, .int .u8 0]⟩, ⟨0, 0, 77, cl⟩]⟩ adT (.list 6 ys) (some (.int .i64 1)) none none = some (.list 6 yt)]) := by
  kernel_rfl

set_option maxRecDepth 1000000 in
theorem mgROut (xs ys : List (List DV)) (k N : Nat) (cl : List DV) : zsee Try.prog tab ftab cCo (ksF ftab 118) [7] (loopAt (bodyOf ftab 118) 0) ((fun f => mkT 82 [(0, .list 6 xs), (1, .list 6 ys), (2, .fn f [] []), (7, .sl 0 0 6 k N)]) 119) ⟨1, [⟨0, 0, 77, cl⟩]⟩ [(19, .b false), (23, .b false)] = some (.exit 0, mkT 82 [(7, .sl 0 0 6 k N)], ⟨1, [⟨0, 0, 77, cl⟩]⟩, [decide ((xs.length : Int) > 0) = false, decide ((ys.length : Int) > 0) = false]) := by
  kernel_rfl
set_option maxRecDepth 1000000 in
theorem mgRRun (xs ys : List (List DV)) (k N : Nat) (cl c0 : List DV) : zans Try.prog tab ftab cCo 118 [.list 6 xs, .list 6 ys, .fn 119 [] []] [(15, .w (iN N)), (16, .h (.sl 0 0 6 0 N) ⟨1, [⟨0, 0, 77, c0⟩]⟩ none), (0, .l [0, 1, 2, 7] (.exit 0) (mkT 82 [(7, .sl 0 0 6 k N)]) ⟨1, [⟨0, 0, 77, cl⟩]⟩)] =
    some (.sl 0 0 6 k N, ⟨1, [⟨0, 0, 77, cl⟩]⟩, [DV.int .i64 (IntKind.i64.wrap ((xs.length : Int) + (ys.length : Int))) = iN N, (decide ((0 : Int) ≤ 0) && decide ((0 : Int) ≤ (N : Int)) && fitB ((N : Int).toNat) 6) = true,
      (DV.sl 0 0 6 ((0 : Int).toNat) ((N : Int).toNat), pushH ⟨0, []⟩ 0 77 (nlist ((N : Int).toNat) [.int .u8 0, .int .u8 0, .int .u8 0, .int .u8 0, .int .u8 0, .int .u8 0]), (none : Mut)) = (.sl 0 0 6 0 N, ⟨1, [⟨0, 0, 77, c0⟩]⟩, none),
      Goes Try.prog tab (ksF ftab 118) (.loop (loopAt (bodyOf ftab 118) 0)) ((fun f => mkT 82 [(0, .list 6 xs), (1, .list 6 ys), (2, .fn f [] []), (7, .sl 0 0 6 0 N)]) 119) ⟨1, [⟨0, 0, 77, c0⟩]⟩ (.exit 0) (mkT 82 [(7, .sl 0 0 6 k N)]) ⟨1, [⟨0, 0, 77, cl⟩]⟩]) := by
  kernel_rfl

/-- what of the first list is not in the second -/
def dif : List Nat → List Nat → List Nat
  | [], _ => []
  | x :: xs, [] => x :: xs
  | x :: xs, y :: ys => if x < y then x :: dif xs (y :: ys) else if y < x then dif (x :: xs) ys else dif xs ys
termination_by a b => a.length + b.length
theorem dif_nil_l (ys : List Nat) : dif [] ys = [] := by rw [dif]
theorem dif_nil_r (xs : List Nat) : dif xs [] = xs := by cases xs <;> rw [dif]

theorem loopR {s t : List Nat} (hs : ∀ n ∈ s, n < 2 ^ 48) (ht : ∀ n ∈ t, n < 2 ^ 48) {N : Nat} (hst : s.length + t.length ≤ N) (hN : N ≤ 2 ^ 31) : Goes Try.prog tab (ksF ftab 118) (.loop (loopAt (bodyOf ftab 118) 0)) ((fun f => mkT 82 [(0, .list 6 (rows s)), (1, .list 6 (rows t)), (2, .fn f [] []), (7, .sl 0 0 6 0 N)]) 119) ⟨1, [⟨0, 0, 77, (room [] N)⟩]⟩ (.exit 0) (mkT 82 [(7, .sl 0 0 6 (dif s t).length N)]) ⟨1, [⟨0, 0, 77, (room (dif s t) N)⟩]⟩ := by
  have loop := Goes.loopM (P := Try.prog) (T := tab) (ks := (ksF ftab 118)) (x := loopAt (bodyOf ftab 118) 0) (e := .exit 0) (fun m sl h => ∃ xs ys out : List Nat, m = xs.length + ys.length ∧ sl = (fun f => mkT 82 [(0, .list 6 (rows xs)), (1, .list 6 (rows ys)), (2, .fn f [] []), (7, .sl 0 0 6 out.length N)]) 119 ∧ h = ⟨1, [⟨0, 0, 77, (room out N)⟩]⟩ ∧ out ++ dif xs ys = dif s t ∧ out.length + (xs.length + ys.length) ≤ N ∧ (∀ n ∈ xs, n < 2 ^ 48) ∧ (∀ n ∈ ys, n < 2 ^ 48))
    (fun sl h => sl = mkT 82 [(7, .sl 0 0 6 (dif s t).length N)] ∧ h = ⟨1, [⟨0, 0, 77, (room (dif s t) N)⟩]⟩) (by intro h; cases h) ?_ (m := s.length + t.length) (sl := (fun f => mkT 82 [(0, .list 6 (rows s)), (1, .list 6 (rows t)), (2, .fn f [] []), (7, .sl 0 0 6 0 N)]) 119) (hp := ⟨1, [⟨0, 0, 77, (room [] N)⟩]⟩) ⟨s, t, [], rfl, rfl, rfl, rfl, by simpa using hst, hs, ht⟩
  · obtain ⟨_, _, g, rfl, rfl⟩ := loop
    exact g
  · rintro m sl h ⟨xs, ys, out, rfl, rfl, rfl, he, hle, hx, hy⟩
    cases xs with
    | nil =>
      cases ys with
      | nil =>
        have e : out = dif s t := by rw [← he, dif_nil_l, List.append_nil]
        refine .inl ⟨_, _, zsee_ok tab_ok mixed fun_ok cCo_ok (mgROut (rows []) (rows []) out.length N (room out N)) (.cons gt_nil (.cons gt_nil .nil)), ?_, ?_⟩ <;> rw [e]
      | cons y ys =>
        have hy' : ∀ n ∈ ys, n < 2 ^ 48 := fun n hn => hy n (by simp [hn])
        exact .inr ⟨_, _, _, by first | (simp; done) | (simp; omega), zgc_ok tab_ok mixed fun_ok cCo_ok (mgRT (rows []) (rows (y :: ys)) (rows ys) y out.length N (room out N)) (.cons (plain2 y out N) (.cons gt_nil (.cons (gt_cons y ys) (.cons (eq_cons y ys) (.cons gt_nil (.cons eq_nil (.cons (ix_cons y ys) (.cons (nth_cons y ys) (.cons (tail_slice _ y ys) .nil))))))))), [], ys, out, rfl, rfl, rfl, by rw [← he, dif_nil_l, dif_nil_l], by simp at hle ⊢; omega, hx, hy'⟩
    | cons x xs =>
      have hx' : ∀ n ∈ xs, n < 2 ^ 48 := fun n hn => hx n (by simp [hn])
      cases ys with
      | nil =>
        have hk : out.length < N := by
          have h1 := hle
          simp at h1
          omega
        exact .inr ⟨_, _, _, by first | (simp; done) | (simp; omega), zgc_ok tab_ok mixed fun_ok cCo_ok (mgRS (rows (x :: xs)) (rows xs) (rows []) x out.length N (room out N) (room (out ++ [x]) N) (some 0)) (.cons (plain3 x x (out ++ [x]) N) (.cons (gt_cons x xs) (.cons eq_nil (.cons (eq_cons x xs) (.cons gt_nil (.cons (ix_cons x xs) (.cons (nth_cons x xs) (.cons (tail_slice _ x xs) (.cons (app_adr hk hN) .nil))))))))), xs, [], out ++ [x], rfl, by simp only [List.length_append, List.length_singleton], rfl, by rw [← he, dif_nil_r, dif_nil_r, List.append_assoc]; rfl, by simp at hle ⊢; omega, hx', hy⟩
      | cons y ys =>
        have hy' : ∀ n ∈ ys, n < 2 ^ 48 := fun n hn => hy n (by simp [hn])
        have bx := hx x (by simp)
        have bb := hy y (by simp)
        have c1 := cCo_at ⟨1, [⟨0, 0, 77, (room out N)⟩]⟩ bx bb
        have c2 := cCo_at ⟨1, [⟨0, 0, 77, (room out N)⟩]⟩ bb bx
        by_cases hlt : x < y
        · rw [cmpN, if_pos hlt] at c1
          rw [cmpN, if_neg (by omega), if_pos hlt] at c2
          have hk : out.length < N := by
            have h1 := hle
            simp at h1
            omega
          exact .inr ⟨_, _, _, by first | (simp; done) | (simp; omega), zgc_ok tab_ok mixed fun_ok cCo_ok (mgRL (rows (x :: xs)) (rows xs) (rows (y :: ys)) x y out.length N (room out N) (room (out ++ [x]) N) (some 0)) (.cons (plain3 x x (out ++ [x]) N) (.cons (gt_cons x xs) (.cons (eq_cons y ys) (.cons (gt_cons x xs) (.cons (ix_cons x xs) (.cons (nth_cons x xs) (.cons (ix_cons y ys) (.cons (nth_cons y ys) (.cons c1 (.cons (eq_cons x xs) (.cons (gt_cons y ys) (.cons (ix_cons y ys) (.cons (nth_cons y ys) (.cons (ix_cons x xs) (.cons (nth_cons x xs) (.cons c2 (.cons (ix_cons x xs) (.cons (nth_cons x xs) (.cons (tail_slice _ x xs) (.cons (app_adr hk hN) .nil)))))))))))))))))))), xs, y :: ys, out ++ [x], rfl, by simp only [List.length_append, List.length_singleton], rfl, by rw [← he, dif, if_pos hlt, List.append_assoc]; rfl, by simp at hle ⊢; omega, hx', hy⟩
        · by_cases hgt : y < x
          · rw [cmpN, if_neg hlt, if_pos hgt] at c1
            rw [cmpN, if_pos hgt] at c2
            exact .inr ⟨_, _, _, by first | (simp; done) | (simp; omega), zgc_ok tab_ok mixed fun_ok cCo_ok (mgRG (rows (x :: xs)) (rows (y :: ys)) (rows ys) x y out.length N (room out N)) (.cons (plain2 y out N) (.cons (gt_cons x xs) (.cons (eq_cons y ys) (.cons (gt_cons x xs) (.cons (ix_cons x xs) (.cons (nth_cons x xs) (.cons (ix_cons y ys) (.cons (nth_cons y ys) (.cons c1 (.cons (eq_cons x xs) (.cons (gt_cons y ys) (.cons (ix_cons y ys) (.cons (nth_cons y ys) (.cons (ix_cons x xs) (.cons (nth_cons x xs) (.cons c2 (.cons (ix_cons y ys) (.cons (nth_cons y ys) (.cons (tail_slice _ y ys) .nil))))))))))))))))))), x :: xs, ys, out, rfl, rfl, rfl, by rw [← he, dif, if_neg hlt, if_pos hgt], by simp at hle ⊢; omega, hx, hy'⟩
          · rw [cmpN, if_neg hlt, if_neg hgt] at c1
            rw [cmpN, if_neg hgt, if_neg hlt] at c2
            exact .inr ⟨_, _, _, by first | (simp; done) | (simp; omega), zgc_ok tab_ok mixed fun_ok cCo_ok (mgRE (rows (x :: xs)) (rows xs) (rows (y :: ys)) (rows ys) x y out.length N (room out N)) (.cons (plain2 y out N) (.cons (gt_cons x xs) (.cons (eq_cons y ys) (.cons (gt_cons x xs) (.cons (ix_cons x xs) (.cons (nth_cons x xs) (.cons (ix_cons y ys) (.cons (nth_cons y ys) (.cons c1 (.cons (eq_cons x xs) (.cons (gt_cons y ys) (.cons (ix_cons y ys) (.cons (nth_cons y ys) (.cons (ix_cons x xs) (.cons (nth_cons x xs) (.cons c2 (.cons (ix_cons x xs) (.cons (nth_cons x xs) (.cons (tail_slice _ x xs) (.cons (ix_cons y ys) (.cons (nth_cons y ys) (.cons (tail_slice _ y ys) .nil)))))))))))))))))))))), xs, ys, out, rfl, rfl, rfl, by rw [← he, dif, if_neg hlt, if_neg hgt], by simp at hle ⊢; omega, hx', hy'⟩

/-- what merge answers -/
def bR (x : Ads × Ads) : DV × Hp := (.sl 0 0 6 (dif x.1.1 x.2.1).length (x.1.1.length + x.2.1.length), ⟨1, [⟨0, 0, 77, room (dif x.1.1 x.2.1) (x.1.1.length + x.2.1.length)⟩]⟩)
theorem ansMgR (x : Ads × Ads) : Ans Try.prog 118 [adL x.1.1, adL x.2.1, .fn 119 [] []] (bR x).1 (bR x).2 := by
  obtain ⟨⟨s, hs, hls⟩, t, ht, hlt⟩ := x
  have r1 := rows_length s
  have r2 := rows_length t
  refine zans_ok tab_ok mixed fun_ok cCo_ok (mgRRun (rows s) (rows t) (dif s t).length (s.length + t.length) (room (dif s t) (s.length + t.length)) (room [] (s.length + t.length))) (.cons ?_ (.cons ?_ (.cons ?_ (.cons (loopR hs ht (Nat.le_refl _) (by omega)) .nil))))
  · rw [r1, r2, show ((s.length : Int) + (t.length : Int)) = ((s.length + t.length : Nat) : Int) by omega, wrapI (by omega)]
    rfl
  · rw [Int.toNat_natCast, fitB_le2 (by omega) (by decide)]
    simp
    omega
  · rw [Int.toNat_natCast]
    rfl
theorem fineMgR (x : Ads × Ads) : Fine (bR x).1 (bR x).2 := ⟨rfl, plain_of fun o ho => by
  simp only [bR, List.mem_cons, List.not_mem_nil, or_false] at ho
  subst ho
  exact room_plain _ _, rfl⟩
def cMgR : CallF := conC 118 (fun x : Ads × Ads => [adL x.1.1, adL x.2.1, .fn 119 [] []]) bR
theorem cMgR_ok : CallOk Try.prog cMgR := conC_ok ansMgR fineMgR
theorem cMgR_at {hp : Hp} {d e : DV} (x y : Ads) (h : frz1 hp d (adL x.1)) (k : frz1 hp e (adL y.1)) : cMgR 118 [d, e, .fn 119 [] []] hp = some (sh3 hp.n (bR (x, y)).1, layH hp (bR (x, y)).2, none) :=
  conC_at (f0 := 118) (A := fun x : Ads × Ads => [adL x.1.1, adL x.2.1, .fn 119 [] []]) (fun x y hxy => by
    obtain ⟨x1, x2⟩ := x
    obtain ⟨y1, y2⟩ := y
    simp only [List.cons.injEq, and_true] at hxy
    rw [adL_inj hxy.1, adL_inj hxy.2]) (x, y) ⟨h, k, rfl, trivial⟩

end
end Go.Proofs.Ytnhbhdfeenpedaa
