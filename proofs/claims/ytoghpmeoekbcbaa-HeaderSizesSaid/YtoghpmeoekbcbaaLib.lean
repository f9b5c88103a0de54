/- How Go data lie in memory, as predicates on plain data; the arguments of a law, opened to them. No function of the program is named here. -/
import Derived.Test.YtoghpmeoekbcbaaRows
import Derived.Below
import Derived.ChangeSame
import Derived.ChangeOld
import Derived.ChangeArms
import Derived.Deep.Slices
import Derived.Deep.Draws
import Derived.Deep.AppendLies
import Derived.Laws.AppendOwn
import Derived.Laws.OwnMore
import Derived.WideShapes
import Derived.Carry
namespace Go.Proofs.Ytoghpmeoekbcbaa
open Go.RowKit Go.ChangeShapes Go.WideShapes Go.Deep

theorem below_cells {B : Nat} {w w' : World} (hb : Below B w w') : ∀ p : Addr, p.block < B → w'.cell? p = w.cell? p := fun _ hp => hb.cell hp
theorem below_drewN {B : Nat} {a w : World} (h : Below B a w) (n : Nat) : Below B a (w.drewN n) := ⟨h.os, h.tape, h.output, h.size, h.block⟩
/-- 'Below' with what it takes to go on: the part that is kept lies in the first world -/
structure Bel (B : Nat) (w w' : World) : Prop where
  below : Below B w w'
  le : B ≤ w.heap.size
theorem Bel.refl {B : Nat} {w : World} (h : B ≤ w.heap.size) : Bel B w w := ⟨Below.refl _ _, h⟩
theorem Bel.drew {B : Nat} {a w : World} (h : Bel B a w) : Bel B a w.drew := ⟨⟨h.below.os, h.below.tape, h.below.output, h.below.size, h.below.block⟩, h.le⟩
theorem Bel.drewN {B : Nat} {a w : World} (h : Bel B a w) (n : Nat) : Bel B a (w.drewN n) := ⟨below_drewN h.below n, h.le⟩
theorem Bel.alloc {B : Nat} {a w : World} (h : Bel B a w) (o : Obj) : Bel B a (w.alloc o) := ⟨h.below.alloc (Nat.le_trans h.le h.below.size) o, h.le⟩
theorem Bel.set {B : Nat} {a w : World} (h : Bel B a w) {p : Addr} (hp : B ≤ p.block) (u : Value) : Bel B a (w.setCell p u) := ⟨h.below.setCell hp u, h.le⟩
theorem Bel.call {B : Nat} {a w w1 : World} (h : Bel B a w) (hb : Below w.heap.size w w1) : Bel B a w1 := ⟨h.below.trans (hb.mono (Nat.le_trans h.le h.below.size)), h.le⟩
theorem Bel.grown {B : Nat} {a w w1 : World} (h : Bel B a w) {row : Option Nat} (hg : w.grownBy w1 row) (hr : ∀ g, row = some g → B ≤ g) : Bel B a w1 :=
  ⟨h.below.grown hg (Nat.le_trans h.le h.below.size) hr, h.le⟩
theorem bcell {W w1 : World} (hb : Below W.heap.size W w1) : (∀ b o, b < W.heap.size → w1.cell? ⟨b, o, none⟩ = W.cell? ⟨b, o, none⟩) ∧ (∀ b o, b < W.heap.size → w1.frozen? ⟨b, o, none⟩ = W.frozen? ⟨b, o, none⟩) :=
  ⟨fun b o h => hb.cell (p := ⟨b, o, none⟩) h, fun b o h => hb.frozen (p := ⟨b, o, none⟩) h⟩

/-- block g holds just these cells, none frozen -/
def Box (w : World) (g : Nat) (t : TypeId) (cs : Array Value) : Prop := w.heap[g]? = some (.cells cs t (0, 0))
section
variable {w w' : World} {g : Nat} {t : TypeId} {cs : Array Value}
theorem Box.lt (h : Box w g t cs) : g < w.heap.size := by
  rcases Nat.lt_or_ge g w.heap.size with hlt | hge
  · exact hlt
  · unfold Box at h; rw [Array.getElem?_eq_none hge] at h; cases h
theorem Box.cell (h : Box w g t cs) (i : Nat) : w.cell? ⟨g, i, none⟩ = cs[i]? := cell_of_row w g i cs t (0, 0) h
theorem Box.frozen (h : Box w g t cs) (i : Nat) : w.frozen? ⟨g, i, none⟩ = false := by
  unfold Box at h
  simp [World.frozen?, h]
theorem Box.new (w : World) (t : TypeId) (cs : Array Value) : Box (w.alloc (.cells cs t)) w.heap.size t cs := heap_alloc_new w _
theorem Box.newAt (w : World) {g : Nat} (t : TypeId) (cs : Array Value) (hg : g = w.heap.size) : Box (w.alloc (.cells cs t)) g t cs := by subst hg; exact Box.new w t cs
theorem Box.drew (h : Box w g t cs) : Box w.drew g t cs := h
theorem Box.drewN (h : Box w g t cs) (n : Nat) : Box (w.drewN n) g t cs := h
theorem Box.alloc (h : Box w g t cs) (o : Obj) : Box (w.alloc o) g t cs := (Below.heap_alloc w o g h.lt).trans h
theorem Box.put (h : Box w g t cs) (i : Nat) (u : Value) : Box (w.setCell ⟨g, i, none⟩ u) g t (cs.setIfInBounds i u) := by
  unfold Box at h ⊢
  simp [World.setCell, Array.getElem?_modify, h]
theorem Box.put2 {a b z0 z1 : Value} (h : Box w g t #[z0, z1]) : Box ((w.setCell ⟨g, 0, none⟩ a).setCell ⟨g, 1, none⟩ b) g t #[a, b] := (h.put 0 a).put 1 b
theorem Box.far (h : Box w g t cs) {p : Addr} (u : Value) (hp : g ≠ p.block) : Box (w.setCell p u) g t cs := (Below.heap_setCell w p u g hp).trans h
theorem Box.call (h : Box w g t cs) (hb : Below w.heap.size w w') : Box w' g t cs := (hb.block g h.lt).trans h
theorem Box.grown (h : Box w g t cs) {row : Option Nat} (hg : w.grownBy w' row) (hr : row ≠ some g) : Box w' g t cs := (hg.block g h.lt (fun e => hr e.symm)).trans h
end

/-- a shape of data: how many cells, and when cells show a value of it, in a world, by blocks of the set S alone -/
structure Ty (α : Type) where
  size : Nat
  rep : World → (Nat → Prop) → α → List Value → Prop
  len : ∀ {w S x cs}, rep w S x cs → cs.length = size
  mono : ∀ {w w' : World} {S S' : Nat → Prop} {x cs}, (∀ b, S b → S' b) → (∀ p : Addr, S p.block → w'.cell? p = w.cell? p) → rep w S x cs → rep w' S' x cs

section
variable {α β : Type}
theorem Ty.keep (t : Ty α) {w w' : World} {S : Nat → Prop} {x : α} {cs : List Value} (hk : ∀ p : Addr, S p.block → w'.cell? p = w.cell? p) (h : t.rep w S x cs) : t.rep w' S x cs := t.mono (fun _ h => h) hk h
theorem Ty.below (t : Ty α) {w w' : World} {S : Nat → Prop} {B : Nat} {x : α} {cs : List Value} (hb : Below B w w') (hS : ∀ b, S b → b < B) (h : t.rep w S x cs) : t.rep w' S x cs := t.keep (fun _ hp => hb.cell (hS _ hp)) h

def Ty.int (k : IntKind) : Ty Int where
  size := 1
  rep _ _ n cs := cs = [.int k n] ∧ (Lit.int k n).wf = true
  len h := by rw [h.1]; rfl
  mono _ _ h := h
def Ty.nat (k : IntKind) : Ty Nat where
  size := 1
  rep _ _ n cs := cs = [.int k (n : Int)] ∧ (Lit.int k (n : Int)).wf = true
  len h := by rw [h.1]; rfl
  mono _ _ h := h
def Ty.bool : Ty Bool where
  size := 1
  rep _ _ b cs := cs = [.bool b]
  len h := by rw [h]; rfl
  mono _ _ h := h
def Ty.string : Ty ByteArray where
  size := 1
  rep _ _ s cs := cs = [.string s] ∧ s.size ≤ maxLen
  len h := by rw [h.1]; rfl
  mono _ _ h := h
def Ty.unit : Ty Unit where
  size := 0
  rep _ _ _ cs := cs = []
  len h := by rw [h]; rfl
  mono _ _ h := h
def Ty.pair (s : Ty α) (t : Ty β) : Ty (α × β) where
  size := s.size + t.size
  rep w S x cs := ∃ c1 c2, cs = c1 ++ c2 ∧ s.rep w S x.1 c1 ∧ t.rep w S x.2 c2
  len := by rintro w S x cs ⟨c1, c2, rfl, h1, h2⟩; rw [List.length_append, s.len h1, t.len h2]
  mono := by rintro w w' S S' x cs hS hk ⟨c1, c2, rfl, h1, h2⟩; exact ⟨c1, c2, rfl, s.mono hS hk h1, t.mono hS hk h2⟩

/-- n elements from A on read as xs -/
def Row (t : Ty α) (w : World) (S : Nat → Prop) (A : Option Addr) (n : Nat) (xs : List α) : Prop :=
  xs.length = n ∧ (0 < n → ∃ b off, A = some ⟨b, off, none⟩ ∧ S b ∧ ∀ i x, xs[i]? = some x → ∃ vs, t.rep w S x vs ∧ ∀ j u, vs[j]? = some u → w.cell? ⟨b, off + (i * t.size + j), none⟩ = some u)

theorem Row.mono {t : Ty α} {w w' : World} {S S' : Nat → Prop} {n : Nat} {A : Option Addr} {xs : List α} (hS : ∀ b, S b → S' b) (hk : ∀ p : Addr, S p.block → w'.cell? p = w.cell? p) (h : Row t w S A n xs) : Row t w' S' A n xs :=
  ⟨h.1, fun hn => by
    obtain ⟨b, off, e, hb, hc⟩ := h.2 hn
    refine ⟨b, off, e, hS _ hb, fun i x hx => ?_⟩
    obtain ⟨vs, hr, hv⟩ := hc i x hx
    exact ⟨vs, t.mono hS hk hr, fun j u hu => (hk _ hb).trans (hv j u hu)⟩⟩
section
variable {t : Ty α} {w w' : World} {S S' : Nat → Prop} {n : Nat} {A : Option Addr} {xs : List α}
theorem Row.keep (h : Row t w S A n xs) (hk : ∀ p : Addr, S p.block → w'.cell? p = w.cell? p) : Row t w' S A n xs := h.mono (fun _ h => h) hk
theorem Row.below {B : Nat} (h : Row t w S A n xs) (hb : Below B w w') (hS : ∀ b, S b → b < B) : Row t w' S A n xs := h.keep fun _ hp => hb.cell (hS _ hp)
theorem Row.more (h : Row t w S A n xs) (hS : ∀ b, S b → S' b) : Row t w S' A n xs := h.mono hS (fun _ _ => rfl)
theorem Row.drewN (h : Row t w S A n xs) (k : Nat) : Row t (w.drewN k) S A n xs := Row.keep (w := w) h (fun _ _ => rfl)
theorem Row.drew (h : Row t w S A n xs) : Row t w.drew S A n xs := Row.keep (w := w) h (fun _ _ => rfl)
theorem Row.alloc (h : Row t w S A n xs) (o : Obj) (hS : ∀ b, S b → b < w.heap.size) : Row t (w.alloc o) S A n xs := h.keep fun p hp => World.cell?_alloc_lt w o p (hS _ hp)
theorem Row.setCell (h : Row t w S A n xs) {q : Addr} (u : Value) (hS : ¬ S q.block) : Row t (w.setCell q u) S A n xs :=
  h.keep fun p hp => World.cell?_setCell_other w q p u (fun e => hS (by rw [e]; exact hp))
theorem Row.nil (t : Ty α) (w : World) (S : Nat → Prop) (A : Option Addr) : Row t w S A 0 [] := ⟨rfl, fun h => absurd h (by omega)⟩
theorem Row.len (h : Row t w S A n xs) : xs.length = n := h.1
end

theorem add_none (b off k : Nat) : (⟨b, off, none⟩ : Addr).add k = ⟨b, off + k, none⟩ := by
  unfold Addr.add
  by_cases h : k = 0 <;> simp [h]
/-- a slice expression's elements -/
theorem Row.cut {t : Ty α} {w : World} {S : Nat → Prop} {n : Nat} {A : Option Addr} {xs : List α} (h : Row t w S A n xs) {lo m cap : Nat} (hlo : lo + m ≤ n) (hc : n ≤ cap) :
    Row t w S (if cap = lo then A else A.map (·.add (lo * t.size))) m ((xs.drop lo).take m) := by
  refine ⟨by rw [List.length_take, List.length_drop, h.1]; omega, fun hm => ?_⟩
  obtain ⟨b, off, rfl, hb, hcell⟩ := h.2 (by omega)
  rw [if_neg (by omega)]
  refine ⟨b, off + lo * t.size, by simp [add_none], hb, fun i x hx => ?_⟩
  have hx' : xs[lo + i]? = some x := by
    rw [List.getElem?_take] at hx
    split at hx
    · rwa [List.getElem?_drop] at hx
    · cases hx
  obtain ⟨vs, hr, hv⟩ := hcell (lo + i) x hx'
  refine ⟨vs, hr, fun j u hu => ?_⟩
  have e : off + lo * t.size + (i * t.size + j) = off + ((lo + i) * t.size + j) := by rw [Nat.add_mul]; omega
  rw [e]
  exact hv j u hu

def Ty.slice (t : Ty α) : Ty (List α) where
  size := 1
  rep w S xs cs := ∃ A n c, cs = [.slice A n c] ∧ n ≤ c ∧ c ≤ maxLen ∧ (A = none → c = 0) ∧ Row t w S A n xs
  len := by rintro w S x cs ⟨A, n, c, rfl, _⟩; rfl
  mono := by rintro w w' S S' x cs hS hk ⟨A, n, c, rfl, h1, h2, h3, h4⟩; exact ⟨A, n, c, rfl, h1, h2, h3, h4.mono hS hk⟩

/-- elements of one cell: integers -/
theorem Row.ints {k : IntKind} {w : World} {S : Nat → Prop} {n : Nat} {A : Option Addr} {xs : List Nat} (h : Row (Ty.nat k) w S A n xs) (hn : 0 < n) :
    ∃ b off, A = some ⟨b, off, none⟩ ∧ S b ∧ ∀ (i x : Nat), xs[i]? = some x → w.cell? ⟨b, off + i, none⟩ = some (.int k (x : Int)) := by
  obtain ⟨b, off, e, hb, hc⟩ := h.2 hn
  refine ⟨b, off, e, hb, fun i x hx => ?_⟩
  obtain ⟨vs, hr, hv⟩ := hc i x hx
  have := hv 0 (.int k (x : Int)) (by rw [hr.1]; rfl)
  simpa [Ty.nat] using this
theorem Row.ints_wf {k : IntKind} {w : World} {S : Nat → Prop} {n : Nat} {A : Option Addr} {xs : List Nat} (h : Row (Ty.nat k) w S A n xs) : ∀ x ∈ xs, (Lit.int k (x : Int)).wf = true := by
  intro x hx
  obtain ⟨i, hi, rfl⟩ := List.getElem_of_mem hx
  obtain ⟨b, off, e, hb, hc⟩ := h.2 (by have := h.1; omega)
  obtain ⟨vs, hr, _⟩ := hc i _ (List.getElem?_eq_getElem hi)
  exact hr.2
theorem Row.mk_ints {k : IntKind} {w : World} {S : Nat → Prop} {n b off : Nat} {xs : List Nat} (hl : xs.length = n) (hb : S b) (hw : ∀ x ∈ xs, (Lit.int k (x : Int)).wf = true)
    (hc : ∀ (i x : Nat), xs[i]? = some x → w.cell? ⟨b, off + i, none⟩ = some (.int k (x : Int))) : Row (Ty.nat k) w S (some ⟨b, off, none⟩) n xs :=
  ⟨hl, fun _ => ⟨b, off, rfl, hb, fun i x hx => ⟨[.int k (x : Int)], ⟨rfl, hw x (List.mem_of_getElem? hx)⟩, fun j u hu => by
    cases j with
    | zero => simp at hu; subst hu; simpa [Ty.nat] using hc i x hx
    | succ j => simp at hu⟩⟩⟩
/-- elements of one cell each: the cell's value by a function -/
theorem Row.one {t : Ty α} (ht : t.size = 1) {w : World} {S : Nat → Prop} {n : Nat} {A : Option Addr} {xs : List α} (h : Row t w S A n xs) (hn : 0 < n) :
    ∃ b off, A = some ⟨b, off, none⟩ ∧ S b ∧ ∀ i x, xs[i]? = some x → ∃ v, t.rep w S x [v] ∧ w.cell? ⟨b, off + i, none⟩ = some v := by
  obtain ⟨b, off, e, hb, hc⟩ := h.2 hn
  refine ⟨b, off, e, hb, fun i x hx => ?_⟩
  obtain ⟨vs, hr, hv⟩ := hc i x hx
  have hl := t.len hr
  rw [ht] at hl
  match vs, hl with
  | [v], _ => exact ⟨v, hr, by simpa [ht] using hv 0 v rfl⟩
/-- a row that the call owns -/
theorem Row.of_own' {t : Ty α} {w : World} {base e n c : Nat} {S : Nat → Prop} {A : Option Addr} {xs : List α} {cells : List Value} (h : w.ownsRow base e t.size (.slice A n c) n cells) (hl : xs.length = n)
    (hB : ∀ b, base ≤ b → b < w.heap.size → S b) (hx : ∀ (i : Nat) x, xs[i]? = some x → ∃ vs, t.rep w S x vs ∧ ∀ (j : Nat) u, vs[j]? = some u → cells[i * t.size + j]? = some u) : Row t w S A n xs := by
  refine ⟨hl, fun hn => ?_⟩
  obtain ⟨g, cap, hv, hg, hlt⟩ := World.ownsRow.form h hn
  obtain rfl : A = some ⟨g, 0, none⟩ := by injection hv
  have hc := World.ownsRow.cells h (g := g) rfl
  refine ⟨g, 0, rfl, hB _ hg hlt, fun i x hi => ?_⟩
  obtain ⟨vs, h1, h2⟩ := hx i x hi
  refine ⟨vs, h1, fun j u hu => ?_⟩
  have := hc _ u (h2 j u hu)
  rwa [add_none] at this
theorem Row.of_own {k : IntKind} {w : World} {base e n c : Nat} {S : Nat → Prop} {A : Option Addr} {xs : List Nat} (h : w.ownsRow base e 1 (.slice A n c) n (xs.map fun x : Nat => Value.int k (x : Int)))
    (hw : ∀ x ∈ xs, (Lit.int k (x : Int)).wf = true) (hB : ∀ b, base ≤ b → b < w.heap.size → S b) : Row (Ty.nat k) w S A n xs :=
  Row.of_own' (t := Ty.nat k) h (by simpa using h.1) hB fun i x hi => ⟨[.int k (x : Int)], ⟨rfl, hw x (List.mem_of_getElem? hi)⟩, fun j u hu => by
    cases j with
    | zero => simp at hu; subst hu; simp [Ty.nat, hi]
    | succ j => simp at hu⟩
theorem rep_of_own {k : IntKind} {w : World} {base e n : Nat} {S : Nat → Prop} {v : Value} {xs : List Nat} (h : w.ownsRow base e 1 v n (xs.map fun x : Nat => Value.int k (x : Int)))
    (hw : ∀ x ∈ xs, (Lit.int k (x : Int)).wf = true) (hB : ∀ b, base ≤ b → b < w.heap.size → S b) : (Ty.slice (Ty.nat k)).rep w S xs [v] := by
  rcases h.2 with ⟨rfl, rfl⟩ | ⟨g, cap, cur, rfl, hg, hh, hnc, hcm, hcs, ht⟩
  · have : xs = [] := List.eq_nil_of_length_eq_zero (by simpa using h.1)
    subst this
    exact ⟨none, 0, 0, rfl, Nat.le_refl _, Nat.zero_le _, fun _ => rfl, Row.nil _ _ _ _⟩
  · exact ⟨some ⟨g, 0, none⟩, n, cap, rfl, hnc, hcm, nofun, Row.of_own h hw hB⟩
theorem rep_slice {t : Ty α} {w : World} {S : Nat → Prop} {xs : List α} {v : Value} (h : (Ty.slice t).rep w S xs [v]) : ∃ A n c, v = .slice A n c ∧ n ≤ c ∧ c ≤ maxLen ∧ (A = none → c = 0) ∧ Row t w S A n xs := by
  obtain ⟨A, n, c, h0, h⟩ := h
  exact ⟨A, n, c, by simpa using h0, h⟩
end

/-! ### Arguments -/
/-- every reading of type T is a value of the shape t -/
def Opens {α : Type} (P : Program) (T : TypeId) (t : Ty α) : Prop :=
  P.cellsOf T = t.size ∧ ∀ {H : Type} {enc : TypeId × Value → H} {w : World} {base : Nat} {spare : Nat → Bool} {held : Bool} {fuel : Nat} {cs : List Value} {x : DataW H × List MemPlace},
    DataW.trod enc P w base spare held fuel T cs = some x → ∃ a, t.rep w (· < w.heap.size) a cs

section
variable {P : Program} {α β : Type}
theorem Opens.int {T : TypeId} {k : IntKind} (ht : P.underlying T = some (.int k)) (hc : P.cellsOf T = 1) : Opens P T (Ty.int k) :=
  ⟨hc, fun h => by
    obtain ⟨n, hcs, _, hw⟩ := DataW.trod_int ht h
    exact ⟨n, hcs, hw⟩⟩
theorem wf_nonneg {k : IntKind} (hk : k.signed = false) {n : Int} (h : (Lit.int k n).wf = true) : 0 ≤ n := by
  simp only [Lit.wf, Bool.and_eq_true, decide_eq_true_eq] at h
  have h1 := h.1
  simp [IntKind.min, hk] at h1
  exact h1
theorem Opens.nat {T : TypeId} {k : IntKind} (hk : k.signed = false) (ht : P.underlying T = some (.int k)) (hc : P.cellsOf T = 1) : Opens P T (Ty.nat k) :=
  ⟨hc, fun h => by
    obtain ⟨n, hcs, _, hw⟩ := DataW.trod_int ht h
    have h0 := wf_nonneg hk hw
    refine ⟨n.toNat, ?_, ?_⟩
    · rw [Int.toNat_of_nonneg h0]; exact hcs
    · rw [Int.toNat_of_nonneg h0]; exact hw⟩
theorem Opens.bool {T : TypeId} (ht : P.underlying T = some .bool) (hc : P.cellsOf T = 1) : Opens P T Ty.bool :=
  ⟨hc, fun h => by
    obtain ⟨b, hcs, _⟩ := DataW.trod_bool ht h
    exact ⟨b, hcs⟩⟩
theorem cell_lt {w : World} {p : Addr} {v : Value} (h : w.cell? p = some v) : p.block < w.heap.size := by
  rcases Nat.lt_or_ge p.block w.heap.size with hlt | hge
  · exact hlt
  · simp [World.cell?, Array.getElem?_eq_none hge] at h
theorem add_add' (b off i j : Nat) : ((⟨b, off, none⟩ : Addr).add i).add j = ⟨b, off + (i + j), none⟩ := by
  rw [add_none, add_none, Nat.add_assoc]
theorem Opens.slice {T E : TypeId} {t : Ty α} (ht : P.underlying T = some (.slice E)) (hc : P.cellsOf T = 1) (he : Opens P E t) (hs : 0 < t.size) : Opens P T (Ty.slice t) := by
  refine ⟨hc, fun {H enc w base spare held fuel cs x} h => ?_⟩
  rcases open_slice ht h with ⟨rfl, _⟩ | ⟨a, len, cap, m, n, D, Pl, rfl, hb, hl, hm, hmm, _, hi⟩
  · exact ⟨[], none, 0, 0, rfl, Nat.le_refl _, Nat.zero_le _, fun _ => rfl, Row.nil _ _ _ _⟩
  have hlm : len ≤ m := by rw [hmm]; split <;> omega
  -- each element
  have hel : ∀ i, i < len → ∃ y vs, t.rep w (· < w.heap.size) y vs ∧ ∀ j u, vs[j]? = some u → w.cell? ((a.add (i * t.size)).add j) = some u := fun i hil => by
    obtain ⟨cs', hc', ht'⟩ := hi i (by omega)
    rw [he.1] at hc'
    obtain ⟨y, hy⟩ := he.2 ht'
    obtain ⟨_, hcl, hat⟩ := World.cells?_some hc'
    refine ⟨y, cs', hy, fun j u hu => ?_⟩
    have hj : j < t.size := by
      rw [← hcl]
      exact (List.getElem?_eq_some_iff.1 hu).1
    rw [hat j hj, hu]
  have hbuild : ∀ k, k ≤ len → ∃ ys : List α, ys.length = k ∧ ∀ i y, ys[i]? = some y → ∃ vs, t.rep w (· < w.heap.size) y vs ∧ ∀ j u, vs[j]? = some u → w.cell? ((a.add (i * t.size)).add j) = some u := by
    intro k
    induction k with
    | zero => exact fun _ => ⟨[], rfl, fun i y h => by simp at h⟩
    | succ k ih =>
      intro hk
      obtain ⟨ys, hy, hys⟩ := ih (by omega)
      obtain ⟨y, vs, h1, h2⟩ := hel k (by omega)
      refine ⟨ys ++ [y], by simp [hy], fun i z hz => ?_⟩
      rcases Nat.lt_or_ge i k with hlt | hge
      · exact hys i z (by rwa [List.getElem?_append_left (by omega)] at hz)
      · rw [List.getElem?_append_right (by omega)] at hz
        have hik : i = k := by
          have := (List.getElem?_eq_some_iff.1 hz).1
          simp at this
          omega
        subst hik
        simp [hy] at hz
        subst hz
        exact ⟨vs, h1, h2⟩
  obtain ⟨ys, hyl, hys⟩ := hbuild len (Nat.le_refl _)
  refine ⟨ys, some a, len, cap, rfl, hl, hm, nofun, hyl, fun hn => ?_⟩
  obtain ⟨vs0, hr0, hv0⟩ := hys 0 _ (List.getElem?_eq_getElem (by omega))
  have hl0 := t.len hr0
  have hc0 := hv0 0 _ (List.getElem?_eq_getElem (by omega))
  simp only [Nat.zero_mul] at hc0
  have hspot : a.spot = none := by
    have := World.cell?_spot hc0
    simpa [Addr.add] using this
  obtain ⟨b, off, sp⟩ := a
  subst hspot
  refine ⟨b, off, rfl, ?_, fun i y hy => ?_⟩
  · have := cell_lt hc0
    simpa [Addr.add] using this
  · obtain ⟨vs, h1, h2⟩ := hys i y hy
    refine ⟨vs, h1, fun j u hu => ?_⟩
    have := h2 j u hu
    rwa [add_add'] at this

/-- the fields of a struct from place off on -/
structure OpensF {α : Type} (P : Program) (off : Nat) (fs : List Field) (t : Ty α) : Prop where
  go : ∀ {H : Type} {enc : TypeId × Value → H} {w : World} {base : Nat} {spare : Nat → Bool} {held : Bool} {fuel : Nat} {cs : List Value} {xs : List (DataW H × List MemPlace)},
    cs.length = off + t.size → (fs.mapM fun f => DataW.trod enc P w base spare held fuel f.type ((cs.drop f.offset).take (P.cellsOf f.type))) = some xs → ∃ a, t.rep w (· < w.heap.size) a (cs.drop off)
theorem OpensF.nil (off : Nat) : OpensF P off [] Ty.unit := ⟨fun {_ _ _ _ _ _ _ _ _} hl _ => ⟨(), List.drop_eq_nil_of_le (Nat.le_of_eq hl)⟩⟩
theorem OpensF.cons {off : Nat} {f : Field} {fs : List Field} {s : Ty α} {t : Ty β} (h1 : Opens P f.type s) (h0 : f.offset = off) (h2 : OpensF P (off + s.size) fs t) : OpensF P off (f :: fs) (Ty.pair s t) := by
  refine ⟨fun {H enc w base spare held fuel cs xs} hl h => ?_⟩
  simp only [List.mapM_cons, Option.bind_eq_bind, Option.bind_eq_some_iff] at h
  obtain ⟨y, hy, ys, hys, _⟩ := h
  rw [h0, h1.1] at hy
  obtain ⟨a, ha⟩ := h1.2 hy
  obtain ⟨b, hb⟩ := h2.go (by rw [hl]; simp only [Ty.pair]; omega) hys
  refine ⟨(a, b), _, _, ?_, ha, hb⟩
  rw [← List.drop_drop, List.take_append_drop]
theorem Opens.struct {T : TypeId} {fs : Array Field} {t : Ty α} (ht : P.underlying T = some (.struct fs)) (hc : P.cellsOf T = t.size) (h : OpensF P 0 fs.toList t) : Opens P T t := by
  refine ⟨hc, fun {H enc w base spare held fuel cs x} hx => ?_⟩
  cases fuel with
  | zero => simp [DataW.trod] at hx
  | succ fuel =>
    unfold DataW.trod at hx
    rw [ht] at hx
    simp only at hx
    split at hx
    · rename_i hlen
      simp only [Option.map_eq_some_iff] at hx
      obtain ⟨xs, hxs, _⟩ := hx
      have := h.go (cs := cs) (by rw [hlen, hc]; omega) hxs
      simpa using this
    · cases hx
end
end Go.Proofs.Ytoghpmeoekbcbaa
