/- Plain facts on numbers: little-endian values. No program in sight. -/
namespace Go.Proofs.Ytgekkmhkklbgcaa

/-- the number of these bytes, the least significant first -/
def leV : List Nat → Nat
  | [] => 0
  | b :: r => b + 256 * leV r
theorem leV_append (xs : List Nat) (b : Nat) : leV (xs ++ [b]) = leV xs + b * 256 ^ xs.length := by
  induction xs with
  | nil => simp [leV]
  | cons x r ih => simp only [List.cons_append, leV, ih, List.length_cons, Nat.pow_succ, Nat.mul_add]; rw [show 256 * (b * 256 ^ r.length) = b * (256 ^ r.length * 256) from by rw [Nat.mul_comm 256, Nat.mul_assoc]]; omega
theorem leV_lt (xs : List Nat) (h : ∀ x ∈ xs, x < 256) : leV xs < 256 ^ xs.length := by
  induction xs with
  | nil => simp [leV]
  | cons x r ih =>
    have h1 := ih fun y hy => h y (List.mem_cons_of_mem _ hy)
    have h2 := h x (List.mem_cons_self ..)
    simp only [leV, List.length_cons, Nat.pow_succ]
    omega
theorem take_succ (xs : List Nat) (k x : Nat) (h : xs[k]? = some x) : xs.take (k + 1) = xs.take k ++ [x] := by
  rw [List.take_add_one, h]
  rfl
theorem leV_take (xs : List Nat) (k x : Nat) (h : xs[k]? = some x) : leV (xs.take (k + 1)) = leV (xs.take k) + x * 256 ^ k := by
  have hk : k < xs.length := (List.getElem?_eq_some_iff.1 h).1
  rw [take_succ xs k x h, leV_append, List.length_take, Nat.min_eq_left (by omega)]
theorem pow256 (k : Nat) : 256 ^ k = 2 ^ (8 * k) := by rw [Nat.pow_mul]
theorem leV_or (xs : List Nat) (k x : Nat) (hx : ∀ x ∈ xs, x < 256) (h : xs[k]? = some x) : leV (xs.take k) ||| x * 2 ^ (8 * k) = leV (xs.take (k + 1)) := by
  have hk : k < xs.length := (List.getElem?_eq_some_iff.1 h).1
  have hlt : leV (xs.take k) < 2 ^ (8 * k) := by
    have := leV_lt (xs.take k) fun y hy => hx y (List.mem_of_mem_take hy)
    rwa [List.length_take, Nat.min_eq_left (by omega), pow256] at this
  rw [leV_take xs k x h, pow256, Nat.or_comm, Nat.mul_comm x, ← Nat.two_pow_add_eq_or_of_lt hlt]
  omega
/-- the k low bytes of a number, the least significant first -/
def leB (x k : Nat) : List Nat := (List.range k).map fun i => x / 256 ^ i % 256
theorem leB_succ (x k : Nat) : leB x (k + 1) = leB x k ++ [x / 256 ^ k % 256] := by simp [leB, List.range_succ]
theorem leB_length (x k : Nat) : (leB x k).length = k := by simp [leB]
theorem leB_lt (x k : Nat) : ∀ y ∈ leB x k, y < 256 := by
  intro y hy
  simp only [leB, List.mem_map] at hy
  obtain ⟨i, _, rfl⟩ := hy
  exact Nat.mod_lt _ (by decide)
theorem leV_leB (x k : Nat) : leV (leB x k) = x % 256 ^ k := by
  induction k with
  | zero => simp [leB, leV, Nat.mod_one]
  | succ k ih =>
    rw [leB_succ, leV_append, ih, leB_length, Nat.pow_succ, Nat.mod_mul, Nat.mul_comm]
end Go.Proofs.Ytgekkmhkklbgcaa
