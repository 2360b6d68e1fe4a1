/-
  Plain mathematics for layer 1: the bytes of numbers, the numbers of bytes, Adler's sum. No program here.
-/
import Derived.Lib.Strings
namespace Go.Proofs.YtolfeellcdoopaaDoor.Oct

/-- seven bits a byte, the lowest first -/
def uintB (n : Nat) : List UInt8 := if h : n < 128 then [UInt8.ofNat n] else UInt8.ofNat (n % 128 + 128) :: uintB (n / 128)
termination_by n
decreasing_by omega

theorem uintB_small {n : Nat} (h : n < 128) : uintB n = [UInt8.ofNat n] := by rw [uintB, dif_pos h]
theorem uintB_big {n : Nat} (h : 128 ≤ n) : uintB n = UInt8.ofNat (n % 128 + 128) :: uintB (n / 128) := by rw [uintB, dif_neg (by omega)]

def sizeN (n : Nat) : Nat := (uintB n).length
theorem sizeN_small {n : Nat} (h : n < 128) : sizeN n = 1 := by simp [sizeN, uintB_small h]
theorem sizeN_big {n : Nat} (h : 128 ≤ n) : sizeN n = sizeN (n / 128) + 1 := by simp [sizeN, uintB_big h]
theorem sizeN_pos (n : Nat) : 1 ≤ sizeN n := by
  by_cases h : n < 128
  · rw [sizeN_small h]; exact Nat.le_refl 1
  · rw [sizeN_big (by omega)]; omega

/-- less than 2^(7k) takes at most k bytes -/
theorem sizeN_le : ∀ (k n : Nat), 1 ≤ k → n < 2 ^ (7 * k) → sizeN n ≤ k
  | 0, _, h, _ => by omega
  | 1, n, _, h => by rw [sizeN_small (by simpa using h)]; exact Nat.le_refl 1
  | k + 2, n, _, h => by
    by_cases hn : n < 128
    · rw [sizeN_small hn]; omega
    · rw [sizeN_big (by omega)]
      have h2 : n / 128 < 2 ^ (7 * (k + 1)) := by
        rw [Nat.div_lt_iff_lt_mul (by decide)]
        rw [show 7 * (k + 2) = 7 * (k + 1) + 7 by omega, Nat.pow_add] at h
        exact h
      have := sizeN_le (k + 1) (n / 128) (by omega) h2
      omega
theorem sizeN_le10 {n : Nat} (h : n < 18446744073709551616) : sizeN n ≤ 10 :=
  sizeN_le 10 n (by omega) (Nat.lt_of_lt_of_le h (by decide))

/-- the bytes by places -/
theorem uintB_last : ∀ (n : Nat), n / 128 ^ (sizeN n - 1) < 128 := by
  intro n
  induction n using Nat.strongRecOn with
  | ind n ih =>
    by_cases h : n < 128
    · rw [sizeN_small h]; simpa using h
    · have h1 := ih (n / 128) (by omega)
      have hp := sizeN_pos (n / 128)
      rw [sizeN_big (by omega), show sizeN (n / 128) + 1 - 1 = (sizeN (n / 128) - 1) + 1 by omega, Nat.pow_succ, Nat.mul_comm, ← Nat.div_div_eq_div_mul]
      exact h1

def low (n i : Nat) : UInt8 := UInt8.ofNat (n / 128 ^ i % 128 + 128)
def heads (n : Nat) : Nat → List UInt8
  | 0 => []
  | k + 1 => heads n k ++ [low n k]
theorem heads_cons (n : Nat) : ∀ k, heads n (k + 1) = UInt8.ofNat (n % 128 + 128) :: heads (n / 128) k
  | 0 => by simp [heads, low]
  | k + 1 => by
    rw [heads, heads_cons n k, heads]
    simp only [List.cons_append, low]
    rw [Nat.pow_succ, Nat.mul_comm, ← Nat.div_div_eq_div_mul]
theorem uintB_heads : ∀ (n : Nat), uintB n = heads n (sizeN n - 1) ++ [UInt8.ofNat (n / 128 ^ (sizeN n - 1))] := by
  intro n
  induction n using Nat.strongRecOn with
  | ind n ih =>
    by_cases h : n < 128
    · rw [sizeN_small h, uintB_small h]; simp [heads]
    · have hp := sizeN_pos (n / 128)
      rw [sizeN_big (by omega), uintB_big (by omega), ih (n / 128) (by omega)]
      rw [show sizeN (n / 128) + 1 - 1 = (sizeN (n / 128) - 1) + 1 by omega, heads_cons, Nat.pow_succ, Nat.mul_comm, ← Nat.div_div_eq_div_mul]
      rfl

/-- a number's zigzag form -/
def zig (n : Int) : Nat := if 0 ≤ n then (2 * n).toNat else (-2 * n - 1).toNat
def intB (n : Int) : List UInt8 := uintB (zig n)
def textB (s : List UInt8) : List UInt8 := uintB s.length ++ s
def wordB (n : Nat) : List UInt8 := [UInt8.ofNat (n / 16777216), UInt8.ofNat (n / 65536 % 256), UInt8.ofNat (n / 256 % 256), UInt8.ofNat (n % 256)]

/-- Adler's two numbers -/
def adl : List UInt8 → Nat × Nat → Nat × Nat
  | [], p => p
  | c :: l, (x, y) => adl l ((x + c.toNat) % 65521, (y + (x + c.toNat) % 65521) % 65521)
def sumN (l : List UInt8) : Nat := (adl l (1, 0)).2 * 65536 + (adl l (1, 0)).1

theorem adl_append : ∀ (l m : List UInt8) (p : Nat × Nat), adl (l ++ m) p = adl m (adl l p)
  | [], _, _ => rfl
  | c :: l, m, (x, y) => by simp [adl, adl_append l m]
theorem adl_take (l : List UInt8) (k : Nat) (h : k < l.length) (p : Nat × Nat) : adl (l.take (k + 1)) p = (((adl (l.take k) p).1 + (l.getD k 0).toNat) % 65521, ((adl (l.take k) p).2 + ((adl (l.take k) p).1 + (l.getD k 0).toNat) % 65521) % 65521) := by
  have e : l.take (k + 1) = l.take k ++ [l.getD k 0] := by
    rw [List.take_succ_eq_append_getElem h, List.getD_eq_getElem?_getD, List.getElem?_eq_getElem h]; rfl
  rw [e, adl_append]
  rfl
theorem adl_lt : ∀ (l : List UInt8) (p : Nat × Nat), p.1 < 65521 → p.2 < 65521 → (adl l p).1 < 65521 ∧ (adl l p).2 < 65521
  | [], _, h1, h2 => ⟨h1, h2⟩
  | c :: l, (x, y), _, _ => adl_lt l _ (Nat.mod_lt _ (by decide)) (Nat.mod_lt _ (by decide))
end Go.Proofs.YtolfeellcdoopaaDoor.Oct
