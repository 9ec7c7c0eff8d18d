/-
  PLAIN MATHEMATICS: what is written is read back.
-/
import Derived.Test.YtlfnglnokakpfaaDoorV
namespace Go.Proofs.YtlfnglnokakpfaaDoor
open Go.RowKit Tt Hu Hu.Hf

theorem more7_tail : ∀ (j m acc k : Nat) (b : List UInt8), m < 128 ^ (j + 1) → 1 ≤ k → k + j ≤ 5 → acc + m * 2 ^ (7 * (k - 1)) ≤ 2147483647 →
    more7 acc k (tail7 m ++ b) = .ok (acc + m * 2 ^ (7 * (k - 1)), k + (tail7 m).length)
  | j, m, acc, k, b, hm, hk, hj, hs => by
    by_cases h : m < 128
    · rw [tail7_lt h]
      simp only [List.cons_append, List.nil_append, List.length_cons, List.length_nil]
      rw [more7, if_neg (by omega), if_neg (by rw [ofNat_toNat (by omega)]; omega), ofNat_toNat (by omega), Nat.mod_eq_of_lt h, if_neg (by omega)]
    · rw [tail7_ge h]
      have hr : (UInt8.ofNat (m % 128 + 128)).toNat = m % 128 + 128 := ofNat_toNat (by omega)
      have he : 2 ^ (7 * (k + 1 - 1)) = 128 * 2 ^ (7 * (k - 1)) := by
        obtain ⟨q, rfl⟩ : ∃ q, k = q + 1 := ⟨k - 1, by omega⟩
        simp only [Nat.add_sub_cancel]
        rw [Nat.mul_add, Nat.pow_add, Nat.mul_comm]
      have hsum : acc + m % 128 * 2 ^ (7 * (k - 1)) + m / 128 * 2 ^ (7 * (k + 1 - 1)) = acc + m * 2 ^ (7 * (k - 1)) := by
        rw [he, ← Nat.mul_assoc, Nat.add_assoc, ← Nat.add_mul]
        congr 2
        omega
      simp only [List.cons_append]
      rw [more7, if_neg (by omega), hr, if_pos (by omega), show (m % 128 + 128) % 128 = m % 128 by omega]
      cases j with
      | zero => omega
      | succ j =>
        have hm' : m / 128 < 128 ^ (j + 1) := by
          rw [Nat.div_lt_iff_lt_mul (by omega)]
          rw [Nat.pow_succ] at hm
          exact hm
        rw [more7_tail j (m / 128) _ (k + 1) b hm' (by omega) (by omega) (by rw [hsum]; exact hs), hsum]
        simp only [List.length_cons]
        congr 2
        omega
/-- P4.1: a number is read back, whatever lies behind it. -/
theorem getInt_pint {k n : Nat} (h1 : 1 ≤ k) (h8 : k ≤ 8) (hn : n ≤ 2147483647) (b : List UInt8) : getInt k (pint 0 k n ++ b) = .ok (n, (pint 0 k n).length) := by
  have hp := pow_bits h8
  have h2 : 2 ≤ 2 ^ k := by
    have := Nat.pow_le_pow_right (n := 2) (by omega) h1
    simpa using this
  by_cases h : n < 2 ^ k - 1
  · rw [pint_lt h]
    simp only [List.cons_append, List.nil_append, Nat.zero_add, List.length_cons, List.length_nil]
    have hm : (UInt8.ofNat n).toNat % 2 ^ k = n := by rw [ofNat_toNat (by omega), Nat.mod_eq_of_lt (by omega)]
    rw [getInt_cons_lt (by rw [hm]; exact h), hm]
  · rw [pint_ge h]
    simp only [List.cons_append, Nat.zero_add, List.length_cons]
    have hm : (UInt8.ofNat (2 ^ k - 1)).toNat % 2 ^ k = 2 ^ k - 1 := by rw [ofNat_toNat (by omega), Nat.mod_eq_of_lt (by omega)]
    rw [getInt_cons_ge (by rw [hm]; omega), hm, more7_tail 4 (n - (2 ^ k - 1)) (2 ^ k - 1) 1 b (by omega) (by omega) (by omega) (by simp; omega)]
    simp
    omega
end Go.Proofs.YtlfnglnokakpfaaDoor
