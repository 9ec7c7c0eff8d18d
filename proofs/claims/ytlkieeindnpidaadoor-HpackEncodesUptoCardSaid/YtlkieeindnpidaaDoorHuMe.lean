/-
  PLAIN MATHEMATICS: the code of a text (P2.2). No program is named here.
-/
import Derived.Test.YtlkieeindnpidaaDoorHuKit
namespace Go.Proofs.YtlkieeindnpidaaDoor.Hu
open Go.RowKit
namespace Hf

/-- The codes of bytes, one behind the other, as one number; how many bits they have. -/
def totT (l : List UInt8) : Nat := l.foldl (fun T c => T * 2 ^ sz c.toNat + code c.toNat) 0
def totN : List UInt8 → Nat
  | [] => 0
  | c :: l => sz c.toNat + totN l
theorem totT_snoc (l : List UInt8) (c : UInt8) : totT (l ++ [c]) = totT l * 2 ^ sz c.toNat + code c.toNat := by simp [totT]
theorem totN_app : ∀ l m : List UInt8, totN (l ++ m) = totN l + totN m
  | [], m => by simp [totN]
  | c :: l, m => by simp [totN, totN_app l m]; omega
theorem totN_snoc (l : List UInt8) (c : UInt8) : totN (l ++ [c]) = totN l + sz c.toNat := by simp [totN_app, totN]
theorem b257 (c : UInt8) : c.toNat < 257 := by have := c.toNat_lt; omega
theorem totN_le : ∀ l : List UInt8, totN l ≤ 30 * l.length
  | [] => by simp [totN]
  | c :: l => by
    have h := totN_le l
    have h2 := sz_hi (b257 c)
    simp only [totN, List.length_cons]
    omega
/-- The first k bytes of N bits. -/
def top (T N k : Nat) : List UInt8 := (List.range k).map fun j => UInt8.ofNat (T / 2 ^ (N - 8 * (j + 1)))
theorem top_length (T N k : Nat) : (top T N k).length = k := by simp [top]
theorem top_zero (T N : Nat) : top T N 0 = [] := rfl
theorem top_succ (T N k : Nat) : top T N (k + 1) = top T N k ++ [UInt8.ofNat (T / 2 ^ (N - 8 * (k + 1)))] := by simp [top, List.range_succ]
theorem div_shift (T m x e : Nat) (hx : x < 2 ^ m) : (T * 2 ^ m + x) / 2 ^ (m + e) = T / 2 ^ e := by
  rw [Nat.pow_add, ← Nat.div_div_eq_div_mul]
  congr 1
  rw [Nat.mul_comm, Nat.mul_add_div (Nat.two_pow_pos m), Nat.div_eq_of_lt hx, Nat.add_zero]
theorem top_shift (T N m x k : Nat) (hx : x < 2 ^ m) (hk : 8 * k ≤ N) : top (T * 2 ^ m + x) (N + m) k = top T N k := by
  unfold top
  refine List.map_congr_left fun j hj => ?_
  rw [List.mem_range] at hj
  rw [show N + m - 8 * (j + 1) = m + (N - 8 * (j + 1)) by omega, div_shift T m x _ hx]
/-- A code in N bits, padded to whole bytes with 1s. -/
def padB (T N : Nat) : List UInt8 := if N % 8 = 0 then top T N (N / 8) else top (T * 2 ^ (8 - N % 8) + (2 ^ (8 - N % 8) - 1)) (N + (8 - N % 8)) (N / 8 + 1)
/-- P2.2: Encode. -/
def enc (l : List UInt8) : List UInt8 := padB (totT l) (totN l)
theorem padB_length (T N : Nat) : (padB T N).length = (N + 7) / 8 := by
  unfold padB
  split <;> rw [top_length] <;> omega
theorem enc_length (l : List UInt8) : (enc l).length = (totN l + 7) / 8 := padB_length _ _

theorem ofNat_mod (x : Nat) : UInt8.ofNat x = UInt8.ofNat (x % 256) := by
  apply UInt8.toNat_inj.1
  simp
theorem ofNat_toNat' (x : Nat) : (UInt8.ofNat x).toNat = x % 256 := by simp
/-- What a shift to the right tells of a number of which only the lowest bits are known. -/
theorem low_div {a b n : Nat} (h : a % 2 ^ (n + 8) = b % 2 ^ (n + 8)) : a / 2 ^ n % 256 = b / 2 ^ n % 256 := by
  have key : ∀ x : Nat, x / 2 ^ n % 256 = x % 2 ^ (n + 8) / 2 ^ n := by
    intro x
    rw [Nat.pow_add, Nat.mod_mul_right_div_self]
  rw [key, key, h]
theorem low_mod {a b n m : Nat} (h : a % 2 ^ (n + m) = b % 2 ^ (n + m)) : a % 2 ^ n = b % 2 ^ n := by
  have key : ∀ x : Nat, x % 2 ^ n = x % 2 ^ (n + m) % 2 ^ n := by
    intro x
    rw [Nat.pow_add, Nat.mod_mul_right_mod]
  rw [key, key b, h]
/-- 'left<<bits | code' on 64 bits: of what is known below it stays known. -/
theorem or_step {x T n z c : Nat} (h : x % 2 ^ n = T % 2 ^ n) (hc : c < 2 ^ z) (hz : n + z ≤ 64) :
    ((x * 2 ^ z % 18446744073709551616) ||| c) % 2 ^ (n + z) = (T * 2 ^ z + c) % 2 ^ (n + z) ∧ ((x * 2 ^ z % 18446744073709551616) ||| c) < 18446744073709551616 := by
  have e64 : (18446744073709551616 : Nat) = 2 ^ z * 2 ^ (64 - z) := by rw [← Nat.pow_add, show z + (64 - z) = 64 by omega]
  have e1 : x * 2 ^ z % 18446744073709551616 = 2 ^ z * (x % 2 ^ (64 - z)) := by rw [e64, Nat.mul_comm x, Nat.mul_mod_mul_left]
  have hj : (x * 2 ^ z % 18446744073709551616) ||| c = 2 ^ z * (x % 2 ^ (64 - z)) + c := by
    rw [e1]
    exact nat_join z _ _ (by simp) hc
  constructor
  · rw [hj]
    have hx : x % 2 ^ (64 - z) % 2 ^ n = T % 2 ^ n := by
      rw [← h, Nat.mod_mod_of_dvd]
      exact Nat.pow_dvd_pow 2 (by omega)
    have key : ∀ a : Nat, (2 ^ z * a + c) % 2 ^ (n + z) = 2 ^ z * (a % 2 ^ n) + c := by
      intro a
      rw [show n + z = z + n by omega, Nat.pow_add, Nat.mod_mul, Nat.mul_add_mod, Nat.mod_eq_of_lt hc, Nat.mul_add_div (Nat.two_pow_pos z), Nat.div_eq_of_lt hc, Nat.add_zero, Nat.add_comm]
    rw [key, hx, Nat.mul_comm T, key]
  · rw [hj, e64]
    have h1 : x % 2 ^ (64 - z) + 1 ≤ 2 ^ (64 - z) := Nat.mod_lt _ (Nat.two_pow_pos _)
    have h2 : 2 ^ z * (x % 2 ^ (64 - z) + 1) ≤ 2 ^ z * 2 ^ (64 - z) := Nat.mul_le_mul_left _ h1
    rw [Nat.mul_add] at h2
    omega
theorem padB_pad {T N r f : Nat} (hr : N % 8 = r) (h0 : r ≠ 0) (hf : r + f = 8) : padB T N = top T N (N / 8) ++ [UInt8.ofNat (T * 2 ^ f + (2 ^ f - 1))] := by
  obtain rfl : f = 8 - N % 8 := by omega
  unfold padB
  rw [if_neg (by omega), top_succ, top_shift _ _ _ _ _ (by have := Nat.two_pow_pos (8 - N % 8); omega) (by omega), show N + (8 - N % 8) - 8 * (N / 8 + 1) = 0 by omega, Nat.pow_zero, Nat.div_one]
theorem padB_whole {T N : Nat} (hr : N % 8 = 0) : padB T N = top T N (N / 8) := by unfold padB; rw [if_pos hr]
end Hf
end Go.Proofs.YtlkieeindnpidaaDoor.Hu
