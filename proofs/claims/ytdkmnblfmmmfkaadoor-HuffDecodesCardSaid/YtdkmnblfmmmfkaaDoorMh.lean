/-
  PLAIN MATHEMATICS: no code begins another one's, and the code leaves no room (P2.6). No program is named here.
-/
import Derived.Test.YtdkmnblfmmmfkaaDoorMe
namespace Go.Proofs.YtdkmnblfmmmfkaaDoor
open Go.RowKit
namespace Hf

theorem fst_far : ∀ (j n : Nat), n + j + 1 < 31 → (fst n + num n) * 2 ^ (j + 1) ≤ fst (n + j + 1)
  | 0, n, h => by rw [Nat.add_zero, fst_all n (by omega)]; simp
  | j + 1, n, h => by
    have h1 := fst_far j n (by omega)
    have h2 := fst_all (n + j + 1) (by omega)
    rw [show n + (j + 1) + 1 = n + j + 1 + 1 by omega, h2, Nat.pow_succ, ← Nat.mul_assoc]
    exact Nat.mul_le_mul_right 2 (Nat.le_trans h1 (Nat.le_add_right _ _))
theorem apart {a b : Nat} (ha : a < 257) (hb : b < 257) (hne : a ≠ b) (hle : sz a ≤ sz b) : code b / 2 ^ (sz b - sz a) ≠ code a := by
  have hra := rank_num a ha
  have hrb := rank_num b hb
  have hzb := sz_hi hb
  rcases Nat.lt_or_ge (sz a) (sz b) with h | h
  · obtain ⟨j, hj⟩ : ∃ j, sz b = sz a + j + 1 := ⟨sz b - sz a - 1, by omega⟩
    have hf := fst_far j (sz a) (by omega)
    rw [← hj] at hf
    have hge : fst (sz a) + num (sz a) ≤ code b / 2 ^ (sz b - sz a) := by
      rw [Nat.le_div_iff_mul_le (Nat.two_pow_pos _), show sz b - sz a = j + 1 by omega]
      unfold code
      omega
    unfold code at hge ⊢
    omega
  · have he : sz a = sz b := by omega
    rw [he, Nat.sub_self, Nat.pow_zero, Nat.div_one]
    intro hc
    apply hne
    apply pos_inj ha hb
    unfold code at hc
    unfold pos
    rw [he] at hc ⊢
    omega
/-- The room that the first k codes take. -/
def room : Nat → Nat
  | 0 => 0
  | k + 1 => room k + 2 ^ (30 - sz k)
theorem room_all : room 257 = 1073741824 := by decide +kernel
theorem room_le : ∀ k, room k ≤ k * 1073741824
  | 0 => by simp [room]
  | k + 1 => by
    have h := room_le k
    have h2 : 2 ^ (30 - sz k) ≤ 2 ^ 30 := Nat.pow_le_pow_right (by decide) (by omega)
    have e : (2 : Nat) ^ 30 = 1073741824 := by decide
    unfold room
    omega
end Hf
end Go.Proofs.YtdkmnblfmmmfkaaDoor
