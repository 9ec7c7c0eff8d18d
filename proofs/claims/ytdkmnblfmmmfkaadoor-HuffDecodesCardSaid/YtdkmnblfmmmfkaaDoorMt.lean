/-
  PLAIN MATHEMATICS: the code of two texts behind one another (P2.6). No program is named here.
-/
import Derived.Test.YtdkmnblfmmmfkaaDoorMe
namespace Go.Proofs.YtdkmnblfmmmfkaaDoor
open Go.RowKit
namespace Hf

theorem totT_app : ∀ (m l : List UInt8), ∃ x, x < 2 ^ totN m ∧ totT (l ++ m) = totT l * 2 ^ totN m + x
  | [], l => ⟨0, by simp [totN], by simp [totN]⟩
  | c :: m, l => by
    obtain ⟨x, hx, he⟩ := totT_app m (l ++ [c])
    refine ⟨code c.toNat * 2 ^ totN m + x, ?_, ?_⟩
    · have hc := code_lt (b257 c)
      have h1 : (code c.toNat + 1) * 2 ^ totN m ≤ 2 ^ sz c.toNat * 2 ^ totN m := Nat.mul_le_mul_right _ hc
      rw [← Nat.pow_add, Nat.add_mul] at h1
      simp only [totN]
      omega
    · rw [show l ++ c :: m = l ++ [c] ++ m by simp, he, totT_snoc]
      simp only [totN]
      rw [Nat.pow_add, Nat.add_mul, Nat.mul_assoc, Nat.add_assoc]
theorem take_top {T N j k : Nat} (h : k ≤ j) : (top T N j).take k = top T N k := by
  unfold top
  rw [← List.map_take, List.take_range, Nat.min_eq_left h]
theorem take_padB {T N k : Nat} (h : 8 * k ≤ N) : (padB T N).take k = top T N k := by
  by_cases h0 : N % 8 = 0
  · rw [padB_whole h0, take_top (by omega)]
  · unfold padB
    rw [if_neg h0, take_top (by omega), top_shift _ _ _ _ _ (by have := Nat.two_pow_pos (8 - N % 8); omega) h]
/-- The first whole bytes of the code of two texts are those of the first one's. -/
theorem enc_prefix (l m : List UInt8) : (enc (l ++ m)).take (totN l / 8) = (enc l).take (totN l / 8) := by
  obtain ⟨x, hx, he⟩ := totT_app m l
  unfold enc
  rw [take_padB (by rw [totN_app]; omega), take_padB (by omega), he, totN_app, top_shift _ _ _ _ _ hx (by omega)]
end Hf
end Go.Proofs.YtdkmnblfmmmfkaaDoor
