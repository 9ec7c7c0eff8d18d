/-
  PLAIN MATHEMATICS: the text that bytes say (P2.3). No program is named here.
-/
import Derived.Test.YtlkieeindnpidaaDoorHuMe
namespace Go.Proofs.YtlkieeindnpidaaDoor.Hu
open Go.RowKit
namespace Hf

/-- The i-th bit of bytes, of each byte the greatest one first. -/
def bit (l : List UInt8) (i : Nat) : Nat := (l.getD (i / 8) 0).toNat / 2 ^ (7 - i % 8) % 2
theorem bit_lt (l : List UInt8) (i : Nat) : bit l i < 2 := Nat.mod_lt _ (by decide)
/-- r bits are left, from the i-th on; n bits, the number c, wait; out is told. -/
def says (l : List UInt8) : Nat → Nat → Nat → Nat → List UInt8 → Option (List UInt8)
  | 0, _, c, n, out => if 8 ≤ n ∨ c ≠ 2 ^ n - 1 then none else some out
  | r + 1, i, c, n, out => match sym (2 * c + bit l i) (n + 1) with
    | none => says l r (i + 1) (2 * c + bit l i) (n + 1) out
    | some s => if s = 256 then none else says l r (i + 1) 0 0 (out ++ [UInt8.ofNat s])
/-- P2.3: Decode. -/
def saysText (l : List UInt8) : Option (List UInt8) := says l (8 * l.length) 0 0 0 []

/-- What waits: no code ends in it. -/
def Wait (c n : Nat) : Prop := n ≤ 29 ∧ fst n + num n ≤ c ∧ c < 2 ^ n
theorem wait_zero : Wait 0 0 := ⟨by omega, by decide, by decide⟩
theorem wait_step {c n : Nat} (h : Wait c n) (l : List UInt8) (i : Nat) : n + 1 < 31 ∧ 2 * c + bit l i < 2 ^ (n + 1) ∧ (sym (2 * c + bit l i) (n + 1) = none → Wait (2 * c + bit l i) (n + 1)) := by
  obtain ⟨h1, h2, h3⟩ := h
  have hb := bit_lt l i
  have hp : 2 ^ (n + 1) = 2 * 2 ^ n := by rw [Nat.pow_succ, Nat.mul_comm]
  have hlt : 2 * c + bit l i < 2 ^ (n + 1) := by rw [hp]; omega
  refine ⟨by omega, hlt, fun hs => ?_⟩
  have hf := fst_all n (by omega)
  have hno : ¬ (fst (n + 1) ≤ 2 * c + bit l i ∧ 2 * c + bit l i < fst (n + 1) + num (n + 1)) := by
    intro hh
    unfold sym at hs
    rw [if_pos hh] at hs
    cases hs
  have hge : fst (n + 1) + num (n + 1) ≤ 2 * c + bit l i := by
    rcases Nat.lt_or_ge (2 * c + bit l i) (fst (n + 1) + num (n + 1)) with h | h
    · exact absurd ⟨by rw [hf]; omega, h⟩ hno
    · exact h
  refine ⟨?_, hge, hlt⟩
  rcases Nat.lt_or_ge n 29 with h | h
  · omega
  · obtain rfl : n = 29 := by omega
    have := full_end
    exfalso
    rw [show (29 : Nat) + 1 = 30 from rfl] at hge hlt
    omega
end Hf
end Go.Proofs.YtlkieeindnpidaaDoor.Hu
