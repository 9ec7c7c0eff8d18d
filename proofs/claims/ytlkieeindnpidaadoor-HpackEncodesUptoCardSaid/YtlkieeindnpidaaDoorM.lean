/-
  PLAIN MATHEMATICS for package hpack: numbers with a prefix, texts, blocks (the document's chapter 4). No program is named here.
-/
import Derived.Test.YtlkieeindnpidaaDoorTtF
import Derived.Test.YtlkieeindnpidaaDoorHuP
import Derived.Test.YtlkieeindnpidaaDoorHuMf
namespace Go.Proofs.YtlkieeindnpidaaDoor
open Go.RowKit Tt Hu Hu.Hf

/-- Seven bits a byte, the lowest first. -/
def tail7 (n : Nat) : List UInt8 := if h : n < 128 then [UInt8.ofNat n] else UInt8.ofNat (n % 128 + 128) :: tail7 (n / 128)
termination_by n
decreasing_by omega
theorem tail7_lt {n : Nat} (h : n < 128) : tail7 n = [UInt8.ofNat n] := by rw [tail7, dif_pos h]
theorem tail7_ge {n : Nat} (h : ¬ n < 128) : tail7 n = UInt8.ofNat (n % 128 + 128) :: tail7 (n / 128) := by rw [tail7, dif_neg h]
theorem tail7_len : ∀ (k n : Nat), n < 128 ^ (k + 1) → (tail7 n).length ≤ k + 1
  | 0, n, h => by rw [tail7_lt (by simpa using h)]; simp
  | k + 1, n, h => by
    by_cases hn : n < 128
    · rw [tail7_lt hn]; simp
    · rw [tail7_ge hn, List.length_cons]
      have h2 : n / 128 < 128 ^ (k + 1) := by rw [Nat.div_lt_iff_lt_mul (by omega), ← Nat.pow_succ]; exact h
      have := tail7_len k (n / 128) h2
      omega
/-- P4.1: a number with a prefix. -/
def pint (first bits n : Nat) : List UInt8 := if n < 2 ^ bits - 1 then [UInt8.ofNat (first + n)] else UInt8.ofNat (first + (2 ^ bits - 1)) :: tail7 (n - (2 ^ bits - 1))
theorem pint_lt {first bits n : Nat} (h : n < 2 ^ bits - 1) : pint first bits n = [UInt8.ofNat (first + n)] := if_pos h
theorem pint_ge {first bits n : Nat} (h : ¬ n < 2 ^ bits - 1) : pint first bits n = UInt8.ofNat (first + (2 ^ bits - 1)) :: tail7 (n - (2 ^ bits - 1)) := if_neg h
theorem pint_len {first bits n : Nat} (h : n ≤ 2147483647) : (pint first bits n).length ≤ 6 := by
  unfold pint
  split
  · simp
  · rw [List.length_cons]
    have := tail7_len 4 (n - (2 ^ bits - 1)) (by omega)
    omega
/-- P4.2: a text. -/
def hz (s : ByteArray) : Nat := (totN (str s) + 7) / 8
def ptext (s : ByteArray) : List UInt8 := if hz s < s.size then pint 128 7 (hz s) ++ enc (str s) else pint 0 7 s.size ++ str s
theorem ptext_len {s : ByteArray} (h : s.size ≤ 1048576) : (ptext s).length ≤ s.size + 6 := by
  unfold ptext
  have h1 := pint_len (first := 128) (bits := 7) (n := hz s)
  have h2 := pint_len (first := 0) (bits := 7) (n := s.size)
  split
  · rename_i hh
    rw [List.length_append, enc_length]
    have := h1 (by omega)
    unfold hz at hh this
    unfold hz
    omega
  · rw [List.length_append, str_len]
    have := h2 (by omega)
    omega
/-- What reading answers; a fault by the document's number. -/
inductive Res (α : Type) where
  | ok (x : α)
  | er (c : Nat)
/-- The bytes behind the first one. -/
def more7 : Nat → Nat → List UInt8 → Res (Nat × Nat)
  | _, k, [] => if k = 6 then .er 102 else .er 101
  | acc, k, c :: l => if k = 6 then .er 102 else if 128 ≤ c.toNat then more7 (acc + c.toNat % 128 * 2 ^ (7 * (k - 1))) (k + 1) l
    else if 2147483647 < acc + c.toNat % 128 * 2 ^ (7 * (k - 1)) then .er 102 else .ok (acc + c.toNat % 128 * 2 ^ (7 * (k - 1)), k + 1)
/-- P4.1: the number that bytes begin with. -/
def getInt (bits : Nat) : List UInt8 → Res (Nat × Nat)
  | [] => .er 101
  | c :: l => if c.toNat % 2 ^ bits < 2 ^ bits - 1 then .ok (c.toNat % 2 ^ bits, 1) else more7 (c.toNat % 2 ^ bits) 1 l
theorem getInt_cons_lt {bits : Nat} {c : UInt8} {l : List UInt8} (h : c.toNat % 2 ^ bits < 2 ^ bits - 1) : getInt bits (c :: l) = .ok (c.toNat % 2 ^ bits, 1) := by unfold getInt; exact if_pos h
theorem getInt_cons_ge {bits : Nat} {c : UInt8} {l : List UInt8} (h : ¬ c.toNat % 2 ^ bits < 2 ^ bits - 1) : getInt bits (c :: l) = more7 (c.toNat % 2 ^ bits) 1 l := by unfold getInt; exact if_neg h
/-- P4.2: the text that bytes begin with. -/
def getText (l : List UInt8) : Res (ByteArray × Nat) := match getInt 7 l with
  | .er c => .er c
  | .ok (n, k) => if 16384 < n then .er 102 else if l.length - k < n then .er 101
    else if (l.getD 0 0).toNat < 128 then .ok (⟨((l.drop k).take n).toArray⟩, k + n)
    else match saysText ((l.drop k).take n) with
      | some t => .ok (⟨t.toArray⟩, k + n)
      | none => .er 107
theorem more7_ok : ∀ (l : List UInt8) (acc k : Nat) {n m : Nat}, k ≤ 6 → more7 acc k l = .ok (n, m) → n ≤ 2147483647 ∧ m ≤ k + l.length ∧ k < m ∧ m ≤ 6
  | [], acc, k, n, m, _, h => by unfold more7 at h; split at h <;> cases h
  | c :: l, acc, k, n, m, hk, h => by
    unfold more7 at h
    split at h
    · cases h
    · split at h
      · have := more7_ok l _ _ (by omega) h
        simp only [List.length_cons]
        omega
      · split at h
        · cases h
        · cases h
          simp only [List.length_cons]
          omega
theorem pow_bits {bits : Nat} (h : bits ≤ 8) : 2 ^ bits ≤ 256 := Nat.pow_le_pow_right (by omega) h
theorem getInt_ok {bits : Nat} (hb : bits ≤ 8) {l : List UInt8} {n m : Nat} (h : getInt bits l = .ok (n, m)) : n ≤ 2147483647 ∧ m ≤ l.length ∧ 1 ≤ m ∧ m ≤ 6 := by
  cases l with
  | nil => cases h
  | cons c l =>
    have hp := pow_bits hb
    by_cases hc : c.toNat % 2 ^ bits < 2 ^ bits - 1
    · rw [getInt_cons_lt hc] at h
      injection h with h
      injection h with h1 h2
      subst h1 h2
      simp only [List.length_cons]
      generalize c.toNat % 2 ^ bits = x at hc
      omega
    · rw [getInt_cons_ge hc] at h
      have := more7_ok l _ 1 (by omega) h
      simp only [List.length_cons]
      omega
theorem getText_ok {l : List UInt8} {s : ByteArray} {m : Nat} (h : getText l = .ok (s, m)) : m ≤ l.length ∧ 1 ≤ m := by
  unfold getText at h
  cases hi : getInt 7 l with
  | er c => rw [hi] at h; cases h
  | ok p =>
    obtain ⟨n, k⟩ := p
    have hk := getInt_ok (by omega) hi
    rw [hi] at h
    simp only at h
    split at h
    · cases h
    · split at h
      · cases h
      · split at h
        · cases h; omega
        · split at h
          · cases h; omega
          · cases h
end Go.Proofs.YtlkieeindnpidaaDoor
