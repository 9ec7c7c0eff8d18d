/-
  PLAIN MATHEMATICS for package wire: what the document's chapter 1 says, on lists of bytes. No program is named here.
-/
import Derived.Laws.Bits64b
import Derived.Laws.BitsAllLaws
import Derived.RowKit
import Derived.Lib.ItoaNum
import Derived.Laws.BitsLemmas
namespace Go.Proofs.YtclnmajjkchfmaaDoor
open Go.RowKit
namespace Wr

/-- An answer, or the number of an error (101: ErrEnd, 102: ErrLong, 103: ErrTag, 104: ErrGroup, 105: ErrDeep, 120: ErrNumber). -/
inductive Res (α : Type) where
  | ok (a : α)
  | er (c : Nat)

/-- P1.1: the number that bytes begin with; k bytes have been read, acc is what they said. -/
def uvGo : Nat → Nat → List UInt8 → Res (Nat × Nat)
  | _, _, [] => .er 101
  | k, acc, c :: l =>
    if k = 9 ∧ 1 < c.toNat then .er 102
    else if c.toNat < 128 then .ok (acc + c.toNat * 2 ^ (7 * k), k + 1)
    else uvGo (k + 1) (acc + c.toNat % 128 * 2 ^ (7 * k)) l
def uv (l : List UInt8) : Res (Nat × Nat) := uvGo 0 0 l

theorem uvGo_long {k acc : Nat} {c : UInt8} {l : List UInt8} (hk : k = 9) (hc : 1 < c.toNat) : uvGo k acc (c :: l) = .er 102 := by
  rw [uvGo, if_pos ⟨hk, hc⟩]
theorem uvGo_last {k acc : Nat} {c : UInt8} {l : List UInt8} (hk : ¬ (k = 9 ∧ 1 < c.toNat)) (hc : c.toNat < 128) : uvGo k acc (c :: l) = .ok (acc + c.toNat * 2 ^ (7 * k), k + 1) := by
  rw [uvGo, if_neg hk, if_pos hc]
theorem uvGo_more {k acc : Nat} {c : UInt8} {l : List UInt8} (hk : ¬ (k = 9 ∧ 1 < c.toNat)) (hc : ¬ c.toNat < 128) : uvGo k acc (c :: l) = uvGo (k + 1) (acc + c.toNat % 128 * 2 ^ (7 * k)) l := by
  rw [uvGo, if_neg hk, if_neg hc]

/-- what a step adds stays below the next power. -/
theorem step_lt {k acc x : Nat} (hacc : acc < 2 ^ (7 * k)) (hx : x < 128) : acc + x * 2 ^ (7 * k) < 2 ^ (7 * (k + 1)) := by
  have e : 2 ^ (7 * (k + 1)) = 128 * 2 ^ (7 * k) := by
    rw [show 7 * (k + 1) = 7 + 7 * k by omega, Nat.pow_add]
  have h2 : x * 2 ^ (7 * k) ≤ 127 * 2 ^ (7 * k) := Nat.mul_le_mul_right _ (by omega)
  omega
theorem pow_le_63 {k : Nat} (hk : k ≤ 9) : 2 ^ (7 * k) ≤ 9223372036854775808 := by
  have h : 2 ^ (7 * k) ≤ 2 ^ 63 := Nat.pow_le_pow_right (by decide) (by omega)
  simpa using h
theorem pow_le_56 {k : Nat} (hk : k < 9) : 2 ^ (7 * k) ≤ 72057594037927936 := by
  have h : 2 ^ (7 * k) ≤ 2 ^ 56 := Nat.pow_le_pow_right (by decide) (by omega)
  simpa using h

/-- 'u | x << 7k' is a sum where u is below 2^(7k). -/
theorem or_shl {k acc x : Nat} (hk : k ≤ 9) (hacc : acc < 2 ^ (7 * k)) (hx : x < 128) (h9 : k = 9 → x ≤ 1) :
    bits .or .u64 (acc : Int) (IntKind.u64.wrap ((x : Int) * 2 ^ (7 * k))) = ((acc + x * 2 ^ (7 * k) : Nat) : Int) := by
  have hb : x * 2 ^ (7 * k) < 18446744073709551616 ∧ acc < 9223372036854775808 ∧ acc + x * 2 ^ (7 * k) < 18446744073709551616 := by
    by_cases h : k = 9
    · subst h
      have := h9 rfl
      have hx2 : x = 0 ∨ x = 1 := by omega
      rcases hx2 with rfl | rfl <;> simp at hacc ⊢ <;> omega
    · have h1 := pow_le_56 (k := k) (by omega)
      have h2 : x * 2 ^ (7 * k) ≤ 127 * 2 ^ (7 * k) := Nat.mul_le_mul_right _ (by omega)
      omega
  have ec : ((x : Int) * 2 ^ (7 * k)) = ((x * 2 ^ (7 * k) : Nat) : Int) := by simp
  have hw : IntKind.u64.wrap ((x : Int) * 2 ^ (7 * k)) = ((x * 2 ^ (7 * k) : Nat) : Int) := by
    rw [ec, IntKind.wrap_u64]; omega
  rw [hw, u64_or_nat _ _ (by omega) hb.1]
  congr 1
  rw [Nat.or_comm, nat_join (7 * k) _ _ (by simp) hacc, Nat.add_comm]

theorem andNot128 (x : UInt8) : bits .andNot .u8 (x.toNat : Int) 128 = ((x.toNat % 128 : Nat) : Int) := by
  have h := x.toNat_lt
  rw [show (128 : Int) = ((128 : Nat) : Int) from rfl, u8_andNot_nat _ _ (by omega) (by omega)]
  congr 1
  exact nat_mask7 _
theorem and127 (x : UInt8) : bits .and .u8 (x.toNat : Int) 127 = ((x.toNat % 128 : Nat) : Int) := by
  have h := x.toNat_lt
  rw [show (127 : Int) = ((127 : Nat) : Int) from rfl, u8_and_nat _ _ (by omega) (by omega)]
  congr 1
  exact nat_mask7 _
theorem and128 (x : UInt8) : bits .and .u8 (x.toNat : Int) 128 = if x.toNat < 128 then 0 else 128 := by
  have h := x.toNat_lt
  rw [show (128 : Int) = ((128 : Nat) : Int) from rfl, u8_and_nat _ _ (by omega) (by omega)]
  rw [show x.toNat &&& 128 = x.toNat / 2 ^ 7 % 2 * 2 ^ 7 from nat_bit 7 _]
  split <;> omega
theorem and128_lo {x : UInt8} (h : x.toNat < 128) : (bits .and .u8 (x.toNat : Int) 128 == 0) = true := by rw [and128, if_pos h]; rfl
theorem and128_hi {x : UInt8} (h : ¬ x.toNat < 128) : (bits .and .u8 (x.toNat : Int) 128 == 0) = false := by rw [and128, if_neg h]; rfl
theorem u64_small {x : Nat} (h : x < 18446744073709551616) : IntKind.u64.wrap (x : Int) = (x : Int) := by rw [IntKind.wrap_u64]; omega

theorem or_shl9 {acc : Nat} {x : UInt8} (hacc : acc < 2 ^ (7 * 9)) (hx : x.toNat ≤ 1) :
    bits .or .u64 (acc : Int) (IntKind.u64.wrap (IntKind.u64.wrap (bits .andNot .u8 (x.toNat : Int) 128) * 9223372036854775808)) = ((acc + x.toNat * 2 ^ (7 * 9) : Nat) : Int) := by
  have h := or_shl (k := 9) (acc := acc) (x := x.toNat) (by omega) hacc (by omega) (fun _ => hx)
  rw [← h, andNot128, u64_small (by omega), Nat.mod_eq_of_lt (by omega)]
  rfl
theorem or_shl_an {k acc : Nat} {x : UInt8} (hk : k < 9) (hacc : acc < 2 ^ (7 * k)) :
    bits .or .u64 (acc : Int) (IntKind.u64.wrap (IntKind.u64.wrap (bits .andNot .u8 (x.toNat : Int) 128) * 2 ^ (7 * k))) = ((acc + x.toNat % 128 * 2 ^ (7 * k) : Nat) : Int) := by
  have h := or_shl (k := k) (acc := acc) (x := x.toNat % 128) (by omega) hacc (by omega) (fun _ => by omega)
  rw [← h, andNot128, u64_small (by omega)]

theorem or_shl9r {acc : Nat} {x : UInt8} (hacc : acc < 2 ^ (7 * 9)) (hx : x.toNat ≤ 1) :
    bits .or .u64 (acc : Int) (IntKind.u64.wrap (IntKind.u64.wrap (bits .and .u8 (x.toNat : Int) 127) * 9223372036854775808)) = ((acc + x.toNat * 2 ^ (7 * 9) : Nat) : Int) := by
  rw [and127, ← andNot128]; exact or_shl9 hacc hx
theorem or_shl_nd {k acc : Nat} {x : UInt8} (hk : k < 9) (hacc : acc < 2 ^ (7 * k)) :
    bits .or .u64 (acc : Int) (IntKind.u64.wrap (IntKind.u64.wrap (bits .and .u8 (x.toNat : Int) 127) * 2 ^ (7 * k))) = ((acc + x.toNat % 128 * 2 ^ (7 * k) : Nat) : Int) := by
  rw [and127, ← andNot128]; exact or_shl_an hk hacc

/-- P1.2. -/
def zz (n : Int) : Int := if 0 ≤ n then 2 * n else -2 * n - 1
def zg (u : Nat) : Int := if u % 2 = 0 then (u / 2 : Nat) else -((u / 2 : Nat) : Int) - 1

theorem nat_xor_ones {a : Nat} (h : a < 18446744073709551616) : a ^^^ 18446744073709551615 = 18446744073709551615 - a := by
  have h1 : (BitVec.ofNat 64 a ^^^ BitVec.allOnes 64).toNat = (~~~ BitVec.ofNat 64 a).toNat := by rw [BitVec.xor_allOnes]
  rw [BitVec.toNat_xor, BitVec.toNat_not, BitVec.toNat_allOnes, BitVec.toNat_ofNat, Nat.mod_eq_of_lt (by simpa using h)] at h1
  simpa using h1
theorem xor_ones {y : Int} (h0 : 0 ≤ y) (h1 : y < 18446744073709551616) : bits .xor .u64 y 18446744073709551615 = 18446744073709551615 - y := by
  obtain ⟨a, rfl⟩ := Int.eq_ofNat_of_zero_le h0
  rw [show (18446744073709551615 : Int) = ((18446744073709551615 : Nat) : Int) from rfl, u64_xor_nat _ _ (by omega) (by omega), nat_xor_ones (by omega)]
  omega
theorem ones_xor {y : Int} (h0 : 0 ≤ y) (h1 : y < 18446744073709551616) : bits .xor .u64 18446744073709551615 y = 18446744073709551615 - y := by
  obtain ⟨a, rfl⟩ := Int.eq_ofNat_of_zero_le h0
  rw [show (18446744073709551615 : Int) = ((18446744073709551615 : Nat) : Int) from rfl, u64_xor_nat _ _ (by omega) (by omega), Nat.xor_comm, nat_xor_ones (by omega)]
  omega
theorem xor_zero {y : Int} (h0 : 0 ≤ y) (h1 : y < 18446744073709551616) : bits .xor .u64 y 0 = y := by
  obtain ⟨a, rfl⟩ := Int.eq_ofNat_of_zero_le h0
  rw [show (0 : Int) = ((0 : Nat) : Int) from rfl, u64_xor_nat _ _ (by omega) (by omega), Nat.xor_zero]
theorem wrap2 (n : Int) : IntKind.u64.wrap (IntKind.u64.wrap n * 2) = (n * 2) % 18446744073709551616 := by
  rw [IntKind.wrap_u64, IntKind.wrap_u64]; omega
theorem zig_wire {n : Int} (h0 : -9223372036854775808 ≤ n) (h1 : n ≤ 9223372036854775807) :
    bits .xor .u64 (IntKind.u64.wrap (IntKind.u64.wrap n * 2)) (IntKind.u64.wrap (n / 9223372036854775808)) = zz n := by
  rw [wrap2, IntKind.wrap_u64]
  unfold zz
  split
  · rename_i h
    rw [show n / 9223372036854775808 % 18446744073709551616 = 0 by omega, xor_zero (by omega) (by omega)]; omega
  · rename_i h
    rw [show n / 9223372036854775808 % 18446744073709551616 = 18446744073709551615 by omega, xor_ones (by omega) (by omega)]; omega
theorem zig_ref_neg {n : Int} (h0 : -9223372036854775808 ≤ n) (h1 : n < 0) :
    bits .xor .u64 IntKind.u64.max (IntKind.u64.wrap (IntKind.u64.wrap n * 2)) = zz n := by
  rw [show IntKind.u64.max = 18446744073709551615 by decide, wrap2, ones_xor (by omega) (by omega)]
  unfold zz
  rw [if_neg (by omega)]; omega
theorem zig_ref_pos {n : Int} (h0 : 0 ≤ n) (h1 : n ≤ 9223372036854775807) : IntKind.u64.wrap (IntKind.u64.wrap n * 2) = zz n := by
  rw [wrap2]; unfold zz; rw [if_pos h0]; omega

theorem and1 (u : Nat) (h : u < 18446744073709551616) : bits .and .u64 (u : Int) 1 = ((u % 2 : Nat) : Int) := by
  rw [show (1 : Int) = ((1 : Nat) : Int) from rfl, u64_and_nat _ _ h (by omega), nat_mask1]
theorem xor_i64_zero {x : Nat} (h : x < 9223372036854775808) : bits .xor .i64 (x : Int) 0 = x := by
  show IntKind.i64.wrap ((BitVec.ofInt 64 (x : Int) ^^^ BitVec.ofInt 64 0).toNat) = _
  rw [show BitVec.ofInt 64 (x : Int) ^^^ BitVec.ofInt 64 0 = BitVec.ofNat 64 x by simp [BitVec.ofInt_natCast]]
  rw [BitVec.toNat_ofNat, Nat.mod_eq_of_lt (by omega), IntKind.wrap_i64]; omega
theorem xor_i64_ones {x : Nat} (h : x < 9223372036854775808) : bits .xor .i64 (x : Int) (-1) = -(x : Int) - 1 := by
  show IntKind.i64.wrap ((BitVec.ofInt 64 (x : Int) ^^^ BitVec.ofInt 64 (-1)).toNat) = _
  rw [show BitVec.ofInt 64 (x : Int) ^^^ BitVec.ofInt 64 (-1) = ~~~ BitVec.ofNat 64 x by
    rw [show BitVec.ofInt 64 (-1) = BitVec.allOnes 64 by decide, BitVec.xor_allOnes, BitVec.ofInt_natCast]]
  rw [BitVec.toNat_not, BitVec.toNat_ofNat, Nat.mod_eq_of_lt (by omega), IntKind.wrap_i64]; omega
theorem wrap64_small {x : Int} (h0 : -9223372036854775808 ≤ x) (h1 : x ≤ 9223372036854775807) : wrap64 x = x := by
  unfold wrap64; omega
theorem zag_wire {u : Nat} (h : u < 18446744073709551616) :
    bits .xor .i64 ((u : Int) / 2) (wrap64 (-wrap64 (bits .and .u64 (u : Int) 1))) = zg u := by
  rw [and1 u h]
  have e : ((u : Int) / 2) = ((u / 2 : Nat) : Int) := by omega
  rw [e]
  unfold zg
  split
  · rename_i h2
    rw [h2, show wrap64 (-wrap64 ((0 : Nat) : Int)) = 0 by decide, xor_i64_zero (by omega)]
  · rename_i h2
    rw [show u % 2 = 1 by omega, show wrap64 (-wrap64 ((1 : Nat) : Int)) = -1 by decide, xor_i64_ones (by omega)]

/-- P1.4. -/
def TagOk (f k : Int) : Prop := 1 ≤ f ∧ f ≤ 536870911 ∧ 0 ≤ k ∧ k ≤ 5
theorem tag_or {f k : Int} (h : TagOk f k) : bits .or .u64 (f * 8) k = f * 8 + k := by
  obtain ⟨h1, h2, h3, h4⟩ := h
  rw [u64_or _ _ (by omega) (by omega) (by omega) (by omega), nat_join 3 _ _ (by omega) (by omega)]
  omega
def untag (u : Nat) : Res (Nat × Nat) := if u / 8 = 0 ∨ 536870911 < u / 8 ∨ 5 < u % 8 then .er 103 else .ok (u / 8, u % 8)
theorem and7 {u : Nat} (h : u < 18446744073709551616) : bits .and .u64 (u : Int) 7 = ((u % 8 : Nat) : Int) := by
  rw [show (7 : Int) = ((7 : Nat) : Int) from rfl, u64_and_nat _ _ h (by omega), nat_mask3]

/-- P1.1: the bytes of a number. -/
def varint (u : Nat) : List UInt8 := if u < 128 then [UInt8.ofNat u] else UInt8.ofNat (u % 128 + 128) :: varint (u / 128)
  termination_by u
  decreasing_by omega
theorem varint_lo {u : Nat} (h : u < 128) : varint u = [UInt8.ofNat u] := by rw [varint, if_pos h]
theorem varint_hi {u : Nat} (h : ¬ u < 128) : varint u = UInt8.ofNat (u % 128 + 128) :: varint (u / 128) := by rw [varint, if_neg h]
theorem ofNat_toNat {n : Nat} (h : n < 256) : (UInt8.ofNat n).toNat = n := by simp; omega
theorem or128 {u : Nat} : bits .or .u8 ((u : Int) % 256) 128 = ((UInt8.ofNat (u % 128 + 128)).toNat : Int) := by
  rw [ofNat_toNat (by omega), show (u : Int) % 256 = ((u % 256 : Nat) : Int) by omega, show (128 : Int) = ((128 : Nat) : Int) from rfl, u8_or_nat _ _ (by omega) (by omega)]
  congr 1
  have key : ∀ x : BitVec 8, x ||| 128#8 = (x &&& 127#8) + 128#8 := by decide
  have h := congrArg BitVec.toNat (key (BitVec.ofNat 8 (u % 256)))
  rw [BitVec.toNat_or, BitVec.toNat_add, BitVec.toNat_and, BitVec.toNat_ofNat, show (128#8).toNat = 128 from rfl, show (127#8).toNat = 127 from rfl, show u % 256 % 2 ^ 8 = u % 256 by omega, nat_mask7] at h
  rw [h]; omega
theorem or128r {u : Nat} (h : u < 18446744073709551616) : bits .or .u8 (bits .and .u64 (u : Int) 127 % 256) 128 = ((UInt8.ofNat (u % 128 + 128)).toNat : Int) := by
  rw [show (127 : Int) = ((127 : Nat) : Int) from rfl, u64_and_nat _ _ h (by omega), nat_mask7, or128]
  congr 3; omega
/-- at most ten bytes below 2^64. -/
theorem varint_len : ∀ (k u : Nat), u < 2 ^ (7 * k) → 1 ≤ k → (varint u).length ≤ k
  | 0, _, _, h => by omega
  | k + 1, u, hu, _ => by
    by_cases h : u < 128
    · rw [varint_lo h]; simp
    · rw [varint_hi h]
      have hk : 1 ≤ k := by
        rcases Nat.eq_zero_or_pos k with rfl | h'
        · simp at hu; omega
        · exact h'
      have := varint_len k (u / 128) (by
        rw [show 7 * (k + 1) = 7 * k + 7 by omega, Nat.pow_add] at hu
        omega) hk
      simpa using this
theorem varint_len10 {u : Nat} (h : u ≤ 18446744073709551615) : (varint u).length ≤ 10 := varint_len 10 u (by
  have : (2 : Nat) ^ (7 * 10) = 1180591620717411303424 := by decide
  omega) (by omega)
theorem varint_pos (u : Nat) : 1 ≤ (varint u).length := by
  by_cases h : u < 128
  · rw [varint_lo h]; simp
  · rw [varint_hi h]; simp

theorem varint_len_inv : ∀ (k u : Nat), (varint u).length ≤ k → u < 2 ^ (7 * k)
  | 0, u, h => by have := varint_pos u; omega
  | k + 1, u, h => by
    rw [show 7 * (k + 1) = 7 * k + 7 by omega, Nat.pow_add]
    have hp : 0 < 2 ^ (7 * k) := Nat.two_pow_pos _
    by_cases hu : u < 128
    · have : 128 ≤ 2 ^ (7 * k) * 2 ^ 7 := by
        have := Nat.mul_le_mul_right (2 ^ 7) hp
        simpa using this
      omega
    · rw [varint_hi hu] at h
      have := varint_len_inv k (u / 128) (by simpa using h)
      omega
/-- P1.1: Size. -/
theorem size_eq {u : Nat} (h : u ≤ 18446744073709551615) : (Lib.bitLen (u ||| 1) + 6) / 7 = (varint u).length := by
  have hor : u ||| 1 = u / 2 * 2 + 1 := by
    have h1 : u / 2 * 2 ||| 1 = u / 2 * 2 + 1 := nat_join 1 _ _ (by omega) (by decide)
    have h2 : u ||| 1 = u / 2 * 2 ||| 1 := by
      apply Nat.eq_of_testBit_eq
      intro i
      rw [Nat.testBit_or, Nat.testBit_or]
      cases i with
      | zero => simp
      | succ i =>
        have : (u / 2 * 2).testBit (i + 1) = u.testBit (i + 1) := by
          rw [Nat.testBit_succ, Nat.testBit_succ]; congr 1; omega
        rw [this]
    rw [h2, h1]
  have hb := Lib.bitLenAux_bounds 64 (u ||| 1) (by rw [hor]; omega) (by omega)
  change 1 ≤ Lib.bitLen (u ||| 1) ∧ 2 ^ (Lib.bitLen (u ||| 1) - 1) ≤ (u ||| 1) ∧ (u ||| 1) < 2 ^ Lib.bitLen (u ||| 1) at hb
  generalize Lib.bitLen (u ||| 1) = b at hb
  obtain ⟨hb1, hb2, hb3⟩ := hb
  have hlo : (varint u).length ≤ (b + 6) / 7 := by
    refine varint_len _ u ?_ (by omega)
    refine Nat.lt_of_lt_of_le (show u < 2 ^ b by omega) (Nat.pow_le_pow_right (by decide) (by omega))
  have hhi : (b + 6) / 7 ≤ (varint u).length := by
    have hp := varint_pos u
    have hi := varint_len_inv (varint u).length u (Nat.le_refl _)
    have hi2 : (u ||| 1) < 2 ^ (7 * (varint u).length) := by
      have e : 2 ^ (7 * (varint u).length) = 2 * 2 ^ (7 * (varint u).length - 1) := by
        rw [← Nat.pow_succ']; congr 1; omega
      omega
    have : b - 1 < 7 * (varint u).length := by
      rcases Nat.lt_or_ge (b - 1) (7 * (varint u).length) with h' | h'
      · exact h'
      · have := Nat.pow_le_pow_right (n := 2) (by decide) h'
        omega
    omega
  omega

/-- P1.3: the lowest bytes of a number, the lowest first. -/
def fixedB : Nat → Nat → List UInt8
  | 0, _ => []
  | k + 1, u => fixedB k u ++ [UInt8.ofNat (u / 2 ^ (8 * k))]
theorem fixedB_length : ∀ k u, (fixedB k u).length = k
  | 0, _ => rfl
  | k + 1, u => by simp [fixedB, fixedB_length k u]
theorem byte_shr (u k : Nat) : (((u : Int) / 2 ^ (8 * k)) % 256 : Int) = ((UInt8.ofNat (u / 2 ^ (8 * k))).toNat : Int) := by
  have e : ((u : Int) / 2 ^ (8 * k)) = ((u / 2 ^ (8 * k) : Nat) : Int) := by simp
  rw [e]
  simp
/-- the number that bytes are, the lowest first. -/
def leNum : List UInt8 → Nat
  | [] => 0
  | x :: l => x.toNat + 256 * leNum l
theorem leNum_snoc : ∀ (l : List UInt8) (x : UInt8), leNum (l ++ [x]) = leNum l + x.toNat * 2 ^ (8 * l.length)
  | [], x => by simp [leNum]
  | y :: l, x => by
    have e : 2 ^ (8 * (l.length + 1)) = 256 * 2 ^ (8 * l.length) := by rw [show 8 * (l.length + 1) = 8 + 8 * l.length by omega, Nat.pow_add]
    show y.toNat + 256 * leNum (l ++ [x]) = y.toNat + 256 * leNum l + x.toNat * 2 ^ (8 * (l.length + 1))
    rw [leNum_snoc l x, e, Nat.mul_add, Nat.add_assoc]
    congr 2
    rw [Nat.mul_left_comm]
theorem leNum_lt : ∀ l : List UInt8, leNum l < 2 ^ (8 * l.length)
  | [] => by simp [leNum]
  | y :: l => by
    have h := leNum_lt l
    have hy := y.toNat_lt
    have e : 2 ^ (8 * (l.length + 1)) = 256 * 2 ^ (8 * l.length) := by rw [show 8 * (l.length + 1) = 8 + 8 * l.length by omega, Nat.pow_add]
    show y.toNat + 256 * leNum l < 2 ^ (8 * (l.length + 1))
    rw [e]; omega
theorem take_snoc' {l : List UInt8} {k : Nat} (h : k < l.length) : l.take (k + 1) = l.take k ++ [l[k]] := by
  rw [List.take_succ_eq_append_getElem h]
theorem or_le {k acc : Nat} {x : UInt8} (hk : k < 8) (hacc : acc < 2 ^ (8 * k)) :
    bits .or .u64 (acc : Int) (IntKind.u64.wrap ((x.toNat : Int) * 2 ^ (8 * k))) = ((acc + x.toNat * 2 ^ (8 * k) : Nat) : Int) := by
  have hx := x.toNat_lt
  have h56 : 2 ^ (8 * k) ≤ 2 ^ 56 := Nat.pow_le_pow_right (by decide) (by omega)
  have h56' : (2 : Nat) ^ 56 = 72057594037927936 := by decide
  have hm : x.toNat * 2 ^ (8 * k) ≤ 255 * 2 ^ (8 * k) := Nat.mul_le_mul_right _ (by omega)
  have ec : ((x.toNat : Int) * 2 ^ (8 * k)) = ((x.toNat * 2 ^ (8 * k) : Nat) : Int) := by simp
  rw [ec, u64_small (by omega), u64_or_nat _ _ (by omega) (by omega)]
  congr 1
  rw [Nat.or_comm, nat_join (8 * k) _ _ (by simp) hacc, Nat.add_comm]
/-- P1.3: Unfixed. -/
def unfx (l : List UInt8) (k : Nat) : Res (Nat × Nat) := if l.length < k then .er 101 else .ok (leNum (l.take k), k)
theorem unfx_bound {l : List UInt8} {k : Nat} (hk : k ≤ 8) : leNum (l.take k) ≤ 18446744073709551615 := by
  have h := leNum_lt (l.take k)
  have h2 : 2 ^ (8 * (l.take k).length) ≤ 2 ^ 64 := Nat.pow_le_pow_right (by decide) (by simp; omega)
  have h64 : (2 : Nat) ^ 64 = 18446744073709551616 := by decide
  omega

end Wr
end Go.Proofs.YtclnmajjkchfmaaDoor
