/-
  PLAIN MATHEMATICS: a text's code says it, and what is taken is the code of what it says (P2.5). No program is named here.
-/
import Derived.Test.YtdkmnblfmmmfkaaDoorMf
import Derived.Test.YtdkmnblfmmmfkaaDoorMh
import Derived.Test.YtdkmnblfmmmfkaaDoorMt
namespace Go.Proofs.YtdkmnblfmmmfkaaDoor
open Go.RowKit
namespace Hf

/-- The number that m bits are, from the s-th on. -/
def chunk (b : List UInt8) (s : Nat) : Nat → Nat
  | 0 => 0
  | m + 1 => 2 * chunk b s m + bit b (s + m)
theorem chunk_lt (b : List UInt8) (s : Nat) : ∀ m, chunk b s m < 2 ^ m
  | 0 => by simp [chunk]
  | m + 1 => by
    have h := chunk_lt b s m
    have h2 := bit_lt b (s + m)
    rw [chunk, Nat.pow_succ]
    omega
theorem chunk_add (b : List UInt8) (s j : Nat) : ∀ m, chunk b s (j + m) = chunk b s j * 2 ^ m + chunk b (s + j) m
  | 0 => by simp [chunk]
  | m + 1 => by
    rw [← Nat.add_assoc, chunk, chunk_add b s j m, chunk, Nat.pow_succ, Nat.mul_add, ← Nat.add_assoc s]
    have : 2 * (chunk b s j * 2 ^ m) = chunk b s j * (2 ^ m * 2) := by rw [Nat.mul_comm 2, Nat.mul_assoc]
    omega
theorem chunk_pre (b : List UInt8) (s j m : Nat) : chunk b s (j + m) / 2 ^ m = chunk b s j := by
  rw [chunk_add, Nat.mul_comm, Nat.mul_add_div (Nat.two_pow_pos m), Nat.div_eq_of_lt (chunk_lt _ _ _), Nat.add_zero]
theorem chunk_suf (b : List UInt8) (s j m : Nat) : chunk b s (j + m) % 2 ^ m = chunk b (s + j) m := by
  rw [chunk_add, Nat.mul_comm, Nat.mul_add_mod, Nat.mod_eq_of_lt (chunk_lt _ _ _)]

theorem bits8 : ∀ x, x < 256 → 2 * (2 * (2 * (2 * (2 * (2 * (2 * (x / 128 % 2) + x / 64 % 2) + x / 32 % 2) + x / 16 % 2) + x / 8 % 2) + x / 4 % 2) + x / 2 % 2) + x % 2 = x := by
  intro x h
  omega
/-- Eight bits are a byte. -/
theorem chunk_byte (b : List UInt8) (j : Nat) : chunk b (8 * j) 8 = (b.getD j 0).toNat := by
  have h := bits8 (b.getD j 0).toNat (b.getD j 0).toNat_lt
  have e : ∀ k, k < 8 → bit b (8 * j + k) = (b.getD j 0).toNat / 2 ^ (7 - k) % 2 := by
    intro k hk
    unfold bit
    rw [show (8 * j + k) / 8 = j by omega, show (8 * j + k) % 8 = k by omega]
  simp only [chunk, e 0 (by omega), e 1 (by omega), e 2 (by omega), e 3 (by omega), e 4 (by omega), e 5 (by omega), e 6 (by omega), e 7 (by omega)]
  simp only [Nat.reduceSub, Nat.reducePow, Nat.div_one, Nat.mul_zero, Nat.zero_add]
  exact h
/-- The bytes of all bits. -/
theorem top_chunk (b : List UInt8) : top (chunk b 0 (8 * b.length)) (8 * b.length) b.length = b := by
  apply List.ext_getElem
  · rw [top_length]
  · intro j h1 h2
    simp only [top, List.getElem_map, List.getElem_range]
    have e := chunk_pre b 0 (8 * (j + 1)) (8 * b.length - 8 * (j + 1))
    rw [show 8 * (j + 1) + (8 * b.length - 8 * (j + 1)) = 8 * b.length by omega] at e
    rw [e]
    apply UInt8.toNat_inj.1
    have e2 := chunk_suf b 0 (8 * j) 8
    rw [show 8 * j + 8 = 8 * (j + 1) by omega, Nat.zero_add, chunk_byte] at e2
    rw [ofNat_toNat', show (256 : Nat) = 2 ^ 8 by decide, e2, List.getD_eq_getElem?_getD, List.getElem?_eq_getElem h2]
    rfl
theorem bit_top (X k j q : Nat) (hj : j < k) (hq : q < 8) : bit (top X (8 * k) k) (8 * j + q) = X / 2 ^ (8 * k - (8 * j + q + 1)) % 2 := by
  unfold bit
  have e1 : (8 * j + q) / 8 = j := by omega
  have e2 : (8 * j + q) % 8 = q := by omega
  rw [e1, e2, List.getD_eq_getElem?_getD, List.getElem?_eq_getElem (by rw [top_length]; exact hj)]
  simp only [Option.getD_some, top, List.getElem_map, List.getElem_range]
  rw [ofNat_toNat']
  rw [show (256 : Nat) = 2 ^ (7 - q) * 2 ^ (q + 1) by rw [← Nat.pow_add, show 7 - q + (q + 1) = 8 by omega]]
  rw [Nat.mod_mul_right_div_self, Nat.div_div_eq_div_mul, ← Nat.pow_add, show 8 * k - 8 * (j + 1) + (7 - q) = 8 * k - (8 * j + q + 1) by omega]
  rw [Nat.pow_succ]
  exact Nat.mod_mod_of_dvd _ (Nat.dvd_mul_left _ _)
/-- All bits of bytes that a number makes. -/
theorem chunk_top (X k : Nat) : ∀ m, m ≤ 8 * k → chunk (top X (8 * k) k) 0 m = X / 2 ^ (8 * k - m) % 2 ^ m
  | 0, _ => by simp [chunk, Nat.mod_one]
  | m + 1, h => by
    rw [chunk, chunk_top X k m (by omega), Nat.zero_add]
    have hb := bit_top X k (m / 8) (m % 8) (by omega) (by omega)
    rw [show 8 * (m / 8) + m % 8 = m by omega] at hb
    rw [hb]
    have e : X / 2 ^ (8 * k - m) = X / 2 ^ (8 * k - (m + 1)) / 2 := by
      rw [Nat.div_div_eq_div_mul, ← Nat.pow_succ, show (8 * k - (m + 1)).succ = 8 * k - m by omega]
    rw [e, Nat.pow_succ, Nat.mul_comm (2 ^ m) 2, Nat.mod_mul, Nat.add_comm]

/-- Bits in which no code ends. -/
theorem says_run (b : List UInt8) (s r : Nat) (out : List UInt8) : ∀ j, (∀ m, 1 ≤ m → m ≤ j → sym (chunk b s m) m = none) → says b (r + j) s 0 0 out = says b r (s + j) (chunk b s j) j out
  | 0, _ => rfl
  | j + 1, h => by
    have key : ∀ (q r' : Nat), q ≤ j → says b (r' + (j - q) + 1) (s + q) (chunk b s q) q out = says b (r' + (j - q)) (s + (q + 1)) (chunk b s (q + 1)) (q + 1) out := by
      intro q r' hq
      have hn := h (q + 1) (by omega) (by omega)
      rw [says]
      rw [show 2 * chunk b s q + bit b (s + q) = chunk b s (q + 1) by rw [chunk], hn]
      simp only [Nat.add_assoc]
    have h1 := says_run b s (r + 1) out j (fun m h1 h2 => h m h1 (by omega))
    rw [show r + (j + 1) = r + 1 + j by omega, h1]
    have := key j r (Nat.le_refl _)
    simp only [Nat.sub_self, Nat.add_zero] at this
    exact this
theorem says_one (b : List UInt8) (s r q z : Nat) (out : List UInt8) (hz : 1 ≤ z) (h : ∀ m, 1 ≤ m → m < z → sym (chunk b s m) m = none) (hs : sym (chunk b s z) z = some q) (hq : q ≠ 256) :
    says b (r + z) s 0 0 out = says b r (s + z) 0 0 (out ++ [UInt8.ofNat q]) := by
  obtain ⟨y, rfl⟩ : ∃ y, z = y + 1 := ⟨z - 1, by omega⟩
  rw [show r + (y + 1) = r + 1 + y by omega, says_run b s (r + 1) out y (fun m h1 h2 => h m h1 (by omega)), says]
  rw [show 2 * chunk b s y + bit b (s + y) = chunk b s (y + 1) by rw [chunk], hs]
  simp only [if_neg hq, Nat.add_assoc]
/-- No code is ahead in a code. -/
theorem sym_ahead {c m : Nat} (hc : c < 257) (hm : m < sz c) : sym (code c / 2 ^ (sz c - m)) m = none := by
  have hz := sz_hi hc
  obtain ⟨j, hj⟩ : ∃ j, sz c = m + j + 1 := ⟨sz c - m - 1, by omega⟩
  have hf := fst_far j m (by omega)
  rw [← hj] at hf
  have hge : fst m + num m ≤ code c / 2 ^ (sz c - m) := by
    rw [Nat.le_div_iff_mul_le (Nat.two_pow_pos _), show sz c - m = j + 1 by omega]
    unfold code
    omega
  unfold sym
  rw [if_neg (by omega)]
theorem ones_none : ∀ m, m < 8 → sym (2 ^ m - 1) m = none := by decide +kernel

/-- All bits of a text's code: the codes, and 1s behind. -/
def full (l : List UInt8) : Nat := (8 - totN l % 8) % 8
theorem full_lt (l : List UInt8) : full l < 8 := Nat.mod_lt _ (by decide)
theorem full_len (l : List UInt8) : totN l + full l = 8 * ((totN l + 7) / 8) := by unfold full; omega
theorem enc_top (l : List UInt8) : enc l = top (totT l * 2 ^ full l + (2 ^ full l - 1)) (8 * ((totN l + 7) / 8)) ((totN l + 7) / 8) := by
  unfold enc padB
  by_cases h : totN l % 8 = 0
  · have hf : full l = 0 := by unfold full; omega
    rw [if_pos h, hf, show 8 * ((totN l + 7) / 8) = totN l by omega, show (totN l + 7) / 8 = totN l / 8 by omega]
    simp
  · have hf : full l = 8 - totN l % 8 := by unfold full; omega
    rw [if_neg h, hf, show 8 * ((totN l + 7) / 8) = totN l + (8 - totN l % 8) by omega, show (totN l + 7) / 8 = totN l / 8 + 1 by omega]
theorem totT_lt (l : List UInt8) : totT l < 2 ^ totN l := by
  obtain ⟨x, hx, he⟩ := totT_app l []
  simp [totT] at he
  unfold totT
  rw [he]
  exact hx
/-- The first bits of a text's code are a first part's. -/
theorem enc_chunk (l1 l2 : List UInt8) : chunk (enc (l1 ++ l2)) 0 (totN l1) = totT l1 := by
  have hN := totN_app l1 l2
  have hfl := full_len (l1 ++ l2)
  rw [enc_top, chunk_top _ _ _ (by omega)]
  obtain ⟨x, hx, he⟩ := totT_app l2 l1
  have hp := Nat.two_pow_pos (full (l1 ++ l2))
  rw [show 8 * ((totN (l1 ++ l2) + 7) / 8) - totN l1 = full (l1 ++ l2) + totN l2 by omega, Nat.pow_add, ← Nat.div_div_eq_div_mul, he]
  rw [Nat.mul_comm _ (2 ^ full (l1 ++ l2)), Nat.mul_add_div hp, Nat.div_eq_of_lt (show 2 ^ full (l1 ++ l2) - 1 < _ by omega), Nat.add_zero]
  rw [Nat.mul_comm _ (2 ^ totN l2), Nat.mul_add_div (Nat.two_pow_pos _), Nat.div_eq_of_lt hx, Nat.add_zero, Nat.mod_eq_of_lt (totT_lt l1)]
theorem says_enc (l : List UInt8) : ∀ (l2 l1 : List UInt8), l = l1 ++ l2 → says (enc l) (totN l2 + full l) (totN l1) 0 0 l1 = some l
  | [], l1, h => by
    obtain rfl : l1 = l := by rw [h]; simp
    have hc : ∀ m, m ≤ full l1 → chunk (enc l1) (totN l1) m = 2 ^ m - 1 := by
      intro m hm
      have hfl := full_len l1
      have h1 := chunk_suf (enc l1) 0 (totN l1) m
      rw [Nat.zero_add] at h1
      rw [← h1, enc_top, chunk_top _ _ _ (by omega), Nat.pow_add, Nat.mod_mul_left_mod]
      rw [show 8 * ((totN l1 + 7) / 8) - (totN l1 + m) = full l1 - m by omega]
      have e : totT l1 * 2 ^ full l1 + (2 ^ full l1 - 1) = 2 ^ (full l1 - m) * (2 ^ m * totT l1 + (2 ^ m - 1)) + (2 ^ (full l1 - m) - 1) := by
        have hp : 2 ^ full l1 = 2 ^ (full l1 - m) * 2 ^ m := by rw [← Nat.pow_add, show full l1 - m + m = full l1 by omega]
        have h1 := Nat.two_pow_pos m
        have h2 := Nat.two_pow_pos (full l1 - m)
        rw [hp]
        generalize 2 ^ m = B at h1 ⊢
        generalize 2 ^ (full l1 - m) = A at h2 ⊢
        have h3 : A ≤ A * B := Nat.le_mul_of_pos_right _ h1
        have h4 : totT l1 * (A * B) = A * (B * totT l1) := by rw [Nat.mul_comm, Nat.mul_assoc]
        rw [h4, Nat.mul_add, Nat.mul_sub, Nat.mul_one]
        omega
      rw [e, Nat.mul_add_div (Nat.two_pow_pos _), Nat.div_eq_of_lt (show 2 ^ (full l1 - m) - 1 < _ by have := Nat.two_pow_pos (full l1 - m); omega), Nat.add_zero, Nat.mul_add_mod, Nat.mod_eq_of_lt (by have := Nat.two_pow_pos m; omega)]
    have hf := full_lt l1
    have hr := says_run (enc l1) (totN l1) 0 l1 (full l1) (fun m h1 h2 => by rw [hc m h2]; exact ones_none m (by omega))
    simp only [totN, Nat.zero_add] at hr ⊢
    rw [hr, says, hc _ (Nat.le_refl _), if_neg (by omega)]
  | c :: l2, l1, h => by
    have ih := says_enc l l2 (l1 ++ [c]) (by rw [h]; simp)
    have h1 := enc_chunk (l1 ++ [c]) l2
    rw [show l1 ++ [c] ++ l2 = l by rw [h]; simp, totT_snoc, totN_snoc] at h1
    have hc : ∀ m, m ≤ sz c.toNat → chunk (enc l) (totN l1) m = code c.toNat / 2 ^ (sz c.toNat - m) := by
      intro m hm
      have h2 := chunk_pre (enc l) 0 (totN l1 + m) (sz c.toNat - m)
      rw [show totN l1 + m + (sz c.toNat - m) = totN l1 + sz c.toNat by omega, h1] at h2
      have h3 := chunk_suf (enc l) 0 (totN l1) m
      rw [Nat.zero_add, ← h2] at h3
      rw [← h3]
      have hcl := code_lt (b257 c)
      have hp : 2 ^ sz c.toNat = 2 ^ (sz c.toNat - m) * 2 ^ m := by rw [← Nat.pow_add, show sz c.toNat - m + m = sz c.toNat by omega]
      rw [hp, ← Nat.mul_assoc, Nat.mul_comm (totT l1), Nat.mul_assoc, Nat.mul_add_div (Nat.two_pow_pos _), Nat.mul_comm (totT l1), Nat.mul_add_mod, Nat.mod_eq_of_lt]
      rw [Nat.div_lt_iff_lt_mul (Nat.two_pow_pos _), Nat.mul_comm, ← hp]
      exact hcl
    have hz := sz_lo (b257 c)
    have h256 : c.toNat ≠ 256 := by have := c.toNat_lt; omega
    have hs := says_one (enc l) (totN l1) (totN l2 + full l) c.toNat (sz c.toNat) l1 (by omega)
      (fun m h1 h2 => by rw [hc m (by omega)]; exact sym_ahead (b257 c) h2)
      (by rw [hc _ (Nat.le_refl _), Nat.sub_self, Nat.pow_zero, Nat.div_one]; exact sym_code _ (b257 c)) h256
    rw [show totN (c :: l2) + full l = totN l2 + full l + sz c.toNat by simp only [totN]; omega, hs]
    rw [totN_snoc] at ih
    rw [show UInt8.ofNat c.toNat = c by simp]
    exact ih
/-- P2.5: a text's code says it. -/
theorem says_of_enc (l : List UInt8) : saysText (enc l) = some l := by
  unfold saysText
  rw [enc_length, ← full_len]
  have := says_enc l l [] rfl
  simpa [totN] using this

theorem sym_bound {x n s : Nat} (h : sym x n = some s) (hn : n < 31) : s < 257 ∧ code s = x ∧ sz s = n := by
  unfold sym at h
  split at h
  · rename_i hx
    have ha := ahd_le n hn
    simp only [Option.some.injEq] at h
    obtain ⟨h1, h2⟩ := ord_back (ahd n + (x - fst n)) (by omega)
    rw [h] at h1 h2
    have hr := rank_num s h1
    unfold pos at h2
    have hz : sz s = n := by
      rcases Nat.lt_trichotomy (sz s) n with hlt | he | hgt
      · exfalso
        have : ∀ j, sz s + j < 31 → ahd (sz s) + num (sz s) ≤ ahd (sz s + j + 1) ∨ 30 ≤ sz s + j := by
          intro j
          induction j with
          | zero => intro hj; by_cases h30 : sz s < 30; exact Or.inl (by rw [Nat.add_zero, ahd_all _ h30]; exact Nat.le_refl _); exact Or.inr (by omega)
          | succ j ih =>
            intro hj
            by_cases h30 : sz s + (j + 1) < 30
            · left
              rw [ahd_all _ h30]
              rcases ih (by omega) with h | h
              · rw [show sz s + (j + 1) = sz s + j + 1 by omega]; omega
              · omega
            · right; omega
        rcases this (n - sz s - 1) (by omega) with h | h
        · rw [show sz s + (n - sz s - 1) + 1 = n by omega] at h
          omega
        · omega
      · exact he
      · exfalso
        have hz := sz_hi h1
        have : ∀ j, n + j < 31 → ahd n + num n ≤ ahd (n + j + 1) ∨ 30 ≤ n + j := by
          intro j
          induction j with
          | zero => intro hj; by_cases h30 : n < 30; exact Or.inl (by rw [Nat.add_zero, ahd_all _ h30]; exact Nat.le_refl _); exact Or.inr (by omega)
          | succ j ih =>
            intro hj
            by_cases h30 : n + (j + 1) < 30
            · left
              rw [ahd_all _ h30]
              rcases ih (by omega) with h | h
              · rw [show n + (j + 1) = n + j + 1 by omega]; omega
              · omega
            · right; omega
        rcases this (sz s - n - 1) (by omega) with h | h
        · rw [show n + (sz s - n - 1) + 1 = sz s by omega] at h
          omega
        · omega
    refine ⟨h1, ?_, hz⟩
    unfold code
    rw [hz] at h2 ⊢
    omega
  · cases h
/-- What has been read: the codes of what is told, and what waits. -/
theorem says_sound (b : List UInt8) : ∀ (r i c n : Nat) (out u : List UInt8), i + r = 8 * b.length → i = totN out + n → chunk b 0 i = totT out * 2 ^ n + c → c < 2 ^ n → Wait c n → says b r i c n out = some u →
    ∃ n', n' < 8 ∧ 8 * b.length = totN u + n' ∧ chunk b 0 (8 * b.length) = totT u * 2 ^ n' + (2 ^ n' - 1)
  | 0, i, c, n, out, u, h1, h2, h3, h4, _, h => by
    rw [says] at h
    split at h
    · cases h
    · rename_i hh
      simp only [Option.some.injEq] at h
      subst h
      refine ⟨n, by omega, by omega, ?_⟩
      rw [show 8 * b.length = i by omega, h3]
      have : c = 2 ^ n - 1 := by
        rcases Nat.decEq c (2 ^ n - 1) with h' | h'
        · exact absurd (Or.inr h') hh
        · exact h'
      rw [this]
  | r + 1, i, c, n, out, u, h1, h2, h3, h4, hw, h => by
    rw [says] at h
    obtain ⟨w1, w2, w3⟩ := wait_step hw b i
    have hstep : chunk b 0 (i + 1) = totT out * 2 ^ (n + 1) + (2 * c + bit b i) := by
      rw [chunk, Nat.zero_add, h3, Nat.pow_succ, ← Nat.mul_assoc, Nat.mul_comm _ 2]
      omega
    cases hs : sym (2 * c + bit b i) (n + 1) with
    | none =>
      rw [hs] at h
      exact says_sound b r (i + 1) _ (n + 1) out u (by omega) (by omega) hstep w2 (w3 hs) h
    | some s =>
      rw [hs] at h
      simp only at h
      split at h
      · cases h
      · rename_i h256
        obtain ⟨k1, k2, k3⟩ := sym_bound hs w1
        have hb : (UInt8.ofNat s).toNat = s := by rw [ofNat_toNat']; omega
        refine says_sound b r (i + 1) 0 0 _ u (by omega) ?_ ?_ (by simp) wait_zero h
        · rw [totN_snoc, hb, k3]; omega
        · rw [hstep, totT_snoc, hb, k3, k2]; simp
/-- P2.5: what is taken is the code of what it says. -/
theorem enc_of_says {b u : List UInt8} (h : saysText b = some u) : enc u = b := by
  obtain ⟨n, h1, h2, h3⟩ := says_sound b (8 * b.length) 0 0 0 [] u (by omega) (by simp [totN]) (by simp [chunk, totT]) (by simp) wait_zero h
  have hf : full u = n := by unfold full; omega
  rw [enc_top, hf, ← h3, show (totN u + 7) / 8 = b.length by omega, top_chunk]
end Hf
end Go.Proofs.YtdkmnblfmmmfkaaDoor
