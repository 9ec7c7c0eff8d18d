/-
  THE LAW HpackTexts: what is written is read back; the walk.
-/
import Derived.Test.YtlkieeindnpidaaDoorTa
namespace Go.Proofs.YtlkieeindnpidaaDoor
open Go.RowKit Tt Hu Hu.Hf

theorem more7_tail2 : ∀ (j m acc k : Nat) (b : List UInt8), m < 128 ^ (j + 1) → 1 ≤ k → k + j ≤ 5 → acc + m * 2 ^ (7 * (k - 1)) ≤ 2147483647 →
    more7 acc k (tail7 m ++ b) = .ok (acc + m * 2 ^ (7 * (k - 1)), k + (tail7 m).length)
  | j, m, acc, k, b, hm, hk, hj, hs => by
    by_cases h : m < 128
    · rw [tail7_lt h]
      simp only [List.cons_append, List.nil_append, List.length_cons, List.length_nil]
      rw [more7, if_neg (by omega), if_neg (by rw [ofNat_toNat (by omega)]; omega), ofNat_toNat (by omega), Nat.mod_eq_of_lt h, if_neg (by omega)]
    · rw [tail7_ge h]
      have hr : (UInt8.ofNat (m % 128 + 128)).toNat = m % 128 + 128 := ofNat_toNat (by omega)
      have he : 2 ^ (7 * (k + 1 - 1)) = 128 * 2 ^ (7 * (k - 1)) := by
        obtain ⟨q, rfl⟩ : ∃ q, k = q + 1 := ⟨k - 1, by omega⟩
        simp only [Nat.add_sub_cancel]
        rw [Nat.mul_add, Nat.pow_add, Nat.mul_comm]
      have hsum : acc + m % 128 * 2 ^ (7 * (k - 1)) + m / 128 * 2 ^ (7 * (k + 1 - 1)) = acc + m * 2 ^ (7 * (k - 1)) := by
        rw [he, ← Nat.mul_assoc, Nat.add_assoc, ← Nat.add_mul]
        congr 2
        omega
      simp only [List.cons_append]
      rw [more7, if_neg (by omega), hr, if_pos (by omega), show (m % 128 + 128) % 128 = m % 128 by omega]
      cases j with
      | zero => omega
      | succ j =>
        have hm' : m / 128 < 128 ^ (j + 1) := by
          rw [Nat.div_lt_iff_lt_mul (by omega)]
          rw [Nat.pow_succ] at hm
          exact hm
        rw [more7_tail2 j (m / 128) _ (k + 1) b hm' (by omega) (by omega) (by rw [hsum]; exact hs), hsum]
        simp only [List.length_cons]
        congr 2
        omega
theorem mod_pre {f p n : Nat} (hf : f % p = 0) (hn : n < p) : (f + n) % p = n := by rw [Nat.add_mod, hf, Nat.zero_add, Nat.mod_mod, Nat.mod_eq_of_lt hn]
/-- A number is read back, whatever stands in the prefix and behind it. -/
theorem getInt_pre {f k n : Nat} (h1 : 1 ≤ k) (hf : f % 2 ^ k = 0) (hs : f + 2 ^ k ≤ 256) (hn : n ≤ 2147483647) (b : List UInt8) : getInt k (pint f k n ++ b) = .ok (n, (pint f k n).length) := by
  have h2 : 2 ≤ 2 ^ k := by
    have := Nat.pow_le_pow_right (n := 2) (by omega) h1
    simpa using this
  by_cases h : n < 2 ^ k - 1
  · rw [pint_lt h]
    simp only [List.cons_append, List.nil_append, List.length_cons, List.length_nil]
    have hm : (UInt8.ofNat (f + n)).toNat % 2 ^ k = n := by rw [ofNat_toNat (by omega), mod_pre hf (by omega)]
    rw [getInt_cons_lt (by rw [hm]; exact h), hm]
  · rw [pint_ge h]
    simp only [List.cons_append, List.length_cons]
    have hm : (UInt8.ofNat (f + (2 ^ k - 1))).toNat % 2 ^ k = 2 ^ k - 1 := by rw [ofNat_toNat (by omega), mod_pre hf (by omega)]
    rw [getInt_cons_ge (by rw [hm]; omega), hm, more7_tail2 4 (n - (2 ^ k - 1)) (2 ^ k - 1) 1 b (by omega) (by omega) (by omega) (by simp; omega)]
    simp
    omega
theorem pint_first {f k n : Nat} (hs : f + 2 ^ k ≤ 256) (b : List UInt8) : ∃ x, ((pint f k n ++ b).getD 0 0).toNat = f + x ∧ x < 2 ^ k := by
  have hpos := Nat.two_pow_pos k
  by_cases h : n < 2 ^ k - 1
  · refine ⟨n, ?_, by omega⟩
    rw [pint_lt h]
    simp only [List.cons_append, List.nil_append, List.getD_cons_zero]
    exact ofNat_toNat (by omega)
  · refine ⟨2 ^ k - 1, ?_, by omega⟩
    rw [pint_ge h]
    simp only [List.cons_append, List.getD_cons_zero]
    exact ofNat_toNat (by omega)
theorem str_back (s : ByteArray) : (⟨(str s).toArray⟩ : ByteArray) = s := by cases s; rfl
/-- P4.2: a text is read back, whatever lies behind it. -/
theorem getText_ptext (s : ByteArray) (hs : s.size ≤ 3000) (b : List UInt8) : getText (ptext s ++ b) = .ok (s, (ptext s).length) := by
  unfold ptext
  by_cases hz' : hz s < s.size
  · rw [if_pos hz']
    have hel : (enc (str s)).length = hz s := enc_length _
    obtain ⟨x, hx, hxl⟩ := pint_first (f := 128) (k := 7) (n := hz s) (by omega) (enc (str s) ++ b)
    unfold getText
    rw [List.append_assoc, getInt_pre (by omega) (by decide) (by omega) (by omega)]
    simp only
    rw [if_neg (by omega), if_neg (by simp only [List.length_append]; omega), if_neg (by rw [hx]; omega), List.drop_left, List.take_left' hel, says_of_enc]
    simp only [List.length_append, str_back, hel]
  · rw [if_neg hz']
    have hel : (str s).length = s.size := str_len s
    obtain ⟨x, hx, hxl⟩ := pint_first (f := 0) (k := 7) (n := s.size) (by omega) (str s ++ b)
    unfold getText
    rw [List.append_assoc, getInt_pre (by omega) (by decide) (by omega) (by omega)]
    simp only
    rw [if_neg (by omega), if_neg (by simp only [List.length_append]; omega), if_pos (by rw [hx]; omega), List.drop_left, List.take_left' hel]
    simp only [List.length_append, str_back, hel]

/-- An error by its number. -/
def errT (es : Nat → Addr) (c : Nat) : Value := .iface 181 (.pointer (some (es (c - 101))))
theorem envT {w : World} {es : Nat → Addr} (S : Hu.Sent w es) : Env w (errT es) :=
  ⟨S.cell 0 _ rfl, S.cell 1 _ rfl, S.cell 6 _ rfl, S.cell 7 _ rfl, S.cell 8 _ rfl, S.cell 9 _ rfl, S.cell 14 _ rfl⟩
theorem errsT (es : Nat → Addr) : Errs (errT es) := fun _ => ⟨_, _, rfl⟩
theorem seenT {w W : World} {v : Value} {c : Int} (h : Hu.Seen w v c) (hB : Below w.heap.size w W) : Hu.Seen W v c := fun W' hW => h W' (hB.trans (hW.mono hB.size))
theorem getText_small (l : List UInt8) : (getText l).small' := by
  have h := getInt_small' 7 l
  unfold getText
  cases hi : getInt 7 l with
  | er c => rw [hi] at h; exact h
  | ok q =>
    simp only
    split
    · simp [Res.small']
    · split
      · simp [Res.small']
      · split
        · simp [Res.small']
        · split <;> simp [Res.small']
/-- Text, of hpack and of the document, seen alike. -/
theorem text_pair {w0 : World} {es : Nat → Addr} (S : Hu.Sent w0 es) (l : List UInt8) (hl : l.length ≤ 1000000) : ∃ (x : ByteArray) (m : Int) (ev : Value) (d : Int), Hu.Seen w0 ev d ∧
    (∀ W a n c, Below w0.heap.size w0 W → Sl W a n c l → Calls Tryd.prog 21 #[.slice a n c] W fun e w' => e = .returned (.tuple #[.string x, .int .i64 m, ev]) ∧ Below W.heap.size W w') ∧
    (∀ W a n c, Sl W a n c l → Calls Tryd.prog 22 #[.slice a n c] W fun e w' => e = .returned (.tuple #[.string x, .int .i64 m, .int .i64 d]) ∧ Below W.heap.size W w') := by
  have hr := getText_small l
  cases h : getText l with
  | ok q =>
    obtain ⟨x, m⟩ := q
    refine ⟨x, m, .nilIface, 0, Hu.seen_nil w0, fun W a N c hW hs => ?_, fun W a N c hs => ?_⟩
    · have := text_any (errT es) a N c l W hs (by have := hs.len; omega) (envT (S.kept hW)) (errsT es)
      rw [h] at this
      exact this
    · have := dtext_any a N c l W hs (by have := hs.len; omega)
      rw [h] at this
      exact this
  | er e =>
    rw [h] at hr
    obtain ⟨hr1, hr2⟩ := hr
    have hse := Hu.seen_err S (i := e - 101) (by omega)
    rw [show 101 + (e - 101) = e by omega] at hse
    refine ⟨⟨#[]⟩, 0, errT es e, e, hse, fun W a N c hW hs => ?_, fun W a N c hs => ?_⟩
    · have := text_any (errT es) a N c l W hs (by have := hs.len; omega) (envT (S.kept hW)) (errsT es)
      rw [h] at this
      exact this
    · have := dtext_any a N c l W hs (by have := hs.len; omega)
      rw [h] at this
      exact this

set_option maxRecDepth 100000 in
set_option maxHeartbeats 4000000 in
theorem texts_any (es : Nat → Addr) (a : Option Addr) (n c : Nat) (l : List UInt8) (s : ByteArray) (w : World) (S : Hu.Sent w es) (hs : Sl w a n c l) :
    Calls Tryd.prog 4 #[.slice a n c, .string s] w fun e w' => e = .returned (.bool true) ∧ Below w.heap.size w w' := by
  have hn9 := hs.nine
  have HS := Lib.hid hs
  have HLN := Lib.hid hs.len
  have HE := Lib.hid S
  have HF := Lib.hid (first_any (errT es) w (envT S) (errsT es))
  clear hs S
  by_cases hn : n ≤ 300
  · by_cases hz : s.size ≤ 3000
    · have hpl := ptext_len (s := s) (by omega)
      have hG := Lib.hid (getText_ptext s hz l)
      have HPA := Lib.hid (fun W => putText_any none 0 0 [] s W ⟨rfl, Nat.le_refl _, by unfold maxLen; omega, fun _ => rfl, fun i hi => by simp at hi⟩ (by omega) (by omega))
      have HPD := Lib.hid (fun W => dputText_any s W (by omega))
      obtain ⟨x, m, ev, d, hsn, hd1, hd2⟩ := text_pair HE.out l (by have := HLN.out; omega)
      have HSN := Lib.hid hsn
      have H1 := Lib.hid hd1
      have H2 := Lib.hid hd2
      have HTX := Lib.hid (fun a n c W (h1 : Sl W a n c (ptext s ++ l)) (h2 : n ≤ 1000000) (h3 : Below w.heap.size w W) => text_any (errT es) a n c (ptext s ++ l) W h1 h2 (envT (HE.out.kept h3)) (errsT es))
      rw [hG.out] at HTX
      rw [List.nil_append] at HPA
      clear hsn hd1 hd2 hG
      generalize ptext s = P at HPA HPD HTX hpl
      go_enter Tryd.func4, Tryd.ntmps4
      go_wp2_with fail
      refine HF.out.mono ?_
      rintro e w1 ⟨rfl, hb1⟩
      go_wp2_with fail
      refine (HPA.out _).mono ?_
      rintro e w2 ⟨a2, N2, c2, rfl, hN2, ho2, hb2⟩
      have hz1 := hb1.size
      have hB2 : Below w.heap.size w w2 := hb1.trans (hb2.mono hz1)
      have hz2 := hB2.size
      have HO2 := Lib.hid (ho2.mono hz1)
      have hN := hN2.out
      subst hN
      clear hb2 ho2 HPA hN2
      go_wp2_with fail
      refine (HPD.out _).mono ?_
      rintro e w3 ⟨a3, N3, c3, rfl, hN3, ho3, hb3⟩
      have hB3 : Below w.heap.size w w3 := hB2.trans (hb3.mono hz2)
      have HO3 := Lib.hid (HO2.out.kept hb3)
      have hsm := Hu.same_any _ _ _ _ _ _ _ _ w3 (sl_own HO3.out) (sl_own ho3)
      rw [show (P == P) = true by simp] at hsm
      have HM := Lib.hid hsm
      clear hsm ho3 hb3 HPD hN3 HO2
      go_wp2_with fail
      refine HM.out.mono ?_
      rintro e w' ⟨rfl, rfl⟩
      have hz3 := hB3.size
      clear HM
      go_wp2_with fail
      refine (H1.out w3 a n c hB3 (HS.out.kept hB3)).mono ?_
      rintro e w4 ⟨rfl, hb4⟩
      have hB4 : Below w.heap.size w w4 := hB3.trans (hb4.mono hz3)
      go_wp2_with fail
      refine (H2.out w4 a n c (HS.out.kept hB4)).mono ?_
      rintro e w5 ⟨rfl, hb5⟩
      have hz4 := hB4.size
      have hB5 : Below w.heap.size w w5 := hB4.trans (hb5.mono hz4)
      have hb35 : Below w3.heap.size w3 w5 := hb4.trans (hb5.mono hb4.size)
      have ho5 := HO3.out.kept hb35
      have hz5 := hB5.size
      clear hb4 hb5 hb35 H1 H2 HO3
      go_wp2_with (at_builtin; (refine wp_append_bytes rfl _ _ rfl _ P l rfl w.heap.size ho5 a n c rfl (HS.out.kept hB5) (by omega) (by omega) ?_); intro w6 a6 N6 c6 hN6 ho6 hb6; clear ho5)
      have hB6 : Below w.heap.size w w6 := hB5.trans (hb6.mono (Nat.le_refl _))
      have hN := hN6.out
      rw [List.length_append, HLN.out] at hN
      have HT := Lib.hid (HTX.out a6 N6 c6 w6 (sl_own ho6) (by omega) hB6)
      have hz6 := hB6.size
      clear HTX ho6 hb6 hN6 hN
      go_wp2_with fail
      refine HT.out.mono ?_
      rintro e w7 ⟨rfl, hb7⟩
      have hB7 : Below w.heap.size w w7 := hB6.trans (hb7.mono hz6)
      have hi := Hu.is_seen ev d d w7 (seenT HSN.out hB7)
      rw [show (d == d) = true by simp] at hi
      have HI := Lib.hid hi
      simp only [textV]
      clear hi hb7 HT
      go_wp2_with fail
      refine HI.out.mono ?_
      rintro e w8 ⟨rfl, hb8⟩
      go_wp2_with fail
      go_ret
      exact ⟨rfl, hB7.trans (hb8.mono hB7.size)⟩
    · go_enter Tryd.func4, Tryd.ntmps4
      go_wp2_with fail
      refine HF.out.mono ?_
      rintro e w1 ⟨rfl, hb1⟩
      go_wp2_with fail
      go_ret
      exact ⟨rfl, hb1⟩
  · go_enter Tryd.func4, Tryd.ntmps4
    go_wp2_with fail
    refine HF.out.mono ?_
    rintro e w1 ⟨rfl, hb1⟩
    go_wp2_with fail
    go_ret
    exact ⟨rfl, hb1⟩
end Go.Proofs.YtlkieeindnpidaaDoor
