/-
  CONTRACTS: numbers, their greatest byte first.
-/
import Derived.Test.YtefdkbdblocikaaDoorK
namespace Go.Proofs.YtefdkbdblocikaaDoor
open Go.RowKit Hu

/-- Byte i of a number, the lowest is byte 0. -/
def byteI (n : Int) (i : Nat) : UInt8 := UInt8.ofNat ((n / 2 ^ (8 * i)) % 256).toNat
/-- The k lowest bytes of a number, the greatest first. -/
def bigB (n : Int) : Nat → List UInt8
  | 0 => []
  | k + 1 => byteI n k :: bigB n k
theorem bigB_len (n : Int) : ∀ k, (bigB n k).length = k
  | 0 => rfl
  | k + 1 => by simp [bigB, bigB_len n k]
theorem bigB_get (n : Int) : ∀ (k i : Nat) (h : i < k), (bigB n k)[i]'(by rw [bigB_len]; exact h) = byteI n (k - 1 - i)
  | 0, i, h => by omega
  | k + 1, 0, _ => rfl
  | k + 1, i + 1, h => by
    have := bigB_get n k i (by omega)
    simp only [bigB, List.getElem_cons_succ, this]
    congr 1
    omega
theorem bigB_take (n : Int) (k j : Nat) (h1 : j < k) : (bigB n k).take (k - j) = (bigB n k).take (k - (j + 1)) ++ [byteI n j] := by
  have hl : k - (j + 1) < (bigB n k).length := by rw [bigB_len]; omega
  rw [show k - j = k - (j + 1) + 1 by omega, List.take_add_one, List.getElem?_eq_getElem hl, bigB_get n k _ (by omega)]
  simp only [Option.toList_some]
  congr 3
  omega
theorem byteI_int (n : Int) (i : Nat) : n / 2 ^ (8 * i) % 256 = ((byteI n i).toNat : Int) := by
  unfold byteI
  rw [ofNat_toNat (by omega)]
  omega
set_option maxRecDepth 100000 in
set_option maxHeartbeats 2000000 in
theorem addNumber_any (B : Nat) (a : Option Addr) (N c : Nat) (l : List UInt8) (n : Int) (k : Nat) (hk : k ≤ 8) (w : World) (ho : Hu.Own w B (.slice a N c) l) (hB : B ≤ w.heap.size) (hl : l.length ≤ 1000000000) :
    Calls Tryd.prog 32 #[.slice a N c, .int .i64 n, .int .i64 (k : Int)] w (OwnOut B (l ++ bigB n k) w) := by
  go_enter Tryd.func32, Tryd.ntmps32
  go_wp2_with fail
  go_loopw [0, 7] (fun v i wr => ∃ (j : Nat) (ad : Option Addr) (N' c' : Nat), i = .int .i64 ((j : Int) - 1) ∧ j ≤ k ∧ v = .slice ad N' c' ∧ Hu.Own wr B (.slice ad N' c') (l ++ (bigB n k).take (k - j)) ∧ Below B w wr)
    (fun _ i _ => (intOf i + 1).toNat)
  case atStart => exact ⟨k, a, N, c, rfl, by omega, rfl, by simpa using ho, Below.refl _ _⟩
  case round =>
    obtain ⟨j, ad, N', c', rfl, hj, rfl, ho, hb⟩ := hrel
    have hz := hb.size
    by_cases h : 0 < j
    · obtain ⟨i, rfl⟩ : ∃ i, j = i + 1 := ⟨j - 1, by omega⟩
      have HBI := Lib.hid (byteI_int n i)
      have HTK := Lib.hid (bigB_take n k i (by omega))
      have hlt : ((bigB n k).take (k - (i + 1))).length ≤ 8 := by simp; omega
      generalize (bigB n k).take (k - (i + 1)) = P at ho HTK hlt
      go_wp2_with (at_builtin; refine wp_append_bytes rfl _ _ rfl _ (l ++ P) [byteI n i] rfl B (ho.alloc _) (some ⟨wr.heap.size, 0, none⟩) 1 1 rfl (sl_new1 _ _ _ HBI.out) (by rw [List.length_append]; omega) (by simp; omega) ?_; intro w2 ad2 N2 c2 hN2 hown2 hb2)
      refine ⟨⟨i, ad2, N2, c2, by go_num, by omega, rfl, ?_, (hb.alloc (by omega) _).trans hb2⟩, by simp [intOf]⟩
      rw [HTK.out, ← List.append_assoc]
      exact hown2
    · obtain rfl : j = 0 := by omega
      rw [Nat.sub_zero, List.take_of_length_le (by rw [bigB_len]; exact Nat.le_refl _)] at ho
      go_wp2
      go_ret
      exact ⟨_, _, _, rfl, Lib.hid ho.len, ho, hb⟩
set_option maxRecDepth 100000 in
set_option maxHeartbeats 2000000 in
/-- The document's bytes of a number. -/
theorem dbig_any (n : Int) (k : Nat) (hk : k ≤ 8) (w : World) : Calls Tryd.prog 33 #[.int .i64 n, .int .i64 (k : Int)] w (OwnOut w.heap.size (bigB n k) w) := by
  go_enter Tryd.func33, Tryd.ntmps33
  go_wp2_with fail
  go_loopw [5, 6] (fun v i wr => ∃ (j : Nat) (ad : Option Addr) (N' c' : Nat), i = .int .i64 ((j : Int) - 1) ∧ j ≤ k ∧ v = .slice ad N' c' ∧ Hu.Own wr w.heap.size (.slice ad N' c') ((bigB n k).take (k - j)) ∧ Below w.heap.size w wr)
    (fun _ i _ => (intOf i + 1).toNat)
  case atStart => exact ⟨k, none, 0, 0, rfl, by omega, rfl, by simpa using Hu.Own.nil _ _, Below.refl _ _⟩
  case round =>
    obtain ⟨j, ad, N', c', rfl, hj, rfl, ho, hb⟩ := hrel
    have hz := hb.size
    by_cases h : 0 < j
    · obtain ⟨i, rfl⟩ : ∃ i, j = i + 1 := ⟨j - 1, by omega⟩
      have HBI := Lib.hid (byteI_int n i)
      have HTK := Lib.hid (bigB_take n k i (by omega))
      have hlt : ((bigB n k).take (k - (i + 1))).length ≤ 8 := by simp; omega
      generalize (bigB n k).take (k - (i + 1)) = P at ho HTK hlt
      go_wp2_with (at_builtin; refine wp_append_bytes rfl _ _ rfl _ P [byteI n i] rfl w.heap.size (ho.alloc _) (some ⟨wr.heap.size, 0, none⟩) 1 1 rfl (sl_new1 _ _ _ HBI.out) (by omega) (by simp; omega) ?_; intro w2 ad2 N2 c2 hN2 hown2 hb2)
      refine ⟨⟨i, ad2, N2, c2, by go_num, by omega, rfl, ?_, (hb.alloc (by omega) _).trans hb2⟩, by simp [intOf]⟩
      rw [HTK.out]
      exact hown2
    · obtain rfl : j = 0 := by omega
      rw [Nat.sub_zero, List.take_of_length_le (by rw [bigB_len]; exact Nat.le_refl _)] at ho
      go_wp2
      go_ret
      exact ⟨_, _, _, rfl, Lib.hid ho.len, ho, hb⟩

/-- The number that bytes are, the greatest first. -/
def numB (l : List UInt8) : Nat := l.foldl (fun n c => n * 256 + c.toNat) 0
theorem numB_snoc (l : List UInt8) (c : UInt8) : numB (l ++ [c]) = numB l * 256 + c.toNat := by simp [numB]
theorem numB_lt : ∀ (k : Nat) (l : List UInt8), l.length = k → numB l < 256 ^ k
  | 0, l, h => by
    obtain rfl := List.length_eq_zero_iff.1 h
    decide
  | k + 1, l, h => by
    have hne : l ≠ [] := by intro e; subst e; simp at h
    obtain ⟨m, c, rfl⟩ : ∃ m c, l = m ++ [c] := ⟨l.dropLast, l.getLast hne, (List.dropLast_concat_getLast hne).symm⟩
    have hm : m.length = k := by simp at h; exact h
    have := numB_lt k m hm
    have hc := c.toNat_lt
    rw [numB_snoc, Nat.pow_succ]
    omega
theorem numB_take (l : List UInt8) {i : Nat} (h : i < l.length) : numB (l.take (i + 1)) = numB (l.take i) * 256 + (l[i]).toNat := by
  rw [List.take_add_one, List.getElem?_eq_getElem h]
  exact numB_snoc _ _
theorem or_low (q c : Nat) (hc : c < 256) (hq : q < 281474976710656) : bits .or .i64 ((q : Int) * 256) (c : Int) = ((q * 256 + c : Nat) : Int) := by
  have hm : ((q : Int) * 256) % 2 ^ 8 = 0 := by omega
  rw [bits_join .i64 62 (by decide) (fun n h0 h1 => by rw [IntKind.wrap_i64]; omega) 8 ((q : Int) * 256) (c : Int) (by omega) hm (by omega) (by omega) (by omega) (by omega)]
  omega
set_option maxRecDepth 100000 in
set_option maxHeartbeats 2000000 in
theorem number_any (a : Option Addr) (n c : Nat) (l : List UInt8) (w : World) (hs : Sl w a n c l) (hn : n ≤ 7) : Calls Tryd.prog 35 #[.slice a n c] w fun e w' => e = .returned (.int .i64 (numB l : Int)) ∧ w = w' := by
  have HS := Lib.hid hs
  have HL := Lib.hid hs.len
  clear hs
  go_enter Tryd.func35, Tryd.ntmps35
  go_wp2_with fail
  go_loopw [3, 8] (fun s3 s8 wr => ∃ i : Nat, s8 = .int .i64 (i : Int) ∧ i ≤ n ∧ s3 = .int .i64 ((numB (l.take i) : Nat) : Int) ∧ wr = w) (fun _ s8 _ => n - (intOf s8).toNat)
  case atStart => exact ⟨0, rfl, by omega, by simp [numB], rfl⟩
  case round =>
    obtain ⟨i, rfl, hi, rfl, rfl⟩ := hrel
    by_cases hlt : i < n
    · have hli : i < l.length := by rw [HL.out]; exact hlt
      obtain ⟨b, o, rfl, hc⟩ := HS.out.row i hli
      have hst := numB_take l hli
      have hlt9 := numB_lt i (l.take i) (by rw [List.length_take]; omega)
      have hia : (0 : Int) ≤ (i : Int) := by omega
      have hib : (i : Int) < (n : Int) := by omega
      have hq : numB (l.take i) < 281474976710656 := Nat.lt_of_lt_of_le hlt9 (Nat.pow_le_pow_right (show 0 < 256 by omega) (show i ≤ 6 by omega))
      have HX := Lib.hid hst
      have hx := (l[i]).toNat_lt
      generalize l[i] = x at hc hx hst HX
      generalize numB (l.take i) = q at hq hst HX
      have hor := or_low q x.toNat hx hq
      clear hst hlt9
      go_wp2_with fail
      exact ⟨⟨i + 1, by go_num, by omega, by rw [HX.out]; go_num, trivial⟩, by simp [intOf]; omega⟩
    · obtain rfl : i = n := by omega
      rw [List.take_of_length_le (by rw [HL.out]; exact Nat.le_refl _)]
      go_wp2_with fail
      go_ret
      exact ⟨rfl, rfl⟩
set_option maxRecDepth 100000 in
set_option maxHeartbeats 2000000 in
theorem dnumber_any (a : Option Addr) (n c : Nat) (l : List UInt8) (w : World) (hs : Sl w a n c l) (hn : n ≤ 7) : Calls Tryd.prog 38 #[.slice a n c] w fun e w' => e = .returned (.int .i64 (numB l : Int)) ∧ w = w' := by
  have HS := Lib.hid hs
  have HL := Lib.hid hs.len
  clear hs
  go_enter Tryd.func38, Tryd.ntmps38
  go_wp2_with fail
  go_loopw [3, 4] (fun s3 s4 wr => ∃ i : Nat, s4 = .int .i64 (i : Int) ∧ i ≤ n ∧ s3 = .int .i64 ((numB (l.take i) : Nat) : Int) ∧ wr = w) (fun _ s4 _ => n - (intOf s4).toNat)
  case atStart => exact ⟨0, rfl, by omega, by simp [numB], rfl⟩
  case round =>
    obtain ⟨i, rfl, hi, rfl, rfl⟩ := hrel
    by_cases hlt : i < n
    · have hli : i < l.length := by rw [HL.out]; exact hlt
      obtain ⟨b, o, rfl, hc⟩ := HS.out.row i hli
      have hst := numB_take l hli
      have hlt9 := numB_lt i (l.take i) (by rw [List.length_take]; omega)
      have hia : (0 : Int) ≤ (i : Int) := by omega
      have hib : (i : Int) < (n : Int) := by omega
      have hq : numB (l.take i) < 281474976710656 := Nat.lt_of_lt_of_le hlt9 (Nat.pow_le_pow_right (show 0 < 256 by omega) (show i ≤ 6 by omega))
      have HX := Lib.hid hst
      have hx := (l[i]).toNat_lt
      generalize l[i] = x at hc hx hst HX
      generalize numB (l.take i) = q at hq hst HX
      clear hst hlt9
      go_wp2_with fail
      exact ⟨⟨i + 1, by go_num, by omega, by rw [HX.out]; go_num, trivial⟩, by simp [intOf]; omega⟩
    · obtain rfl : i = n := by omega
      rw [List.take_of_length_le (by rw [HL.out]; exact Nat.le_refl _)]
      go_wp2_with fail
      go_ret
      exact ⟨rfl, rfl⟩
theorem mask31 (q : Nat) (h : q < 4611686018427387904) : bits .and .i64 (q : Int) 2147483647 = ((q % 2147483648 : Nat) : Int) := by
  have h := bits_mask .i64 62 (by decide) (fun n h0 h1 => by rw [IntKind.wrap_i64]; omega) 31 (by decide) (q : Int) (by omega) (by omega)
  rw [show (2 : Int) ^ 31 - 1 = 2147483647 by decide, show (2 : Int) ^ 31 = 2147483648 by decide] at h
  rw [h]
  omega
theorem stream_any (a : Option Addr) (n c : Nat) (l : List UInt8) (w : World) (hs : Sl w a n c l) (hn : n ≤ 7) : Calls Tryd.prog 36 #[.slice a n c] w fun e w' => e = .returned (.int .i64 ((numB l % 2147483648 : Nat) : Int)) ∧ w = w' := by
  have hlt := numB_lt n l hs.len
  have h7 : 256 ^ n ≤ 256 ^ 7 := Nat.pow_le_pow_right (by omega) hn
  have hm := mask31 (numB l) (by omega)
  have HN := Lib.hid (number_any a n c l w hs hn)
  clear hlt h7 hs
  go_enter Tryd.func36, Tryd.ntmps36
  go_wp2_with fail
  refine HN.out.mono ?_
  rintro e w' ⟨rfl, rfl⟩
  go_wp2_with fail
  go_ret
  exact ⟨rfl, rfl⟩
end Go.Proofs.YtefdkbdblocikaaDoor
