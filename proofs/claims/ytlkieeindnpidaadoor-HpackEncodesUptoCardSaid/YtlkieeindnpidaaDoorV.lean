/-
  CONTRACTS: the document's PutInt and Int; Bytes.
-/
import Derived.Test.YtlkieeindnpidaaDoorT
namespace Go.Proofs.YtlkieeindnpidaaDoor
open Go.RowKit Tt Hu Hu.Hf

theorem own_nil (w : World) (B : Nat) : Hu.Own w B (.slice none 0 0) [] := ⟨by simp [Hu.cellsOf], .inl ⟨rfl, rfl⟩⟩
theorem own_one (w : World) (B : Nat) (hB : B ≤ w.heap.size) (y : Int) (x : UInt8) (h : y = (x.toNat : Int)) : Hu.Own (w.alloc (.cells #[.int .u8 y] 5)) B (.slice (some ⟨w.heap.size, 0, none⟩) 1 1) [x] :=
  ⟨by simp [Hu.cellsOf], .inr ⟨w.heap.size, 1, #[.int .u8 y], rfl, hB, heap_alloc_new w _, Nat.le_refl _, by unfold maxLen; omega, rfl, by simp [Hu.cellsOf, h]⟩⟩
theorem pre_sum {f k : Nat} (hk : k ≤ 8) (hf : f ≤ 255) (h : f % 2 ^ k = 0) : f + 2 ^ k ≤ 256 := by
  have hd := Nat.dvd_of_mod_eq_zero h
  obtain ⟨q, rfl⟩ := hd
  have h2 : 2 ^ k ∣ 256 := Nat.pow_dvd_pow 2 hk
  obtain ⟨r, hr⟩ := h2
  rw [hr]
  have hpos := Nat.two_pow_pos k
  have : q < r := by
    by_cases hq : q < r
    · exact hq
    · have := Nat.mul_le_mul_left (2 ^ k) (Nat.le_of_not_lt hq)
      omega
  have := Nat.mul_le_mul_left (2 ^ k) (show q + 1 ≤ r from this)
  rw [Nat.mul_add, Nat.mul_one] at this
  exact this
theorem wrap_pow {k : Nat} (hk : k ≤ 8) : wrap64 ((2 : Int) ^ k) = ((2 ^ k : Nat) : Int) := by
  have : k = 0 ∨ k = 1 ∨ k = 2 ∨ k = 3 ∨ k = 4 ∨ k = 5 ∨ k = 6 ∨ k = 7 ∨ k = 8 := by omega
  rcases this with rfl | rfl | rfl | rfl | rfl | rfl | rfl | rfl | rfl <;> simp [wrap64]

set_option maxRecDepth 100000 in
set_option maxHeartbeats 400000 in
theorem bytes_any (a : Option Addr) (n c : Nat) (l : List UInt8) (w : World) (hs : Sl w a n c l) (hk : n ≤ 140737488355328) :
    Calls Tryd.prog 14 #[.slice a n c] w (OwnOut w.heap.size l w) := by
  have hl := hs.len
  subst hl
  go_enter Tryd.func14, Tryd.ntmps14
  go_wp2_with (first | (at_make; refine wp_make_bytes rfl _ _ rfl _ rfl rfl (by omega) (by omega) w.heap.size (Nat.le_refl _) ?_; intro w1 ad1 hown1 hb1; have hs1 := hs.kept hb1; have hz1 := hb1.size) | (at_builtin; refine wp_append_bytes rfl _ _ rfl _ [] l rfl w.heap.size hown1 a l.length c rfl hs1 (by simp; omega) hz1 ?_; intro w2 ad2 N2 c2 hN2 hown2 hb2))
  go_ret
  exact ⟨_, _, _, rfl, hN2, hown2, hb1.trans hb2⟩

set_option maxRecDepth 100000 in
set_option maxHeartbeats 2000000 in
theorem dput_any (first bts x : Int) (w : World) (hb : -9223372036854775808 ≤ bts ∧ bts ≤ 9223372036854775807) :
    Calls Tryd.prog 15 #[.int .i64 first, .int .i64 bts, .int .i64 x] w (OwnOut w.heap.size (putInt first bts x) w) := by
  by_cases hc : canPut first bts x
  · have HP : Hid (putInt first bts x = pint first.toNat bts.toNat x.toNat) := Lib.hid (by unfold putInt; rw [if_pos hc])
    obtain ⟨h1, h2, h3, h4, h5, h6, h7⟩ := hc
    obtain ⟨f, rfl⟩ : ∃ f : Nat, first = f := ⟨first.toNat, by omega⟩
    obtain ⟨k, rfl⟩ : ∃ k : Nat, bts = k := ⟨bts.toNat, by omega⟩
    obtain ⟨y, rfl⟩ : ∃ y : Nat, x = y := ⟨x.toNat, by omega⟩
    simp only [Int.toNat_natCast] at HP h7
    have hp256 := pow_bits (bits := k) (by omega)
    have hpos := Nat.two_pow_pos k
    have h7' : f % 2 ^ k = 0 := by exact_mod_cast h7
    have hsum := pre_sum (by omega) (by omega) h7'
    have hwp := wrap_pow (k := k) (by omega)
    have hmod : ((f : Int) % ((2 ^ k : Nat) : Int) != 0) = false := by
      have : (f : Int) % ((2 ^ k : Nat) : Int) = 0 := by exact_mod_cast h7
      rw [this]; rfl
    clear h7 h7'
    by_cases hlt : y < 2 ^ k - 1
    · have HP2 : Hid (pint f k y = [UInt8.ofNat (f + y)]) := Lib.hid (pint_lt hlt)
      generalize 2 ^ k = P at *
      have HB : (((f + y : Nat)) : Int) = ((UInt8.ofNat (f + y)).toNat : Int) := by rw [ofNat_toNat (by omega)]
      have HC : ((f : Int) + (y : Int)) = ((UInt8.ofNat (f + y)).toNat : Int) := by rw [← HB]; omega
      generalize hg : UInt8.ofNat (f + y) = g at *
      go_enter Tryd.func15, Tryd.ntmps15
      go_wp2_with fail
      go_ret
      exact ⟨_, _, _, rfl, Lib.hid (by rw [HP.out, HP2.out]; rfl), by rw [HP.out, HP2.out]; exact own_one w w.heap.size (Nat.le_refl _) _ _ rfl, (Below.refl _ w).alloc (Nat.le_refl _) _⟩
    · have HP2 : Hid (pint f k y = UInt8.ofNat (f + (2 ^ k - 1)) :: tail7 (y - (2 ^ k - 1))) := Lib.hid (pint_ge hlt)
      have hlt' : 2 ^ k - 1 ≤ y := by omega
      obtain ⟨T, hT⟩ : ∃ T, 2 ^ k = T + 1 := ⟨2 ^ k - 1, by omega⟩
      rw [hT] at HP2 hp256 hpos hsum hwp hmod hlt'
      clear hlt
      push_cast at hmod hwp
      obtain ⟨m, rfl⟩ : ∃ m, y = T + m := ⟨y - T, by omega⟩
      rw [show T + m - (T + 1 - 1) = m by omega, show T + 1 - 1 = T by omega] at HP2
      have HC : ((f : Int) + (T : Int)) = ((UInt8.ofNat (f + T)).toNat : Int) := by rw [ofNat_toNat (by omega)]; simp
      generalize hg : UInt8.ofNat (f + T) = g at *
      have HCC := Lib.hid HC
      clear hg HC
      go_enter Tryd.func15, Tryd.ntmps15
      go_wp2_with fail
      have hown1 := own_one w w.heap.size (Nat.le_refl _) _ _ HCC.out
      have hb1 : Below w.heap.size w (w.alloc (.cells #[.int .u8 ((f : Int) + (T : Int))] 5)) := (Below.refl _ w).alloc (Nat.le_refl _) _
      clear hwp
      go_loopw [2, 8] (fun i v wr => ∃ (x : Nat) (pre : List UInt8) (ad : Option Addr) (K c' : Nat), i = .int .i64 (x : Int) ∧ x ≤ 2147483647 ∧ v = .slice ad K c' ∧ Hid (g :: tail7 m = pre ++ tail7 x) ∧ Hu.Own wr w.heap.size (.slice ad K c') pre ∧ Below w.heap.size w wr)
        (fun i _ _ => (intOf i).toNat)
      case atStart => exact ⟨m, [g], _, _, _, by go_num, by omega, rfl, Lib.hid rfl, hown1, hb1⟩
      case round =>
        obtain ⟨x, pre, ad, M, c', rfl, hx, rfl, hv, ho, hb'⟩ := hrel
        have hpl : pre.length ≤ 6 := by
          have h7 := congrArg List.length hv.out
          have h8 := tail7_len 4 m (by omega)
          simp only [List.length_cons, List.length_append] at h7
          omega
        have hz := hb'.size
        clear hown1 hb1
        by_cases h : x < 128
        · have hb1 : (x : Int) = ((UInt8.ofNat x).toNat : Int) := by rw [ofNat_toNat (by omega)]
          have HB := Lib.hid hb1; clear hb1
          go_wp2_with (at_builtin; (refine wp_append_bytes_x rfl _ _ rfl _ pre [UInt8.ofNat x] rfl w.heap.size (ho.alloc _) (some ⟨wr.heap.size, 0, none⟩) 1 1 rfl (sl_new1 _ _ _ HB.out) (by simp; omega) (by simp; omega) ?_); intro w3 ad3 N3 c3 hN3 hown3 hb3 hap3)
          go_ret
          have e : pre ++ [UInt8.ofNat x] = putInt (f : Int) (k : Int) ((T + m : Nat) : Int) := by rw [HP.out, HP2.out, hv.out, tail7_lt h]
          rw [e] at hN3 hown3
          exact ⟨_, _, _, rfl, hN3, hown3, (hb'.alloc (by omega) _).trans hb3⟩
        · have HB := Lib.hid (show ((x : Int) % 128 + 128) = ((UInt8.ofNat (x % 128 + 128)).toNat : Int) by rw [ofNat_toNat (by omega)]; omega)
          go_wp2_with (at_builtin; (refine wp_append_bytes_x rfl _ _ rfl _ pre [UInt8.ofNat (x % 128 + 128)] rfl w.heap.size (ho.alloc _) (some ⟨wr.heap.size, 0, none⟩) 1 1 rfl (sl_new1 _ _ _ HB.out) (by simp; omega) (by simp; omega) ?_); intro w3 ad3 N3 c3 hN3 hown3 hb3 hap3)
          go_roundw
          case rel =>
            have e2 : g :: tail7 m = (pre ++ [UInt8.ofNat (x % 128 + 128)]) ++ tail7 (x / 128) := by rw [hv.out, tail7_ge h]; simp
            exact ⟨x / 128, pre ++ [UInt8.ofNat (x % 128 + 128)], _, _, _, by go_num, by omega, rfl, Lib.hid e2, hown3, (hb'.alloc (by omega) _).trans hb3⟩
          case measure => simp [intOf]; omega
  · have HP : Hid (putInt first bts x = []) := Lib.hid (by unfold putInt; rw [if_neg hc])
    have fin : OwnOut w.heap.size (putInt first bts x) w (.returned (.slice none 0 0)) w := ⟨_, _, _, rfl, Lib.hid (by rw [HP.out]; rfl), by rw [HP.out]; exact own_nil w _, Below.refl _ _⟩
    by_cases hk : 1 ≤ bts ∧ bts ≤ 8
    · obtain ⟨k, rfl⟩ : ∃ k : Nat, bts = k := ⟨bts.toNat, by omega⟩
      by_cases h45 : 0 ≤ x ∧ x ≤ 2147483647 ∧ 0 ≤ first ∧ first ≤ 255
      · obtain ⟨f, rfl⟩ : ∃ f : Nat, first = f := ⟨first.toNat, by omega⟩
        have hne : f % 2 ^ k ≠ 0 := fun h => hc ⟨by omega, by omega, by omega, by omega, by omega, by omega, by rw [Int.toNat_natCast]; exact_mod_cast h⟩
        obtain ⟨h4, h5, h6, h7⟩ := h45
        have hwp := wrap_pow (k := k) (by omega)
        have hpos := Nat.two_pow_pos k
        have hmod : ((f : Int) % ((2 ^ k : Nat) : Int) != 0) = true := by
          have : (f : Int) % ((2 ^ k : Nat) : Int) ≠ 0 := by exact_mod_cast hne
          simpa using this
        clear hc hne
        generalize 2 ^ k = P at *
        go_enter Tryd.func15, Tryd.ntmps15
        go_wp2_with fail
        go_ret
        exact fin
      · clear hc
        have h45' : x < 0 ∨ (0 ≤ x ∧ 2147483647 < x) ∨ (0 ≤ x ∧ x ≤ 2147483647 ∧ first < 0) ∨ (0 ≤ x ∧ x ≤ 2147483647 ∧ 0 ≤ first ∧ 255 < first) := by omega
        clear h45
        rcases h45' with h | ⟨h, h'⟩ | ⟨h, h', h2⟩ | ⟨h, h', h2, h3⟩
        all_goals
          go_enter Tryd.func15, Tryd.ntmps15
          go_wp2_with fail
          go_ret
          exact fin
    · clear hc
      have hk' : bts < 1 ∨ (1 ≤ bts ∧ 8 < bts) := by omega
      clear hk
      rcases hk' with h | ⟨h, h'⟩
      all_goals
        go_enter Tryd.func15, Tryd.ntmps15
        go_wp2_with fail
        go_ret
        exact fin
end Go.Proofs.YtlkieeindnpidaaDoor
