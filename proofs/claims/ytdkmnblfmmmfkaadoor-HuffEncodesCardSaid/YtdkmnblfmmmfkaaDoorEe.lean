/-
  CONTRACTS: the document's Encode.
-/
import Derived.Test.YtdkmnblfmmmfkaaDoorCd
namespace Go.Proofs.YtdkmnblfmmmfkaaDoor
open Go.RowKit Hf

/-- The outer loop's rounds. -/
def EnrRel (S : ByteArray) (b : Nat) (W2 : World) (s5 s6 s7 s8 : Value) (wr : World) : Prop := ∃ (k x : Nat) (ad : Option Addr) (N c : Nat), s8 = .int .i64 (k : Int) ∧ k ≤ S.size ∧ s5 = .slice ad N c ∧ Own wr (b + 1) (.slice ad N c) (top (totT ((str S).take k)) (totN ((str S).take k)) (totN ((str S).take k) / 8)) ∧
  s6 = .int .u64 (x : Int) ∧ x = totT ((str S).take k) % 2 ^ (totN ((str S).take k) % 8) ∧ s7 = .int .i64 ((totN ((str S).take k) % 8 : Nat) : Int) ∧ Ck wr b code ∧ Below (b + 1) W2 wr
/-- The inner loop's rounds: n bits wait. -/
def EnrIn (b : Nat) (W2 : World) (T1 N1 n1 : Nat) (s5 s6 s7 : Value) (wr : World) : Prop := ∃ (q n x : Nat) (ad : Option Addr) (N c : Nat), s7 = .int .i64 (n : Int) ∧ n ≤ n1 ∧ 8 * q + n = N1 ∧ s5 = .slice ad N c ∧ Own wr (b + 1) (.slice ad N c) (top T1 N1 q) ∧ s6 = .int .u64 (x : Int) ∧ x = T1 % 2 ^ n ∧ Ck wr b code ∧ Below (b + 1) W2 wr
theorem pow37 {n : Nat} (h : n ≤ 37) : 2 ^ n ≤ 137438953472 := by
  have := Nat.pow_le_pow_right (n := 2) (by decide) h
  simpa using this

theorem mod_step {T r z c : Nat} (hc : c < 2 ^ z) : (T % 2 ^ r) * 2 ^ z + c = (T * 2 ^ z + c) % 2 ^ (r + z) := by
  have key : ∀ a : Nat, (2 ^ z * a + c) % 2 ^ (r + z) = 2 ^ z * (a % 2 ^ r) + c := by
    intro a
    rw [show r + z = z + r by omega, Nat.pow_add, Nat.mod_mul, Nat.mul_add_mod, Nat.mod_eq_of_lt hc, Nat.mul_add_div (Nat.two_pow_pos z), Nat.div_eq_of_lt hc, Nat.add_zero, Nat.add_comm]
  rw [Nat.mul_comm T, key, Nat.mul_comm]
theorem mask_and (y m : Nat) (hy : y < 137438953472) (hm : m ≤ 29) : bits .and .u64 (y : Int) (IntKind.u64.wrap (IntKind.u64.wrap (2 ^ m) - 1)) = ((y % 2 ^ m : Nat) : Int) := by
  have hp : 1 ≤ 2 ^ m ∧ 2 ^ m ≤ 536870912 := ⟨Nat.one_le_two_pow, by have := Nat.pow_le_pow_right (n := 2) (by decide) hm; simpa using this⟩
  have hw : IntKind.u64.wrap (IntKind.u64.wrap (2 ^ m) - 1) = ((2 ^ m - 1 : Nat) : Int) := by
    rw [show ((2 : Int) ^ m) = ((2 ^ m : Nat) : Int) by simp, IntKind.wrap_u64, IntKind.wrap_u64]
    omega
  rw [hw, u64_and_nat _ _ (by omega) (by omega), Nat.and_two_pow_sub_one_eq_mod]
theorem pad_or (x r : Nat) (h1 : 1 ≤ r) (h8 : r < 8) (hx : x < 2 ^ r) : bits .or .u8 (IntKind.u64.wrap ((x : Int) * 2 ^ (8 - r)) % 256) (255 / 2 ^ r) = ((x * 2 ^ (8 - r) + (2 ^ (8 - r) - 1) : Nat) : Int) := by
  have key : ∀ f : Nat, f ≤ 7 → x * 2 ^ f < 256 → bits .or .u8 (IntKind.u64.wrap ((x : Int) * 2 ^ f) % 256) (((2 ^ f - 1 : Nat)) : Int) = ((x * 2 ^ f + (2 ^ f - 1) : Nat) : Int) := by
    intro f hf hlt
    have hp := Nat.two_pow_pos f
    have hp2 := Nat.pow_le_pow_right (n := 2) (by decide) hf
    have e7 : (2 : Nat) ^ 7 = 128 := by decide
    have hj := nat_join f (x * 2 ^ f) (2 ^ f - 1) (by simp) (by omega)
    have hw : IntKind.u64.wrap ((x : Int) * 2 ^ f) % 256 = ((x * 2 ^ f : Nat) : Int) := by
      rw [IntKind.wrap_u64, show ((x : Int) * 2 ^ f) = ((x * 2 ^ f : Nat) : Int) by simp]
      generalize x * 2 ^ f = y at hlt
      omega
    rw [hw, u8_or_nat _ _ hlt (by omega), hj]
  have hlt : x * 2 ^ (8 - r) < 256 := by
    have h := Nat.mul_lt_mul_of_pos_right hx (Nat.two_pow_pos (8 - r))
    rw [← Nat.pow_add, show r + (8 - r) = 8 by omega] at h
    simpa using h
  rw [← key (8 - r) (by omega) hlt]
  congr 1
  have hr : r = 1 ∨ r = 2 ∨ r = 3 ∨ r = 4 ∨ r = 5 ∨ r = 6 ∨ r = 7 := by omega
  rcases hr with rfl | rfl | rfl | rfl | rfl | rfl | rfl <;> rfl
theorem or_join {x z c : Nat} (hx : x < 128) (hz : z ≤ 30) (hc : c < 2 ^ z) : bits .or .u64 (IntKind.u64.wrap ((x : Int) * 2 ^ z)) ((c : Nat) : Int) = ((x * 2 ^ z + c : Nat) : Int) := by
  have hp : 2 ^ z ≤ 1073741824 := by have := Nat.pow_le_pow_right (n := 2) (by decide) hz; simpa using this
  have hm : x * 2 ^ z ≤ 128 * 1073741824 := Nat.mul_le_mul (by omega) hp
  have hw : IntKind.u64.wrap ((x : Int) * 2 ^ z) = ((x * 2 ^ z : Nat) : Int) := by
    rw [IntKind.wrap_u64, show ((x : Int) * 2 ^ z) = ((x * 2 ^ z : Nat) : Int) by simp]
    generalize x * 2 ^ z = y at hm
    omega
  have hj := nat_join z (x * 2 ^ z) c (by simp) hc
  rw [hw, u64_or_nat _ _ (by generalize x * 2 ^ z = y at hm; omega) (by omega), hj]

set_option maxRecDepth 100000 in
set_option maxHeartbeats 4000000 in
theorem encoder_any (S : ByteArray) (hS : S.size ≤ 1000000) (w : World) : Calls Tryd.prog 16 #[.string S] w (Built (enc (str S)) w) := by
  have hNS := totN_le (str S)
  rw [str_len] at hNS
  generalize hNT : totN (str S) = NT at hNS
  have HNT := Lib.hid hNT; clear hNT
  go_enter Tryd.func16, Tryd.ntmps16
  go_wp2_with fail
  refine (codesr_any _).mono ?_
  rintro e W2 ⟨rfl, hck, hbl, hlt2⟩
  go_wp2_with fail
  refine (lengths_any _).mono ?_
  rintro e w2 ⟨rfl, rfl⟩
  have HNS := Lib.hid hNS; clear hNS
  have HBL := Lib.hid (And.intro hbl hlt2)
  generalize hbb : w.heap.size = b at hck hlt2
  have HBB := Lib.hid hbb; clear hbb hbl
  go_wp2_with fail
  go_loopw [5, 6, 7, 8] (fun s5 s6 s7 s8 wr => EnrRel S b W2 s5 s6 s7 s8 wr) (fun _ _ _ s8 _ => S.size - (intOf s8).toNat)
  case atStart => exact ⟨0, 0, none, 0, 0, rfl, by omega, rfl, by simpa [totN, top] using Own.nil _ _, rfl, by simp [totN, totT], by simp [totN], hck, Below.refl _ _⟩
  case round =>
    obtain ⟨k, x, ad, N, c, rfl, hk, rfl, hown, rfl, hx, rfl, hbk, hB⟩ := hrel
    have HX := Lib.hid hx; clear hx hck
    by_cases hlt : k < S.size
    · have ht := str_take S hlt
      have hN := totN_snoc ((str S).take k) S[k]
      have hT := totT_snoc ((str S).take k) S[k]
      rw [← ht] at hN hT
      have hle : totN ((str S).take (k + 1)) ≤ 30 * S.size := Nat.le_trans (totN_le _) (Nat.mul_le_mul_left _ (by rw [List.length_take, str_len]; exact Nat.min_le_right _ _))
      have hx256 : S[k].toNat < 256 := S[k].toNat_lt
      have hz1 := sz_lo (b257 S[k])
      have hz := sz_hi (b257 S[k])
      have hcl2 := code_le (b257 S[k])
      have q1 := hbk.c S[k].toNat (b257 _)
      have ha := lets_all S[k].toNat (b257 _)
      have hsl : S[k].toNat < lets.size := by rw [lets_size]; exact b257 _
      have HC := Lib.hid (code_lt (b257 S[k]))
      clear ht
      generalize sz S[k].toNat = z at hN hT hz1 hz ha HC
      generalize code S[k].toNat = cd at hT hcl2 q1 HC
      generalize hN1e : totN ((str S).take (k + 1)) = N1 at hN hle
      generalize hT1e : totT ((str S).take (k + 1)) = T1 at hT
      have HE := Lib.hid (And.intro hN1e hT1e); clear hN1e hT1e
      generalize totN ((str S).take k) = N0 at hown HX hN hT ⊢
      generalize totT ((str S).take k) = T0 at hown HX hT ⊢
      have HT := Lib.hid hT; clear hT
      have HN := Lib.hid hN
      have hi0 : (0 : Int) ≤ ((S[k].toNat : Nat) : Int) := by omega
      have hi1 : ((S[k].toNat : Nat) : Int) < 257 := by omega
      have hn8 : N0 % 8 < 8 := Nat.mod_lt _ (by decide)
      generalize hr : N0 % 8 = r at HX hn8 ⊢
      have HR := Lib.hid hr; clear hr
      have HN8 := Lib.hid hn8
      have hn1 : r + z ≤ 37 := by omega
      have HN1 := Lib.hid hn1
      have HL := Lib.hid hle
      clear hN hle hx256 hz1 hn8 hn1
      go_wp2_with fail
      have hx128 : x < 128 := by
        have h1 := HX.out
        have h2 : T0 % 2 ^ r < 2 ^ r := Nat.mod_lt _ (Nat.two_pow_pos _)
        have h3 := Nat.pow_le_pow_right (n := 2) (by decide) (show r ≤ 7 by have := HN8.out; omega)
        have e7 : (2 : Nat) ^ 7 = 128 := by decide
        omega
      rw [or_join hx128 hz HC.out]
      have hy : x * 2 ^ z + cd = T1 % 2 ^ (r + z) := by rw [HX.out, HT.out]; exact mod_step HC.out
      generalize x * 2 ^ z + cd = y at hy ⊢
      have HY := Lib.hid hy; clear hy
      have hn1 := HN1.out
      have hN1 : 8 * (N0 / 8) + (r + z) = N1 := by have := HN.out; have := HR.out; omega
      have hown3 : Own wr (b + 1) (.slice ad N c) (top T1 N1 (N0 / 8)) := by
        rw [HT.out, HN.out, top_shift _ _ _ _ _ HC.out (by omega)]; exact hown
      clear hown
      generalize hn1e : r + z = n1 at hn1 hN1 HY
      have hs6 : (r : Int) + (z : Int) = (n1 : Int) := by omega
      rw [hs6, IntWalk.wrap64_in (n1 : Int) (by omega)]
      generalize N0 / 8 = q0 at hN1 hown3
      clear hs6 hn1e hx128
      go_wp2
      go_loopw [5, 6, 7] (fun s5 s6 s7 wr => EnrIn b W2 T1 N1 n1 s5 s6 s7 wr) (fun _ _ s7 _ => (intOf s7).toNat)
      case atStart => exact ⟨q0, n1, y, ad, N, c, rfl, Nat.le_refl _, hN1, rfl, hown3, rfl, HY.out, hbk, hB⟩
      case round =>
        obtain ⟨q, n, y, ad, N, c, rfl, hn, hqn, rfl, hown, rfl, hy, hbk, hB⟩ := hrel
        have hyl : y < 137438953472 := by
          have h1 := pow37 (show n ≤ 37 by omega)
          have h2 : T1 % 2 ^ n < 2 ^ n := Nat.mod_lt _ (Nat.two_pow_pos _)
          omega
        have HY2 := Lib.hid hy; clear hy
        by_cases h8 : 8 ≤ n
        · obtain ⟨m, rfl⟩ : ∃ m, n = m + 8 := ⟨n - 8, by omega⟩
          have hlow : y / 2 ^ m % 256 = T1 / 2 ^ m % 256 := low_div (by rw [HY2.out, Nat.mod_mod])
          have HBY : Hid ((((y : Int) / 2 ^ m) % 256) = (((UInt8.ofNat (T1 / 2 ^ m)).toNat : Nat) : Int)) := Lib.hid (by
            rw [ofNat_toNat', ← hlow]
            simp)
          clear hlow
          have hzr := hB.size
          have hN37 : N1 ≤ 30000000 := by have := HL.out; omega
          have hql : q ≤ 30000000 := by omega
          have HTL := Lib.hid (top_length T1 N1 q)
          have hm37 : m ≤ 29 := by omega
          have hbz : b + 1 ≤ wr.heap.size := by omega
          go_wp2_with (at_builtin; (refine wp_append_bytes rfl _ _ rfl _ (top T1 N1 q) [UInt8.ofNat (T1 / 2 ^ m)] rfl (b + 1) (hown.alloc _) (some ⟨wr.heap.size, 0, none⟩) 1 1 rfl (sl_new1 _ _ _ HBY.out) (by rw [HTL.out]; omega) (by simp; omega) ?_); intro w4 ad4 N4 c4 hN4 hown4 hb4)
          rw [mask_and y m hyl hm37]
          refine ⟨⟨q + 1, m, y % 2 ^ m, ad4, N4, c4, rfl, by omega, by omega, rfl, ?_, rfl, ?_, ?_, (hB.alloc hbz _).trans hb4⟩, by simp [intOf]; omega⟩
          · rw [top_succ, show N1 - 8 * (q + 1) = m by omega]; exact hown4
          · rw [HY2.out, Nat.mod_mod_of_dvd _ (Nat.pow_dvd_pow 2 (by omega))]
          · exact hbk.kept (((Below.refl _ _).alloc hbz _).trans hb4)
        · have hq : q = N1 / 8 := by omega
          have hnm : n = N1 % 8 := by omega
          subst hq hnm
          go_wp2
          refine ⟨?_, by simp [intOf]; omega⟩
          unfold EnrRel
          refine ⟨k + 1, y, ad, N, c, by go_num, by omega, rfl, ?_, rfl, ?_, ?_, hbk, hB⟩
          · rw [HE.out.1, HE.out.2]; exact hown
          · rw [HE.out.1, HE.out.2]; exact HY2.out
          · rw [HE.out.1]
    · obtain rfl : k = S.size := by omega
      rw [List.take_of_length_le (Nat.le_of_eq (str_len S))] at hown HX ⊢
      have hNT := HNT.out
      rw [hNT] at hown HX ⊢
      have HU : Hid (enc (str S) = padB (totT (str S)) NT) := Lib.hid (by unfold enc; rw [hNT])
      generalize totT (str S) = T0 at hown HX HU
      clear hNT
      have hzr := hB.size
      have HBw : Hid (Below w.heap.size w wr) := Lib.hid (HBL.out.1.trans (hB.mono (by rw [HBB.out]; omega)))
      by_cases h0 : NT % 8 = 0
      · have HU2 : Hid (enc (str S) = top T0 NT (NT / 8)) := Lib.hid (by rw [HU.out, padB_whole h0])
        have HOW := Lib.hid hown
        rw [h0]
        clear hown HX h0
        go_wp2
        go_ret
        refine ⟨_, _, _, rfl, ?_, ?_, HBw.out⟩
        · rw [HU2.out]; exact Lib.hid HOW.out.len
        · rw [HU2.out]; exact HOW.out.mono (by rw [HBB.out]; omega)
      · have hn8 : NT % 8 < 8 := Nat.mod_lt _ (by decide)
        have HU2 : Hid (enc (str S) = top T0 NT (NT / 8) ++ [UInt8.ofNat (T0 * 2 ^ (8 - NT % 8) + (2 ^ (8 - NT % 8) - 1))]) := Lib.hid (by rw [HU.out, padB_pad (f := 8 - NT % 8) rfl h0 (by omega)])
        generalize NT % 8 = r at h0 hn8 HX HU2 ⊢
        have hql : (top T0 NT (NT / 8)).length + 1 ≤ 140737488355328 := by rw [top_length]; have := HNS.out; omega
        have hbz : b + 1 ≤ wr.heap.size := by omega
        have HP : Hid (bits .or .u8 (IntKind.u64.wrap ((x : Int) * 2 ^ (8 - r)) % 256) (255 / 2 ^ r) = (((UInt8.ofNat (T0 * 2 ^ (8 - r) + (2 ^ (8 - r) - 1))).toNat : Nat) : Int)) := Lib.hid (by
          have hc : 2 ^ (8 - r) - 1 < 2 ^ (8 - r) := by have := Nat.two_pow_pos (8 - r); omega
          have hm := mod_step (T := T0) (r := r) hc
          rw [← HX.out, show r + (8 - r) = 8 by omega] at hm
          rw [ofNat_toNat', show (256 : Nat) = 2 ^ 8 by decide, ← hm]
          exact pad_or x r (by omega) hn8 (by rw [HX.out]; exact Nat.mod_lt _ (Nat.two_pow_pos _)))
        clear hzr hk HX hlt HU
        have hr0 : 0 < r := by omega
        go_wp2_with (at_builtin; (refine wp_append_bytes rfl _ _ rfl _ (top T0 NT (NT / 8)) [UInt8.ofNat (T0 * 2 ^ (8 - r) + (2 ^ (8 - r) - 1))] rfl (b + 1) (hown.alloc _) (some ⟨wr.heap.size, 0, none⟩) 1 1 rfl (sl_new1 _ _ _ HP.out) hql (by simp; omega) ?_); intro w4 ad4 N4 c4 hN4 hown4 hb4)
        go_ret
        have hbw := HBB.out
        refine ⟨_, _, _, rfl, by rw [HU2.out]; exact hN4, by rw [HU2.out]; exact hown4.mono (by omega), ?_⟩
        exact HBw.out.trans (((Below.refl _ _).alloc (by omega) _).trans (hb4.mono (by omega)))
end Go.Proofs.YtdkmnblfmmmfkaaDoor
