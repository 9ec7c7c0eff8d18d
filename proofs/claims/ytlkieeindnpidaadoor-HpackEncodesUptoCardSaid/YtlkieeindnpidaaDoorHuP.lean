/-
  CONTRACTS: Size, Encode.
-/
import Derived.Test.YtlkieeindnpidaaDoorHuKit
import Derived.Test.YtlkieeindnpidaaDoorHuMe
namespace Go.Proofs.YtlkieeindnpidaaDoor.Hu
open Go.RowKit Hf

/-- The bytes of a string. -/
abbrev str (S : ByteArray) : List UInt8 := S.data.toList
theorem str_len (S : ByteArray) : (str S).length = S.size := by rw [Array.length_toList]; rfl
theorem str_take (S : ByteArray) {k : Nat} (h : k < S.size) : (str S).take (k + 1) = (str S).take k ++ [S[k]] := by
  rw [List.take_add_one]
  have h' : k < (str S).length := by rw [str_len]; exact h
  rw [List.getElem?_eq_getElem h']
  rfl

set_option maxRecDepth 100000 in
theorem sizeOf_any (S : ByteArray) (hS : S.size ≤ 1048576) (w : World) : Calls Tryd.prog 67 #[.string S] w fun e w' => e = .returned (.int .i64 (((totN (str S) + 7) / 8 : Nat) : Int)) ∧ w = w' := by
  go_enter Tryd.func67, Tryd.ntmps67
  go_wp2
  go_loopw [3, 7] (fun s3 s7 wr => ∃ k : Nat, s7 = .int .i64 (k : Int) ∧ k ≤ S.size ∧ s3 = .int .u64 ((totN ((str S).take k) : Nat) : Int) ∧ w = wr)
    (fun _ s7 _ => S.size - (intOf s7).toNat)
  case atStart => exact ⟨0, rfl, by omega, rfl, rfl⟩
  case round =>
    obtain ⟨k, rfl, hk, rfl, rfl⟩ := hrel
    by_cases hlt : k < S.size
    · have ht := str_take S hlt
      have hN := totN_snoc ((str S).take k) S[k]
      rw [← ht] at hN
      have hle := totN_le ((str S).take k)
      have hl2 : ((str S).take k).length ≤ S.size := by rw [List.length_take, str_len]; omega
      have hz := sz_hi (b257 S[k])
      have hx := S[k].toNat_lt
      have hw := IntWalk.wrap64_in ((S[k].toNat : Nat) : Int) (by omega)
      go_wp2_with fail
      refine (size_any S[k].toNat (b257 _) _).mono ?_
      rintro e w2 ⟨rfl, rfl⟩
      go_wp2_with fail
      refine ⟨⟨k + 1, by go_num, by omega, ?_, by trivial⟩, by simp [intOf]; omega⟩
      rw [hN]
      simp
    · obtain rfl : k = S.size := by omega
      rw [List.take_of_length_le (by rw [str_len]; omega)]
      have hle := totN_le (str S)
      rw [str_len] at hle
      go_wp2
      go_ret
      exact ⟨ret_int (by omega), rfl⟩
/-- It answers new bytes, and turns nothing that was. -/
def Built (l : List UInt8) (w : World) (e : Ending) (w' : World) : Prop := ∃ a' N c', e = .returned (.slice a' N c') ∧ Hid (N = l.length) ∧ Own w' w.heap.size (.slice a' N c') l ∧ Below w.heap.size w w'

/-- The outer loop's rounds. -/
def EncRel (S : ByteArray) (b : Nat) (W2 : World) (s4 s5 s6 s16 : Value) (wr : World) : Prop := ∃ (k x : Nat) (ad : Option Addr) (N c : Nat), s16 = .int .i64 (k : Int) ∧ k ≤ S.size ∧ s4 = .slice ad N c ∧ Own wr W2.heap.size (.slice ad N c) (top (totT ((str S).take k)) (totN ((str S).take k)) (totN ((str S).take k) / 8))
      ∧ s5 = .int .u64 (x : Int) ∧ x < 18446744073709551616 ∧ x % 2 ^ (totN ((str S).take k) % 8) = totT ((str S).take k) % 2 ^ (totN ((str S).take k) % 8) ∧ s6 = .int .i64 ((totN ((str S).take k) % 8 : Nat) : Int) ∧ Bk wr b code ord fst num ahd ∧ Below W2.heap.size W2 wr

/-- The inner loop's rounds: n bits wait. -/
def EncIn (b : Nat) (W2 : World) (T1 N1 n1 : Nat) (s4 s6 : Value) (wr : World) : Prop := ∃ (q n : Nat) (ad : Option Addr) (N c : Nat), s6 = .int .i64 (n : Int) ∧ n ≤ n1 ∧ 8 * q + n = N1 ∧ s4 = .slice ad N c ∧ Own wr W2.heap.size (.slice ad N c) (top T1 N1 q) ∧ Bk wr b code ord fst num ahd ∧ Below W2.heap.size W2 wr
theorem below_drewN' {B : Nat} (w : World) (q : Nat) : Below B w (w.drewN q) := ⟨rfl, rfl, rfl, Nat.le_refl _, fun _ _ => rfl⟩
theorem Own.drewN {w : World} {B : Nat} {v : Value} {l : List UInt8} (h : Own w B v l) (q : Nat) : Own (w.drewN q) B v l := h.kept (below_drewN w q)

set_option maxRecDepth 100000 in
set_option maxHeartbeats 2000000 in
theorem encode_any (S : ByteArray) (hS : S.size ≤ 1048576) (w : World) : Calls Tryd.prog 68 #[.string S] w (Built (enc (str S)) w) := by
  have hNS := totN_le (str S)
  rw [str_len] at hNS
  have hso := fun W => sizeOf_any S hS W
  have HNT : Hid (totN (str S) = totN (str S)) := Lib.hid rfl
  generalize hNT : totN (str S) = NT at hso hNS
  replace HNT := Lib.hid hNT
  clear hNT
  have HSO := Lib.hid hso; clear hso
  go_enter Tryd.func68, Tryd.ntmps68
  go_wp2_with fail
  refine (newBook_any _).mono ?_
  rintro e w1 ⟨rfl, hb1⟩
  have hst := store_book w1
  have hbk0 := bk_kept w1
  have hbl := hb1.trans ((below_book w1).mono hb1.size)
  generalize (w1.alloc (.cells Tryd.zeroCells125 125)).setCells w1.heap.size 0 bookL = W2 at hst hbk0 hbl
  generalize hbb : w1.heap.size = b at hst hbk0
  have hbw : w.heap.size ≤ b := by rw [← hbb]; exact hb1.size
  go_wp2_with fail
  refine (HSO.out _).mono ?_
  rintro e w2 ⟨rfl, rfl⟩
  have hlt2 := hbk0.lt
  go_wp2_with (at_make; refine wp_make_bytes rfl _ _ rfl _ rfl rfl (by omega) (by omega) W2.heap.size (Nat.le_refl _) ?_; intro w3 ad3 hown3 hb3; have hz3 := hb3.size)
  have hbk3 := hbk0.kept (hb3.mono hlt2)
  rw [show (((NT : Int) + 7) / 8).toNat = (NT + 7) / 8 by omega] at hown3
  clear hst hbk0 hb1
  generalize Value.agg bookL.toArray = vb
  have HBL := Lib.hid (And.intro hbl (And.intro hbw hlt2))
  clear hbl hbw hlt2 hz3
  have HNS := Lib.hid hNS; clear hNS
  go_loopw [4, 5, 6, 16] (fun s4 s5 s6 s16 wr => EncRel S b W2 s4 s5 s6 s16 wr)
    (fun _ _ _ s16 _ => S.size - (intOf s16).toNat)
  case atStart => exact ⟨0, 0, ad3, 0, _, rfl, by omega, rfl, by simpa [totN, top] using hown3, rfl, by omega, by simp [totN, totT], by simp [totN], hbk3, hb3⟩
  case round =>
    obtain ⟨k, x, ad, N, c, rfl, hk, rfl, hown, rfl, hx64, hxm, rfl, hbk, hB⟩ := hrel
    have HX := Lib.hid hxm; clear hxm hown3 hb3 hbk3
    by_cases hlt : k < S.size
    · have ht := str_take S hlt
      have hN := totN_snoc ((str S).take k) S[k]
      have hT := totT_snoc ((str S).take k) S[k]
      rw [← ht] at hN hT
      have hle : totN ((str S).take (k + 1)) ≤ 30 * S.size := Nat.le_trans (totN_le _) (Nat.mul_le_mul_left _ (by rw [List.length_take, str_len]; exact Nat.min_le_right _ _))
      have hx256 : S[k].toNat < 256 := S[k].toNat_lt
      have hz1 := sz_lo (b257 S[k])
      have hz := sz_hi (b257 S[k])
      have hcl2 := code_le (b257 S[k])
      have q1 := hbk.c S[k].toNat (b257 _)
      have hsc := fun W => size_any S[k].toNat (b257 _) W
      have HC := Lib.hid (code_lt (b257 S[k]))
      clear ht
      generalize sz S[k].toNat = z at hN hT hz1 hz hsc HC
      generalize code S[k].toNat = cd at hT hcl2 q1 HC
      generalize hN1e : totN ((str S).take (k + 1)) = N1 at hN hle
      generalize hT1e : totT ((str S).take (k + 1)) = T1 at hT
      have HE := Lib.hid (And.intro hN1e hT1e); clear hN1e hT1e
      generalize totN ((str S).take k) = N0 at hown HX hN hT ⊢
      generalize totT ((str S).take k) = T0 at hown HX hT ⊢
      have HT := Lib.hid hT; clear hT
      have HN := Lib.hid hN
      have hi0 : (0 : Int) ≤ ((S[k].toNat : Nat) : Int) := by omega
      have hi1 : ((S[k].toNat : Nat) : Int) < 257 := by omega
      have hzz : N0 % 8 + z ≤ 64 := by omega
      have hn8 : N0 % 8 < 8 := Nat.mod_lt _ (by decide)
      have hcd : cd < 18446744073709551616 := by omega
      have hw := IntWalk.wrap64_in ((S[k].toNat : Nat) : Int) (by omega)
      have HO := Lib.hid (or_step (z := z) HX.out HC.out hzz)
      have hshl : IntKind.u64.wrap ((x : Int) * 2 ^ z) = ((x * 2 ^ z % 18446744073709551616 : Nat) : Int) := by
        rw [IntKind.wrap_u64, show ((x : Int) * 2 ^ z) = ((x * 2 ^ z : Nat) : Int) by simp]
        generalize x * 2 ^ z = y
        omega
      have hbits : bits .or .u64 (IntKind.u64.wrap ((x : Int) * 2 ^ z)) ((cd : Nat) : Int) = (((x * 2 ^ z % 18446744073709551616 ||| cd) : Nat) : Int) := by
        rw [hshl]
        exact u64_or_nat _ _ (by generalize x * 2 ^ z = y; omega) hcd
      have HB := Lib.hid hbits
      clear hshl hbits
      have HL := Lib.hid hle
      have HSC := Lib.hid hsc
      clear hN hle hcd hx64 hzz hx256 hsc hz1
      have HN8 := Lib.hid hn8; clear hn8
      go_wp2_with fail
      refine (HSC.out _).mono ?_
      rintro e w2 ⟨rfl, rfl⟩
      go_wp2_with fail
      go_quiet (fail)
      rw [HB.out]
      have hO := HO.out
      rw [← HT.out] at hO
      generalize x * 2 ^ z % 18446744073709551616 ||| cd = y at hO ⊢
      have hB2 := bdN hB nq
      have hk2 := hbk.kept (below_drewN' wr nq)
      have hown2 := hown.drewN nq
      clear hbk hB hown HB
      have hyl := hO.2
      have HO2 := Lib.hid hO.1
      clear hO HO
      have hn1 : N0 % 8 + z ≤ 37 := by have := HN8.out; omega
      have hN1 : 8 * (N0 / 8) + (N0 % 8 + z) = N1 := by have := HN.out; omega
      have hown3 : Own (wr.drewN nq) W2.heap.size (.slice ad N c) (top T1 N1 (N0 / 8)) := by
        rw [HT.out, HN.out, top_shift _ _ _ _ _ HC.out (by omega)]; exact hown2
      clear hown2
      generalize hn1e : N0 % 8 + z = n1 at hn1 hN1 HO2
      have hs6 : ((N0 % 8 : Nat) : Int) + (z : Int) = (n1 : Int) := by omega
      have hs6' : (N0 : Int) % 8 + (z : Int) = (n1 : Int) := by omega
      first | rw [hs6] | rw [hs6']
      generalize N0 / 8 = q0 at hN1 hown3
      clear hs6 hs6' hn1e hi0 hi1 hw
      go_wp2
      go_loopw [4, 6] (fun s4 s6 wr => EncIn b W2 T1 N1 n1 s4 s6 wr) (fun _ s6 _ => (intOf s6).toNat)
      case atStart => exact ⟨q0, n1, ad, N, c, rfl, Nat.le_refl _, hN1, rfl, hown3, hk2, hB2⟩
      case round =>
        obtain ⟨q, n, ad, N, c, rfl, hn, hqn, rfl, hown, hbk, hB⟩ := hrel
        by_cases h8 : 8 ≤ n
        · obtain ⟨m, rfl⟩ : ∃ m, n = m + 8 := ⟨n - 8, by omega⟩
          have hlow : y / 2 ^ m % 256 = T1 / 2 ^ m % 256 := low_div (low_mod (m := n1 - (m + 8)) (by rw [show m + 8 + (n1 - (m + 8)) = n1 by omega]; exact HO2.out))
          have hby : (((y : Int) / 2 ^ m) % 256) = (((UInt8.ofNat (T1 / 2 ^ m)).toNat : Nat) : Int) := by
            rw [ofNat_toNat', ← hlow]
            simp
          have HBY := Lib.hid hby
          clear hlow hby
          have hzr := hB.size
          have hN37 : N1 ≤ 32000000 := by have := HL.out; omega
          have hql : q ≤ 32000000 := by omega
          have HTL := Lib.hid (top_length T1 N1 q)
          go_wp2_with (at_builtin; (refine wp_append_bytes rfl _ _ rfl _ (top T1 N1 q) [UInt8.ofNat (T1 / 2 ^ m)] rfl W2.heap.size (hown.alloc _) (some ⟨wr.heap.size, 0, none⟩) 1 1 rfl (sl_new1 _ _ _ HBY.out) (by rw [HTL.out]; omega) (by simp; omega) ?_); intro w4 ad4 N4 c4 hN4 hown4 hb4)
          refine ⟨⟨q + 1, m, ad4, N4, c4, rfl, by omega, by omega, rfl, ?_, ?_, (hB.alloc hzr _).trans hb4⟩, by simp [intOf]; omega⟩
          · rw [top_succ, show N1 - 8 * (q + 1) = m by omega]; exact hown4
          · exact hbk.kept (((Below.refl _ _).alloc hbk.lt _).trans (hb4.mono HBL.out.2.2))
        · have hq : q = N1 / 8 := by omega
          have hnm : n = N1 % 8 := by omega
          subst hq hnm
          go_wp2
          refine ⟨?_, by simp [intOf]; omega⟩
          unfold EncRel
          refine ⟨k + 1, y, ad, N, c, by go_num, by omega, rfl, ?_, rfl, hyl, ?_, ?_, hbk, hB⟩
          · rw [HE.out.1, HE.out.2]; exact hown
          · rw [HE.out.1, HE.out.2]; exact low_mod (m := n1 - N1 % 8) (by rw [show N1 % 8 + (n1 - N1 % 8) = n1 by omega]; exact HO2.out)
          · rw [HE.out.1]
    · obtain rfl : k = S.size := by omega
      rw [List.take_of_length_le (Nat.le_of_eq (str_len S))] at hown HX ⊢
      have hNT := HNT.out
      rw [hNT] at hown HX ⊢
      have HU : Hid (enc (str S) = padB (totT (str S)) NT) := Lib.hid (by unfold enc; rw [hNT])
      generalize totT (str S) = T0 at hown HX HU
      clear hNT
      have hzw := HBL.out
      have hzr := hB.size
      have hww := hzw.1.size
      have hBw : Below w.heap.size w wr := hzw.1.trans (hB.mono (by omega))
      by_cases h0 : NT % 8 = 0
      · have HU2 : Hid (enc (str S) = top T0 NT (NT / 8)) := Lib.hid (by rw [HU.out, padB_whole h0])
        have HOW := Lib.hid hown
        rw [h0]
        clear hown hzw HX h0
        go_wp2
        go_ret
        refine ⟨_, _, _, rfl, ?_, ?_, hBw⟩
        · rw [HU2.out]; exact Lib.hid HOW.out.len
        · rw [HU2.out]; exact HOW.out.mono (by omega)
      · have hn8 : NT % 8 < 8 := Nat.mod_lt _ (by decide)
        obtain ⟨f, hf⟩ : ∃ f, NT % 8 + f = 8 := ⟨8 - NT % 8, by omega⟩
        have HU2 : Hid (enc (str S) = top T0 NT (NT / 8) ++ [UInt8.ofNat (T0 * 2 ^ f + (2 ^ f - 1))]) := Lib.hid (by rw [HU.out, padB_pad rfl h0 hf])
        obtain rfl : f = 8 - NT % 8 := by omega
        generalize NT % 8 = r at h0 hn8 HX HU2 ⊢
        have hf1 : (8 : Int) - (r : Int) = ((8 - r : Nat) : Int) := by omega
        have HC : Hid (∀ W, Calls Tryd.prog 73 #[.int .i64 (8 - (r : Int))] W fun e w' => e = .returned (.int .u64 ((2 ^ (8 - r) - 1 : Nat) : Int)) ∧ W = w') := Lib.hid (fun W => by rw [hf1]; exact ones_any (8 - r) (by omega) W)
        have hql : (top T0 NT (NT / 8)).length + 1 ≤ 140737488355328 := by rw [top_length]; have := HNS.out; omega
        have HP : Hid (IntKind.u8.wrap (bits .or .u64 (IntKind.u64.wrap ((x : Int) * 2 ^ (8 - r))) ((2 ^ (8 - r) - 1 : Nat) : Int)) = (((UInt8.ofNat (T0 * 2 ^ (8 - r) + (2 ^ (8 - r) - 1))).toNat : Nat) : Int)) := by
          have hlt : 2 ^ (8 - r) - 1 < 2 ^ (8 - r) := by have := Nat.two_pow_pos (8 - r); omega
          have ho := or_step (z := 8 - r) HX.out hlt (by omega)
          have h256 : 2 ^ (8 - r) ≤ 256 := by have := Nat.pow_le_pow_right (n := 2) (by decide) (show 8 - r ≤ 8 by omega); simpa using this
          have hs : IntKind.u64.wrap ((x : Int) * 2 ^ (8 - r)) = ((x * 2 ^ (8 - r) % 18446744073709551616 : Nat) : Int) := by
            rw [IntKind.wrap_u64, show ((x : Int) * 2 ^ (8 - r)) = ((x * 2 ^ (8 - r) : Nat) : Int) by simp]
            generalize x * 2 ^ (8 - r) = y
            omega
          refine Lib.hid ?_
          rw [hs, u64_or_nat _ _ (by generalize x * 2 ^ (8 - r) = y; omega) (by omega), IntKind.wrap_u8, ofNat_toNat']
          have h8 : (2 : Nat) ^ (r + (8 - r)) = 256 := by rw [show r + (8 - r) = 8 by omega]
          rw [h8] at ho
          have ho1 := ho.1
          generalize x * 2 ^ (8 - r) % 18446744073709551616 ||| 2 ^ (8 - r) - 1 = y at ho1
          generalize T0 * 2 ^ (8 - r) + (2 ^ (8 - r) - 1) = y' at ho1
          omega
        have hz9 : W2.heap.size ≤ wr.heap.size + 1 := by omega
        have hf : 8 - (r : Int) = ((8 - r : Nat) : Int) := hf1
        have hrr : r < 8 := hn8
        clear hzw HSO HU hww hBw HX hzr hf1 hf hk hS
        go_wp2_with fail
        go_region_law (first | (refine step_append_bytes rfl _ _ rfl _ (top T0 NT (NT / 8)) [UInt8.ofNat (T0 * 2 ^ (8 - r) + (2 ^ (8 - r) - 1))] rfl W2.heap.size ((hown.alloc _).kept (Below.drew (Below.refl _ _))) (some ⟨wr.heap.size, 0, none⟩) 1 1 rfl ((sl_new1 wr _ _ HP.out).kept (Below.drew (Below.refl _ _))) hql (by simp; omega) ?_; intro w9 a9 N9 c9 hN9 hown9 hb9') | (go_simp; (with_reducible_and_instances refine Calls.mono (HC.out _) ?_); rintro e w3 ⟨rfl, rfl⟩; go_simp))
        all_goals go_wp2_with fail
        all_goals (
          have hww := HBL.out.1.size
          have hzr := hB.size
          go_ret
          refine ⟨_, _, _, rfl, by rw [HU2.out]; exact hN9, by rw [HU2.out]; exact hown9.mono hww, ?_⟩
          exact HBL.out.1.trans (((hB.alloc hzr _).trans ((Below.drew (Below.refl _ _)).trans hb9')).mono hww))
end Go.Proofs.YtlkieeindnpidaaDoor.Hu
