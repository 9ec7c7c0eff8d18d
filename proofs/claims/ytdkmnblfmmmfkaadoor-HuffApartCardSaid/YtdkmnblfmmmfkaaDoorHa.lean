/-
  THE LAW HuffApart: its walk.
-/
import Derived.Test.YtdkmnblfmmmfkaaDoorT
import Derived.Test.YtdkmnblfmmmfkaaDoorMh
namespace Go.Proofs.YtdkmnblfmmmfkaaDoor
open Go.RowKit Hf

theorem mod257 (a : Int) : ∃ A : Nat, A < 257 ∧ (wrap64 (a.tmod 257 + 257)).tmod 257 = (A : Int) := by
  have h1 : a.tmod 257 < 257 := Int.tmod_lt_of_pos a (by decide)
  have h2 : -257 < a.tmod 257 := by
    have := Int.lt_tmod_of_pos a (b := 257) (by decide)
    simpa using this
  rw [IntWalk.wrap64_in _ (by omega), Int.tmod_eq_emod_of_nonneg (by omega)]
  exact ⟨((a.tmod 257 + 257) % 257).toNat, by omega, by omega⟩

set_option maxRecDepth 100000 in
set_option maxHeartbeats 4000000 in
theorem apart_any (ev : Value) (a b : Int) (w : World) (hE : w.cell? ⟨0, 0, none⟩ = some ev) (ha : -9223372036854775808 ≤ a ∧ a ≤ 9223372036854775807) (hb : -9223372036854775808 ≤ b ∧ b ≤ 9223372036854775807) :
    Calls Tryd.prog 7 #[.int .i64 a, .int .i64 b] w fun e w' => e = .returned (.bool true) ∧ Below w.heap.size w w' := by
  go_enter Tryd.func7, Tryd.ntmps7
  go_wp2_with fail
  refine (first_any ev _ hE).mono ?_
  rintro e w1 ⟨rfl, hb1⟩
  go_wp2_with fail
  obtain ⟨A, hA, eA⟩ := mod257 a
  obtain ⟨B, hB, eB⟩ := mod257 b
  rw [eA, eB]
  clear eA eB ha hb
  have hap := apart hA hB
  have hn1 := sz_lo hA
  have hn2 := sz_hi hA
  have hm1 := sz_lo hB
  have hm2 := sz_hi hB
  have hc2 := code_le hA
  have hd2 := code_le hB
  have H1 := Lib.hid (fun W => bits_ok A hA W)
  have H2 := Lib.hid (fun W => bits_ok B hB W)
  have H3 := Lib.hid (fun W => code_ok A hA W)
  have H4 := Lib.hid (fun W => code_ok B hB W)
  generalize sz A = n at hap hn1 hn2 H1
  generalize sz B = m at hap hm1 hm2 H2
  generalize code A = c at hap hc2 H3
  generalize code B = d at hap hd2 H4
  have HAP := Lib.hid hap; clear hap
  refine (H1.out _).mono ?_
  rintro e w2 ⟨rfl, rfl⟩
  go_wp2_with fail
  refine (H2.out _).mono ?_
  rintro e w2 ⟨rfl, rfl⟩
  go_wp2_with fail
  refine (H3.out _).mono ?_
  rintro e w3 ⟨rfl, hb3⟩
  go_wp2_with fail
  refine (H4.out _).mono ?_
  rintro e w4 ⟨rfl, hb4⟩
  have hB4 : Below w.heap.size w w4 := (hb1.trans (hb3.mono hb1.size)).trans (hb4.mono (Nat.le_trans hb1.size hb3.size))
  clear hb1 hb3 hb4
  by_cases hab : A = B
  · subst hab
    go_wp2_with fail
    go_loopw [14, 15] (fun s14 s15 wr => ∃ k : Nat, s15 = .int .i64 (k : Int) ∧ k ≤ 257 ∧ s14 = .int .i64 ((room k : Nat) : Int) ∧ Below w.heap.size w wr)
      (fun _ s15 _ => 257 - (intOf s15).toNat)
    case atStart => exact ⟨0, rfl, by omega, rfl, hB4⟩
    case round =>
      obtain ⟨k, rfl, hk, rfl, hBr⟩ := hrel
      by_cases hlt : k < 257
      · have hz1 := sz_lo hlt
        have hz2 := sz_hi hlt
        have HSZ := Lib.hid (fun W => bits_ok k hlt W)
        have HR : Hid (room (k + 1) = room k + 2 ^ (30 - sz k)) := Lib.hid rfl
        have hrl := room_le k
        have hp : 2 ^ (30 - sz k) ≤ 1073741824 := by
          have := Nat.pow_le_pow_right (n := 2) (by decide) (show 30 - sz k ≤ 30 by omega)
          simpa using this
        generalize sz k = z at hz1 hz2 HSZ HR hp
        generalize room k = R at HR hrl ⊢
        have hRb : R ≤ 275951648768 := by omega
        generalize hpw : 2 ^ (30 - z) = pw at hp HR
        have HPW : Hid ((2 : Int) ^ (30 - z) = (pw : Int)) := Lib.hid (by rw [← hpw]; simp)
        clear hrl hpw
        go_wp2_with fail
        refine (HSZ.out _).mono ?_
        rintro e w5 ⟨rfl, rfl⟩
        go_wp2_with fail
        rw [HPW.out, IntWalk.wrap64_in (pw : Int) (by omega), IntWalk.wrap64_in _ (by omega)]
        refine ⟨⟨k + 1, by go_num, by omega, ?_, hBr⟩, by simp [intOf]; omega⟩
        rw [HR.out]
        simp
      · obtain rfl : k = 257 := by omega
        rw [room_all]
        go_wp2
        go_ret
        exact ⟨rfl, hBr⟩
  · have hab' : ((A : Int) != (B : Int)) = true := by rw [bne_iff_ne]; omega
    by_cases hnm : n ≤ m
    · have hq := HAP.out hab hnm
      have hqb : ((d : Int) / 2 ^ (m - n) == (c : Int)) = false := by
        rw [beq_eq_false_iff_ne]
        intro h
        apply hq
        have e : ((d / 2 ^ (m - n) : Nat) : Int) = (c : Int) := by rw [← h]; simp
        omega
      clear hq
      go_wp2_with fail
      go_loopw [14, 15] (fun s14 s15 wr => ∃ k : Nat, s15 = .int .i64 (k : Int) ∧ k ≤ 257 ∧ s14 = .int .i64 ((room k : Nat) : Int) ∧ Below w.heap.size w wr)
        (fun _ s15 _ => 257 - (intOf s15).toNat)
      case atStart => exact ⟨0, rfl, by omega, rfl, hB4⟩
      case round =>
        obtain ⟨k, rfl, hk, rfl, hBr⟩ := hrel
        by_cases hlt : k < 257
        · have hz1 := sz_lo hlt
          have hz2 := sz_hi hlt
          have HSZ := Lib.hid (fun W => bits_ok k hlt W)
          have HR : Hid (room (k + 1) = room k + 2 ^ (30 - sz k)) := Lib.hid rfl
          have hrl := room_le k
          have hp : 2 ^ (30 - sz k) ≤ 1073741824 := by
            have := Nat.pow_le_pow_right (n := 2) (by decide) (show 30 - sz k ≤ 30 by omega)
            simpa using this
          generalize sz k = z at hz1 hz2 HSZ HR hp
          generalize room k = R at HR hrl ⊢
          have hRb : R ≤ 275951648768 := by omega
          generalize hpw : 2 ^ (30 - z) = pw at hp HR
          have HPW : Hid ((2 : Int) ^ (30 - z) = (pw : Int)) := Lib.hid (by rw [← hpw]; simp)
          clear hrl hpw
          go_wp2_with fail
          refine (HSZ.out _).mono ?_
          rintro e w5 ⟨rfl, rfl⟩
          go_wp2_with fail
          rw [HPW.out, IntWalk.wrap64_in (pw : Int) (by omega), IntWalk.wrap64_in _ (by omega)]
          refine ⟨⟨k + 1, by go_num, by omega, ?_, hBr⟩, by simp [intOf]; omega⟩
          rw [HR.out]
          simp
        · obtain rfl : k = 257 := by omega
          rw [room_all]
          go_wp2
          go_ret
          exact ⟨rfl, hBr⟩
    · go_wp2_with fail
      go_loopw [14, 15] (fun s14 s15 wr => ∃ k : Nat, s15 = .int .i64 (k : Int) ∧ k ≤ 257 ∧ s14 = .int .i64 ((room k : Nat) : Int) ∧ Below w.heap.size w wr)
        (fun _ s15 _ => 257 - (intOf s15).toNat)
      case atStart => exact ⟨0, rfl, by omega, rfl, hB4⟩
      case round =>
        obtain ⟨k, rfl, hk, rfl, hBr⟩ := hrel
        by_cases hlt : k < 257
        · have hz1 := sz_lo hlt
          have hz2 := sz_hi hlt
          have HSZ := Lib.hid (fun W => bits_ok k hlt W)
          have HR : Hid (room (k + 1) = room k + 2 ^ (30 - sz k)) := Lib.hid rfl
          have hrl := room_le k
          have hp : 2 ^ (30 - sz k) ≤ 1073741824 := by
            have := Nat.pow_le_pow_right (n := 2) (by decide) (show 30 - sz k ≤ 30 by omega)
            simpa using this
          generalize sz k = z at hz1 hz2 HSZ HR hp
          generalize room k = R at HR hrl ⊢
          have hRb : R ≤ 275951648768 := by omega
          generalize hpw : 2 ^ (30 - z) = pw at hp HR
          have HPW : Hid ((2 : Int) ^ (30 - z) = (pw : Int)) := Lib.hid (by rw [← hpw]; simp)
          clear hrl hpw
          go_wp2_with fail
          refine (HSZ.out _).mono ?_
          rintro e w5 ⟨rfl, rfl⟩
          go_wp2_with fail
          rw [HPW.out, IntWalk.wrap64_in (pw : Int) (by omega), IntWalk.wrap64_in _ (by omega)]
          refine ⟨⟨k + 1, by go_num, by omega, ?_, hBr⟩, by simp [intOf]; omega⟩
          rw [HR.out]
          simp
        · obtain rfl : k = 257 := by omega
          rw [room_all]
          go_wp2
          go_ret
          exact ⟨rfl, hBr⟩
end Go.Proofs.YtdkmnblfmmmfkaaDoor
