/-
  THE LAW FlowRoom: its walk.
-/
import Derived.Test.YtfgceakoakcccaaDoorG
namespace Go.Proofs.YtfgceakoakcccaaDoor
open Go.RowKit

set_option maxRecDepth 100000 in
set_option maxHeartbeats 4000000 in
theorem flowRoom_any (a b by' n : Int) (w : World) (en ew : Addr) (hE : Er w en ew) (hn : -9223372036854775808 ≤ n ∧ n ≤ 9223372036854775807) :
    Calls Tryd.prog 4 #[.int .i64 a, .int .i64 b, .int .i64 by', .int .i64 n] w fun e w' => e = .returned (.bool true) ∧ Below w.heap.size w w' := by
  have g1 := cell_lt hE.n
  have g2 := cell_lt hE.w
  simp only at g1 g2
  have HF := Lib.hid (first_any w en ew hE)
  have HE := Lib.hid (fun w' (h : Below w.heap.size w w') => hE.below h)
  clear hE
  go_enter Tryd.func4, Tryd.ntmps4
  go_wp2_with fail
  refine HF.out.mono ?_
  rintro e w1 ⟨rfl, hb1⟩
  have HB1 := Lib.hid hb1
  clear hb1 HF
  by_cases ha : a < 0 ∨ 2147483647 < a
  · have HN := Lib.hid (new_no a ha w1 en ew (HE.out w1 HB1.out))
    clear ha
    go_wp2_with fail
    refine HN.out.mono ?_
    rintro e w2 ⟨rfl, hb2⟩
    have hB2 := HB1.out.trans (hb2.mono HB1.out.size)
    by_cases hb : b < 0 ∨ 2147483647 < b
    · have HM := Lib.hid (new_no b hb w2 en ew (HE.out w2 hB2))
      clear hb
      go_wp2_with fail
      refine HM.out.mono ?_
      rintro e w3 ⟨rfl, hb3⟩
      go_wp2_with fail
      go_ret
      exact ⟨rfl, hB2.trans (hb3.mono hB2.size)⟩
    · have HM := Lib.hid (new_yes b (by omega) w2)
      clear hb
      go_wp2_with fail
      refine HM.out.mono ?_
      rintro e w3 ⟨rfl, _, hb3⟩
      go_wp2_with fail
      go_ret
      exact ⟨rfl, hB2.trans (hb3.mono hB2.size)⟩
  have HN := Lib.hid (new_yes a (by omega) w1)
  have hoa : Ok a := by unfold Ok; omega
  clear ha
  go_wp2_with fail
  refine HN.out.mono ?_
  rintro e w2 ⟨rfl, ha2, hb2⟩
  have hB2 : Below w.heap.size w w2 := HB1.out.trans (hb2.mono HB1.out.size)
  have hwA := HB1.out.size
  have hA2 := ha2.lt
  generalize w1.heap.size = A at ha2 hwA hA2 ⊢
  clear HN hb2 HB1
  by_cases hb : b < 0 ∨ 2147483647 < b
  · have HM := Lib.hid (new_no b hb w2 en ew (HE.out w2 hB2))
    clear hb
    go_wp2_with fail
    refine HM.out.mono ?_
    rintro e w3 ⟨rfl, hb3⟩
    go_wp2_with fail
    go_ret
    exact ⟨rfl, hB2.trans (hb3.mono hB2.size)⟩
  have HM := Lib.hid (new_yes b (by omega) w2)
  have hob : Ok b := by unfold Ok; omega
  clear hb
  go_wp2_with fail
  refine HM.out.mono ?_
  rintro e w3 ⟨rfl, hx3, hb3⟩
  have hB3 : Below w.heap.size w w3 := hB2.trans (hb3.mono hB2.size)
  have ha3 := ha2.below hb3
  have hX3 := hx3.lt
  generalize w2.heap.size = X at hx3 hX3 hA2 ⊢
  have hAX : A ≠ X := by omega
  have hXA : X ∉ [A] := by simp; omega
  clear HM hb3 hB2 ha2
  have HS := Lib.hid (shift_any ha3 hoa by' en ew (HE.out w3 hB3))
  have ho4 := sh_ok (n := by') hoa
  have HB3 := Lib.hid hB3
  have HX3 := Lib.hid hx3
  generalize shM a by' = sh at HS ho4
  obtain ⟨x, cd⟩ := sh
  simp only at HS ho4
  clear hx3 hB3 ha3 hoa
  go_wp2_with fail
  refine HS.out.mono ?_
  rintro e w4 ⟨rfl, ha4, hk4⟩
  have hB4 := HB3.out.trans (hk4.below (by simpa using hwA) HB3.out.size)
  have hx4 := HX3.out.kp hk4 hXA
  have hX4 := hx4.lt
  clear HS hk4 HB3 HX3 hX3
  have HBO := Lib.hid (both_any A X w4 ha4 hx4)
  rw [show both A X = [A, X] by unfold both; rw [if_neg (Ne.symm hAX)]] at HBO
  have HA4 := Lib.hid ha4
  have HX4 := Lib.hid hx4
  have HB4 := Lib.hid hB4
  clear ha4 hx4 hB4
  go_wp2_with fail
  refine HBO.out.mono ?_
  rintro e w5 ⟨rfl, ⟨vr, vt, hp⟩, hb5⟩
  have hB5 := HB4.out.trans (hb5.mono HB4.out.size)
  have ha5 := HA4.out.below hb5
  have hx5 := HX4.out.below hb5
  have hP5 := hp.lt
  generalize w4.heap.size = P at hp hX4 hP5 ⊢
  clear HBO hb5 HA4 HX4 HB4
  have HBO := Lib.hid (both_any X X w5 hx5 hx5)
  rw [show both X X = [X] by unfold both; rw [if_pos rfl]] at HBO
  have HA5 := Lib.hid ha5
  have HX5 := Lib.hid hx5
  have HB5 := Lib.hid hB5
  have HP5 := Lib.hid hp
  clear ha5 hx5 hB5 hp
  go_wp2_with fail
  refine HBO.out.mono ?_
  rintro e w6 ⟨rfl, ⟨ur, ut, hq⟩, hb6⟩
  have hB6 := HB5.out.trans (hb6.mono HB5.out.size)
  have ha6 := HA5.out.below hb6
  have hx6 := HX5.out.below hb6
  have hp6 := HP5.out.below hb6
  generalize w5.heap.size = Q at hq hP5 ⊢
  clear HBO hb6 HA5 HX5 HB5 HP5
  obtain ⟨f1, f2, f3, f4⟩ := fr_plain x b n
  have HRM := Lib.hid (room2 hp6 hAX ha6 hx6 n)
  have HTK := Lib.hid (take2 hp6 hAX (by omega) (by omega) ha6 hx6 ho4 hob (rmL [x, b] n) en ew (HE.out w6 hB6) w.heap.size g1 g2 hwA (by omega))
  generalize rmL [x, b] n = r at f1 f2 f3 f4 HRM HTK
  rw [f3] at HTK
  simp only [if_pos rfl, erV0] at HTK
  have HLA := Lib.hid (left_any ha6)
  have HLX := Lib.hid (left_any hx6)
  have HB6 := Lib.hid hB6
  have HQ6 := Lib.hid hq
  have HP6 := Lib.hid hp6
  clear hB6 hq hp6 ha6 hx6
  go_wp2_with fail
  refine HRM.out.mono ?_
  rintro e w' ⟨rfl, rfl⟩
  go_wp2_with fail
  refine HLA.out.mono ?_
  rintro e w' ⟨rfl, rfl⟩
  go_wp2_with fail
  refine HLX.out.mono ?_
  rintro e w' ⟨rfl, rfl⟩
  have hr0 : decide (r < 0) = false := by simpa using f1
  go_wp2_with fail
  all_goals
    refine HTK.out.mono ?_
    rintro e w7 ⟨rfl, ha7, hx7, hk7⟩
    rw [if_pos trivial] at ha7 hx7
    have hok := fr_ok ho4 hob f1 f3
    have HB7 := Lib.hid (HB6.out.trans (hk7.below (by intro b hb; simp at hb; omega) HB6.out.size))
    have HP7 := Lib.hid (HP6.out.kp hk7 (by intro b hb; simp at hb; omega))
    have HQ7 := Lib.hid (HQ6.out.kp hk7 (by intro b hb; simp at hb; omega))
    have HLA := Lib.hid (left_any ha7)
    have HLX := Lib.hid (left_any hx7)
    have HA7 := Lib.hid ha7
    have HX7 := Lib.hid hx7
    have hz1 := hok.1
    have hz2 := hok.2
    have hz3 := ho4
    have hz4 := hob
    unfold Ok at hz1 hz2 hz3 hz4
    clear HTK ha7 hx7 hk7 HB6 HP6 HQ6
    go_wp2_with fail
    refine HLA.out.mono ?_
    rintro e w' ⟨rfl, rfl⟩
    go_wp2_with fail
    refine HLX.out.mono ?_
    rintro e w' ⟨rfl, rfl⟩
    clear HRM
    by_cases hrn : r < n
    · have hd : decide (r < n) = true := by simpa using hrn
      have hzn : -9223372036854775808 ≤ n - r ∧ n - r ≤ 9223372036854775807 := by omega
      have HT2 := Lib.hid (take2 HP7.out hAX (by omega) (by omega) HA7.out HX7.out hok.1 hok.2 (n - r) en ew (HE.out w7 HB7.out) w.heap.size g1 g2 hwA (by omega))
      rw [f4 hrn] at HT2
      simp only [erV2, show ¬ (2 : Nat) = 0 by decide, if_false] at HT2
      clear f4 hrn
      go_wp2_with fail
      refine HT2.out.mono ?_
      rintro e w8 ⟨rfl, ha8, hx8, hk8⟩
      have HA8 := Lib.hid ha8
      have HX8 := Lib.hid hx8
      have HB8 := Lib.hid (HB7.out.trans (hk8.below (by intro b hb; simp at hb; omega) HB7.out.size))
      have HQ8 := Lib.hid (HQ7.out.kp hk8 (by intro b hb; simp at hb; omega))
      clear HT2 ha8 hx8 hk8 HA7 HX7 HB7 HQ7 HP7
      have HR1 := Lib.hid (room1 HQ8.out HX8.out n)
      obtain ⟨q1, q2⟩ := fr_one (b - r) n
      have HT1 := Lib.hid (take1 HQ8.out (by omega) HX8.out hok.2 (rmL [b - r] n) en ew (HE.out w8 HB8.out) w.heap.size g1 g2 (by omega))
      have HLA8 := Lib.hid (left_any HA8.out)
      have HLX8 := Lib.hid (left_any HX8.out)
      generalize rmL [b - r] n = s at q1 q2 HR1 HT1
      have hz5 := fr_ok1 hok.2 q1 q2
      unfold Ok at hz5
      rw [q2] at HT1
      simp only [if_pos rfl, erV0] at HT1
      go_wp2_with fail
      refine HR1.out.mono ?_
      rintro e w' ⟨rfl, rfl⟩
      go_wp2_with fail
      refine HLA8.out.mono ?_
      rintro e w' ⟨rfl, rfl⟩
      go_wp2_with fail
      refine HLX8.out.mono ?_
      rintro e w' ⟨rfl, rfl⟩
      go_wp2_with fail
      refine HT1.out.mono ?_
      rintro e w9 ⟨rfl, hx9, hk9⟩
      rw [if_pos trivial] at hx9
      have HLX9 := Lib.hid (left_any hx9)
      have HB9 := Lib.hid (HB8.out.trans (hk9.below (by intro b hb; simp at hb; omega) HB8.out.size))
      clear HT1 HR1 hx9 hk9
      go_wp2_with fail
      refine HLX9.out.mono ?_
      rintro e w' ⟨rfl, rfl⟩
      go_wp2_with fail
      go_ret
      exact ⟨rfl, HB9.out⟩
    · have hd : decide (r < n) = false := by simpa using hrn
      clear f4 hrn
      have HR1 := Lib.hid (room1 HQ7.out HX7.out n)
      obtain ⟨q1, q2⟩ := fr_one (b - r) n
      have HT1 := Lib.hid (take1 HQ7.out (by omega) HX7.out hok.2 (rmL [b - r] n) en ew (HE.out w7 HB7.out) w.heap.size g1 g2 (by omega))
      have HLA7 := Lib.hid (left_any HA7.out)
      have HLX7 := Lib.hid (left_any HX7.out)
      generalize rmL [b - r] n = s at q1 q2 HR1 HT1
      have hz5 := fr_ok1 hok.2 q1 q2
      unfold Ok at hz5
      rw [q2] at HT1
      simp only [if_pos rfl, erV0] at HT1
      go_wp2_with fail
      refine HR1.out.mono ?_
      rintro e w' ⟨rfl, rfl⟩
      go_wp2_with fail
      refine HLA7.out.mono ?_
      rintro e w' ⟨rfl, rfl⟩
      go_wp2_with fail
      refine HLX7.out.mono ?_
      rintro e w' ⟨rfl, rfl⟩
      go_wp2_with fail
      refine HT1.out.mono ?_
      rintro e w9 ⟨rfl, hx9, hk9⟩
      rw [if_pos trivial] at hx9
      have HLX9 := Lib.hid (left_any hx9)
      have HB9 := Lib.hid (HB7.out.trans (hk9.below (by intro b hb; simp at hb; omega) HB7.out.size))
      clear HT1 HR1 hx9 hk9
      go_wp2_with fail
      refine HLX9.out.mono ?_
      rintro e w' ⟨rfl, rfl⟩
      go_wp2_with fail
      go_ret
      exact ⟨rfl, HB9.out⟩
end Go.Proofs.YtfgceakoakcccaaDoor
