/-
  THE LAWS' first: the chapter's examples.
-/
import Derived.Test.YtefdkbdblocikaaDoorC
import Derived.Test.YtefdkbdblocikaaDoorOp
import Derived.Test.YtefdkbdblocikaaDoorFa
import Derived.Test.YtefdkbdblocikaaDoorG
import Derived.Lib.SlBytesConst
namespace Go.Proofs.YtefdkbdblocikaaDoor
open Go.RowKit Hu

set_option maxRecDepth 100000 in
/-- 'PRI * HTTP/2.0\r\n\r\nSM\r\n\r\n' -/
theorem preface_any (w : World) : Calls Tryd.prog 30 #[] w fun e w' => (∃ a c, e = .returned (.slice a 24 c)) ∧ Below w.heap.size w w' := by
  have hcv := fun C => Go.Lib.run_convert_bytes_const (P := Tryd.prog) w 22 5 C 24 24 Tryd.underlying22 Tryd.underlying5
  go_enter Tryd.func30, Tryd.ntmps30
  go_wp2
  go_ret
  exact ⟨⟨_, _, rfl⟩, (Below.refl _ w).alloc (Nat.le_refl _) _⟩
theorem ex_put : (putB 6 1 0 [1, 2, 3, 4, 5, 6, 7, 8] == [0, 0, 8, 6, 1, 0, 0, 0, 0, 1, 2, 3, 4, 5, 6, 7, 8]) = true := by decide +kernel
def exI : IV := ⟨0, 0, 3, true, false, false, true, false, false, 2, 0, 0, 0, 0, 0, 0, .slice none 0 0, .slice none 0 0⟩
theorem ex_data : openM 0 9 3 [2, 65, 0, 0] = .ok (exI, [], [65]) := by kernel_rfl
theorem ex_window : openM 8 0 5 [0, 0, 0, 0] = .error (1, 5) := by kernel_rfl
set_option maxRecDepth 100000 in
set_option maxHeartbeats 8000000 in
theorem first_any (w : World) : Calls Tryd.prog 10 #[] w fun e w' => e = .returned (.bool true) ∧ Below w.heap.size w w' := by
  have hs0 := sl_lit w #[.int .u8 1, .int .u8 2, .int .u8 3, .int .u8 4, .int .u8 5, .int .u8 6, .int .u8 7, .int .u8 8] [1, 2, 3, 4, 5, 6, 7, 8] rfl (by decide)
  have hb0 : Below w.heap.size w (w.alloc (.cells #[.int .u8 1, .int .u8 2, .int .u8 3, .int .u8 4, .int .u8 5, .int .u8 6, .int .u8 7, .int .u8 8] 5)) := (Below.refl _ w).alloc (Nat.le_refl _) _
  have hz0 : (w.alloc (.cells #[.int .u8 1, .int .u8 2, .int .u8 3, .int .u8 4, .int .u8 5, .int .u8 6, .int .u8 7, .int .u8 8] 5)).heap.size = w.heap.size + 1 := by simp
  go_enter Tryd.func10, Tryd.ntmps10
  go_upto_region 1 with fail
  generalize hw0 : w.alloc (.cells #[.int .u8 1, .int .u8 2, .int .u8 3, .int .u8 4, .int .u8 5, .int .u8 6, .int .u8 7, .int .u8 8] 5) = w0 at hs0 hb0 hz0
  have HW0 := Lib.hid hw0
  have HS0 := Lib.hid hs0
  have HB0 := Lib.hid hb0
  clear hw0 hs0
  go_wp2_with fail
  rw [HW0.out]
  refine (put_yes none 0 0 [] 6 1 0 (some ⟨w.heap.size, 0, none⟩) 8 8 [1, 2, 3, 4, 5, 6, 7, 8] w0 (sl_nil0 _) HS0.out (by omega) (by decide) (by omega)).mono ?_
  rintro e w1 ⟨a1, N1, c1, rfl, hN1, ho1, hb1⟩
  rw [List.nil_append] at ho1
  have hB1 : Below w.heap.size w w1 := hb0.trans (hb1.mono (by omega))
  have hz1 := hB1.size
  have HO1 := Lib.hid (sl_own ho1)
  have HB1 := Lib.hid hB1
  have hs2 := sl_lit w1 #[.int .u8 2, .int .u8 65, .int .u8 0, .int .u8 0] [2, 65, 0, 0] rfl (by decide)
  have hb2 : Below w1.heap.size w1 (w1.alloc (.cells #[.int .u8 2, .int .u8 65, .int .u8 0, .int .u8 0] 5)) := (Below.refl _ w1).alloc (Nat.le_refl _) _
  have hz2 : (w1.alloc (.cells #[.int .u8 2, .int .u8 65, .int .u8 0, .int .u8 0] 5)).heap.size = w1.heap.size + 1 := by simp
  generalize hw2 : w1.alloc (.cells #[.int .u8 2, .int .u8 65, .int .u8 0, .int .u8 0] 5) = w2 at hs2 hb2 hz2
  have HW2 := Lib.hid hw2
  have hop := open_any 0 9 3 (some ⟨w1.heap.size, 0, none⟩) 4 4 [2, 65, 0, 0] w2 hs2 (by omega) (by decide) data0_reads
  rw [ex_data] at hop
  have HOP := Lib.hid hop
  have HB2 := Lib.hid hb2
  clear hw2 hs2 hop hb1 hB1 hb0 ho1 hN1 HW0 HS0 hz0 hb2
  go_wp2_with fail
  rw [HW2.out]
  refine HOP.out.mono ?_
  rintro e w3 ⟨hb3, J, a3, N3, c3, rfl, hJ, hS3, ho3⟩
  have hB3 : Below w.heap.size w w3 := HB1.out.trans ((HB2.out.trans (hb3.mono (by omega))).mono hz1)
  have HO3 := Lib.hid (sl_own ho3)
  have hb13 : Below w1.heap.size w1 w3 := HB2.out.trans (hb3.mono (by omega))
  have HP3 := Lib.hid (HO1.out.kept hb13)
  have HB3 := Lib.hid hB3
  have hz3 := hB3.size
  have HSV := Lib.hid hS3.one
  have HDV : Hid (J.dv.oneCell' = true) := Lib.hid (by rw [hJ]; rfl)
  have HI3 := Lib.hid (ib_new w3 (iv0 0 0 0))
  have HJ := Lib.hid hJ
  have HX3 := Lib.hid ((Below.refl w3.heap.size w3).alloc (Nat.le_refl _) (.cells #[.int .i64 0, .int .i64 0, .int .i64 0, .bool false, .bool false, .bool false, .bool false, .bool false, .bool false, .int .i64 0, .int .i64 0, .int .i64 0, .int .i64 0, .int .i64 0, .int .i64 0, .int .i64 0, .slice none 0 0, .slice none 0 0] 47))
  have HZ3 : Hid ((w3.alloc (.cells #[.int .i64 0, .int .i64 0, .int .i64 0, .bool false, .bool false, .bool false, .bool false, .bool false, .bool false, .int .i64 0, .int .i64 0, .int .i64 0, .int .i64 0, .int .i64 0, .int .i64 0, .int .i64 0, .slice none 0 0, .slice none 0 0] 47)).heap.size = w3.heap.size + 1) := Lib.hid (by simp)
  clear hb3 hJ hS3 ho3 hb13 hB3 HOP HW2 HO1 HB1 HB2 hz2
  have HDV3 : Hid (J.dv = .slice a3 N3 c3) := Lib.hid (by rw [HJ.out])
  have HE3 : Hid (J.en = true ∧ J.pad = 2) := Lib.hid (by rw [HJ.out]; exact ⟨rfl, rfl⟩)
  go_wp2_with (refine wp_store_info rfl _ _ rfl w3.heap.size (iv0 0 0 0) J HI3.out rfl rfl HSV.out HDV.out ?_; intro w4 hI4 hk4 hz4; (have HI4 := Lib.hid hI4); (have HK4 := Lib.hid hk4); (have HZ4 := Lib.hid hz4); clear hI4 hk4 hz4)
  have hb34 : Below w3.heap.size w3 w4 := HX3.out.trans (HK4.out.below (Nat.le_refl _) (by have := HZ3.out; omega))
  have HB4 := Lib.hid (HB3.out.trans (hb34.mono hz3))
  have HP4 := Lib.hid (HP3.out.kept hb34)
  have HO4 := Lib.hid (HO3.out.kept hb34)
  have hql : w3.heap.size < w4.heap.size := HI4.out.lt
  generalize hq : w3.heap.size = q at HI4 hql
  clear hb34 HX3 HK4 HZ3 HB3 HP3 HO3 HI3 HSV HDV HZ4 hq hz3 HJ
  have hs5 := sl_lit w4 #[.int .u8 0, .int .u8 0, .int .u8 0, .int .u8 0] [0, 0, 0, 0] rfl (by decide)
  have hb5 : Below w4.heap.size w4 (w4.alloc (.cells #[.int .u8 0, .int .u8 0, .int .u8 0, .int .u8 0] 5)) := (Below.refl _ w4).alloc (Nat.le_refl _) _
  have hz5 : (w4.alloc (.cells #[.int .u8 0, .int .u8 0, .int .u8 0, .int .u8 0] 5)).heap.size = w4.heap.size + 1 := by simp
  generalize hw5 : w4.alloc (.cells #[.int .u8 0, .int .u8 0, .int .u8 0, .int .u8 0] 5) = w5 at hs5 hb5 hz5
  have HW5 := Lib.hid hw5
  have hop := open_any 8 0 5 (some ⟨w4.heap.size, 0, none⟩) 4 4 [0, 0, 0, 0] w5 hs5 (by omega) (by decide) window_reads
  rw [ex_window] at hop
  have HOP := Lib.hid hop
  have HB5 := Lib.hid hb5
  clear hw5 hs5 hop hb5
  go_wp2_with fail
  try rw [HW5.out]
  refine HOP.out.mono ?_
  rintro e w6 ⟨hb6, v, rfl, hv⟩
  have hb46 : Below w4.heap.size w4 w6 := HB5.out.trans (hb6.mono (by omega))
  have HV := Lib.hid hv
  have HB6 := Lib.hid (HB4.out.trans (hb46.mono HB4.out.size))
  have HP6 := Lib.hid (HP4.out.kept hb46)
  have HO6 := Lib.hid (HO4.out.kept hb46)
  have HI6 := Lib.hid (HI4.out.old hb46)
  have hz6 := hb46.size
  have HIN := Lib.hid (ib_new w6 (iv0 0 0 0))
  have HX6 := Lib.hid ((Below.refl w6.heap.size w6).alloc (Nat.le_refl _) (.cells #[.int .i64 0, .int .i64 0, .int .i64 0, .bool false, .bool false, .bool false, .bool false, .bool false, .bool false, .int .i64 0, .int .i64 0, .int .i64 0, .int .i64 0, .int .i64 0, .int .i64 0, .int .i64 0, .slice none 0 0, .slice none 0 0] 47))
  have HZ6 : Hid ((w6.alloc (.cells #[.int .i64 0, .int .i64 0, .int .i64 0, .bool false, .bool false, .bool false, .bool false, .bool false, .bool false, .int .i64 0, .int .i64 0, .int .i64 0, .int .i64 0, .int .i64 0, .int .i64 0, .int .i64 0, .slice none 0 0, .slice none 0 0] 47)).heap.size = w6.heap.size + 1) := Lib.hid (by simp)
  clear hb6 hv hb46 HOP HW5 HB5 HB4 HP4 HO4 HI4 hz5
  go_wp2_with (refine wp_store_info rfl _ _ rfl w6.heap.size (iv0 0 0 0) (iv0 0 0 0) HIN.out rfl rfl rfl rfl ?_; intro w7 hI7 hk7 hz7; (have HK7 := Lib.hid hk7); clear hI7 hk7 hz7)
  go_upto_region 4 with fail
  have hb67 : Below w6.heap.size w6 w7 := HX6.out.trans (HK7.out.below (Nat.le_refl _) (by have := HZ6.out; omega))
  have HB7 := Lib.hid (HB6.out.trans (hb67.mono HB6.out.size))
  have HP7 := Lib.hid (HP6.out.kept hb67)
  have HO7 := Lib.hid (HO6.out.kept hb67)
  have HI7 := Lib.hid (HI6.out.old hb67)
  have HV7 := Lib.hid (HV.out.kept hb67)
  clear HX6 HK7 HZ6 HB6 HP6 HO6 HI6 HV HIN hb67 hz6
  have hs8 := sl_lit w7 #[.int .u8 0, .int .u8 0, .int .u8 8, .int .u8 6, .int .u8 1, .int .u8 0, .int .u8 0, .int .u8 0, .int .u8 0, .int .u8 1, .int .u8 2, .int .u8 3, .int .u8 4, .int .u8 5, .int .u8 6, .int .u8 7, .int .u8 8] [0, 0, 8, 6, 1, 0, 0, 0, 0, 1, 2, 3, 4, 5, 6, 7, 8] rfl (by decide)
  have hb8 : Below w7.heap.size w7 (w7.alloc (.cells #[.int .u8 0, .int .u8 0, .int .u8 8, .int .u8 6, .int .u8 1, .int .u8 0, .int .u8 0, .int .u8 0, .int .u8 0, .int .u8 1, .int .u8 2, .int .u8 3, .int .u8 4, .int .u8 5, .int .u8 6, .int .u8 7, .int .u8 8] 5)) := (Below.refl _ w7).alloc (Nat.le_refl _) _
  generalize hw8 : w7.alloc (.cells #[.int .u8 0, .int .u8 0, .int .u8 8, .int .u8 6, .int .u8 1, .int .u8 0, .int .u8 0, .int .u8 0, .int .u8 0, .int .u8 1, .int .u8 2, .int .u8 3, .int .u8 4, .int .u8 5, .int .u8 6, .int .u8 7, .int .u8 8] 5) = w8 at hs8 hb8
  have hsm := same_any _ _ _ _ _ _ _ _ w8 (HP7.out.kept hb8) hs8
  rw [ex_put] at hsm
  have HSM := Lib.hid hsm
  have HW8 := Lib.hid hw8
  have HB8 := Lib.hid (HB7.out.trans (hb8.mono HB7.out.size))
  have HO8 := Lib.hid (HO7.out.kept hb8)
  have HI8 := Lib.hid (HI7.out.old hb8)
  have HV8 := Lib.hid (HV7.out.kept hb8)
  clear hs8 hb8 hw8 hsm HB7 HP7 HO7 HI7 HV7
  go_wp2_with fail
  try rw [HW8.out]
  refine HSM.out.mono ?_
  rintro e w' ⟨rfl, rfl⟩
  have c3 := HI8.out.c 3 _ rfl
  have c9 := HI8.out.c 9 _ rfl
  have c17 := HI8.out.c 17 _ rfl
  rw [HE3.out.1] at c3
  rw [HE3.out.2] at c9
  rw [HDV3.out] at c17
  have hcv := sl_conv HO8.out
  clear HSM HW8
  go_wp2_with fail
  refine (ofH2_any 1 5 w8).mono ?_
  rintro e w9 ⟨rfl, hb9⟩
  have hse := sameErr_any v 99 1 5 99 1 5 w9 ((seenF_h2 HV8.out).later hb9)
  rw [show ((99 : Int) == 99 && (1 : Int) == 1 && (5 : Int) == 5) = true by decide] at hse
  have HSE := Lib.hid hse
  have HB9 := Lib.hid (HB8.out.trans (hb9.mono HB8.out.size))
  clear hse hb9
  go_wp2_with fail
  refine HSE.out.mono ?_
  rintro e w10 ⟨rfl, hb10⟩
  have HB10 := Lib.hid (HB9.out.trans (hb10.mono HB9.out.size))
  clear hb10 HSE
  go_wp2_with fail
  refine (preface_any w10).mono ?_
  rintro e w11 ⟨⟨ap, cp, rfl⟩, hb11⟩
  have HB11 := Lib.hid (HB10.out.trans (hb11.mono HB10.out.size))
  clear hb11
  go_wp2_with fail
  go_ret
  exact ⟨rfl, HB11.out⟩
end Go.Proofs.YtefdkbdblocikaaDoor
