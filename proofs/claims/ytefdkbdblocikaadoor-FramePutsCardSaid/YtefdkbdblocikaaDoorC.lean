/-
  CONTRACTS: Put refused; the document's Put.
-/
import Derived.Test.YtefdkbdblocikaaDoorB
namespace Go.Proofs.YtefdkbdblocikaaDoor
open Go.RowKit Hu

set_option maxRecDepth 100000 in
set_option maxHeartbeats 2000000 in
theorem put_no (a : Option Addr) (n c : Nat) (ty fl st : Int) (pa : Option Addr) (pn pc : Nat) (ev : Value) (w : World) (hf : ¬ Fits ty fl st) (hE : w.cell? ⟨0, 0, none⟩ = some ev) :
    Calls Tryd.prog 11 #[.slice a n c, frV ty fl st pa pn pc] w fun e w' => e = .returned (.tuple #[.slice none 0 0, ev]) ∧ Below w.heap.size w w' := by
  have hb0 : Below w.heap.size w (w.alloc (.cells #[.int .i64 ty, .int .i64 fl, .int .i64 st, .slice pa pn pc] 24)) := (Below.refl _ w).alloc (Nat.le_refl _) _
  have HF := Lib.hid (fits_any ty fl st pa pn pc (w.alloc (.cells #[.int .i64 ty, .int .i64 fl, .int .i64 st, .slice pa pn pc] 24)))
  have hft : decide (Fits ty fl st) = false := decide_eq_false hf
  have HT := Lib.hid hft
  have hlt := Hu.cell_lt hE
  simp only at hlt
  have HE := Lib.hid hE
  clear hf hft hE
  go_enter Tryd.func11, Tryd.ntmps11
  go_wp2_with fail
  refine HF.out.mono ?_
  rintro e w1 ⟨rfl, hb1⟩
  rw [HT.out]
  have hB1 : Below w.heap.size w w1 := hb0.trans (hb1.mono (by simp))
  have hE1 := (hB1.cell (p := ⟨0, 0, none⟩) hlt).trans HE.out
  clear hb0 hb1 HF
  go_wp2_with fail
  go_quiet (fail)
  all_goals go_wp2_with fail
  all_goals go_ret2
  all_goals exact ⟨rfl, Hu.bdN hB1 _⟩

set_option maxRecDepth 100000 in
set_option maxHeartbeats 2000000 in
/-- The document's Put. -/
theorem dput_yes (ty fl st : Int) (pa : Option Addr) (pn pc : Nat) (l : List UInt8) (w : World) (hp : Sl w pa pn pc l) (hf : Fits ty fl st) (hl : pn < 16777216) :
    Calls Tryd.prog 12 #[frV ty fl st pa pn pc] w fun e w' => ∃ ad N C, e = .returned (.tuple #[.slice ad N C, .int .i64 0]) ∧ Hid (N = (putB ty fl st l).length) ∧ Hu.Own w' w.heap.size (.slice ad N C) (putB ty fl st l) ∧ Below w.heap.size w w' := by
  have hb0 : Below w.heap.size w (w.alloc (.cells #[.int .i64 ty, .int .i64 fl, .int .i64 st, .slice pa pn pc] 24)) := (Below.refl _ w).alloc (Nat.le_refl _) _
  have hF0 := fb_new w ty fl st pa pn pc
  have hz0 : (w.alloc (.cells #[.int .i64 ty, .int .i64 fl, .int .i64 st, .slice pa pn pc] 24)).heap.size = w.heap.size + 1 := by simp
  generalize hw0 : w.alloc (.cells #[.int .i64 ty, .int .i64 fl, .int .i64 st, .slice pa pn pc] 24) = w0 at hb0 hF0 hz0
  have HW0 := Lib.hid hw0
  have HPL := Lib.hid hp.len
  have HPW := Lib.hid hp
  obtain ⟨f0, f1, f2, f3⟩ := hF0
  have HF0 : Hid (Fb w0 w.heap.size ty fl st pa pn pc) := Lib.hid ⟨f0, f1, f2, f3⟩
  have HB0 := Lib.hid hb0
  generalize hp' : w.heap.size = p at f0 f1 f2 f3 HF0 hz0
  have HP := Lib.hid hp'
  obtain ⟨t0, t1, l0, l1, s0, s1⟩ := hf
  have hlI : decide ((16777216 : Int) ≤ (pn : Int)) = false := decide_eq_false (by omega)
  have d0 : decide (ty < 0) = false := decide_eq_false (by omega)
  have d1 : decide (255 < ty) = false := decide_eq_false (by omega)
  have d2 : decide (fl < 0) = false := decide_eq_false (by omega)
  have d3 : decide (255 < fl) = false := decide_eq_false (by omega)
  have d4 : decide (st < 0) = false := decide_eq_false (by omega)
  have d5 : decide (2147483647 < st) = false := decide_eq_false (by omega)
  have hpn : pn ≤ 20000000 := by omega
  clear hp hb0 hp' hw0 hl t0 t1 l0 l1 s0 s1
  go_enter Tryd.func12, Tryd.ntmps12
  go_wp2_with fail
  rw [HW0.out, HP.out]
  refine (dbig_any (pn : Int) 3 (by omega) w0).mono ?_
  rintro e w4 ⟨ad4, N4, c4, rfl, hN4, ho4, hb4⟩
  have HO4 := Lib.hid (ho4.mono (show p + 1 ≤ w0.heap.size by omega))
  have HB4 := Lib.hid (hb4.mono (show p + 1 ≤ w0.heap.size by omega))
  have hz4 := HB4.out.size
  clear f0 f1 f2 f3 ho4 hb4 hN4 hlI d0 d1 d2 d3 d4 d5
  obtain ⟨f0, f1, f2, f3⟩ := HF0.out.kept HB4.out (by omega)
  have HT0 := Lib.hid (byte0_int ty)
  have HT1 := Lib.hid (byte0_int fl)
  go_wp2_with (at_builtin; refine wp_append_bytes rfl _ _ rfl _ (bigB (pn : Int) 3) [byteI ty 0, byteI fl 0] rfl (p + 1) (HO4.out.alloc _) (some ⟨w4.heap.size, 0, none⟩) 2 2 rfl (sl_new2 _ _ _ _ _ HT0.out HT1.out) (by rw [bigB_len]; omega) (by simp; omega) ?_; intro w5 ad5 N5 c5 hN5 hown5 hb5; (have HO5 := Lib.hid hown5); (have HB5 := Lib.hid ((HB4.out.alloc (by omega) _).trans hb5)); clear hown5 hb5 f0 f1 f2 f3; (obtain ⟨f0, f1, f2, f3⟩ := HF0.out.kept HB5.out (by omega)))
  have hz5 := HB5.out.size
  refine (dbig_any st 4 (by omega) w5).mono ?_
  rintro e w6 ⟨ad6, N6, c6, rfl, hN6, ho6, hb6⟩
  have hN6' := hN6.out
  rw [bigB_len] at hN6'
  subst hN6'
  have HO6 := Lib.hid (HO5.out.kept hb6)
  have HS6 := Lib.hid (sl_own ho6)
  have HB6 := Lib.hid (HB5.out.trans (hb6.mono (show p + 1 ≤ w5.heap.size by omega)))
  have hz6 := HB6.out.size
  clear f0 f1 f2 f3 ho6 hb6 HO5 HB5 hz5 hN6 HO4 HB4 hz4 HT0 HT1 hN5
  obtain ⟨f0, f1, f2, f3⟩ := HF0.out.kept HB6.out (by omega)
  have hl6 : (bigB (pn : Int) 3 ++ [byteI ty 0, byteI fl 0]).length = 5 := by simp [bigB_len]
  have HL6 := Lib.hid hl6
  clear hl6
  go_wp2_with (first | (at_builtin; refine wp_append_bytes rfl _ _ rfl _ (bigB (pn : Int) 3 ++ [byteI ty 0, byteI fl 0]) (bigB st 4) rfl (p + 1) HO6.out ad6 4 c6 rfl HS6.out (by have := HL6.out; omega) (by omega) ?_; intro w7 ad7 N7 c7 hN7 hown7 hb7; (have HO7 := Lib.hid hown7); (have HB7 := Lib.hid (HB6.out.trans hb7)); (have hz7 := HB7.out.size); clear hown7 hb7 f0 f1 f2 f3; (obtain ⟨f0, f1, f2, f3⟩ := HF0.out.kept HB7.out (by omega)); (have HBW : Hid (Below w.heap.size w w7) := Lib.hid (HB0.out.trans (HB7.out.mono (by rw [HP.out]; omega)))); (have HS7 := Lib.hid (HPW.out.kept HBW.out))) | (at_builtin; refine wp_append_bytes rfl _ _ rfl _ (bigB (pn : Int) 3 ++ [byteI ty 0, byteI fl 0] ++ bigB st 4) l rfl (p + 1) HO7.out pa pn pc rfl HS7.out (by have := HL6.out; rw [List.length_append, bigB_len]; omega) (by omega) ?_; intro w8 ad8 N8 c8 hN8 hown8 hb8; (have HO8 := Lib.hid hown8); (have HB8 := Lib.hid (HB7.out.trans hb8)); clear hown8 hb8 f0 f1 f2 f3))
  go_ret2
  have e : bigB (pn : Int) 3 ++ [byteI ty 0, byteI fl 0] ++ bigB st 4 ++ l = putB ty fl st l := by simp only [putB, HPL.out, List.append_assoc]
  rw [e] at HO8 hN8
  have hB8 : Below w.heap.size w w8 := HB0.out.trans (HB8.out.mono (by rw [HP.out]; omega))
  rw [HP.out] at hB8
  exact ⟨_, _, _, rfl, hN8, HO8.out.mono (by omega), hB8⟩
set_option maxRecDepth 100000 in
set_option maxHeartbeats 2000000 in
theorem dput_no (ty fl st : Int) (pa : Option Addr) (pn pc : Nat) (w : World) (hf : ¬ Fits ty fl st) :
    Calls Tryd.prog 12 #[frV ty fl st pa pn pc] w fun e w' => e = .returned (.tuple #[.slice none 0 0, .int .i64 111]) ∧ Below w.heap.size w w' := by
  have hb0 : Below w.heap.size w (w.alloc (.cells #[.int .i64 ty, .int .i64 fl, .int .i64 st, .slice pa pn pc] 24)) := (Below.refl _ w).alloc (Nat.le_refl _) _
  have HB0 := Lib.hid hb0
  have hcase : ty < 0 ∨ (¬ ty < 0 ∧ 255 < ty) ∨ (¬ ty < 0 ∧ ¬ 255 < ty ∧ fl < 0) ∨ (¬ ty < 0 ∧ ¬ 255 < ty ∧ ¬ fl < 0 ∧ 255 < fl) ∨ (¬ ty < 0 ∧ ¬ 255 < ty ∧ ¬ fl < 0 ∧ ¬ 255 < fl ∧ st < 0) ∨ (¬ ty < 0 ∧ ¬ 255 < ty ∧ ¬ fl < 0 ∧ ¬ 255 < fl ∧ ¬ st < 0 ∧ 2147483647 < st) := by
    unfold Fits at hf
    omega
  clear hf hb0
  rcases hcase with h0 | ⟨h0, h1⟩ | ⟨h0, h1, h2⟩ | ⟨h0, h1, h2, h3⟩ | ⟨h0, h1, h2, h3, h4⟩ | ⟨h0, h1, h2, h3, h4, h5⟩
  all_goals go_enter Tryd.func12, Tryd.ntmps12
  all_goals go_wp2_with fail
  all_goals go_ret2
  all_goals exact ⟨rfl, HB0.out⟩
end Go.Proofs.YtefdkbdblocikaaDoor
