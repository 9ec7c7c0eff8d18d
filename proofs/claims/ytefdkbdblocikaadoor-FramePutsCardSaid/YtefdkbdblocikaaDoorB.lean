/-
  CONTRACTS: Put, of the program and of the document.
-/
import Derived.Test.YtefdkbdblocikaaDoorA
import Derived.Deep.CutBlock
namespace Go.Proofs.YtefdkbdblocikaaDoor
open Go.RowKit Hu

/-- A frame as a value. -/
abbrev frV (ty fl st : Int) (a : Option Addr) (n c : Nat) : Value := .agg #[.int .i64 ty, .int .i64 fl, .int .i64 st, .slice a n c]
/-- The numbers ahead of a payload can be written. -/
def Fits (ty fl st : Int) : Prop := 0 ≤ ty ∧ ty ≤ 255 ∧ 0 ≤ fl ∧ fl ≤ 255 ∧ 0 ≤ st ∧ st ≤ 2147483647
instance (ty fl st : Int) : Decidable (Fits ty fl st) := by unfold Fits; infer_instance
/-- A frame's bytes. -/
def putB (ty fl st : Int) (l : List UInt8) : List UInt8 := bigB (l.length : Int) 3 ++ [byteI ty 0, byteI fl 0] ++ bigB st 4 ++ l

theorem within_any (n m : Int) (w : World) : Calls Tryd.prog 55 #[.int .i64 n, .int .i64 m] w fun e w' => e = .returned (.bool (decide (0 ≤ n ∧ n ≤ m))) ∧ w = w' := by
  by_cases h0 : 0 ≤ n
  · by_cases h1 : n ≤ m
    · go_enter Tryd.func55, Tryd.ntmps55
      go_wp2
      go_ret
      exact ⟨by simp [h0, h1], rfl⟩
    · go_enter Tryd.func55, Tryd.ntmps55
      go_wp2
      go_ret
      exact ⟨by simp [h0]; omega, rfl⟩
  · go_enter Tryd.func55, Tryd.ntmps55
    go_wp2
    go_ret
    exact ⟨by simp [h0]; omega, rfl⟩
set_option maxRecDepth 100000 in
theorem fits_any (ty fl st : Int) (a : Option Addr) (n c : Nat) (w : World) : Calls Tryd.prog 31 #[frV ty fl st a n c] w fun e w' => e = .returned (.bool (decide (Fits ty fl st))) ∧ Below w.heap.size w w' := by
  have hB : Below w.heap.size w (w.alloc (.cells #[.int .i64 ty, .int .i64 fl, .int .i64 st, .slice a n c] 24)) := (Below.refl _ w).alloc (Nat.le_refl _) _
  by_cases h0 : 0 ≤ ty ∧ ty ≤ 255
  · by_cases h1 : 0 ≤ fl ∧ fl ≤ 255
    · go_enter Tryd.func31, Tryd.ntmps31
      go_wp2_with fail
      refine (within_any _ _ _).mono ?_
      rintro e w' ⟨rfl, rfl⟩
      simp only [h0, and_self, decide_true]
      go_wp2_with fail
      refine (within_any _ _ _).mono ?_
      rintro e w' ⟨rfl, rfl⟩
      simp only [h1, and_self, decide_true]
      go_wp2_with fail
      refine (within_any _ _ _).mono ?_
      rintro e w' ⟨rfl, rfl⟩
      go_wp2_with fail
      go_ret
      exact ⟨by simp [Fits, h0, h1], hB⟩
    · have h1' : ¬ Fits ty fl st := by unfold Fits; omega
      go_enter Tryd.func31, Tryd.ntmps31
      go_wp2_with fail
      refine (within_any _ _ _).mono ?_
      rintro e w' ⟨rfl, rfl⟩
      simp only [h0, and_self, decide_true]
      go_wp2_with fail
      refine (within_any _ _ _).mono ?_
      rintro e w' ⟨rfl, rfl⟩
      simp only [h1, decide_false]
      go_wp2_with fail
      go_ret
      exact ⟨by simp [h1'], hB⟩
  · have h1' : ¬ Fits ty fl st := by unfold Fits; omega
    go_enter Tryd.func31, Tryd.ntmps31
    go_wp2_with fail
    refine (within_any _ _ _).mono ?_
    rintro e w' ⟨rfl, rfl⟩
    simp only [h0, decide_false]
    go_wp2_with fail
    go_ret
    exact ⟨by simp [h1'], hB⟩
theorem byte0_int (n : Int) : n % 256 = ((byteI n 0).toNat : Int) := by
  have := byteI_int n 0
  simpa using this
/-- A frame in a box at block p. -/
structure Fb (w : World) (p : Nat) (ty fl st : Int) (a : Option Addr) (n c : Nat) : Prop where
  c0 : w.cell? ⟨p, 0, none⟩ = some (.int .i64 ty)
  c1 : w.cell? ⟨p, 1, none⟩ = some (.int .i64 fl)
  c2 : w.cell? ⟨p, 2, none⟩ = some (.int .i64 st)
  c3 : w.cell? ⟨p, 3, none⟩ = some (.slice a n c)
theorem Fb.lt {w : World} {p : Nat} {ty fl st : Int} {a : Option Addr} {n c : Nat} (h : Fb w p ty fl st a n c) : p < w.heap.size := Hu.cell_lt h.c0
theorem Fb.blk {w w' : World} {p : Nat} {ty fl st : Int} {a : Option Addr} {n c : Nat} (h : Fb w p ty fl st a n c) (hb : w'.heap[p]? = w.heap[p]?) : Fb w' p ty fl st a n c :=
  ⟨(World.cell?_of_block (a := ⟨p, 0, none⟩) hb).trans h.c0, (World.cell?_of_block (a := ⟨p, 1, none⟩) hb).trans h.c1, (World.cell?_of_block (a := ⟨p, 2, none⟩) hb).trans h.c2, (World.cell?_of_block (a := ⟨p, 3, none⟩) hb).trans h.c3⟩
theorem Fb.kept {w w' : World} {p : Nat} {ty fl st : Int} {a : Option Addr} {n c : Nat} (h : Fb w p ty fl st a n c) {B : Nat} (hb : Below B w w') (hp : p < B) : Fb w' p ty fl st a n c := h.blk (hb.block p hp)
theorem fb_new (w : World) (ty fl st : Int) (a : Option Addr) (n c : Nat) : Fb (w.alloc (.cells #[.int .i64 ty, .int .i64 fl, .int .i64 st, .slice a n c] 24)) w.heap.size ty fl st a n c := ⟨by simp, by simp, by simp, by simp⟩

set_option maxRecDepth 100000 in
set_option maxHeartbeats 4000000 in
theorem put_yes (a : Option Addr) (n c : Nat) (b : List UInt8) (ty fl st : Int) (pa : Option Addr) (pn pc : Nat) (l : List UInt8) (w : World) (hs : Sl w a n c b) (hp : Sl w pa pn pc l) (hn : n ≤ 1000000) (hf : Fits ty fl st) (hl : pn < 16777216) :
    Calls Tryd.prog 11 #[.slice a n c, frV ty fl st pa pn pc] w fun e w' => ∃ ad N C, e = .returned (.tuple #[.slice ad N C, .nilIface]) ∧ Hid (N = (b ++ putB ty fl st l).length) ∧ Hu.Own w' w.heap.size (.slice ad N C) (b ++ putB ty fl st l) ∧ Below w.heap.size w w' := by
  have hb0 : Below w.heap.size w (w.alloc (.cells #[.int .i64 ty, .int .i64 fl, .int .i64 st, .slice pa pn pc] 24)) := (Below.refl _ w).alloc (Nat.le_refl _) _
  have hF0 := fb_new w ty fl st pa pn pc
  have hz0 : (w.alloc (.cells #[.int .i64 ty, .int .i64 fl, .int .i64 st, .slice pa pn pc] 24)).heap.size = w.heap.size + 1 := by simp
  generalize hw0 : w.alloc (.cells #[.int .i64 ty, .int .i64 fl, .int .i64 st, .slice pa pn pc] 24) = w0 at hb0 hF0 hz0
  have HW0 := Lib.hid hw0
  have HBL := Lib.hid hs.len
  have HPL := Lib.hid hp.len
  have hs0 := Lib.hid (hs.kept hb0)
  have hp0 := Lib.hid (hp.kept hb0)
  have HPW := Lib.hid hp
  have HF := Lib.hid (fits_any ty fl st pa pn pc w0)
  have hft : decide (Fits ty fl st) = true := by simpa using hf
  have HT := Lib.hid hft
  obtain ⟨f0, f1, f2, f3⟩ := hF0
  have HF0 : Hid (Fb w0 w.heap.size ty fl st pa pn pc) := Lib.hid ⟨f0, f1, f2, f3⟩
  have HB0 := Lib.hid hb0
  generalize hp' : w.heap.size = p at f0 f1 f2 f3 HF0 hz0
  have HP := Lib.hid hp'
  have hlI : decide ((16777216 : Int) ≤ (pn : Int)) = false := decide_eq_false (by omega)
  have HLL := Lib.hid hl
  have hpn : pn ≤ 20000000 := by omega
  clear hs hp hf hft hb0 hp' hw0 hl
  go_enter Tryd.func11, Tryd.ntmps11
  go_wp2_with fail
  rw [HW0.out, HP.out]
  refine HF.out.mono ?_
  rintro e w1 ⟨rfl, hb1⟩
  rw [HT.out]
  have hs1 := Lib.hid (hs0.out.kept hb1)
  have hp1 := Lib.hid (hp0.out.kept hb1)
  have HF1 := Lib.hid (HF0.out.kept hb1 (by omega))
  have hB1 : Below w.heap.size w w1 := HB0.out.trans (hb1.mono (by rw [HP.out]; omega))
  have HB1 := Lib.hid hB1
  have hz1 := hb1.size
  obtain ⟨f0, f1, f2, f3⟩ := HF1.out
  clear HF HF0 hs0 hp0 HB0 hb1 hB1 HT
  generalize hq : w1.heap.size = q at hz1
  have HQ := Lib.hid hq
  clear hq
  go_wp2_with (first | (at_make; refine wp_make_bytes rfl _ _ rfl _ rfl rfl (by omega) (by omega) (p + 1) (by rw [HQ.out]; omega) ?_; intro w2 ad2 hown2 hb2; (have HO2 := Lib.hid hown2); (have HB2 := Lib.hid (hb2.mono (show p + 1 ≤ w1.heap.size by rw [HQ.out]; omega))); (have hs2 := Lib.hid (hs1.out.kept hb2)); clear hown2 hb2) | (at_builtin; refine wp_append_bytes rfl _ _ rfl _ [] b rfl (p + 1) HO2.out a n c rfl hs2.out (by simp; omega) (by have := HB2.out.size; rw [HQ.out] at this; omega) ?_; intro w3 ad3 N3 c3 hN3 hown3 hb3; (have HO3 := Lib.hid hown3); (have HB3 := Lib.hid (HB2.out.trans hb3)); clear hown3 hb3 f0 f1 f2 f3; (obtain ⟨f0, f1, f2, f3⟩ := HF1.out.kept HB3.out (by omega))))
  have hz3 := HB3.out.size
  rw [HQ.out] at hz3
  clear HO2 HB2 hs2 hN3
  rw [List.nil_append] at HO3
  refine (addNumber_any (p + 1) ad3 N3 c3 b (pn : Int) 3 (by omega) w3 HO3.out (by omega) (by rw [HBL.out]; omega)).mono ?_
  rintro e w4 ⟨ad4, N4, c4, rfl, hN4, ho4, hb4⟩
  have HO4 := Lib.hid ho4
  have HB4 := Lib.hid (HB3.out.trans hb4)
  have hz4 := HB4.out.size
  rw [HQ.out] at hz4
  clear f0 f1 f2 f3 ho4 hb4 HO3 HB3 hz3 hN4
  obtain ⟨f0, f1, f2, f3⟩ := HF1.out.kept HB4.out (by omega)
  have HT0 := Lib.hid (byte0_int ty)
  have HT1 := Lib.hid (byte0_int fl)
  go_wp2_with (at_builtin; refine wp_append_bytes rfl _ _ rfl _ (b ++ bigB (pn : Int) 3) [byteI ty 0, byteI fl 0] rfl (p + 1) (HO4.out.alloc _) (some ⟨w4.heap.size, 0, none⟩) 2 2 rfl (sl_new2 _ _ _ _ _ HT0.out HT1.out) (by rw [List.length_append, bigB_len, HBL.out]; omega) (by simp; omega) ?_; intro w5 ad5 N5 c5 hN5 hown5 hb5; (have HO5 := Lib.hid hown5); (have HB5 := Lib.hid ((HB4.out.alloc (by omega) _).trans hb5)); clear hown5 hb5 f0 f1 f2 f3; (obtain ⟨f0, f1, f2, f3⟩ := HF1.out.kept HB5.out (by omega)))
  have hz5 := HB5.out.size
  rw [HQ.out] at hz5
  have hl5 : (b ++ bigB (pn : Int) 3 ++ [byteI ty 0, byteI fl 0]).length ≤ 1000005 := by simp only [List.length_append, bigB_len, HBL.out, List.length_cons, List.length_nil]; omega
  refine (addNumber_any (p + 1) ad5 N5 c5 (b ++ bigB (pn : Int) 3 ++ [byteI ty 0, byteI fl 0]) st 4 (by omega) w5 HO5.out (by omega) (by omega)).mono ?_
  rintro e w6 ⟨ad6, N6, c6, rfl, hN6, ho6, hb6⟩
  have HO6 := Lib.hid ho6
  have HB6 := Lib.hid (HB5.out.trans hb6)
  have hz6 := HB6.out.size
  rw [HQ.out] at hz6
  clear f0 f1 f2 f3 ho6 hb6 HO5 HB5 hz5 hN6 HO4 HB4 hz4 HT0 HT1 hN5
  obtain ⟨f0, f1, f2, f3⟩ := HF1.out.kept HB6.out (by omega)
  have HBW : Hid (Below w.heap.size w w6) := Lib.hid (HB1.out.trans (HB6.out.mono (by rw [HP.out]; omega)))
  have hl6 : (b ++ bigB (pn : Int) 3 ++ [byteI ty 0, byteI fl 0] ++ bigB st 4).length ≤ 1000010 := by rw [List.length_append, bigB_len]; omega
  have HL6 := Lib.hid hl6
  have hp6 := Lib.hid (HPW.out.kept HBW.out)
  clear hl5 hl6
  go_wp2_with (at_builtin; refine wp_append_bytes rfl _ _ rfl _ (b ++ bigB (pn : Int) 3 ++ [byteI ty 0, byteI fl 0] ++ bigB st 4) l rfl (p + 1) HO6.out pa pn pc rfl hp6.out (by have := HL6.out; omega) (by omega) ?_; intro w7 ad7 N7 c7 hN7 hown7 hb7; (have HO7 := Lib.hid hown7); (have HB7 := Lib.hid (HB6.out.trans hb7)); clear hown7 hb7 f0 f1 f2 f3)
  go_ret2
  have e : b ++ bigB (pn : Int) 3 ++ [byteI ty 0, byteI fl 0] ++ bigB st 4 ++ l = b ++ putB ty fl st l := by simp only [putB, HPL.out, List.append_assoc]
  rw [e] at HO7 hN7
  have hB7 : Below w.heap.size w w7 := HB1.out.trans (HB7.out.mono (by rw [HP.out]; omega))
  rw [HP.out] at hB7
  exact ⟨_, _, _, rfl, hN7, HO7.out.mono (by omega), hB7⟩
end Go.Proofs.YtefdkbdblocikaaDoor
