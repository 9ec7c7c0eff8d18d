/-
  THE LAW FlowSum: its walk.
-/
import Derived.Test.YtfgceakoakcccaaDoorE
namespace Go.Proofs.YtfgceakoakcccaaDoor
open Go.RowKit

/-- The rounds over the calls. -/
def SuR (n A : Nat) (w : World) (s8 s9 : Value) (wr : World) : Prop := ∃ (i : Nat) (x : Int), s8 = .int .i64 x ∧ s9 = .int .i64 (i : Int) ∧ i ≤ n ∧ Ok x ∧ Wi wr A x ∧ Below w.heap.size w wr
set_option maxRecDepth 100000 in
set_option maxHeartbeats 4000000 in
theorem sum_any (x0 : Int) (a1 : Option Addr) (n1 c1 : Nat) (L1 : List Cal) (w : World) (en ew : Addr) (hE : Er w en ew) (h1 : Cs w a1 n1 L1) :
    Calls Tryd.prog 5 #[.int .i64 x0, .slice a1 n1 c1] w fun e w' => e = .returned (.bool true) ∧ Below w.heap.size w w' := by
  have HF := Lib.hid (first_any w en ew hE)
  have HE := Lib.hid (fun w' (h : Below w.heap.size w w') => hE.below h)
  have H1 := Lib.hid h1
  have HL1 := Lib.hid h1.len
  clear hE h1
  go_enter Tryd.func5, Tryd.ntmps5
  go_wp2_with fail
  refine HF.out.mono ?_
  rintro e w1 ⟨rfl, hb1⟩
  have HB1 := Lib.hid hb1
  clear hb1 HF
  by_cases hx : x0 < 0 ∨ 2147483647 < x0
  · have HN := Lib.hid (new_no x0 hx w1 en ew (HE.out w1 HB1.out))
    clear hx
    go_wp2_with fail
    refine HN.out.mono ?_
    rintro e w2 ⟨rfl, hb2⟩
    go_wp2_with fail
    go_ret
    exact ⟨rfl, HB1.out.trans (hb2.mono HB1.out.size)⟩
  have HN := Lib.hid (new_yes x0 (by omega) w1)
  have hok : Ok x0 := by unfold Ok; omega
  clear hx
  go_wp2_with fail
  refine HN.out.mono ?_
  rintro e w2 ⟨rfl, ha2, hb2⟩
  have hB2 : Below w.heap.size w w2 := HB1.out.trans (hb2.mono HB1.out.size)
  have hwA := HB1.out.size
  generalize w1.heap.size = A at ha2 hwA ⊢
  clear HN hb2 HB1
  by_cases hn : 200 < n1
  · have hd : decide ((200 : Int) < (n1 : Int)) = true := by simp; omega
    go_wp2_with fail
    go_ret
    exact ⟨rfl, hB2⟩
  have hd : decide ((200 : Int) < (n1 : Int)) = false := by simp; omega
  go_wp2_with fail
  go_loopw [8, 9] (fun s8 s9 wr => SuR n1 A w s8 s9 wr) (fun _ s9 _ => n1 - (intOf s9).toNat)
  case atStart => exact ⟨0, x0, rfl, rfl, by omega, hok, ha2, hB2⟩
  case round =>
    clear ha2 hB2 hok
    obtain ⟨i, x, rfl, rfl, hin, hok, hA, hB⟩ := hrel
    by_cases hlt : i < n1
    · obtain ⟨b, o, rfl, e0, e1, e2⟩ := (H1.out.kept hB).row i (by rw [HL1.out]; exact hlt)
      generalize hC : L1[i]'(by rw [HL1.out]; exact hlt) = C at e0 e1 e2
      clear hC
      have hia : (0 : Int) ≤ (i : Int) := by omega
      have hib : (i : Int) < (n1 : Int) := by omega
      have HB := Lib.hid hB
      have HOK := Lib.hid hok
      clear hB
      have fin : ∀ (y : Int) (w5 : World), Ok y → Wi w5 A y → Kp [A] wr w5 → (decide (2147483647 < y) = false) ∧ Below w.heap.size w w5 := fun y w5 h5 _ hk5 => by
        refine ⟨by unfold Ok at h5; simp; omega, HB.out.trans (hk5.below (by simpa using hwA) HB.out.size)⟩
      have FIN := Lib.hid fin
      clear fin
      by_cases hk : C.kind = 1
      · have hkb : ((C.kind : Int) == 1) = true := by rw [hk]; rfl
        clear hk
        have HT := Lib.hid (take_any hA hok C.num en ew (HE.out wr HB.out))
        have h3 := tk_three (n := C.num) hok
        clear hA hok
        go_wp2_with fail
        refine HT.out.mono ?_
        clear HT
        rcases h3 with h3 | h3 | ⟨h3, hok'⟩
        · rw [h3]
          simp only [erV1]
          rintro e w5 ⟨rfl, hA5, hk5⟩
          obtain ⟨hle, hB5⟩ := FIN.out x w5 HOK.out hA5 hk5
          have HLF := Lib.hid (left_any hA5)
          have HA5 := Lib.hid hA5
          have HB5 := Lib.hid hB5
          clear hA5 hk5 hB5 FIN h3
          go_wp2_with fail
          refine HLF.out.mono ?_
          rintro e w' ⟨rfl, rfl⟩
          go_wp2_with fail
          exact ⟨⟨i + 1, x, rfl, by go_num, by omega, HOK.out, HA5.out, HB5.out⟩, by simp [intOf]; omega⟩
        · rw [h3]
          simp only [erV2]
          rintro e w5 ⟨rfl, hA5, hk5⟩
          obtain ⟨hle, hB5⟩ := FIN.out x w5 HOK.out hA5 hk5
          have HLF := Lib.hid (left_any hA5)
          have HA5 := Lib.hid hA5
          have HB5 := Lib.hid hB5
          clear hA5 hk5 hB5 FIN h3
          go_wp2_with fail
          refine HLF.out.mono ?_
          rintro e w' ⟨rfl, rfl⟩
          go_wp2_with fail
          exact ⟨⟨i + 1, x, rfl, by go_num, by omega, HOK.out, HA5.out, HB5.out⟩, by simp [intOf]; omega⟩
        · rw [h3]
          simp only [erV0]
          rintro e w5 ⟨rfl, hA5, hk5⟩
          obtain ⟨hle, hB5⟩ := FIN.out (x - C.num) w5 hok' hA5 hk5
          have HLF := Lib.hid (left_any hA5)
          have HA5 := Lib.hid hA5
          have HB5 := Lib.hid hB5
          clear hA5 hk5 hB5 FIN h3
          have hz := hok'
          unfold Ok at hz
          go_wp2_with fail
          refine HLF.out.mono ?_
          rintro e w' ⟨rfl, rfl⟩
          go_wp2_with fail
          exact ⟨⟨i + 1, (x - C.num), rfl, by go_num, by omega, hok', HA5.out, HB5.out⟩, by simp [intOf]; omega⟩
      · have hkb : ((C.kind : Int) == 1) = false := by rw [beq_eq_false_iff_ne]; exact hk
        clear hk
        by_cases hk2 : C.kind = 2
        · have hkc : ((C.kind : Int) == 2) = true := by rw [hk2]; rfl
          clear hk2
          have HT := Lib.hid (give_any hA hok C.num en ew (HE.out wr HB.out))
          have h3 := gv_three (n := C.num) hok
          clear hA hok
          go_wp2_with fail
          refine HT.out.mono ?_
          clear HT
          rcases h3 with h3 | h3 | ⟨h3, hok'⟩
          · rw [h3]
            simp only [erV1]
            rintro e w5 ⟨rfl, hA5, hk5⟩
            obtain ⟨hle, hB5⟩ := FIN.out x w5 HOK.out hA5 hk5
            have HLF := Lib.hid (left_any hA5)
            have HA5 := Lib.hid hA5
            have HB5 := Lib.hid hB5
            clear hA5 hk5 hB5 FIN h3
            go_wp2_with fail
            refine HLF.out.mono ?_
            rintro e w' ⟨rfl, rfl⟩
            go_wp2_with fail
            exact ⟨⟨i + 1, x, rfl, by go_num, by omega, HOK.out, HA5.out, HB5.out⟩, by simp [intOf]; omega⟩
          · rw [h3]
            simp only [erV2]
            rintro e w5 ⟨rfl, hA5, hk5⟩
            obtain ⟨hle, hB5⟩ := FIN.out x w5 HOK.out hA5 hk5
            have HLF := Lib.hid (left_any hA5)
            have HA5 := Lib.hid hA5
            have HB5 := Lib.hid hB5
            clear hA5 hk5 hB5 FIN h3
            go_wp2_with fail
            refine HLF.out.mono ?_
            rintro e w' ⟨rfl, rfl⟩
            go_wp2_with fail
            exact ⟨⟨i + 1, x, rfl, by go_num, by omega, HOK.out, HA5.out, HB5.out⟩, by simp [intOf]; omega⟩
          · rw [h3]
            simp only [erV0]
            rintro e w5 ⟨rfl, hA5, hk5⟩
            obtain ⟨hle, hB5⟩ := FIN.out (x + C.num) w5 hok' hA5 hk5
            have HLF := Lib.hid (left_any hA5)
            have HA5 := Lib.hid hA5
            have HB5 := Lib.hid hB5
            clear hA5 hk5 hB5 FIN h3
            have hz := hok'
            unfold Ok at hz
            go_wp2_with fail
            refine HLF.out.mono ?_
            rintro e w' ⟨rfl, rfl⟩
            go_wp2_with fail
            exact ⟨⟨i + 1, (x + C.num), rfl, by go_num, by omega, hok', HA5.out, HB5.out⟩, by simp [intOf]; omega⟩
        · have hkc : ((C.kind : Int) == 2) = false := by rw [beq_eq_false_iff_ne]; exact hk2
          clear hk2
          have HT := Lib.hid (shift_any hA hok C.num en ew (HE.out wr HB.out))
          have h3 := sh_three (n := C.num) hok
          clear hA hok
          go_wp2_with fail
          refine HT.out.mono ?_
          clear HT
          rcases h3 with h3 | h3 | ⟨h3, hok'⟩
          · rw [h3]
            simp only [erV1]
            rintro e w5 ⟨rfl, hA5, hk5⟩
            obtain ⟨hle, hB5⟩ := FIN.out x w5 HOK.out hA5 hk5
            have HLF := Lib.hid (left_any hA5)
            have HA5 := Lib.hid hA5
            have HB5 := Lib.hid hB5
            clear hA5 hk5 hB5 FIN h3
            go_wp2_with fail
            refine HLF.out.mono ?_
            rintro e w' ⟨rfl, rfl⟩
            go_wp2_with fail
            exact ⟨⟨i + 1, x, rfl, by go_num, by omega, HOK.out, HA5.out, HB5.out⟩, by simp [intOf]; omega⟩
          · rw [h3]
            simp only [erV2]
            rintro e w5 ⟨rfl, hA5, hk5⟩
            obtain ⟨hle, hB5⟩ := FIN.out x w5 HOK.out hA5 hk5
            have HLF := Lib.hid (left_any hA5)
            have HA5 := Lib.hid hA5
            have HB5 := Lib.hid hB5
            clear hA5 hk5 hB5 FIN h3
            go_wp2_with fail
            refine HLF.out.mono ?_
            rintro e w' ⟨rfl, rfl⟩
            go_wp2_with fail
            exact ⟨⟨i + 1, x, rfl, by go_num, by omega, HOK.out, HA5.out, HB5.out⟩, by simp [intOf]; omega⟩
          · rw [h3]
            simp only [erV0]
            rintro e w5 ⟨rfl, hA5, hk5⟩
            obtain ⟨hle, hB5⟩ := FIN.out (x + C.num) w5 hok' hA5 hk5
            have HLF := Lib.hid (left_any hA5)
            have HA5 := Lib.hid hA5
            have HB5 := Lib.hid hB5
            clear hA5 hk5 hB5 FIN h3
            have hz := hok'
            unfold Ok at hz
            go_wp2_with fail
            refine HLF.out.mono ?_
            rintro e w' ⟨rfl, rfl⟩
            go_wp2_with fail
            exact ⟨⟨i + 1, (x + C.num), rfl, by go_num, by omega, hok', HA5.out, HB5.out⟩, by simp [intOf]; omega⟩
    · have hge : ¬ (i : Int) < (n1 : Int) := by omega
      go_wp2_with fail
      go_ret
      exact ⟨rfl, hB⟩
end Go.Proofs.YtfgceakoakcccaaDoor
