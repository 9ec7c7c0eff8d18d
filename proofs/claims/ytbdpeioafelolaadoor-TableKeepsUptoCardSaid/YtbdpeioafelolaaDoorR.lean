/-
  THE LAWS' first: the chapter's examples.
-/
import Derived.Test.YtbdpeioafelolaaDoorF
import Derived.Test.YtbdpeioafelolaaDoorD
namespace Go.Proofs.YtbdpeioafelolaaDoor
open Go.RowKit

abbrev exA : Hd := (⟨#[97]⟩, ⟨#[49]⟩)
abbrev exB : Hd := (⟨#[98]⟩, ⟨#[50]⟩)
abbrev exC : Hd := (⟨#[99]⟩, ⟨#[51]⟩)
abbrev exM : ByteArray := ⟨#[58, 109, 101, 116, 104, 111, 100]⟩
abbrev exP : ByteArray := ⟨#[80, 85, 84]⟩
theorem ex1 : addM 70 [] exA = [exA] := by decide +kernel
theorem ex2 : addM 70 [exA] exB = [exA, exB] := by decide +kernel
theorem ex3 : addM 70 [exA, exB] exC = [exB, exC] := by decide +kernel
theorem ex4 : getM [exB, exC] 62 = some exC := by decide +kernel
theorem ex5 : fnd exM exP (allL [exB, exC]) = (2, false) := by decide +kernel
theorem ex6 : stH 1 = (exM, ⟨#[71, 69, 84]⟩) := by decide +kernel
theorem rg_nil (R : Nat → Hd) : Rg R 0 [] := ⟨by omega, by simp, fun j h => by simp at h⟩
set_option maxRecDepth 100000 in
set_option maxHeartbeats 4000000 in
theorem first_any (w : World) : Calls Tryd.prog 8 #[] w fun e w' => e = .returned (.bool true) ∧ Below w.heap.size w w' := by
  go_enter Tryd.func8, Tryd.ntmps8
  go_wp2_with fail
  refine (new_yes 70 (by omega) w).mono ?_
  rintro e w1 ⟨rfl, ht1, hb1⟩
  have h1 := add_any w.heap.size 70 [] exA false w1 (by decide) (by decide) (by omega) (by simp [total]) (rg_nil _) ht1
  rw [ex1] at h1
  have H1 := Lib.hid h1
  clear h1 ht1
  go_wp2_with fail
  refine H1.out.mono ?_
  rintro e w2 ⟨R2, o2, rfl, hr2, ht2, hm2, hk2⟩
  have hB2 : Below w.heap.size w w2 := hb1.trans (hk2.below (Nat.le_refl _) hb1.size)
  have h1 := add_any w.heap.size 70 [exA] exB false w2 (by decide) (by decide) (by omega) hm2 hr2 ht2
  rw [ex2] at h1
  have H2 := Lib.hid h1
  clear h1 ht2 hk2 hr2 hm2 hb1 H1
  go_wp2_with fail
  refine H2.out.mono ?_
  rintro e w3 ⟨R3, o3, rfl, hr3, ht3, hm3, hk3⟩
  have hB3 : Below w.heap.size w w3 := hB2.trans (hk3.below (Nat.le_refl _) hB2.size)
  have h1 := add_any w.heap.size 70 [exA, exB] exC false w3 (by decide) (by decide) (by omega) hm3 hr3 ht3
  rw [ex3] at h1
  have H3 := Lib.hid h1
  clear h1 ht3 hk3 hr3 hm3 H2 hB2
  go_wp2_with fail
  refine H3.out.mono ?_
  rintro e w4 ⟨R4, o4, rfl, hr4, ht4, hm4, hk4⟩
  have hB4 : Below w.heap.size w w4 := hB3.trans (hk4.below (Nat.le_refl _) hB3.size)
  have h1 := get_any w.heap.size 62 [exB, exC] w4 (by omega) hr4 ht4
  rw [ex4] at h1
  replace h1 : Calls Tryd.prog 25 #[.pointer (some ⟨w.heap.size, 0, none⟩), .int .i64 62] w4 fun e w' => e = .returned (.tuple #[hdV exC, .bool true]) ∧ Below w4.heap.size w4 w' := h1
  have H4 := Lib.hid h1
  have HR := Lib.hid hr4
  have HT := Lib.hid ht4
  clear h1 hk4 hr4 hm4 H3 hB3 ht4
  go_wp2_with fail
  refine H4.out.mono ?_
  rintro e w5 ⟨rfl, hb5⟩
  have hB5 := hB4.trans (hb5.mono hB4.size)
  have HT5 := Lib.hid (HT.out.below hb5)
  have HS : Hid (∀ W, Calls Tryd.prog 20 #[.int .i64 2] W fun e w' => e = .returned (.tuple #[hdV (exM, ⟨#[71, 69, 84]⟩), .bool true]) ∧ Below W.heap.size W w') := Lib.hid (fun W => by
    have := static_yes 1 (by omega) W
    rw [ex6] at this
    exact this)
  have hl5 := HT5.out.lt
  clear H4 HT hb5 hB4
  go_wp2_with fail
  refine (HS.out _).mono ?_
  rintro e w6 ⟨rfl, hb6⟩
  have hz6 := hb6.size
  simp only [World.size_alloc] at hz6
  have k0 := (hb6.cell (p := ⟨w5.heap.size, 0, none⟩) (by simp)).trans (by simp : _ = some (.string ⟨#[99]⟩))
  have hB6 : Below w.heap.size w w6 := (hB5.alloc hB5.size _).trans (hb6.mono (by have := hB5.size; simp; omega))
  have HT6 := Lib.hid (((HT5.out.alloc (.cells #[.string ⟨#[99]⟩, .string ⟨#[51]⟩, .bool false] 34) hl5).below hb6))
  have hl6 := HT6.out.lt
  have HF := Lib.hid (fun (ob : Obj) => find_any w.heap.size exM exP [exB, exC] (w6.alloc ob) HR.out (HT6.out.alloc ob hl6))
  rw [ex5] at HF
  clear hb6 HS HT5 hB5
  go_wp2_with fail
  refine (HF.out _).mono ?_
  rintro e w7 ⟨rfl, hb7⟩
  have hz7 := hb7.size
  simp only [World.size_alloc] at hz7
  have k1 := (hb7.cell (p := ⟨w5.heap.size, 0, none⟩) (by simp; omega)).trans ((((Below.refl _ w6).alloc (Nat.le_refl _) _).cell (p := ⟨w5.heap.size, 0, none⟩) (by simp only []; omega)).trans k0)
  have k2 := (hb7.cell (p := ⟨w6.heap.size, 1, none⟩) (by simp)).trans (by simp : _ = some (.string ⟨#[71, 69, 84]⟩))
  have hB7 : Below w.heap.size w w7 := (hB6.alloc hB6.size _).trans (hb7.mono (by have := hB6.size; simp; omega))
  have ht7 := (HT6.out.alloc _ hl6).below hb7
  have HL := Lib.hid (len_any ht7)
  have HZ := Lib.hid (siz_any ht7)
  clear hb7 HF k0 ht7
  go_wp2_with fail
  refine HL.out.mono ?_
  rintro e w' ⟨rfl, rfl⟩
  go_wp2_with fail
  refine HZ.out.mono ?_
  rintro e w' ⟨rfl, rfl⟩
  go_wp2_with fail
  go_ret
  exact ⟨rfl, hB7⟩
end Go.Proofs.YtbdpeioafelolaaDoor
