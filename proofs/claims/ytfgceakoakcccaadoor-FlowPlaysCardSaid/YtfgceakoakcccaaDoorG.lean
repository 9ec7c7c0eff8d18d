/-
  THE LAW FlowRoom: its walk.
-/
import Derived.Test.YtfgceakoakcccaaDoorE
namespace Go.Proofs.YtfgceakoakcccaaDoor
open Go.RowKit

theorem rm_two (x y n : Int) : rmL [x, y] n = rmM y (rmM x n) := rfl
theorem rm_one (x n : Int) : rmL [x] n = rmM x n := rfl
/-- What FlowRoom asks of plain numbers. -/
theorem fr_plain (x y n : Int) : 0 ≤ rmL [x, y] n ∧ (n ≤ 0 ∧ rmL [x, y] n = 0 ∨ 0 < n ∧ rmL [x, y] n ≤ n) ∧ ptM [x, y] (rmL [x, y] n) = 0 ∧ (rmL [x, y] n < n → ptM [x - rmL [x, y] n, y - rmL [x, y] n] (n - rmL [x, y] n) = 2) := by
  have h1 : 0 ≤ rmL [x, y] n := by rw [rm_two]; unfold rmM; omega
  refine ⟨h1, ?_, ?_, fun h => ?_⟩
  · rw [rm_two]; unfold rmM; omega
  · unfold ptM
    rw [if_neg (by omega), if_neg]
    rw [rm_two, rm_two]; unfold rmM; omega
  · unfold ptM
    rw [if_neg (by omega), if_pos]
    rw [rm_two, rm_two] at *; unfold rmM at *; omega
theorem fr_one (x n : Int) : 0 ≤ rmL [x] n ∧ ptM [x] (rmL [x] n) = 0 := by
  have h1 : 0 ≤ rmL [x] n := by rw [rm_one]; unfold rmM; omega
  refine ⟨h1, ?_⟩
  unfold ptM
  rw [if_neg (by omega), if_neg]
  rw [rm_one, rm_one]; unfold rmM; omega
theorem fr_ok {x y r : Int} (hx : Ok x) (hy : Ok y) (h1 : 0 ≤ r) (h : ptM [x, y] r = 0) : Ok (x - r) ∧ Ok (y - r) := by
  unfold ptM at h
  rw [if_neg (by omega)] at h
  have h2 : ¬ rmL [x, y] r < r := fun k => by rw [if_pos k] at h; cases h
  rw [rm_two] at h2
  unfold rmM Ok at *
  omega
theorem fr_ok1 {y r : Int} (hy : Ok y) (h1 : 0 ≤ r) (h : ptM [y] r = 0) : Ok (y - r) := by
  unfold ptM at h
  rw [if_neg (by omega)] at h
  have h2 : ¬ rmL [y] r < r := fun k => by rw [if_pos k] at h; cases h
  rw [rm_one] at h2
  unfold rmM Ok at *
  omega
/-- The pair of two windows. -/
def two (A X : Nat) (x y : Int) : Nat → Int := fun b => if b = A then x else if b = X then y else 0
theorem two_map (A X : Nat) (x y : Int) (h : A ≠ X) : [A, X].map (two A X x y) = [x, y] := by
  simp [two, Ne.symm h]
theorem two_wi {w : World} {A X : Nat} {x y : Int} (h : A ≠ X) (hA : Wi w A x) (hX : Wi w X y) : ∀ b ∈ [A, X], Wi w b (two A X x y b) := by
  intro b hb
  simp only [List.mem_cons, List.not_mem_nil, or_false] at hb
  unfold two
  rcases hb with rfl | rfl
  · rw [if_pos rfl]; exact hA
  · rw [if_neg (Ne.symm h), if_pos rfl]; exact hX
theorem two_ok {A X : Nat} {x y : Int} (h : A ≠ X) (hA : Ok x) (hX : Ok y) : ∀ b ∈ [A, X], Ok (two A X x y b) := by
  intro b hb
  simp only [List.mem_cons, List.not_mem_nil, or_false] at hb
  unfold two
  rcases hb with rfl | rfl
  · rw [if_pos rfl]; exact hA
  · rw [if_neg (Ne.symm h), if_pos rfl]; exact hX
/-- Room and Take of a pair of two windows. -/
theorem room2 {w : World} {p A X : Nat} {vr vt : Value} {x y : Int} (h : Pr w p [A, X] vr vt) (hn : A ≠ X) (hA : Wi w A x) (hX : Wi w X y) (n : Int) :
    Calls Tryd.prog 21 #[.pointer (some ⟨p, 0, none⟩), .int .i64 n] w fun e w' => e = .returned (.int .i64 (rmL [x, y] n)) ∧ w = w' := by
  have := proom_any h (two A X x y) (two_wi hn hA hX) (by simp) n
  rw [two_map A X x y hn] at this
  exact this
theorem take2 {w : World} {p A X : Nat} {vr vt : Value} {x y : Int} (h : Pr w p [A, X] vr vt) (hn : A ≠ X) (hAp : A < p) (hXp : X < p) (hA : Wi w A x) (hX : Wi w X y) (oA : Ok x) (oX : Ok y) (n : Int) (en ew : Addr) (hE : Er w en ew) (B : Nat) (hg1 : 0 < B) (hg2 : 1 < B) (hBA : B ≤ A) (hBX : B ≤ X) :
    Calls Tryd.prog 16 #[.pointer (some ⟨p, 0, none⟩), .int .i64 n] w fun e w' => e = .returned (erV en ew (ptM [x, y] n)) ∧ Wi w' A (if ptM [x, y] n = 0 then x - n else x) ∧ Wi w' X (if ptM [x, y] n = 0 then y - n else y) ∧ Kp [A, X] w w' := by
  refine (ptake_any h (two A X x y) (two_wi hn hA hX) (two_ok hn oA oX) (by intro b hb; simp at hb; omega) (by simp [hn]) (by simp) n en ew hE (by simp; omega) (by simp; omega)).mono ?_
  rw [two_map A X x y hn]
  rintro e w' ⟨h1, h2, h3⟩
  have e1 := h2 A (by simp)
  have e2 := h2 X (by simp)
  simp only [two, if_pos rfl, if_neg (Ne.symm hn)] at e1 e2
  exact ⟨h1, e1, e2, h3⟩
theorem room1 {w : World} {p X : Nat} {vr vt : Value} {y : Int} (h : Pr w p [X] vr vt) (hX : Wi w X y) (n : Int) :
    Calls Tryd.prog 21 #[.pointer (some ⟨p, 0, none⟩), .int .i64 n] w fun e w' => e = .returned (.int .i64 (rmL [y] n)) ∧ w = w' := by
  have := proom_any h (fun _ => y) (by intro b hb; simp at hb; subst hb; exact hX) (by simp) n
  simpa using this
theorem take1 {w : World} {p X : Nat} {vr vt : Value} {y : Int} (h : Pr w p [X] vr vt) (hXp : X < p) (hX : Wi w X y) (oX : Ok y) (n : Int) (en ew : Addr) (hE : Er w en ew) (B : Nat) (hg1 : 0 < B) (hg2 : 1 < B) (hBX : B ≤ X) :
    Calls Tryd.prog 16 #[.pointer (some ⟨p, 0, none⟩), .int .i64 n] w fun e w' => e = .returned (erV en ew (ptM [y] n)) ∧ Wi w' X (if ptM [y] n = 0 then y - n else y) ∧ Kp [X] w w' := by
  refine (ptake_any h (fun _ => y) (by intro b hb; simp at hb; subst hb; exact hX) (by intro b hb; exact oX) (by intro b hb; simp at hb; omega) (by simp) (by simp) n en ew hE (by simp; omega) (by simp; omega)).mono ?_
  rintro e w' ⟨h1, h2, h3⟩
  exact ⟨by simpa using h1, by simpa using h2 X (by simp), h3⟩
end Go.Proofs.YtfgceakoakcccaaDoor
