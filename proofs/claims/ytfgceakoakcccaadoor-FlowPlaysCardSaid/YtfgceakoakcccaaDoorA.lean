/-
  CONTRACTS: bounded, New, Left, Room, Take, Give, Shift.
-/
import Derived.Test.YtfgceakoakcccaaDoorK
namespace Go.Proofs.YtfgceakoakcccaaDoor
open Go.RowKit

set_option maxRecDepth 100000 in
theorem bounded_any (n : Int) (w : World) : Calls Tryd.prog 23 #[.int .i64 n] w fun e w' => e = .returned (.bool (decide (Ok n))) ∧ w = w' := by
  by_cases h : n < -2147483647
  · have h1 : decide (n ≥ -2147483647) = false := by simp; omega
    have h1' : decide (-2147483647 ≤ n) = false := by simp; omega
    have h2 : decide (Ok n) = false := by unfold Ok; simp; omega
    go_enter Tryd.func23, Tryd.ntmps23
    go_wp2
    go_ret
    exact ⟨congrArg (fun b => Ending.returned (.bool b)) h2.symm, rfl⟩
  · have h1 : decide (n ≥ -2147483647) = true := by simp; omega
    have h1' : decide (-2147483647 ≤ n) = true := by simp; omega
    have h2 : decide (Ok n) = decide (n ≤ 2147483647) := by unfold Ok; simp; omega
    go_enter Tryd.func23, Tryd.ntmps23
    go_wp2
    go_ret
    exact ⟨rfl, rfl⟩
set_option maxRecDepth 100000 in
theorem new_yes (n : Int) (h : 0 ≤ n ∧ n ≤ 2147483647) (w : World) : Calls Tryd.prog 7 #[.int .i64 n] w fun e w' => e = .returned (.tuple #[.pointer (some ⟨w.heap.size, 0, none⟩), .nilIface]) ∧ Wi w' w.heap.size n ∧ Below w.heap.size w w' := by
  have h1 : decide (n < 0) = false := by simp; omega
  have h2 : decide (2147483647 < n) = false := by simp; omega
  go_enter Tryd.func7, Tryd.ntmps7
  go_wp2
  go_ret2
  exact ⟨rfl, ⟨by show (w.heap.push _)[w.heap.size]? = _; exact Array.getElem?_push_size⟩, (Below.refl _ _).alloc (Nat.le_refl _) _⟩
set_option maxRecDepth 100000 in
theorem new_no (n : Int) (h : n < 0 ∨ 2147483647 < n) (w : World) (en ew : Addr) (hE : Er w en ew) : Calls Tryd.prog 7 #[.int .i64 n] w fun e w' => e = .returned (.tuple #[.pointer none, errV en]) ∧ Below w.heap.size w w' := by
  have h1 := hE.n
  by_cases h0 : n < 0
  · have h1' : decide (n < 0) = true := by simp; omega
    go_enter Tryd.func7, Tryd.ntmps7
    go_wp2_with fail
    go_quiet (fail)
    go_wp2
    go_ret2
    exact ⟨rfl, by (repeat (first | exact Below.refl _ _ | (refine bdN ?_ _) | (refine Below.drew ?_)))⟩
  · have h1' : decide (n < 0) = false := by simp; omega
    have h2 : decide (2147483647 < n) = true := by simp; omega
    go_enter Tryd.func7, Tryd.ntmps7
    go_wp2_with fail
    go_quiet (fail)
    go_wp2
    go_ret2
    exact ⟨rfl, by (repeat (first | exact Below.refl _ _ | (refine bdN ?_ _) | (refine Below.drew ?_)))⟩
set_option maxRecDepth 100000 in
theorem left_any {w : World} {b : Nat} {x : Int} (h : Wi w b x) : Calls Tryd.prog 19 #[.pointer (some ⟨b, 0, none⟩)] w fun e w' => e = .returned (.int .i64 x) ∧ w = w' := by
  have h1 := h.c
  go_enter Tryd.func19, Tryd.ntmps19
  go_wp2
  go_ret
  exact ⟨rfl, rfl⟩
set_option maxRecDepth 100000 in
theorem room_any {w : World} {b : Nat} {x : Int} (h : Wi w b x) (n : Int) : Calls Tryd.prog 20 #[.pointer (some ⟨b, 0, none⟩), .int .i64 n] w fun e w' => e = .returned (.int .i64 (rmM x n)) ∧ w = w' := by
  have h1 := h.c
  unfold rmM
  go_enter Tryd.func20, Tryd.ntmps20
  go_wp2
  all_goals
    rename_i hA
    go_ret
    refine ⟨congrArg (fun i => Ending.returned (.int .i64 i)) ?_, rfl⟩
    first | rw [if_pos h] at hA | rw [if_neg (by omega)] at hA
    omega
set_option maxRecDepth 100000 in
theorem take_any {w : World} {b : Nat} {x : Int} (h : Wi w b x) (hx : Ok x) (n : Int) (en ew : Addr) (hE : Er w en ew) :
    Calls Tryd.prog 11 #[.pointer (some ⟨b, 0, none⟩), .int .i64 n] w fun e w' => e = .returned (erV en ew (tkM x n).2) ∧ Wi w' b (tkM x n).1 ∧ Kp [b] w w' := by
  have h1 := h.c
  have hz := h.z
  have hn := hE.n
  have hw := hE.w
  have HR := Lib.hid (room_any h n)
  unfold Ok at hx
  by_cases h0 : n < 0
  · have e : tkM x n = (x, 1) := by unfold tkM; rw [if_pos h0]
    have h0' : decide (n < 0) = true := by simpa using h0
    rw [e]
    go_enter Tryd.func11, Tryd.ntmps11
    go_wp2
    go_ret
    exact ⟨rfl, h, Kp.refl _ _⟩
  · have h0' : decide (n < 0) = false := by simpa using h0
    by_cases h2 : 0 < n ∧ x < n
    · have e : tkM x n = (x, 2) := by unfold tkM; rw [if_neg h0, if_pos h2]
      have h3 : decide (rmM x n < n) = true := by unfold rmM; simp; omega
      rw [e]
      go_enter Tryd.func11, Tryd.ntmps11
      go_wp2_with fail
      refine HR.out.mono ?_
      rintro e w1 ⟨rfl, rfl⟩
      go_wp2
      go_ret
      exact ⟨rfl, h, Kp.refl _ _⟩
    · have e : tkM x n = (x - n, 0) := by unfold tkM; rw [if_neg h0, if_neg h2]
      have h3 : decide (rmM x n < n) = false := by unfold rmM; simp; omega
      have h4 : -9223372036854775808 ≤ x - n ∧ x - n ≤ 9223372036854775807 := by omega
      rw [e]
      go_enter Tryd.func11, Tryd.ntmps11
      go_wp2_with fail
      refine HR.out.mono ?_
      rintro e w1 ⟨rfl, rfl⟩
      go_wp2
      go_ret
      exact ⟨rfl, h.set _, (Kp.refl _ _).set _ _ (by simp) _⟩
set_option maxRecDepth 100000 in
theorem shift_any {w : World} {b : Nat} {x : Int} (h : Wi w b x) (hx : Ok x) (n : Int) (en ew : Addr) (hE : Er w en ew) :
    Calls Tryd.prog 15 #[.pointer (some ⟨b, 0, none⟩), .int .i64 n] w fun e w' => e = .returned (erV en ew (shM x n).2) ∧ Wi w' b (shM x n).1 ∧ Kp [b] w w' := by
  have h1 := h.c
  have hz := h.z
  have hn := hE.n
  have hw := hE.w
  have HB := Lib.hid (bounded_any n w)
  by_cases h0 : Ok n
  · have h0' : decide (Ok n) = true := by simpa using h0
    rw [h0'] at HB
    have HB2 := Lib.hid (bounded_any (x + n) w)
    have h4 : -9223372036854775808 ≤ x + n ∧ x + n ≤ 9223372036854775807 := by unfold Ok at hx h0; omega
    by_cases h2 : Ok (x + n)
    · have h2' : decide (Ok (x + n)) = true := by simpa using h2
      rw [h2'] at HB2
      have e : shM x n = (x + n, 0) := by unfold shM; rw [if_neg (fun k => k h0), if_neg (fun k => k h2)]
      rw [e]
      clear h0' h2' h0 h2 hx
      go_enter Tryd.func15, Tryd.ntmps15
      go_wp2_with fail
      refine HB.out.mono ?_
      rintro e w1 ⟨rfl, rfl⟩
      go_wp2_with fail
      refine HB2.out.mono ?_
      rintro e w1 ⟨rfl, rfl⟩
      go_wp2
      go_ret
      exact ⟨rfl, h.set _, (Kp.refl _ _).set _ _ (by simp) _⟩
    · have h2' : decide (Ok (x + n)) = false := by simpa using h2
      rw [h2'] at HB2
      have e : shM x n = (x, 2) := by unfold shM; rw [if_neg (fun k => k h0), if_pos h2]
      rw [e]
      clear h0' h2' h0 h2 hx
      go_enter Tryd.func15, Tryd.ntmps15
      go_wp2_with fail
      refine HB.out.mono ?_
      rintro e w1 ⟨rfl, rfl⟩
      go_wp2_with fail
      refine HB2.out.mono ?_
      rintro e w1 ⟨rfl, rfl⟩
      go_wp2
      go_ret
      exact ⟨rfl, h, Kp.refl _ _⟩
  · have h0' : decide (Ok n) = false := by simpa using h0
    rw [h0'] at HB
    have e : shM x n = (x, 1) := by unfold shM; rw [if_pos h0]
    rw [e]
    clear h0' h0 hx
    go_enter Tryd.func15, Tryd.ntmps15
    go_wp2_with fail
    refine HB.out.mono ?_
    rintro e w1 ⟨rfl, rfl⟩
    go_wp2
    go_ret
    exact ⟨rfl, h, Kp.refl _ _⟩
set_option maxRecDepth 100000 in
theorem give_any {w : World} {b : Nat} {x : Int} (h : Wi w b x) (hx : Ok x) (n : Int) (en ew : Addr) (hE : Er w en ew) :
    Calls Tryd.prog 13 #[.pointer (some ⟨b, 0, none⟩), .int .i64 n] w fun e w' => e = .returned (erV en ew (gvM x n).2) ∧ Wi w' b (gvM x n).1 ∧ Kp [b] w w' := by
  have h1 := h.c
  have hn := hE.n
  have HS := Lib.hid (shift_any h hx n en ew hE)
  unfold gvM
  by_cases h0 : n < 1
  · have h0' : decide (n < 1) = true := by simpa using h0
    rw [if_pos h0]
    go_enter Tryd.func13, Tryd.ntmps13
    go_wp2
    go_ret
    exact ⟨rfl, h, Kp.refl _ _⟩
  · have h0' : decide (n < 1) = false := by simpa using h0
    rw [if_neg h0]
    go_enter Tryd.func13, Tryd.ntmps13
    go_wp2_with fail
    refine HS.out.mono ?_
    rintro e w1 ⟨rfl, h2, h3⟩
    go_wp2
    go_ret
    exact ⟨rfl, h2, h3⟩
end Go.Proofs.YtfgceakoakcccaaDoor
