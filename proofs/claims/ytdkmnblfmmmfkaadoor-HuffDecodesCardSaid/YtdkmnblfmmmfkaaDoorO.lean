/-
  CONTRACTS: Bits, Code, ones, Size.
-/
import Derived.Test.YtdkmnblfmmmfkaaDoorN
namespace Go.Proofs.YtdkmnblfmmmfkaaDoor
open Go.RowKit Hf

theorem bits_ok (s : Nat) (h : s < 257) (w : World) : Calls Tryd.prog 10 #[.int .i64 (s : Int)] w fun e w' => e = .returned (.tuple #[.int .i64 (sz s : Int), .bool true]) ∧ w = w' := by
  go_enter Tryd.func10, Tryd.ntmps10
  go_wp2_with fail
  refine (size_any s h _).mono ?_
  rintro e w2 ⟨rfl, rfl⟩
  go_wp2_with fail
  go_ret2
  exact ⟨rfl, rfl⟩
theorem bits_no (x : Int) (hx : -9223372036854775808 ≤ x ∧ x ≤ 9223372036854775807) (h : x < 0 ∨ 257 ≤ x) (w : World) : Calls Tryd.prog 10 #[.int .i64 x] w fun e w' => e = .returned (.tuple #[.int .i64 0, .bool false]) ∧ w = w' := by
  rcases h with h | h
  · go_enter Tryd.func10, Tryd.ntmps10
    go_wp2
    go_ret2
    exact ⟨rfl, rfl⟩
  · have h0 : ¬ x < 0 := by omega
    go_enter Tryd.func10, Tryd.ntmps10
    go_wp2
    go_ret2
    exact ⟨rfl, rfl⟩

/-- A book that a function keeps for itself. -/
theorem bk_kept (w : World) : Bk ((w.alloc (.cells Tryd.zeroCells52 52)).setCells w.heap.size 0 bookL) w.heap.size code ord fst num ahd := by
  have hb := bk_zero w
  refine bk_of_range ?_ (World.rangeAt_setCells_same _ _ 0 bookL (by rw [bookL_len]; exact hb.there)) (fun i => ?_)
  · have h := (below_setCells (B := w.heap.size) (b := w.heap.size) (Nat.le_refl _) bookL 0 (Below.refl _ (w.alloc (.cells Tryd.zeroCells52 52)))).size
    simp only [World.size_alloc] at h
    omega
  · rw [World.frozen?_setCells]
    exact hb.z i
theorem store_book (w : World) : (storeCells ⟨w.heap.size, 0, none⟩ bookL).run Tryd.prog (w.alloc (.cells Tryd.zeroCells52 52)) = .ok () ((w.alloc (.cells Tryd.zeroCells52 52)).setCells w.heap.size 0 bookL) := by
  have hb := (bk_zero w).there
  have := run_storeCells_cells (P := Tryd.prog) w.heap.size 0 bookL 0 (w.alloc (.cells Tryd.zeroCells52 52)) (fun j hj => by simpa using (hb j (by rw [bookL_len] at hj; exact hj)).1) (fun j _ => by simp) bookL_one
  simpa using this
theorem below_book (w : World) : Below w.heap.size w ((w.alloc (.cells Tryd.zeroCells52 52)).setCells w.heap.size 0 bookL) :=
  below_setCells (Nat.le_refl _) _ _ ((Below.refl _ _).alloc (Nat.le_refl _) _)

theorem code_no (x : Int) (hx : -9223372036854775808 ≤ x ∧ x ≤ 9223372036854775807) (h : x < 0 ∨ 257 ≤ x) (w : World) : Calls Tryd.prog 11 #[.int .i64 x] w fun e w' => e = .returned (.tuple #[.int .u32 0, .bool false]) ∧ w = w' := by
  rcases h with h | h
  · go_enter Tryd.func11, Tryd.ntmps11
    go_wp2
    go_ret2
    exact ⟨rfl, rfl⟩
  · have h0 : ¬ x < 0 := by omega
    go_enter Tryd.func11, Tryd.ntmps11
    go_wp2
    go_ret2
    exact ⟨rfl, rfl⟩
set_option maxRecDepth 100000 in
theorem code_ok (s : Nat) (h : s < 257) (w : World) : Calls Tryd.prog 11 #[.int .i64 (s : Int)] w fun e w' => e = .returned (.tuple #[.int .u32 (code s : Int), .bool true]) ∧ Below w.heap.size w w' := by
  go_enter Tryd.func11, Tryd.ntmps11
  go_wp2_with fail
  refine (newBook_any _).mono ?_
  rintro e w1 ⟨rfl, hb1⟩
  have hst := store_book w1
  have hbk := bk_kept w1
  have hbl := below_book w1
  generalize (w1.alloc (.cells Tryd.zeroCells52 52)).setCells w1.heap.size 0 bookL = W2 at hst hbk hbl
  have q1 := hbk.c s h
  go_wp2_with fail
  go_ret2
  exact ⟨rfl, hb1.trans (hbl.mono hb1.size)⟩

theorem ones_any (n : Nat) (hn : n ≤ 30) (w : World) : Calls Tryd.prog 26 #[.int .i64 (n : Int)] w fun e w' => e = .returned (.int .u64 ((2 ^ n - 1 : Nat) : Int)) ∧ w = w' := by
  go_enter Tryd.func26, Tryd.ntmps26
  go_wp2
  go_ret
  have hp : 1 ≤ 2 ^ n ∧ 2 ^ n ≤ 1073741824 := ⟨Nat.one_le_two_pow, by have := Nat.pow_le_pow_right (n := 2) (by decide) hn; simpa using this⟩
  refine ⟨ret_int ?_, rfl⟩
  rw [show ((2 : Int) ^ n) = ((2 ^ n : Nat) : Int) by simp, IntKind.wrap_u64, IntKind.wrap_u64]
  omega
end Go.Proofs.YtdkmnblfmmmfkaaDoor
