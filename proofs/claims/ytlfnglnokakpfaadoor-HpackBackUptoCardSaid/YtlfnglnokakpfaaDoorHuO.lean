/-
  CONTRACTS: Bits, Code, ones, Size.
-/
import Derived.Test.YtlfnglnokakpfaaDoorHuN
namespace Go.Proofs.YtlfnglnokakpfaaDoor.Hu
open Go.RowKit Hf

/-- A book that a function keeps for itself. -/
theorem bk_kept (w : World) : Bk ((w.alloc (.cells Tryd.zeroCells125 125)).setCells w.heap.size 0 bookL) w.heap.size code ord fst num ahd := by
  have hb := bk_zero w
  refine bk_of_range ?_ (World.rangeAt_setCells_same _ _ 0 bookL (by rw [bookL_len]; exact hb.there)) (fun i => ?_)
  · have h := (below_setCells (B := w.heap.size) (b := w.heap.size) (Nat.le_refl _) bookL 0 (Below.refl _ (w.alloc (.cells Tryd.zeroCells125 125)))).size
    simp only [World.size_alloc] at h
    omega
  · rw [World.frozen?_setCells]
    exact hb.z i
theorem store_book (w : World) : (storeCells ⟨w.heap.size, 0, none⟩ bookL).run Tryd.prog (w.alloc (.cells Tryd.zeroCells125 125)) = .ok () ((w.alloc (.cells Tryd.zeroCells125 125)).setCells w.heap.size 0 bookL) := by
  have hb := (bk_zero w).there
  have := run_storeCells_cells (P := Tryd.prog) w.heap.size 0 bookL 0 (w.alloc (.cells Tryd.zeroCells125 125)) (fun j hj => by simpa using (hb j (by rw [bookL_len] at hj; exact hj)).1) (fun j _ => by simp) bookL_one
  simpa using this
theorem below_book (w : World) : Below w.heap.size w ((w.alloc (.cells Tryd.zeroCells125 125)).setCells w.heap.size 0 bookL) :=
  below_setCells (Nat.le_refl _) _ _ ((Below.refl _ _).alloc (Nat.le_refl _) _)

theorem ones_any (n : Nat) (hn : n ≤ 30) (w : World) : Calls Tryd.prog 73 #[.int .i64 (n : Int)] w fun e w' => e = .returned (.int .u64 ((2 ^ n - 1 : Nat) : Int)) ∧ w = w' := by
  go_enter Tryd.func73, Tryd.ntmps73
  go_wp2
  go_ret
  have hp : 1 ≤ 2 ^ n ∧ 2 ^ n ≤ 1073741824 := ⟨Nat.one_le_two_pow, by have := Nat.pow_le_pow_right (n := 2) (by decide) hn; simpa using this⟩
  refine ⟨ret_int ?_, rfl⟩
  rw [show ((2 : Int) ^ n) = ((2 ^ n : Nat) : Int) by simp, IntKind.wrap_u64, IntKind.wrap_u64]
  omega
end Go.Proofs.YtlfnglnokakpfaaDoor.Hu
