/-
  CONTRACTS: the examples ('first') ahead of each statement.
-/
import Derived.Test.YtclnmajjkchfmaaDoorJ
namespace Go.Proofs.YtclnmajjkchfmaaDoor
open Go.RowKit Wr

theorem Own.sl' {w : World} {B : Nat} {a : Option Addr} {N c : Nat} {l : List UInt8} (h : Own w B (.slice a N c) l) : Sl w a N c l := by
  obtain ⟨a', c', e, hs⟩ := h.sl
  cases e
  exact hs
theorem sl_new (w : World) (l : List UInt8) (hl : l.length ≤ maxLen) : Sl (w.alloc (.cells (cellsOf l).toArray 5)) (some ⟨w.heap.size, 0, none⟩) l.length l.length l := by
  refine ⟨rfl, Nat.le_refl _, hl, (fun h => by cases h), fun i hi => ⟨_, _, rfl, ?_⟩⟩
  have := cellsOf_get hi
  simp [this]

theorem sl_a (w : World) : Sl (w.alloc (.cells #[.int .u8 172, .int .u8 2] 5)) (some ⟨w.heap.size, 0, none⟩) 2 2 [172, 2] := sl_new w [172, 2] (by unfold maxLen; simp)
theorem sl_b (w : World) : Sl (w.alloc (.cells #[.int .u8 11, .int .u8 8, .int .u8 1, .int .u8 12] 5)) (some ⟨w.heap.size, 0, none⟩) 4 4 [11, 8, 1, 12] := sl_new w [11, 8, 1, 12] (by unfold maxLen; simp)
theorem sl_c (w : World) : Sl (w.alloc (.cells #[.int .u8 12] 5)) (some ⟨w.heap.size, 0, none⟩) 1 1 [12] := sl_new w [12] (by unfold maxLen; simp)
theorem ex_uv : uv [172, 2] = .ok (300, 2) := by
  unfold uv
  rw [uvGo_more (by decide) (by decide), uvGo_last (by decide) (by decide)]
  rfl
theorem ex_rec1 : rec 32 [11, 8, 1, 12] = .ok (⟨1, 3, 0, [8, 1]⟩, 4) := by rfl
theorem ex_rec2 : rec 32 [12] = .er 104 := by rfl
theorem ex_varint : varint 300 = [172, 2] := by
  rw [varint_hi (by decide), varint_lo (by decide)]; rfl

set_option maxRecDepth 100000 in
set_option maxHeartbeats 4000000 in
theorem first_any (ea : Nat → Addr) (w : World) (E : Env w ea) :
    Calls Tryd.prog 12 #[] w fun e w' => e = .returned (.bool true) ∧ Below w.heap.size w w' := by
  have h1 : Calls Tryd.prog 15 #[.slice none 0 0, .int .u64 300] w (Built ([] ++ varint 300) w) := varint_any none 0 0 [] w (Sl.nil0 w) (by omega) 300 (by omega)
  rw [ex_varint] at h1
  go_enter Tryd.func12, Tryd.ntmps12
  go_wp2_with fail
  refine h1.mono ?_
  clear h1
  rintro e w1 ⟨a1, N1, c1, rfl, hN1, hown1, hb1⟩
  have hs1 := (hown1.sl').alloc (.cells #[.int .u8 172, .int .u8 2] 5)
  have hs1' := sl_a w1
  go_wp2_with fail
  refine (same_any _ _ _ _ _ _ _ _ _ hs1 hs1').mono ?_
  rintro e w' ⟨rfl, rfl⟩
  have hB2 : Below w.heap.size w (w1.alloc (.cells #[.int .u8 172, .int .u8 2] 5)) := hb1.alloc hb1.size _
  clear hs1 hs1' hown1
  generalize w1.alloc (.cells #[.int .u8 172, .int .u8 2] 5) = W2 at hB2 ⊢
  go_wp2_with fail
  refine (uv_yes ea _ _ _ [172, 2] _ (sl_a W2) ((E.kept hB2).alloc _) 300 2 ex_uv).mono ?_
  rintro e w' ⟨rfl, nq, rfl⟩
  have hB3 : Below w.heap.size w ((W2.alloc (.cells #[.int .u8 172, .int .u8 2] 5)).drewN nq) := bdN (hB2.alloc hB2.size _) _
  generalize (W2.alloc (.cells #[.int .u8 172, .int .u8 2] 5)).drewN nq = W3 at hB3 ⊢
  go_wp2_with fail
  have hn := next_any ea _ _ _ [11, 8, 1, 12] _ (sl_b W3) ((E.kept hB3).alloc _) (by simp)
  rw [ex_rec1] at hn
  refine hn.mono ?_
  clear hn
  rintro e w4 ⟨hb4, a4, m4, c4, rfl, _, _⟩
  have hz3 := hB3.size
  have hz4 := hb4.size
  simp only [World.size_alloc] at hz4
  have hB4 : Below w.heap.size w w4 := (hB3.alloc hz3 _).trans (hb4.mono (by simp; omega))
  have hk4 : (w4.alloc (.cells #[.int .i64 1, .int .i64 3, .int .u64 0, .slice a4 m4 c4] 53)).cell? ⟨w4.heap.size, 1, none⟩ = some (.int .i64 3) := by simp
  have hB5 : Below w.heap.size w (w4.alloc (.cells #[.int .i64 1, .int .i64 3, .int .u64 0, .slice a4 m4 c4] 53)) := hB4.alloc (by omega) _
  have hs6 := sl_c (w4.alloc (.cells #[.int .i64 1, .int .i64 3, .int .u64 0, .slice a4 m4 c4] 53))
  rw [World.size_alloc] at hs6
  have hn := next_any ea _ _ _ [12] _ hs6 ((E.kept hB5).alloc _) (by simp)
  rw [ex_rec2] at hn
  go_wp2_with fail
  refine hn.mono ?_
  clear hn
  rintro e w6 ⟨hb6, rfl⟩
  have hz6 := hb6.size
  simp only [World.size_alloc] at hz6
  have hB6 : Below w.heap.size w w6 := (hB5.alloc (by simp; omega) _).trans (hb6.mono (by simp; omega))
  have hk6 : w6.cell? ⟨w4.heap.size, 1, none⟩ = some (.int .i64 3) := (hb6.cell (p := ⟨w4.heap.size, 1, none⟩) (by simp; omega)).trans (by rw [World.cell?_alloc_lt _ _ _ (by simp)]; exact hk4)
  have hlt6 : w4.heap.size < w6.heap.size := by omega
  go_wp2_with fail
  refine (tag_ok 1 2 ⟨by omega, by omega, by omega, by omega⟩ _).mono ?_
  rintro e w' ⟨rfl, rfl⟩
  go_wp2_with fail
  refine (zig_any (-1) (by omega) (by omega) _).mono ?_
  rintro e w' ⟨rfl, rfl⟩
  go_wp2_with fail
  go_ret
  exact ⟨rfl, hB6.alloc (by omega) _⟩
end Go.Proofs.YtclnmajjkchfmaaDoor
