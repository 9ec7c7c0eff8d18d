/-
  CONTRACTS: Put of a record that may not be written (P1.6).
-/
import Derived.Test.YtclnmajjkchfmaaDoorP
namespace Go.Proofs.YtclnmajjkchfmaaDoor
open Go.RowKit Wr

/-- No bytes, and an error. -/
def PutNo (ea : Nat → Addr) (c : Nat) (w : World) (e : Ending) (w' : World) : Prop := e = .returned (.tuple #[.slice none 0 0, errV ea c]) ∧ Below w.heap.size w w'

set_option maxRecDepth 100000 in
set_option maxHeartbeats 1000000 in
theorem put_notag (ea : Nat → Addr) (ab : Option Addr) (nb cb : Nat) (a : Option Addr) (n c : Nat) (f k : Int) (u : Int) (hf0 : -9223372036854775808 ≤ f) (hf1 : f ≤ 9223372036854775807) (hk0 : -9223372036854775808 ≤ k) (hk1 : k ≤ 9223372036854775807) (h : ¬ TagOk f k)
    (w : World) (E : Env w ea) :
    Calls Tryd.prog 41 #[.slice ab nb cb, .agg #[.int .i64 f, .int .i64 k, .int .u64 u, .slice a n c]] w (PutNo ea 103 w) := by
  have hT := Lib.hid (tag_no ea f k hf0 hf1 hk0 hk1 h _ (E.alloc (.cells #[.int .i64 f, .int .i64 k, .int .u64 u, .slice a n c] 53)))
  have hb0 : Below w.heap.size w (w.alloc (.cells #[.int .i64 f, .int .i64 k, .int .u64 u, .slice a n c] 53)) := (Below.refl _ _).alloc (Nat.le_refl _) _
  clear h
  go_enter Tryd.func41, Tryd.ntmps41
  go_wp2_with fail
  refine hT.out.mono ?_
  rintro e w' ⟨rfl, nq, rfl⟩
  go_wp2_with fail
  go_ret2
  exact ⟨rfl, bdN hb0 nq⟩

set_option maxRecDepth 100000 in
set_option maxHeartbeats 1000000 in
theorem put_noend (ea : Nat → Addr) (ab : Option Addr) (nb cb : Nat) (a : Option Addr) (n c : Nat) (f : Nat) (u : Int) (h1 : 1 ≤ f) (h2 : f ≤ 536870911)
    (w : World) (E : Env w ea) :
    Calls Tryd.prog 41 #[.slice ab nb cb, .agg #[.int .i64 (f : Int), .int .i64 4, .int .u64 u, .slice a n c]] w (PutNo ea 104 w) := by
  have hT : ∀ W, Calls Tryd.prog 23 #[.int .i64 (f : Int), .int .i64 4] W fun e w' => e = .returned (.tuple #[.int .u64 ((f * 8 + 4 : Nat) : Int), .nilIface]) ∧ W = w' := fun W => tag_put f 4 h1 h2 (by omega) W
  have hb0 : Below w.heap.size w (w.alloc (.cells #[.int .i64 (f : Int), .int .i64 4, .int .u64 u, .slice a n c] 53)) := (Below.refl _ _).alloc (Nat.le_refl _) _
  have hc := (E.alloc (.cells #[.int .i64 (f : Int), .int .i64 4, .int .u64 u, .slice a n c] 53)).e104
  go_enter Tryd.func41, Tryd.ntmps41
  go_wp2_with fail
  refine (hT _).mono ?_
  rintro e w' ⟨rfl, rfl⟩
  go_wp2
  go_quiet (fail)
  go_wp2
  all_goals go_ret2
  all_goals refine ⟨rfl, ?_⟩
  all_goals (repeat (first | (with_reducible refine Below.drew ?_) | (with_reducible refine bdN ?_ _) | (with_reducible exact hb0)))

set_option maxRecDepth 100000 in
set_option maxHeartbeats 1000000 in
theorem put_nogrp (ea : Nat → Addr) (ab : Option Addr) (nb cb : Nat) (a : Option Addr) (n c : Nat) (l : List UInt8) (f : Nat) (u : Int) (h1 : 1 ≤ f) (h2 : f ≤ 536870911) (hc : (chk 31 l (l.length + 1) 0).isNone = false)
    (w : World) (E : Env w ea) (hl : Sl w a n c l) :
    Calls Tryd.prog 41 #[.slice ab nb cb, .agg #[.int .i64 (f : Int), .int .i64 3, .int .u64 u, .slice a n c]] w (PutNo ea 104 w) := by
  have hT : ∀ W, Calls Tryd.prog 23 #[.int .i64 (f : Int), .int .i64 3] W fun e w' => e = .returned (.tuple #[.int .u64 ((f * 8 + 3 : Nat) : Int), .nilIface]) ∧ W = w' := fun W => tag_put f 3 h1 h2 (by omega) W
  have hb0 : Below w.heap.size w (w.alloc (.cells #[.int .i64 (f : Int), .int .i64 3, .int .u64 u, .slice a n c] 53)) := (Below.refl _ _).alloc (Nat.le_refl _) _
  have hfit := fits_any ea a n c l _ (hl.alloc (.cells #[.int .i64 (f : Int), .int .i64 3, .int .u64 u, .slice a n c] 53)) (E.alloc _)
  rw [hc] at hfit
  have HF := Lib.hid hfit
  clear hfit hc
  go_enter Tryd.func41, Tryd.ntmps41
  go_wp2_with fail
  refine (hT _).mono ?_
  rintro e w' ⟨rfl, rfl⟩
  go_wp2_with fail
  refine HF.out.mono ?_
  rintro e w4 ⟨rfl, hb4⟩
  have hB4 : Below w.heap.size w w4 := hb0.trans (hb4.mono (by simp))
  have hc := (E.kept hB4).e104
  go_wp2
  go_quiet (fail)
  go_wp2
  all_goals go_ret2
  all_goals refine ⟨rfl, ?_⟩
  all_goals (repeat (first | (with_reducible refine Below.drew ?_) | (with_reducible refine bdN ?_ _) | (with_reducible exact hB4)))

theorem put_no (ea : Nat → Addr) (ab : Option Addr) (nb cb : Nat) (a : Option Addr) (n c : Nat) (l : List UInt8) (f k u : Nat) (h1 : 1 ≤ f) (h2 : f ≤ 536870911) (h3 : k ≤ 5) (h : ¬ PutOk f k l)
    (w : World) (E : Env w ea) (hl : Sl w a n c l) :
    Calls Tryd.prog 41 #[.slice ab nb cb, .agg #[.int .i64 (f : Int), .int .i64 (k : Int), .int .u64 (u : Int), .slice a n c]] w (PutNo ea 104 w) := by
  have hk : k = 4 ∨ (k = 3 ∧ (chk 31 l (l.length + 1) 0).isNone = false) := by
    by_cases h4 : k = 4
    · exact Or.inl h4
    · right
      by_cases h5 : k = 3
      · refine ⟨h5, ?_⟩
        cases hc : chk 31 l (l.length + 1) 0 with
        | none => exact absurd ⟨h1, h2, h3, h4, fun _ => hc⟩ h
        | some p => rfl
      · exact absurd ⟨h1, h2, h3, h4, fun h => absurd h h5⟩ h
  rcases hk with rfl | ⟨rfl, hc⟩
  · exact put_noend ea ab nb cb a n c f u h1 h2 w E
  · exact put_nogrp ea ab nb cb a n c l f u h1 h2 hc w E hl
end Go.Proofs.YtclnmajjkchfmaaDoor
