/-
  THE KIT OF OUR WALKS over package table: the state of a table in memory.
-/
import Derived.Test.YtlfnglnokakpfaaDoorRows
import Derived.WalkKit
import Derived.ProofKit
import Derived.WalkLawsBesides
import Derived.WalkSpells
import Derived.Outline
import Derived.LoopTactic
import Derived.Deep.QuietTactic
import Derived.BigQuiet
import Derived.IntWalk
import Derived.Lib.Hide
import Derived.Deep.MidRow
import Derived.Deep.RegionHeld3
import Derived.Deep.RegionLaw
namespace Go.Proofs.YtlfnglnokakpfaaDoor.Tt
open Go.RowKit

/-- A header: its name, its value. -/
abbrev Hd := ByteArray × ByteArray
def sizeH (h : Hd) : Nat := h.1.size + h.2.size + 32
def total : List Hd → Nat
  | [] => 0
  | h :: l => sizeH h + total l
abbrev hdV (h : Hd) : Value := .agg #[.string h.1, .string h.2, .bool false]
abbrev hdN (h : Hd) (c : Bool) : Value := .agg #[.string h.1, .string h.2, .bool c]

theorem cell_lt {w : World} {p : Addr} {v : Value} (h : w.cell? p = some v) : p.block < w.heap.size := by
  rcases Nat.lt_or_ge p.block w.heap.size with h' | h'
  · exact h'
  · simp [World.cell?, Array.getElem?_eq_none h'] at h
theorem below_drewN (w : World) (q : Nat) : Below w.heap.size w (w.drewN q) :=
  ⟨rfl, rfl, rfl, Nat.le_refl _, fun _ _ => rfl⟩
theorem bdN {B : Nat} {a w : World} (h : Below B a w) (n : Nat) : Below B a (w.drewN n) := h.trans ⟨rfl, rfl, rfl, Nat.le_refl _, fun _ _ => rfl⟩

/-- The table at block b: its ring holds R, the oldest stands at o, there are k headers of s bytes together, it may have m. -/
structure Tb (w : World) (b : Nat) (R : Nat → Hd) (o k s m : Nat) : Prop where
  r0 : ∀ i, i < 128 → w.cell? ⟨b, i * 3, none⟩ = some (.string (R i).1)
  r1 : ∀ i, i < 128 → w.cell? ⟨b, i * 3 + 1, none⟩ = some (.string (R i).2)
  r2 : ∀ i, i < 128 → w.cell? ⟨b, i * 3 + 2, none⟩ = some (.bool false)
  c0 : w.cell? ⟨b, 384, none⟩ = some (.int .i64 (o : Int))
  c1 : w.cell? ⟨b, 385, none⟩ = some (.int .i64 (k : Int))
  c2 : w.cell? ⟨b, 386, none⟩ = some (.int .i64 (s : Int))
  c3 : w.cell? ⟨b, 387, none⟩ = some (.int .i64 (m : Int))
  z : ∀ i, w.frozen? ⟨b, i, none⟩ = false

set_option maxRecDepth 100000 in
theorem sizeOf_any (h : Hd) (c : Bool) (w : World) (h1 : h.1.size ≤ 140737488355328) (h2 : h.2.size ≤ 140737488355328) :
    Calls Tryd.prog 59 #[hdN h c] w fun e w' => e = .returned (.int .i64 (sizeH h : Int)) ∧ w' = w.alloc (.cells #[.string h.1, .string h.2, .bool c] 77) := by
  unfold sizeH
  go_enter Tryd.func59, Tryd.ntmps59
  go_wp2
  go_ret
  exact ⟨by simp, rfl⟩
set_option maxRecDepth 100000 in
theorem mayBe_yes (m : Nat) (h : m ≤ 4096) (w : World) : Calls Tryd.prog 76 #[.int .i64 (m : Int)] w fun e w' => e = .returned (.bool true) ∧ w = w' := by
  have h1 : decide ((m : Int) ≤ 4096) = true := by simp; omega
  go_enter Tryd.func76, Tryd.ntmps76
  go_wp2
  go_ret
  exact ⟨by simp [h1], rfl⟩
theorem mayBe_no (m : Int) (h : m < 0 ∨ 4096 < m) (w : World) : Calls Tryd.prog 76 #[.int .i64 m] w fun e w' => e = .returned (.bool false) ∧ w = w' := by
  rcases h with h | h
  · go_enter Tryd.func76, Tryd.ntmps76
    go_wp2
    go_ret
    exact ⟨rfl, rfl⟩
  · have h' : ¬ m < 0 := by omega
    have h2 : 0 ≤ m := by omega
    have h1 : decide (m ≤ 4096) = false := by simp; omega
    go_enter Tryd.func76, Tryd.ntmps76
    go_wp2
    go_ret
    exact ⟨by simp [h1], rfl⟩

/-- The cells of a new table. -/
def zc : Array Value := ((List.replicate 128 [Value.string ⟨#[]⟩, .string ⟨#[]⟩, .bool false]).flatten ++ [Value.int .i64 0, Value.int .i64 0, Value.int .i64 0, Value.int .i64 0]).toArray
theorem zc_size : zc.size = 388 := by decide +kernel
theorem zc_value (w : World) : (zeroValue 137).run Tryd.prog w = .ok (.agg zc) w := by kernel_rfl
theorem zc_ring : ∀ i, i < 128 → zc[i * 3]? = some (.string ⟨#[]⟩) ∧ zc[i * 3 + 1]? = some (.string ⟨#[]⟩) ∧ zc[i * 3 + 2]? = some (.bool false) := by
  intro i hi
  have h : (List.range 128).map (fun i => (zc[i * 3]?, zc[i * 3 + 1]?, zc[i * 3 + 2]?)) = (List.range 128).map (fun _ => (some (Value.string ⟨#[]⟩), some (Value.string ⟨#[]⟩), some (Value.bool false))) := by kernel_rfl
  have := List.map_inj_left.1 h i (List.mem_range.2 hi)
  simp only [Prod.mk.injEq] at this
  exact this
theorem zc_tail : zc[384]? = some (.int .i64 0) ∧ zc[385]? = some (.int .i64 0) ∧ zc[386]? = some (.int .i64 0) := by refine ⟨?_, ?_, ?_⟩ <;> kernel_rfl
set_option maxRecDepth 100000 in
set_option maxHeartbeats 1000000 in
theorem new_yes (m : Nat) (h : m ≤ 4096) (w : World) : Calls Tryd.prog 51 #[.int .i64 (m : Int)] w fun e w' => e = .returned (.tuple #[.pointer (some ⟨w.heap.size, 0, none⟩), .nilIface]) ∧ Tb w' w.heap.size (fun _ => (⟨#[]⟩, ⟨#[]⟩)) 0 0 0 m ∧ Below w.heap.size w w' := by
  have hz := fun W => zc_value W
  have hs := zc_size
  go_enter Tryd.func51, Tryd.ntmps51
  go_wp2_with fail
  refine (mayBe_yes m h _).mono ?_
  rintro e w1 ⟨rfl, rfl⟩
  go_wp2_with fail
  go_ret2
  refine ⟨rfl, ?_, (Below.refl _ _).alloc (Nat.le_refl _) _⟩
  clear hz hs
  have hzs := zc_size
  constructor
  · intro i hi
    have := (zc_ring i hi).1
    simp [Array.getElem?_setIfInBounds, this, show 387 ≠ i * 3 by omega]
  · intro i hi
    have := (zc_ring i hi).2.1
    simp [Array.getElem?_setIfInBounds, this, show 387 ≠ i * 3 + 1 by omega]
  · intro i hi
    have := (zc_ring i hi).2.2
    simp [Array.getElem?_setIfInBounds, this, show 387 ≠ i * 3 + 2 by omega]
  · simp [Array.getElem?_setIfInBounds, zc_tail.1]
  · simp [Array.getElem?_setIfInBounds, zc_tail.2.1]
  · simp [Array.getElem?_setIfInBounds, zc_tail.2.2]
  · simp [Array.getElem?_setIfInBounds, hzs]
  · intro i; simp
theorem new_no (m : Int) (h : m < 0 ∨ 4096 < m) (ev : Value) (w : World) (hE : w.cell? ⟨0, 0, none⟩ = some ev) : Calls Tryd.prog 51 #[.int .i64 m] w fun e w' => e = .returned (.tuple #[.pointer none, ev]) ∧ Below w.heap.size w w' := by
  have HE := Lib.hid (fun W => mayBe_no m h W)
  clear h
  go_enter Tryd.func51, Tryd.ntmps51
  go_wp2_with fail
  refine (HE.out _).mono ?_
  rintro e w1 ⟨rfl, rfl⟩
  go_wp2_with fail
  go_quiet (fail)
  go_wp2
  go_ret2
  refine ⟨rfl, ?_⟩
  (repeat (first | exact Below.refl _ _ | (refine bdN ?_ _) | (refine Below.drew ?_)))
end Go.Proofs.YtlfnglnokakpfaaDoor.Tt
