/-
  THE KIT OF OUR WALKS over package table: the state of a table in memory.
-/
import Derived.Test.YtgoglfahlfkbiaaDoorRows
import Derived.WalkKit
import Derived.ProofKit
import Derived.WalkLawsBesides
import Derived.WalkSpells
import Derived.Outline
import Derived.LoopTactic
import Derived.Deep.QuietTactic
import Derived.BigQuiet
import Derived.IntWalk
import Derived.Lib.Hide
import Derived.Deep.MidRow
import Derived.Deep.RegionHeld3
import Derived.Deep.RegionLaw
namespace Go.Proofs.YtgoglfahlfkbiaaDoor.Tt
open Go.RowKit

/-- A header: its name, its value. -/
abbrev Hd := ByteArray × ByteArray
def sizeH (h : Hd) : Nat := h.1.size + h.2.size + 32
def total : List Hd → Nat
  | [] => 0
  | h :: l => sizeH h + total l
abbrev hdV (h : Hd) : Value := .agg #[.string h.1, .string h.2, .bool false]
abbrev hdN (h : Hd) (c : Bool) : Value := .agg #[.string h.1, .string h.2, .bool c]

theorem cell_lt {w : World} {p : Addr} {v : Value} (h : w.cell? p = some v) : p.block < w.heap.size := by
  rcases Nat.lt_or_ge p.block w.heap.size with h' | h'
  · exact h'
  · simp [World.cell?, Array.getElem?_eq_none h'] at h
theorem below_drewN (w : World) (q : Nat) : Below w.heap.size w (w.drewN q) :=
  ⟨rfl, rfl, rfl, Nat.le_refl _, fun _ _ => rfl⟩
theorem bdN {B : Nat} {a w : World} (h : Below B a w) (n : Nat) : Below B a (w.drewN n) := h.trans ⟨rfl, rfl, rfl, Nat.le_refl _, fun _ _ => rfl⟩

/-- The table at block b: its ring holds R, the oldest stands at o, there are k headers of s bytes together, it may have m. -/
structure Tb (w : World) (b : Nat) (R : Nat → Hd) (o k s m : Nat) : Prop where
  r0 : ∀ i, i < 128 → w.cell? ⟨b, i * 3, none⟩ = some (.string (R i).1)
  r1 : ∀ i, i < 128 → w.cell? ⟨b, i * 3 + 1, none⟩ = some (.string (R i).2)
  r2 : ∀ i, i < 128 → w.cell? ⟨b, i * 3 + 2, none⟩ = some (.bool false)
  c0 : w.cell? ⟨b, 384, none⟩ = some (.int .i64 (o : Int))
  c1 : w.cell? ⟨b, 385, none⟩ = some (.int .i64 (k : Int))
  c2 : w.cell? ⟨b, 386, none⟩ = some (.int .i64 (s : Int))
  c3 : w.cell? ⟨b, 387, none⟩ = some (.int .i64 (m : Int))
  z : ∀ i, w.frozen? ⟨b, i, none⟩ = false

/-- The cells of a new table. -/
def zc : Array Value := ((List.replicate 128 [Value.string ⟨#[]⟩, .string ⟨#[]⟩, .bool false]).flatten ++ [Value.int .i64 0, Value.int .i64 0, Value.int .i64 0, Value.int .i64 0]).toArray
theorem zc_size : zc.size = 388 := by decide +kernel
theorem zc_ring : ∀ i, i < 128 → zc[i * 3]? = some (.string ⟨#[]⟩) ∧ zc[i * 3 + 1]? = some (.string ⟨#[]⟩) ∧ zc[i * 3 + 2]? = some (.bool false) := by
  intro i hi
  have h : (List.range 128).map (fun i => (zc[i * 3]?, zc[i * 3 + 1]?, zc[i * 3 + 2]?)) = (List.range 128).map (fun _ => (some (Value.string ⟨#[]⟩), some (Value.string ⟨#[]⟩), some (Value.bool false))) := by kernel_rfl
  have := List.map_inj_left.1 h i (List.mem_range.2 hi)
  simp only [Prod.mk.injEq] at this
  exact this
theorem zc_tail : zc[384]? = some (.int .i64 0) ∧ zc[385]? = some (.int .i64 0) ∧ zc[386]? = some (.int .i64 0) := by refine ⟨?_, ?_, ?_⟩ <;> kernel_rfl
end Go.Proofs.YtgoglfahlfkbiaaDoor.Tt
