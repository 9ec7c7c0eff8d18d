/-
  THE KIT OF OUR WALKS over package flow: a window in memory; what its calls make of it.
-/
import Derived.Test.YtfgceakoakcccaaDoorRows
import Derived.WalkKit
import Derived.ProofKit
import Derived.WalkLawsBesides
import Derived.WalkSpells
import Derived.Outline
import Derived.LoopTactic
import Derived.Deep.QuietTactic
import Derived.BigQuiet
import Derived.IntWalk
import Derived.Lib.Hide
import Derived.Deep.MidRow
import Derived.Deep.RegionHeld3
import Derived.Deep.RegionLaw
import Derived.Deep.DeepCutAuto
import Derived.Lib.Builder
namespace Go.Proofs.YtfgceakoakcccaaDoor
open Go.RowKit

theorem cell_lt {w : World} {p : Addr} {v : Value} (h : w.cell? p = some v) : p.block < w.heap.size := by
  rcases Nat.lt_or_ge p.block w.heap.size with h' | h'
  · exact h'
  · simp [World.cell?, Array.getElem?_eq_none h'] at h
theorem bdN {B : Nat} {a w : World} (h : Below B a w) (n : Nat) : Below B a (w.drewN n) := h.trans ⟨rfl, rfl, rfl, Nat.le_refl _, fun _ _ => rfl⟩
theorem cell_setS (w : World) (b i : Nat) (u v : Value) (h : w.cell? ⟨b, i, none⟩ = some v) : (w.setCell ⟨b, i, none⟩ u).cell? ⟨b, i, none⟩ = some u := by
  simp [go_sem, h]
theorem cell_setN (w : World) (b i j : Nat) (u : Value) (h : i ≠ j) : (w.setCell ⟨b, i, none⟩ u).cell? ⟨b, j, none⟩ = w.cell? ⟨b, j, none⟩ := by
  simp [go_sem, h, Ne.symm h]

/-- Of what was there only the blocks of S may have turned. -/
structure Kp (S : List Nat) (w w' : World) : Prop where
  os : w'.os = w.os
  tape : w'.tape = w.tape
  output : w'.output = w.output
  size : w.heap.size ≤ w'.heap.size
  block : ∀ k, k < w.heap.size → k ∉ S → w'.heap[k]? = w.heap[k]?
theorem Kp.refl (S : List Nat) (w : World) : Kp S w w := ⟨rfl, rfl, rfl, Nat.le_refl _, fun _ _ _ => rfl⟩
theorem Kp.trans {S : List Nat} {x y z : World} (h : Kp S x y) (k : Kp S y z) : Kp S x z :=
  ⟨k.os.trans h.os, k.tape.trans h.tape, k.output.trans h.output, Nat.le_trans h.size k.size, fun i hi hb => (k.block i (Nat.lt_of_lt_of_le hi h.size) hb).trans (h.block i hi hb)⟩
theorem Kp.drewN {S : List Nat} {x y : World} (h : Kp S x y) (q : Nat) : Kp S x (y.drewN q) := h.trans ⟨rfl, rfl, rfl, Nat.le_refl _, fun _ _ _ => rfl⟩
theorem Kp.set {S : List Nat} {x y : World} (h : Kp S x y) (b o : Nat) (hb : b ∈ S) (v : Value) : Kp S x (y.setCell ⟨b, o, none⟩ v) := h.trans ⟨rfl, rfl, rfl, by simp [World.setCell], fun k _ hk => Below.heap_setCell _ _ _ _ (fun e => hk (e ▸ hb))⟩
theorem Kp.of_below {S : List Nat} {x y : World} (h : Below x.heap.size x y) : Kp S x y := ⟨h.os, h.tape, h.output, h.size, fun k hk _ => h.block k hk⟩
theorem Kp.below {S : List Nat} {B : Nat} {x y : World} (h : Kp S x y) (hb : ∀ b ∈ S, B ≤ b) (hB : B ≤ x.heap.size) : Below B x y := ⟨h.os, h.tape, h.output, h.size, fun k hk => h.block k (by omega) (fun hm => by have := hb k hm; omega)⟩
theorem Kp.mono {S T : List Nat} {x y : World} (h : Kp S x y) (hs : ∀ b ∈ S, b ∈ T) : Kp T x y := ⟨h.os, h.tape, h.output, h.size, fun k hk hn => h.block k hk (fun hm => hn (hs k hm))⟩
theorem Kp.cell {S : List Nat} {x y : World} (h : Kp S x y) {p : Addr} (hp : p.block < x.heap.size) (hn : p.block ∉ S) : y.cell? p = x.cell? p := World.cell?_of_block (h.block _ hp hn)

/-- The window at block b has x left. -/
structure Wi (w : World) (b : Nat) (x : Int) : Prop where
  h : w.heap[b]? = some (.cells #[.int .i64 x] 46 (0, 0))
theorem Wi.c {w : World} {b : Nat} {x : Int} (h : Wi w b x) : w.cell? ⟨b, 0, none⟩ = some (.int .i64 x) := by simp [World.cell?, h.h]
theorem Wi.z {w : World} {b : Nat} {x : Int} (h : Wi w b x) : w.frozen? ⟨b, 0, none⟩ = false := by simp [World.frozen?, h.h]
theorem Wi.lt {w : World} {b : Nat} {x : Int} (h : Wi w b x) : b < w.heap.size := cell_lt h.c
theorem Wi.blk {w w' : World} {b : Nat} {x : Int} (h : Wi w b x) (hb : w'.heap[b]? = w.heap[b]?) : Wi w' b x := ⟨hb.trans h.h⟩
theorem Wi.below {w w' : World} {b : Nat} {x : Int} (h : Wi w b x) (hb : Below w.heap.size w w') : Wi w' b x := h.blk (hb.block b h.lt)
theorem Wi.kp {S : List Nat} {w w' : World} {b : Nat} {x : Int} (h : Wi w b x) (hk : Kp S w w') (hn : b ∉ S) : Wi w' b x := h.blk (hk.block b h.lt hn)
theorem Wi.set {w : World} {b : Nat} {x : Int} (h : Wi w b x) (y : Int) : Wi (w.setCell ⟨b, 0, none⟩ (.int .i64 y)) b y := by
  constructor
  show (w.heap.modify b _)[b]? = _
  rw [Array.getElem?_modify, if_pos rfl, h.h]
  rfl

/-- The errors of the chapter. -/
abbrev errV (a : Addr) : Value := .iface 74 (.pointer (some a))
structure Er (w : World) (en ew : Addr) : Prop where
  n : w.cell? ⟨0, 0, none⟩ = some (errV en)
  w : w.cell? ⟨1, 0, none⟩ = some (errV ew)
theorem Er.below {w w' : World} {en ew : Addr} (h : Er w en ew) (hb : Below w.heap.size w w') : Er w' en ew :=
  ⟨(hb.cell (p := ⟨0, 0, none⟩) (cell_lt h.n)).trans h.n, (hb.cell (p := ⟨1, 0, none⟩) (cell_lt h.w)).trans h.w⟩
def erV (en ew : Addr) : Nat → Value
  | 0 => .nilIface
  | 1 => errV en
  | _ => errV ew

/-- What may be left. -/
abbrev Ok (x : Int) : Prop := -2147483647 ≤ x ∧ x ≤ 2147483647
def rmM (x n : Int) : Int := max 0 (min n x)
def tkM (x n : Int) : Int × Nat := if n < 0 then (x, 1) else if 0 < n ∧ x < n then (x, 2) else (x - n, 0)
def shM (x n : Int) : Int × Nat := if ¬ Ok n then (x, 1) else if ¬ Ok (x + n) then (x, 2) else (x + n, 0)
def gvM (x n : Int) : Int × Nat := if n < 1 then (x, 1) else shM x n
theorem tk_ok {x n : Int} (h : Ok x) : Ok (tkM x n).1 := by
  unfold tkM Ok at *
  split
  · exact h
  · split
    · exact h
    · rename_i h1 h2
      simp only
      constructor
      · by_cases h3 : 0 < n
        · have : ¬ x < n := fun e => h2 ⟨h3, e⟩
          omega
        · omega
      · omega
theorem sh_ok {x n : Int} (h : Ok x) : Ok (shM x n).1 := by
  unfold shM
  split
  · exact h
  · split
    · exact h
    · rename_i h2
      exact Decidable.not_not.1 h2
theorem gv_ok {x n : Int} (h : Ok x) : Ok (gvM x n).1 := by
  unfold gvM
  split
  · exact h
  · exact sh_ok h
end Go.Proofs.YtfgceakoakcccaaDoor
