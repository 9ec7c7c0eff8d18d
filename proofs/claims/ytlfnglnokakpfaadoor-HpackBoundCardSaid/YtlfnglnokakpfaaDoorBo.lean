/-
  ARGUMENTS: a slice of slices of bytes.
-/
import Derived.Test.YtlfnglnokakpfaaDoorTb
import Derived.Test.YtlfnglnokakpfaaDoorU
import Derived.Deep.Matrix
namespace Go.Proofs.YtlfnglnokakpfaaDoor
open Go.ChangeShapes Go.WideShapes Go.ChangeAt Go.RowKit Go.Deep Tt Hu Hu.Hf

/-- One of the slices, and what it reads as. -/
structure Rw where
  a : Option Addr
  n : Nat
  c : Nat
  l : List UInt8
/-- A slice reads as these slices. -/
structure Ls (w : World) (a : Option Addr) (n c : Nat) (L : List Rw) : Prop where
  len : L.length = n
  le : n ≤ c
  max : c ≤ maxLen
  row : ∀ i (h : i < L.length), (∃ b o, a = some ⟨b, o, none⟩ ∧ w.cell? ⟨b, o + i, none⟩ = some (.slice (L[i]).a (L[i]).n (L[i]).c)) ∧ Sl w (L[i]).a (L[i]).n (L[i]).c (L[i]).l
theorem Ls.kept {w w' : World} {a : Option Addr} {n c : Nat} {L : List Rw} (h : Ls w a n c L) (hb : Below w.heap.size w w') : Ls w' a n c L :=
  ⟨h.len, h.le, h.max, fun i hi => by
    obtain ⟨⟨b, o, e, hc⟩, hs⟩ := h.row i hi
    exact ⟨⟨b, o, e, (hb.cell (p := ⟨b, o + i, none⟩) (Hu.cell_lt hc)).trans hc⟩, hs.kept hb⟩⟩
/-- Where its bytes lie. -/
theorem sl_at {w : World} {a : Option Addr} {n c : Nat} {l : List UInt8} (h : Sl w a n c l) : ∀ p, a = some p → 0 < n → p.block < w.heap.size := by
  intro p hp h0
  obtain ⟨b, o, e, hc⟩ := h.row 0 (by have := h.len; omega)
  rw [hp] at e
  cases e
  exact Hu.cell_lt hc
theorem sl_row {W : World} {A : Option Addr} {l c : Nat} {Z : List Int} (h1 : l ≤ c) (h2 : c ≤ maxLen) (h3 : Z.length = c) (h4 : ∀ n ∈ Z, (Lit.int .u8 n).wf = true) (h5 : A = none → c = 0)
    (h6 : ∀ a', A = some a' → ∀ i, i < c → W.cell? (a'.add i) = some (.int .u8 (Z.getD i 0))) : Sl W A l c ((Z.take l).map fun z => UInt8.ofNat z.toNat) := by
  refine ⟨by simp; omega, h1, h2, h5, fun i hi => ?_⟩
  simp at hi
  cases A with
  | none => have := h5 rfl; omega
  | some a =>
    have hcell : ∀ i, i < Z.length → W.cell? (a.add i) = some (.int .u8 (Z.getD i 0)) := fun i hi => h6 a rfl i (by omega)
    obtain ⟨b, off, rfl, hc⟩ := ints_at hcell (by omega)
    refine ⟨b, off, rfl, ?_⟩
    rw [hc i (by omega)]
    have hil : i < Z.length := by omega
    have hzi : Z.getD i 0 = Z[i] := by simp [List.getD, hil]
    have hb := u8_bound (h4 Z[i] (List.getElem_mem _))
    have e : (((UInt8.ofNat (Z[i]).toNat).toNat : Nat) : Int) = Z[i] := by
      rw [ofNat_toNat (by omega)]
      omega
    simp only [List.getElem_map, List.getElem_take]
    rw [hzi, e]
theorem cellsB : Tryd.prog.cellsOf 22 = 1 := by kernel_rfl
set_option maxRecDepth 100000 in
theorem open_lists {H : Type} {enc : TypeId × Value → H} {W : World} {r : Reach} {b0 : Nat} {v : Value} {d : DataW H} {ps : List MemPlace} (hval : Value.okWide Tryd.prog W r b0 60 v)
    (hd : DataW.Trod enc Tryd.prog W 0 (fun _ => true) true 60 v d ps) : ∃ a n c L, v = .slice a n c ∧ Ls W a n c L := by
  obtain ⟨a0, len, cap, rfl⟩ := okWide_slice Tryd.underlying60 hval
  obtain ⟨fuel, hf⟩ := hd
  rcases open_int_rows Tryd.underlying60 Tryd.underlying22 Tryd.underlying5 cellsB cells8 hf with ⟨hcs, _⟩ | ⟨a, len', cap', A, Ln, Cp, Z, hcs, _, hle, hmax, _, hrow⟩
  · simp [Value.cells] at hcs
    obtain ⟨rfl, rfl, rfl⟩ := hcs
    exact ⟨none, 0, 0, [], rfl, ⟨rfl, Nat.le_refl _, by unfold maxLen; omega, fun i hi => by simp at hi⟩⟩
  · simp [Value.cells] at hcs
    obtain ⟨rfl, rfl, rfl⟩ := hcs
    refine ⟨some a, len, cap, (List.range len).map fun i => ⟨A i, Ln i, Cp i, ((Z i).take (Ln i)).map fun z => UInt8.ofNat z.toNat⟩, rfl, ⟨by simp, hle, hmax, fun i hi => ?_⟩⟩
    simp only [List.length_map, List.length_range] at hi
    simp only [List.getElem_map, List.getElem_range]
    obtain ⟨hc, r1, r2, r3, r4, r5, r6⟩ := hrow i (by omega)
    refine ⟨?_, sl_row r1 r2 r3 r4 r5 (fun a' ha i hi => (r6 a' ha).2 i hi)⟩
    obtain ⟨b, o, z⟩ := a
    have h0 := (hrow 0 (by omega)).1
    have hz : z = none := by simpa [Addr.add] using World.cell?_spot h0
    subst hz
    exact ⟨b, o, rfl, by rw [Addr.add_lit] at hc; exact hc⟩
end Go.Proofs.YtlfnglnokakpfaaDoor
