/-
  KIT: what a frame says, as a value and in a box.
-/
import Derived.Test.YtefdkbdblocikaaDoorLb
namespace Go.Proofs.YtefdkbdblocikaaDoor
open Go.RowKit Hu

/-- What a frame says: its numbers, its marks, its settings and data as values. -/
structure IV where
  ty : Int
  fl : Int
  st : Int
  en : Bool
  eh : Bool
  ak : Bool
  pd : Bool
  pr : Bool
  al : Bool
  pad : Int
  dep : Int
  wt : Int
  co : Int
  la : Int
  ic : Int
  pm : Int
  sv : Value
  dv : Value
abbrev IV.val (I : IV) : Value := .agg #[.int .i64 I.ty, .int .i64 I.fl, .int .i64 I.st, .bool I.en, .bool I.eh, .bool I.ak, .bool I.pd, .bool I.pr, .bool I.al, .int .i64 I.pad, .int .i64 I.dep, .int .i64 I.wt, .int .i64 I.co, .int .i64 I.la, .int .i64 I.ic, .int .i64 I.pm, I.sv, I.dv]
/-- Nothing but a type, flags and a stream. -/
def iv0 (ty fl st : Int) : IV := ⟨ty, fl, st, false, false, false, false, false, false, 0, 0, 0, 0, 0, 0, 0, .slice none 0 0, .slice none 0 0⟩
def IV.cells (I : IV) : List Value := [.int .i64 I.ty, .int .i64 I.fl, .int .i64 I.st, .bool I.en, .bool I.eh, .bool I.ak, .bool I.pd, .bool I.pr, .bool I.al, .int .i64 I.pad, .int .i64 I.dep, .int .i64 I.wt, .int .i64 I.co, .int .i64 I.la, .int .i64 I.ic, .int .i64 I.pm, I.sv, I.dv]
theorem cells_len (I : IV) : I.cells.length = 18 := rfl
/-- It lies at block p. -/
structure Ib (w : World) (p : Nat) (I : IV) : Prop where
  c : ∀ i v, I.cells[i]? = some v → w.cell? ⟨p, i, none⟩ = some v
  z : ∀ i, w.frozen? ⟨p, i, none⟩ = false
theorem Ib.lt {w : World} {p : Nat} {I : IV} (h : Ib w p I) : p < w.heap.size := Hu.cell_lt (h.c 0 _ rfl)
theorem Ib.blk {w w' : World} {p : Nat} {I : IV} (h : Ib w p I) (hb : w'.heap[p]? = w.heap[p]?) : Ib w' p I :=
  ⟨fun i v hv => (World.cell?_of_block (a := ⟨p, i, none⟩) hb).trans (h.c i v hv), fun i => (World.frozen?_of_block (a := ⟨p, i, none⟩) hb).trans (h.z i)⟩
theorem Ib.kept {w w' : World} {p : Nat} {I : IV} (h : Ib w p I) {B : Nat} (hb : Below B w w') (hp : p < B) : Ib w' p I := h.blk (hb.block p hp)
theorem Ib.old {w w' : World} {p : Nat} {I : IV} (h : Ib w p I) (hb : Below w.heap.size w w') : Ib w' p I := h.kept hb h.lt
theorem cell_setN (w : World) (b i j : Nat) (u : Value) (h : i ≠ j) : (w.setCell ⟨b, i, none⟩ u).cell? ⟨b, j, none⟩ = w.cell? ⟨b, j, none⟩ := by
  simp [go_sem, h, Ne.symm h]
theorem cell_setS (w : World) (b i : Nat) (u v : Value) (h : w.cell? ⟨b, i, none⟩ = some v) : (w.setCell ⟨b, i, none⟩ u).cell? ⟨b, i, none⟩ = some u := by
  simp [go_sem, h]
/-- A field stored. -/
theorem Ib.set {w : World} {p : Nat} {I : IV} (h : Ib w p I) (i : Nat) (v : Value) (I' : IV) (hi : i < 18) (hI : I'.cells = I.cells.set i v) : Ib (w.setCell ⟨p, i, none⟩ v) p I' := by
  refine ⟨fun j u hu => ?_, fun j => by rw [World.frozen?_setCell]; exact h.z j⟩
  rw [hI] at hu
  by_cases hj : i = j
  · subst hj
    rw [List.getElem?_set_self (by rw [cells_len]; exact hi)] at hu
    cases hu
    obtain ⟨x, hx⟩ : ∃ x, I.cells[i]? = some x := ⟨_, List.getElem?_eq_getElem (by rw [cells_len]; exact hi)⟩
    exact cell_setS _ _ _ _ _ (h.c i x hx)
  · rw [List.getElem?_set_ne hj] at hu
    rw [cell_setN _ _ _ _ _ hj]
    exact h.c j u hu
/-- The store of a mark. -/
def setF (I : IV) (off : Nat) (b : Bool) : IV := if off = 3 then { I with en := b } else if off = 4 then { I with eh := b } else if off = 5 then { I with ak := b } else if off = 6 then { I with pd := b } else if off = 7 then { I with pr := b } else I
theorem Ib.setF {w : World} {p : Nat} {I : IV} (h : Ib w p I) {off : Nat} (h3 : 3 ≤ off) (h7 : off ≤ 7) (b : Bool) : Ib (w.setCell ⟨p, off, none⟩ (.bool b)) p (setF I off b) := by
  have hc : off = 3 ∨ off = 4 ∨ off = 5 ∨ off = 6 ∨ off = 7 := by omega
  rcases hc with rfl | rfl | rfl | rfl | rfl
  · exact h.set 3 _ _ (by decide) rfl
  · exact h.set 4 _ _ (by decide) rfl
  · exact h.set 5 _ _ (by decide) rfl
  · exact h.set 6 _ _ (by decide) rfl
  · exact h.set 7 _ _ (by decide) rfl
/-- Whether a bit of the flags is set. -/
def fbit (fl : Int) (b : Nat) : Bool := bits .and .i64 fl (b : Int) != 0
def flagsF (fl : Int) (F : List Flg) (I : IV) : IV := F.foldl (fun I f => setF I f.off (fbit fl f.bit)) I
theorem flagsF_take (fl : Int) (F : List Flg) (I : IV) {i : Nat} (h : i < F.length) : flagsF fl (F.take (i + 1)) I = setF (flagsF fl (F.take i) I) (F[i]).off (fbit fl (F[i]).bit) := by
  unfold flagsF
  rw [List.take_add_one, List.getElem?_eq_getElem h, List.foldl_append]
  rfl
/-- A new box. -/
theorem ib_new (w : World) (I : IV) : Ib (w.alloc (.cells #[.int .i64 I.ty, .int .i64 I.fl, .int .i64 I.st, .bool I.en, .bool I.eh, .bool I.ak, .bool I.pd, .bool I.pr, .bool I.al, .int .i64 I.pad, .int .i64 I.dep, .int .i64 I.wt, .int .i64 I.co, .int .i64 I.la, .int .i64 I.ic, .int .i64 I.pm, I.sv, I.dv] 47)) w.heap.size I := by
  have hb := (MapKept.heap_alloc w (.cells #[.int .i64 I.ty, .int .i64 I.fl, .int .i64 I.st, .bool I.en, .bool I.eh, .bool I.ak, .bool I.pd, .bool I.pr, .bool I.al, .int .i64 I.pad, .int .i64 I.dep, .int .i64 I.wt, .int .i64 I.co, .int .i64 I.la, .int .i64 I.ic, .int .i64 I.pm, I.sv, I.dv] 47)).1
  refine ⟨fun i v hv => ?_, fun i => by simp only [World.frozen?, hb]; simp⟩
  simp only [World.cell?, hb]
  have : (#[.int .i64 I.ty, .int .i64 I.fl, .int .i64 I.st, .bool I.en, .bool I.eh, .bool I.ak, .bool I.pd, .bool I.pr, .bool I.al, .int .i64 I.pad, .int .i64 I.dep, .int .i64 I.wt, .int .i64 I.co, .int .i64 I.la, .int .i64 I.ic, .int .i64 I.pm, I.sv, I.dv] : Array Value)[i]? = some v := by
    rw [← hv, IV.cells, List.getElem?_toArray]
  simpa using this
end Go.Proofs.YtefdkbdblocikaaDoor
