/-
  CONTRACTS: the keepers of a request's headers with a colon.
-/
import Derived.Test.YtgoglfahlfkbiaaDoorLt
import Derived.Test.YtgoglfahlfkbiaaDoorJb
namespace Go.Proofs.YtgoglfahlfkbiaaDoor
open Go.RowKit Tt

abbrev fnC (F q : Nat) : Value := .func (.func F) #[] #[.pointer (some ⟨q, 0, none⟩)]
theorem filled_any (x : Addr) (w : World) : Calls Tryd.prog 50 #[.pointer (some x)] w fun e w' => e = .returned (fnC 69 w.heap.size) ∧ w' = w.alloc (.cells #[.pointer (some x)] 93) := by
  go_enter Tryd.func50, Tryd.ntmps50
  go_wp2
  go_ret
  exact ⟨rfl, rfl⟩
/-- A request in a box: its texts; nothing behind them. -/
structure RQ where
  m : ByteArray
  s : ByteArray
  a : ByteArray
  p : ByteArray
structure QB (w : World) (r : Nat) (S : RQ) : Prop where
  c0 : w.cell? ⟨r, 0, none⟩ = some (.string S.m)
  c1 : w.cell? ⟨r, 1, none⟩ = some (.string S.s)
  c2 : w.cell? ⟨r, 2, none⟩ = some (.string S.a)
  c3 : w.cell? ⟨r, 3, none⟩ = some (.string S.p)
  c4 : w.cell? ⟨r, 4, none⟩ = some (.slice none 0 0)
  z : ∀ i, w.frozen? ⟨r, i, none⟩ = false
theorem QB.blk {w w' : World} {r : Nat} {S : RQ} (h : QB w r S) (hb : w'.heap[r]? = w.heap[r]?) : QB w' r S :=
  ⟨(World.cell?_of_block (a := ⟨r, 0, none⟩) hb).trans h.c0, (World.cell?_of_block (a := ⟨r, 1, none⟩) hb).trans h.c1, (World.cell?_of_block (a := ⟨r, 2, none⟩) hb).trans h.c2, (World.cell?_of_block (a := ⟨r, 3, none⟩) hb).trans h.c3, (World.cell?_of_block (a := ⟨r, 4, none⟩) hb).trans h.c4,
   fun i => (World.frozen?_of_block (a := ⟨r, i, none⟩) hb).trans (h.z i)⟩
theorem cell_setN (w : World) (b i j : Nat) (u : Value) (h : i ≠ j) : (w.setCell ⟨b, i, none⟩ u).cell? ⟨b, j, none⟩ = w.cell? ⟨b, j, none⟩ := by
  simp [go_sem, h, Ne.symm h]
theorem cell_setS (w : World) (b i : Nat) (u v : Value) (h : w.cell? ⟨b, i, none⟩ = some v) : (w.setCell ⟨b, i, none⟩ u).cell? ⟨b, i, none⟩ = some u := by
  simp [go_sem, h]
theorem QB.set0 {w : World} {r : Nat} {S : RQ} (h : QB w r S) (v : ByteArray) : QB (w.setCell ⟨r, 0, none⟩ (.string v)) r { S with m := v } :=
  ⟨cell_setS _ _ _ _ _ h.c0, (cell_setN _ _ _ _ _ (by omega)).trans h.c1, (cell_setN _ _ _ _ _ (by omega)).trans h.c2, (cell_setN _ _ _ _ _ (by omega)).trans h.c3, (cell_setN _ _ _ _ _ (by omega)).trans h.c4, fun i => by rw [World.frozen?_setCell]; exact h.z i⟩
theorem QB.set1 {w : World} {r : Nat} {S : RQ} (h : QB w r S) (v : ByteArray) : QB (w.setCell ⟨r, 1, none⟩ (.string v)) r { S with s := v } :=
  ⟨(cell_setN _ _ _ _ _ (by omega)).trans h.c0, cell_setS _ _ _ _ _ h.c1, (cell_setN _ _ _ _ _ (by omega)).trans h.c2, (cell_setN _ _ _ _ _ (by omega)).trans h.c3, (cell_setN _ _ _ _ _ (by omega)).trans h.c4, fun i => by rw [World.frozen?_setCell]; exact h.z i⟩
theorem QB.set2 {w : World} {r : Nat} {S : RQ} (h : QB w r S) (v : ByteArray) : QB (w.setCell ⟨r, 2, none⟩ (.string v)) r { S with a := v } :=
  ⟨(cell_setN _ _ _ _ _ (by omega)).trans h.c0, (cell_setN _ _ _ _ _ (by omega)).trans h.c1, cell_setS _ _ _ _ _ h.c2, (cell_setN _ _ _ _ _ (by omega)).trans h.c3, (cell_setN _ _ _ _ _ (by omega)).trans h.c4, fun i => by rw [World.frozen?_setCell]; exact h.z i⟩
theorem QB.set3 {w : World} {r : Nat} {S : RQ} (h : QB w r S) (v : ByteArray) : QB (w.setCell ⟨r, 3, none⟩ (.string v)) r { S with p := v } :=
  ⟨(cell_setN _ _ _ _ _ (by omega)).trans h.c0, (cell_setN _ _ _ _ _ (by omega)).trans h.c1, (cell_setN _ _ _ _ _ (by omega)).trans h.c2, cell_setS _ _ _ _ _ h.c3, (cell_setN _ _ _ _ _ (by omega)).trans h.c4, fun i => by rw [World.frozen?_setCell]; exact h.z i⟩
theorem kp_set (r : Nat) (w : World) (i : Nat) (v : Value) : Kp r w (w.setCell ⟨r, i, none⟩ v) := ⟨rfl, rfl, rfl, by simp [World.setCell], fun k _ hk => Below.heap_setCell _ _ _ _ hk⟩
/-- A text is not empty. -/
def fullB (v : ByteArray) : Bool := !v.toList.isEmpty
theorem keep_filled (v : ByteArray) (q r i : Nat) (u : Value) (w : World) (hq : w.cell? ⟨q, 0, none⟩ = some (.pointer (some ⟨r, i, none⟩))) (hu : w.cell? ⟨r, i, none⟩ = some u) (hz : w.frozen? ⟨r, i, none⟩ = false) :
    Calls Tryd.prog 69 #[.string v, .pointer (some ⟨q, 0, none⟩)] w fun e w' => e = .returned (.bool (fullB v)) ∧ w' = w.setCell ⟨r, i, none⟩ (.string v) := by
  unfold fullB
  go_enter Tryd.func69, Tryd.ntmps69
  go_wp2
  all_goals go_ret
  all_goals exact ⟨by simp_all, rfl⟩
theorem keep_auth (v : ByteArray) (q r : Nat) (u : Value) (w : World) (hq : w.cell? ⟨q, 0, none⟩ = some (.pointer (some ⟨r, 0, none⟩))) (hu : w.cell? ⟨r, 2, none⟩ = some u) (hz : w.frozen? ⟨r, 2, none⟩ = false) :
    Calls Tryd.prog 51 #[.string v, .pointer (some ⟨q, 0, none⟩)] w fun e w' => e = .returned (.bool true) ∧ w' = w.setCell ⟨r, 2, none⟩ (.string v) := by
  go_enter Tryd.func51, Tryd.ntmps51
  go_wp2
  go_ret
  exact ⟨rfl, rfl⟩
/-- A path that may be. -/
def pathB (v : ByteArray) : Bool := (v.toList == [42]) || pre1 47 v
theorem keep_path (v : ByteArray) (q r : Nat) (u : Value) (w : World) (hq : w.cell? ⟨q, 0, none⟩ = some (.pointer (some ⟨r, 0, none⟩))) (hu : w.cell? ⟨r, 3, none⟩ = some u) (hz : w.frozen? ⟨r, 3, none⟩ = false) :
    Calls Tryd.prog 52 #[.string v, .pointer (some ⟨q, 0, none⟩)] w fun e w' => e = .returned (.bool (pathB v)) ∧ w' = w.setCell ⟨r, 3, none⟩ (.string v) := by
  have HP := Lib.hid (fun W => prefix_any v 47 W)
  unfold pathB
  cases hs : v.toList == [42] with
  | true =>
    go_enter Tryd.func52, Tryd.ntmps52
    go_wp2_with fail
    go_ret
    exact ⟨rfl, rfl⟩
  | false =>
    generalize pre1 47 v = d at HP
    go_enter Tryd.func52, Tryd.ntmps52
    go_wp2_with fail
    refine (HP.out _).mono ?_
    rintro e w' ⟨rfl, rfl⟩
    go_wp2_with fail
    go_ret
    exact ⟨by simp, rfl⟩
end Go.Proofs.YtgoglfahlfkbiaaDoor
