/-
  CONTRACTS: Len, Size, Most, shrink.
-/
import Derived.Test.YtgoglfahlfkbiaaDoorTtK
import Derived.Deep.DeepCutAuto
namespace Go.Proofs.YtgoglfahlfkbiaaDoor.Tt
open Go.RowKit

/-- Of what was there only block b may have turned. -/
structure Kp (b : Nat) (w w' : World) : Prop where
  os : w'.os = w.os
  tape : w'.tape = w.tape
  output : w'.output = w.output
  size : w.heap.size ≤ w'.heap.size
  block : ∀ k, k < w.heap.size → k ≠ b → w'.heap[k]? = w.heap[k]?
theorem Kp.refl (b : Nat) (w : World) : Kp b w w := ⟨rfl, rfl, rfl, Nat.le_refl _, fun _ _ _ => rfl⟩
theorem Kp.trans {b : Nat} {x y z : World} (h : Kp b x y) (k : Kp b y z) : Kp b x z :=
  ⟨k.os.trans h.os, k.tape.trans h.tape, k.output.trans h.output, Nat.le_trans h.size k.size, fun i hi hb => (k.block i (Nat.lt_of_lt_of_le hi h.size) hb).trans (h.block i hi hb)⟩
theorem Kp.drewN {b : Nat} {x y : World} (h : Kp b x y) (q : Nat) : Kp b x (y.drewN q) := h.trans ⟨rfl, rfl, rfl, Nat.le_refl _, fun _ _ _ => rfl⟩
theorem Kp.drew {b : Nat} {x y : World} (h : Kp b x y) : Kp b x y.drew := h.trans ⟨rfl, rfl, rfl, Nat.le_refl _, fun _ _ _ => rfl⟩
theorem Kp.alloc {b : Nat} {x y : World} (h : Kp b x y) (o : Obj) : Kp b x (y.alloc o) := h.trans ⟨rfl, rfl, rfl, by simp, fun k hk _ => Below.heap_alloc _ _ _ hk⟩
theorem Kp.set {b : Nat} {x y : World} (h : Kp b x y) (o : Nat) (v : Value) : Kp b x (y.setCell ⟨b, o, none⟩ v) := h.trans ⟨rfl, rfl, rfl, by simp [World.setCell], fun k _ hb => Below.heap_setCell _ _ _ _ hb⟩
theorem Kp.of_below {b : Nat} {x y : World} (h : Below x.heap.size x y) : Kp b x y := ⟨h.os, h.tape, h.output, h.size, fun k hk _ => h.block k hk⟩
theorem Kp.below {b B : Nat} {x y : World} (h : Kp b x y) (hb : B ≤ b) (hB : B ≤ x.heap.size) : Below B x y := ⟨h.os, h.tape, h.output, h.size, fun k hk => h.block k (by omega) (by omega)⟩

theorem Tb.kept {w w' : World} {b : Nat} {R : Nat → Hd} {o k s m : Nat} (h : Tb w b R o k s m) (hb : w'.heap[b]? = w.heap[b]?) : Tb w' b R o k s m := by
  have hc : ∀ i, w'.cell? ⟨b, i, none⟩ = w.cell? ⟨b, i, none⟩ := fun i => World.cell?_of_block hb
  have hf : ∀ i, w'.frozen? ⟨b, i, none⟩ = w.frozen? ⟨b, i, none⟩ := fun i => World.frozen?_of_block hb
  exact ⟨fun i hi => (hc _).trans (h.r0 i hi), fun i hi => (hc _).trans (h.r1 i hi), fun i hi => (hc _).trans (h.r2 i hi), (hc _).trans h.c0, (hc _).trans h.c1, (hc _).trans h.c2, (hc _).trans h.c3, fun i => (hf _).trans (h.z i)⟩
theorem Tb.lt {w : World} {b : Nat} {R : Nat → Hd} {o k s m : Nat} (h : Tb w b R o k s m) : b < w.heap.size := cell_lt h.c0
theorem Tb.below {w w' : World} {b : Nat} {R : Nat → Hd} {o k s m : Nat} (h : Tb w b R o k s m) (hb : Below w.heap.size w w') : Tb w' b R o k s m := h.kept (hb.block b h.lt)

theorem cell_setN (w : World) (b i j : Nat) (u : Value) (h : i ≠ j) : (w.setCell ⟨b, i, none⟩ u).cell? ⟨b, j, none⟩ = w.cell? ⟨b, j, none⟩ := by
  simp [go_sem, h, Ne.symm h]
theorem cell_setS (w : World) (b i : Nat) (u v : Value) (h : w.cell? ⟨b, i, none⟩ = some v) : (w.setCell ⟨b, i, none⟩ u).cell? ⟨b, i, none⟩ = some u := by
  simp [go_sem, h]
theorem Tb.set2 {w : World} {b : Nat} {R : Nat → Hd} {o k s m : Nat} (h : Tb w b R o k s m) (s' : Nat) : Tb (w.setCell ⟨b, 386, none⟩ (.int .i64 (s' : Int))) b R o k s' m :=
  ⟨fun i hi => by rw [cell_setN _ _ _ _ _ (by omega)]; exact h.r0 i hi, fun i hi => by rw [cell_setN _ _ _ _ _ (by omega)]; exact h.r1 i hi, fun i hi => by rw [cell_setN _ _ _ _ _ (by omega)]; exact h.r2 i hi,
   by rw [cell_setN _ _ _ _ _ (by omega)]; exact h.c0, by rw [cell_setN _ _ _ _ _ (by omega)]; exact h.c1, cell_setS _ _ _ _ _ h.c2, by rw [cell_setN _ _ _ _ _ (by omega)]; exact h.c3, fun i => by rw [World.frozen?_setCell]; exact h.z i⟩
theorem Tb.set0 {w : World} {b : Nat} {R : Nat → Hd} {o k s m : Nat} (h : Tb w b R o k s m) (o' : Nat) : Tb (w.setCell ⟨b, 384, none⟩ (.int .i64 (o' : Int))) b R o' k s m :=
  ⟨fun i hi => by rw [cell_setN _ _ _ _ _ (by omega)]; exact h.r0 i hi, fun i hi => by rw [cell_setN _ _ _ _ _ (by omega)]; exact h.r1 i hi, fun i hi => by rw [cell_setN _ _ _ _ _ (by omega)]; exact h.r2 i hi,
   cell_setS _ _ _ _ _ h.c0, by rw [cell_setN _ _ _ _ _ (by omega)]; exact h.c1, by rw [cell_setN _ _ _ _ _ (by omega)]; exact h.c2, by rw [cell_setN _ _ _ _ _ (by omega)]; exact h.c3, fun i => by rw [World.frozen?_setCell]; exact h.z i⟩
theorem Tb.set1 {w : World} {b : Nat} {R : Nat → Hd} {o k s m : Nat} (h : Tb w b R o k s m) (k' : Nat) : Tb (w.setCell ⟨b, 385, none⟩ (.int .i64 (k' : Int))) b R o k' s m :=
  ⟨fun i hi => by rw [cell_setN _ _ _ _ _ (by omega)]; exact h.r0 i hi, fun i hi => by rw [cell_setN _ _ _ _ _ (by omega)]; exact h.r1 i hi, fun i hi => by rw [cell_setN _ _ _ _ _ (by omega)]; exact h.r2 i hi,
   by rw [cell_setN _ _ _ _ _ (by omega)]; exact h.c0, cell_setS _ _ _ _ _ h.c1, by rw [cell_setN _ _ _ _ _ (by omega)]; exact h.c2, by rw [cell_setN _ _ _ _ _ (by omega)]; exact h.c3, fun i => by rw [World.frozen?_setCell]; exact h.z i⟩
theorem Tb.set3 {w : World} {b : Nat} {R : Nat → Hd} {o k s m : Nat} (h : Tb w b R o k s m) (m' : Nat) : Tb (w.setCell ⟨b, 387, none⟩ (.int .i64 (m' : Int))) b R o k s m' :=
  ⟨fun i hi => by rw [cell_setN _ _ _ _ _ (by omega)]; exact h.r0 i hi, fun i hi => by rw [cell_setN _ _ _ _ _ (by omega)]; exact h.r1 i hi, fun i hi => by rw [cell_setN _ _ _ _ _ (by omega)]; exact h.r2 i hi,
   by rw [cell_setN _ _ _ _ _ (by omega)]; exact h.c0, by rw [cell_setN _ _ _ _ _ (by omega)]; exact h.c1, by rw [cell_setN _ _ _ _ _ (by omega)]; exact h.c2, cell_setS _ _ _ _ _ h.c3, fun i => by rw [World.frozen?_setCell]; exact h.z i⟩
/-- A header stored at place q of the ring. -/
theorem Tb.setR {w : World} {b : Nat} {R : Nat → Hd} {o k s m : Nat} (h : Tb w b R o k s m) (q : Nat) (hq : q < 128) (g : Hd) :
    Tb (((w.setCell ⟨b, q * 3, none⟩ (.string g.1)).setCell ⟨b, q * 3 + 1, none⟩ (.string g.2)).setCell ⟨b, q * 3 + 2, none⟩ (.bool false)) b (fun i => if i = q then g else R i) o k s m := by
  have e0 := h.r0 q hq
  have e1 := h.r1 q hq
  have e2 := h.r2 q hq
  refine ⟨fun i hi => ?_, fun i hi => ?_, fun i hi => ?_, ?_, ?_, ?_, ?_, fun i => ?_⟩
  · by_cases e : i = q
    · subst e
      rw [cell_setN _ _ _ _ _ (by omega), cell_setN _ _ _ _ _ (by omega), if_pos rfl]
      exact cell_setS _ _ _ _ _ e0
    · rw [cell_setN _ _ _ _ _ (by omega), cell_setN _ _ _ _ _ (by omega), cell_setN _ _ _ _ _ (by omega), if_neg e]
      exact h.r0 i hi
  · by_cases e : i = q
    · subst e
      rw [cell_setN _ _ _ _ _ (by omega), if_pos rfl]
      exact cell_setS _ _ _ _ _ (by rw [cell_setN _ _ _ _ _ (by omega)]; exact e1)
    · rw [cell_setN _ _ _ _ _ (by omega), cell_setN _ _ _ _ _ (by omega), cell_setN _ _ _ _ _ (by omega), if_neg e]
      exact h.r1 i hi
  · by_cases e : i = q
    · subst e
      exact cell_setS _ _ _ _ _ (by rw [cell_setN _ _ _ _ _ (by omega), cell_setN _ _ _ _ _ (by omega)]; exact e2)
    · rw [cell_setN _ _ _ _ _ (by omega), cell_setN _ _ _ _ _ (by omega), cell_setN _ _ _ _ _ (by omega)]
      exact h.r2 i hi
  · rw [cell_setN _ _ _ _ _ (by omega), cell_setN _ _ _ _ _ (by omega), cell_setN _ _ _ _ _ (by omega)]; exact h.c0
  · rw [cell_setN _ _ _ _ _ (by omega), cell_setN _ _ _ _ _ (by omega), cell_setN _ _ _ _ _ (by omega)]; exact h.c1
  · rw [cell_setN _ _ _ _ _ (by omega), cell_setN _ _ _ _ _ (by omega), cell_setN _ _ _ _ _ (by omega)]; exact h.c2
  · rw [cell_setN _ _ _ _ _ (by omega), cell_setN _ _ _ _ _ (by omega), cell_setN _ _ _ _ _ (by omega)]; exact h.c3
  · rw [World.frozen?_setCell, World.frozen?_setCell, World.frozen?_setCell]; exact h.z i
theorem Tb.alloc {w : World} {b : Nat} {R : Nat → Hd} {o k s m : Nat} (h : Tb w b R o k s m) (ob : Obj) (hb : b < w.heap.size) : Tb (w.alloc ob) b R o k s m := h.kept (Below.heap_alloc _ _ _ hb)
theorem Tb.drew {w : World} {b : Nat} {R : Nat → Hd} {o k s m : Nat} (h : Tb w b R o k s m) : Tb w.drew b R o k s m := h.kept rfl
theorem Tb.drewN {w : World} {b : Nat} {R : Nat → Hd} {o k s m : Nat} (h : Tb w b R o k s m) (q : Nat) : Tb (w.drewN q) b R o k s m := h.kept rfl

/-- What the ring holds, the oldest first. -/
structure Rg (R : Nat → Hd) (o : Nat) (M : List Hd) : Prop where
  lt : o < 128
  len : M.length ≤ 128
  at_ : ∀ j (h : j < M.length), R ((o + j) % 128) = M[j]
def zw (o : Nat) (R : Nat → Hd) : Nat → Hd := fun i => if i = o then (⟨#[]⟩, ⟨#[]⟩) else R i
theorem Rg.pop {R : Nat → Hd} {o : Nat} {g : Hd} {N : List Hd} (h : Rg R o (g :: N)) : Rg (zw o R) ((o + 1) % 128) N := by
  have hl := h.len
  simp only [List.length_cons] at hl
  have ho := h.lt
  refine ⟨Nat.mod_lt _ (by decide), by omega, fun j hj => ?_⟩
  have h1 := h.at_ (j + 1) (by simp; omega)
  rw [List.getElem_cons_succ] at h1
  unfold zw
  rw [show ((o + 1) % 128 + j) % 128 = (o + (j + 1)) % 128 by omega, if_neg (by omega)]
  exact h1
/-- The oldest go, until no more than m is left. -/
def shr (m : Nat) : List Hd → List Hd
  | [] => []
  | h :: t => if m < total (h :: t) then shr m t else h :: t
theorem total_ge : ∀ l : List Hd, 32 * l.length ≤ total l
  | [] => by simp
  | h :: t => by
    have := total_ge t
    simp only [total, List.length_cons, sizeH]
    omega
/-- The number in a cell: for a measure. -/
def cellN (w : World) (b i : Nat) : Nat := match w.cell? ⟨b, i, none⟩ with
  | some (.int _ n) => n.toNat
  | _ => 0
def ShrRel (b m x : Nat) (M : List Hd) (w : World) (wr : World) : Prop := ∃ (R : Nat → Hd) (o : Nat) (N : List Hd), Rg R o N ∧ Tb wr b R o N.length (total N) m ∧ Hid (shr x M = shr x N) ∧ total N ≤ 4096 ∧ Kp b w wr
def ShrPost (b m x : Nat) (M : List Hd) (w : World) (e : Ending) (w' : World) : Prop := ∃ (R : Nat → Hd) (o : Nat), e = .returned (.tuple #[]) ∧ Rg R o (shr x M) ∧ Tb w' b R o (shr x M).length (total (shr x M)) m ∧ Kp b w w'
end Go.Proofs.YtgoglfahlfkbiaaDoor.Tt
