/-
  TtKit: TtK TtL TtG TtC TtA, in one text.
-/
import Derived.Test.YtlkieeindnpidaaDoorRows
import Derived.WalkKit
import Derived.ProofKit
import Derived.WalkLawsBesides
import Derived.WalkSpells
import Derived.Outline
import Derived.LoopTactic
import Derived.Deep.QuietTactic
import Derived.BigQuiet
import Derived.IntWalk
import Derived.Lib.Hide
import Derived.Deep.MidRow
import Derived.Deep.RegionHeld3
import Derived.Deep.RegionLaw
import Derived.Deep.DeepCutAuto
import Derived.Lib.Strings
import Derived.Lib.Walk
import Derived.Lib.BufferWrite
import Derived.Lib.UnsafeStr
import Derived.Laws.MakeOwn
namespace Go.Proofs.YtlkieeindnpidaaDoor.Tt
open Go.RowKit

/-- A header: its name, its value. -/
abbrev Hd := ByteArray × ByteArray
def sizeH (h : Hd) : Nat := h.1.size + h.2.size + 32
def total : List Hd → Nat
  | [] => 0
  | h :: l => sizeH h + total l
abbrev hdV (h : Hd) : Value := .agg #[.string h.1, .string h.2, .bool false]
abbrev hdN (h : Hd) (c : Bool) : Value := .agg #[.string h.1, .string h.2, .bool c]

theorem cell_lt {w : World} {p : Addr} {v : Value} (h : w.cell? p = some v) : p.block < w.heap.size := by
  rcases Nat.lt_or_ge p.block w.heap.size with h' | h'
  · exact h'
  · simp [World.cell?, Array.getElem?_eq_none h'] at h
theorem below_drewN (w : World) (q : Nat) : Below w.heap.size w (w.drewN q) :=
  ⟨rfl, rfl, rfl, Nat.le_refl _, fun _ _ => rfl⟩
theorem bdN {B : Nat} {a w : World} (h : Below B a w) (n : Nat) : Below B a (w.drewN n) := h.trans ⟨rfl, rfl, rfl, Nat.le_refl _, fun _ _ => rfl⟩

/-- The table at block b: its ring holds R, the oldest stands at o, there are k headers of s bytes together, it may have m. -/
structure Tb (w : World) (b : Nat) (R : Nat → Hd) (o k s m : Nat) : Prop where
  r0 : ∀ i, i < 128 → w.cell? ⟨b, i * 3, none⟩ = some (.string (R i).1)
  r1 : ∀ i, i < 128 → w.cell? ⟨b, i * 3 + 1, none⟩ = some (.string (R i).2)
  r2 : ∀ i, i < 128 → w.cell? ⟨b, i * 3 + 2, none⟩ = some (.bool false)
  c0 : w.cell? ⟨b, 384, none⟩ = some (.int .i64 (o : Int))
  c1 : w.cell? ⟨b, 385, none⟩ = some (.int .i64 (k : Int))
  c2 : w.cell? ⟨b, 386, none⟩ = some (.int .i64 (s : Int))
  c3 : w.cell? ⟨b, 387, none⟩ = some (.int .i64 (m : Int))
  z : ∀ i, w.frozen? ⟨b, i, none⟩ = false

set_option maxRecDepth 100000 in
theorem sizeOf_any (h : Hd) (c : Bool) (w : World) (h1 : h.1.size ≤ 140737488355328) (h2 : h.2.size ≤ 140737488355328) :
    Calls Tryd.prog 59 #[hdN h c] w fun e w' => e = .returned (.int .i64 (sizeH h : Int)) ∧ w' = w.alloc (.cells #[.string h.1, .string h.2, .bool c] 77) := by
  unfold sizeH
  go_enter Tryd.func59, Tryd.ntmps59
  go_wp2
  go_ret
  exact ⟨by simp, rfl⟩
set_option maxRecDepth 100000 in
theorem mayBe_yes (m : Nat) (h : m ≤ 4096) (w : World) : Calls Tryd.prog 76 #[.int .i64 (m : Int)] w fun e w' => e = .returned (.bool true) ∧ w = w' := by
  have h1 : decide ((m : Int) ≤ 4096) = true := by simp; omega
  go_enter Tryd.func76, Tryd.ntmps76
  go_wp2
  go_ret
  exact ⟨by simp [h1], rfl⟩
theorem mayBe_no (m : Int) (h : m < 0 ∨ 4096 < m) (w : World) : Calls Tryd.prog 76 #[.int .i64 m] w fun e w' => e = .returned (.bool false) ∧ w = w' := by
  rcases h with h | h
  · go_enter Tryd.func76, Tryd.ntmps76
    go_wp2
    go_ret
    exact ⟨rfl, rfl⟩
  · have h' : ¬ m < 0 := by omega
    have h2 : 0 ≤ m := by omega
    have h1 : decide (m ≤ 4096) = false := by simp; omega
    go_enter Tryd.func76, Tryd.ntmps76
    go_wp2
    go_ret
    exact ⟨by simp [h1], rfl⟩

/-- The cells of a new table. -/
def zc : Array Value := ((List.replicate 128 [Value.string ⟨#[]⟩, .string ⟨#[]⟩, .bool false]).flatten ++ [Value.int .i64 0, Value.int .i64 0, Value.int .i64 0, Value.int .i64 0]).toArray
theorem zc_size : zc.size = 388 := by decide +kernel
theorem zc_value (w : World) : (zeroValue 137).run Tryd.prog w = .ok (.agg zc) w := by kernel_rfl
theorem zc_ring : ∀ i, i < 128 → zc[i * 3]? = some (.string ⟨#[]⟩) ∧ zc[i * 3 + 1]? = some (.string ⟨#[]⟩) ∧ zc[i * 3 + 2]? = some (.bool false) := by
  intro i hi
  have h : (List.range 128).map (fun i => (zc[i * 3]?, zc[i * 3 + 1]?, zc[i * 3 + 2]?)) = (List.range 128).map (fun _ => (some (Value.string ⟨#[]⟩), some (Value.string ⟨#[]⟩), some (Value.bool false))) := by kernel_rfl
  have := List.map_inj_left.1 h i (List.mem_range.2 hi)
  simp only [Prod.mk.injEq] at this
  exact this
theorem zc_tail : zc[384]? = some (.int .i64 0) ∧ zc[385]? = some (.int .i64 0) ∧ zc[386]? = some (.int .i64 0) := by refine ⟨?_, ?_, ?_⟩ <;> kernel_rfl
set_option maxRecDepth 100000 in
set_option maxHeartbeats 1000000 in
theorem new_yes (m : Nat) (h : m ≤ 4096) (w : World) : Calls Tryd.prog 51 #[.int .i64 (m : Int)] w fun e w' => e = .returned (.tuple #[.pointer (some ⟨w.heap.size, 0, none⟩), .nilIface]) ∧ Tb w' w.heap.size (fun _ => (⟨#[]⟩, ⟨#[]⟩)) 0 0 0 m ∧ Below w.heap.size w w' := by
  have hz := fun W => zc_value W
  have hs := zc_size
  go_enter Tryd.func51, Tryd.ntmps51
  go_wp2_with fail
  refine (mayBe_yes m h _).mono ?_
  rintro e w1 ⟨rfl, rfl⟩
  go_wp2_with fail
  go_ret2
  refine ⟨rfl, ?_, (Below.refl _ _).alloc (Nat.le_refl _) _⟩
  clear hz hs
  have hzs := zc_size
  constructor
  · intro i hi
    have := (zc_ring i hi).1
    simp [Array.getElem?_setIfInBounds, this, show 387 ≠ i * 3 by omega]
  · intro i hi
    have := (zc_ring i hi).2.1
    simp [Array.getElem?_setIfInBounds, this, show 387 ≠ i * 3 + 1 by omega]
  · intro i hi
    have := (zc_ring i hi).2.2
    simp [Array.getElem?_setIfInBounds, this, show 387 ≠ i * 3 + 2 by omega]
  · simp [Array.getElem?_setIfInBounds, zc_tail.1]
  · simp [Array.getElem?_setIfInBounds, zc_tail.2.1]
  · simp [Array.getElem?_setIfInBounds, zc_tail.2.2]
  · simp [Array.getElem?_setIfInBounds, hzs]
  · intro i; simp
theorem new_no (m : Int) (h : m < 0 ∨ 4096 < m) (ev : Value) (w : World) (hE : w.cell? ⟨0, 0, none⟩ = some ev) : Calls Tryd.prog 51 #[.int .i64 m] w fun e w' => e = .returned (.tuple #[.pointer none, ev]) ∧ Below w.heap.size w w' := by
  have HE := Lib.hid (fun W => mayBe_no m h W)
  clear h
  go_enter Tryd.func51, Tryd.ntmps51
  go_wp2_with fail
  refine (HE.out _).mono ?_
  rintro e w1 ⟨rfl, rfl⟩
  go_wp2_with fail
  go_quiet (fail)
  go_wp2
  go_ret2
  refine ⟨rfl, ?_⟩
  (repeat (first | exact Below.refl _ _ | (refine bdN ?_ _) | (refine Below.drew ?_)))
end Go.Proofs.YtlkieeindnpidaaDoor.Tt

namespace Go.Proofs.YtlkieeindnpidaaDoor.Tt
open Go.RowKit

/-- Of what was there only block b may have turned. -/
structure Kp (b : Nat) (w w' : World) : Prop where
  os : w'.os = w.os
  tape : w'.tape = w.tape
  output : w'.output = w.output
  size : w.heap.size ≤ w'.heap.size
  block : ∀ k, k < w.heap.size → k ≠ b → w'.heap[k]? = w.heap[k]?
theorem Kp.refl (b : Nat) (w : World) : Kp b w w := ⟨rfl, rfl, rfl, Nat.le_refl _, fun _ _ _ => rfl⟩
theorem Kp.trans {b : Nat} {x y z : World} (h : Kp b x y) (k : Kp b y z) : Kp b x z :=
  ⟨k.os.trans h.os, k.tape.trans h.tape, k.output.trans h.output, Nat.le_trans h.size k.size, fun i hi hb => (k.block i (Nat.lt_of_lt_of_le hi h.size) hb).trans (h.block i hi hb)⟩
theorem Kp.drewN {b : Nat} {x y : World} (h : Kp b x y) (q : Nat) : Kp b x (y.drewN q) := h.trans ⟨rfl, rfl, rfl, Nat.le_refl _, fun _ _ _ => rfl⟩
theorem Kp.drew {b : Nat} {x y : World} (h : Kp b x y) : Kp b x y.drew := h.trans ⟨rfl, rfl, rfl, Nat.le_refl _, fun _ _ _ => rfl⟩
theorem Kp.alloc {b : Nat} {x y : World} (h : Kp b x y) (o : Obj) : Kp b x (y.alloc o) := h.trans ⟨rfl, rfl, rfl, by simp, fun k hk _ => Below.heap_alloc _ _ _ hk⟩
theorem Kp.set {b : Nat} {x y : World} (h : Kp b x y) (o : Nat) (v : Value) : Kp b x (y.setCell ⟨b, o, none⟩ v) := h.trans ⟨rfl, rfl, rfl, by simp [World.setCell], fun k _ hb => Below.heap_setCell _ _ _ _ hb⟩
theorem Kp.of_below {b : Nat} {x y : World} (h : Below x.heap.size x y) : Kp b x y := ⟨h.os, h.tape, h.output, h.size, fun k hk _ => h.block k hk⟩
theorem Kp.below {b B : Nat} {x y : World} (h : Kp b x y) (hb : B ≤ b) (hB : B ≤ x.heap.size) : Below B x y := ⟨h.os, h.tape, h.output, h.size, fun k hk => h.block k (by omega) (by omega)⟩

theorem Tb.kept {w w' : World} {b : Nat} {R : Nat → Hd} {o k s m : Nat} (h : Tb w b R o k s m) (hb : w'.heap[b]? = w.heap[b]?) : Tb w' b R o k s m := by
  have hc : ∀ i, w'.cell? ⟨b, i, none⟩ = w.cell? ⟨b, i, none⟩ := fun i => World.cell?_of_block hb
  have hf : ∀ i, w'.frozen? ⟨b, i, none⟩ = w.frozen? ⟨b, i, none⟩ := fun i => World.frozen?_of_block hb
  exact ⟨fun i hi => (hc _).trans (h.r0 i hi), fun i hi => (hc _).trans (h.r1 i hi), fun i hi => (hc _).trans (h.r2 i hi), (hc _).trans h.c0, (hc _).trans h.c1, (hc _).trans h.c2, (hc _).trans h.c3, fun i => (hf _).trans (h.z i)⟩
theorem Tb.lt {w : World} {b : Nat} {R : Nat → Hd} {o k s m : Nat} (h : Tb w b R o k s m) : b < w.heap.size := cell_lt h.c0
theorem Tb.below {w w' : World} {b : Nat} {R : Nat → Hd} {o k s m : Nat} (h : Tb w b R o k s m) (hb : Below w.heap.size w w') : Tb w' b R o k s m := h.kept (hb.block b h.lt)

theorem cell_setN (w : World) (b i j : Nat) (u : Value) (h : i ≠ j) : (w.setCell ⟨b, i, none⟩ u).cell? ⟨b, j, none⟩ = w.cell? ⟨b, j, none⟩ := by
  simp [go_sem, h, Ne.symm h]
theorem cell_setS (w : World) (b i : Nat) (u v : Value) (h : w.cell? ⟨b, i, none⟩ = some v) : (w.setCell ⟨b, i, none⟩ u).cell? ⟨b, i, none⟩ = some u := by
  simp [go_sem, h]
theorem Tb.set2 {w : World} {b : Nat} {R : Nat → Hd} {o k s m : Nat} (h : Tb w b R o k s m) (s' : Nat) : Tb (w.setCell ⟨b, 386, none⟩ (.int .i64 (s' : Int))) b R o k s' m :=
  ⟨fun i hi => by rw [cell_setN _ _ _ _ _ (by omega)]; exact h.r0 i hi, fun i hi => by rw [cell_setN _ _ _ _ _ (by omega)]; exact h.r1 i hi, fun i hi => by rw [cell_setN _ _ _ _ _ (by omega)]; exact h.r2 i hi,
   by rw [cell_setN _ _ _ _ _ (by omega)]; exact h.c0, by rw [cell_setN _ _ _ _ _ (by omega)]; exact h.c1, cell_setS _ _ _ _ _ h.c2, by rw [cell_setN _ _ _ _ _ (by omega)]; exact h.c3, fun i => by rw [World.frozen?_setCell]; exact h.z i⟩
theorem Tb.set0 {w : World} {b : Nat} {R : Nat → Hd} {o k s m : Nat} (h : Tb w b R o k s m) (o' : Nat) : Tb (w.setCell ⟨b, 384, none⟩ (.int .i64 (o' : Int))) b R o' k s m :=
  ⟨fun i hi => by rw [cell_setN _ _ _ _ _ (by omega)]; exact h.r0 i hi, fun i hi => by rw [cell_setN _ _ _ _ _ (by omega)]; exact h.r1 i hi, fun i hi => by rw [cell_setN _ _ _ _ _ (by omega)]; exact h.r2 i hi,
   cell_setS _ _ _ _ _ h.c0, by rw [cell_setN _ _ _ _ _ (by omega)]; exact h.c1, by rw [cell_setN _ _ _ _ _ (by omega)]; exact h.c2, by rw [cell_setN _ _ _ _ _ (by omega)]; exact h.c3, fun i => by rw [World.frozen?_setCell]; exact h.z i⟩
theorem Tb.set1 {w : World} {b : Nat} {R : Nat → Hd} {o k s m : Nat} (h : Tb w b R o k s m) (k' : Nat) : Tb (w.setCell ⟨b, 385, none⟩ (.int .i64 (k' : Int))) b R o k' s m :=
  ⟨fun i hi => by rw [cell_setN _ _ _ _ _ (by omega)]; exact h.r0 i hi, fun i hi => by rw [cell_setN _ _ _ _ _ (by omega)]; exact h.r1 i hi, fun i hi => by rw [cell_setN _ _ _ _ _ (by omega)]; exact h.r2 i hi,
   by rw [cell_setN _ _ _ _ _ (by omega)]; exact h.c0, cell_setS _ _ _ _ _ h.c1, by rw [cell_setN _ _ _ _ _ (by omega)]; exact h.c2, by rw [cell_setN _ _ _ _ _ (by omega)]; exact h.c3, fun i => by rw [World.frozen?_setCell]; exact h.z i⟩
theorem Tb.set3 {w : World} {b : Nat} {R : Nat → Hd} {o k s m : Nat} (h : Tb w b R o k s m) (m' : Nat) : Tb (w.setCell ⟨b, 387, none⟩ (.int .i64 (m' : Int))) b R o k s m' :=
  ⟨fun i hi => by rw [cell_setN _ _ _ _ _ (by omega)]; exact h.r0 i hi, fun i hi => by rw [cell_setN _ _ _ _ _ (by omega)]; exact h.r1 i hi, fun i hi => by rw [cell_setN _ _ _ _ _ (by omega)]; exact h.r2 i hi,
   by rw [cell_setN _ _ _ _ _ (by omega)]; exact h.c0, by rw [cell_setN _ _ _ _ _ (by omega)]; exact h.c1, by rw [cell_setN _ _ _ _ _ (by omega)]; exact h.c2, cell_setS _ _ _ _ _ h.c3, fun i => by rw [World.frozen?_setCell]; exact h.z i⟩
/-- A header stored at place q of the ring. -/
theorem Tb.setR {w : World} {b : Nat} {R : Nat → Hd} {o k s m : Nat} (h : Tb w b R o k s m) (q : Nat) (hq : q < 128) (g : Hd) :
    Tb (((w.setCell ⟨b, q * 3, none⟩ (.string g.1)).setCell ⟨b, q * 3 + 1, none⟩ (.string g.2)).setCell ⟨b, q * 3 + 2, none⟩ (.bool false)) b (fun i => if i = q then g else R i) o k s m := by
  have e0 := h.r0 q hq
  have e1 := h.r1 q hq
  have e2 := h.r2 q hq
  refine ⟨fun i hi => ?_, fun i hi => ?_, fun i hi => ?_, ?_, ?_, ?_, ?_, fun i => ?_⟩
  · by_cases e : i = q
    · subst e
      rw [cell_setN _ _ _ _ _ (by omega), cell_setN _ _ _ _ _ (by omega), if_pos rfl]
      exact cell_setS _ _ _ _ _ e0
    · rw [cell_setN _ _ _ _ _ (by omega), cell_setN _ _ _ _ _ (by omega), cell_setN _ _ _ _ _ (by omega), if_neg e]
      exact h.r0 i hi
  · by_cases e : i = q
    · subst e
      rw [cell_setN _ _ _ _ _ (by omega), if_pos rfl]
      exact cell_setS _ _ _ _ _ (by rw [cell_setN _ _ _ _ _ (by omega)]; exact e1)
    · rw [cell_setN _ _ _ _ _ (by omega), cell_setN _ _ _ _ _ (by omega), cell_setN _ _ _ _ _ (by omega), if_neg e]
      exact h.r1 i hi
  · by_cases e : i = q
    · subst e
      exact cell_setS _ _ _ _ _ (by rw [cell_setN _ _ _ _ _ (by omega), cell_setN _ _ _ _ _ (by omega)]; exact e2)
    · rw [cell_setN _ _ _ _ _ (by omega), cell_setN _ _ _ _ _ (by omega), cell_setN _ _ _ _ _ (by omega)]
      exact h.r2 i hi
  · rw [cell_setN _ _ _ _ _ (by omega), cell_setN _ _ _ _ _ (by omega), cell_setN _ _ _ _ _ (by omega)]; exact h.c0
  · rw [cell_setN _ _ _ _ _ (by omega), cell_setN _ _ _ _ _ (by omega), cell_setN _ _ _ _ _ (by omega)]; exact h.c1
  · rw [cell_setN _ _ _ _ _ (by omega), cell_setN _ _ _ _ _ (by omega), cell_setN _ _ _ _ _ (by omega)]; exact h.c2
  · rw [cell_setN _ _ _ _ _ (by omega), cell_setN _ _ _ _ _ (by omega), cell_setN _ _ _ _ _ (by omega)]; exact h.c3
  · rw [World.frozen?_setCell, World.frozen?_setCell, World.frozen?_setCell]; exact h.z i
theorem Tb.alloc {w : World} {b : Nat} {R : Nat → Hd} {o k s m : Nat} (h : Tb w b R o k s m) (ob : Obj) (hb : b < w.heap.size) : Tb (w.alloc ob) b R o k s m := h.kept (Below.heap_alloc _ _ _ hb)
theorem Tb.drew {w : World} {b : Nat} {R : Nat → Hd} {o k s m : Nat} (h : Tb w b R o k s m) : Tb w.drew b R o k s m := h.kept rfl
theorem Tb.drewN {w : World} {b : Nat} {R : Nat → Hd} {o k s m : Nat} (h : Tb w b R o k s m) (q : Nat) : Tb (w.drewN q) b R o k s m := h.kept rfl

set_option maxRecDepth 100000 in
theorem len_any {w : World} {b : Nat} {R : Nat → Hd} {o k s m : Nat} (h : Tb w b R o k s m) : Calls Tryd.prog 63 #[.pointer (some ⟨b, 0, none⟩)] w fun e w' => e = .returned (.int .i64 (k : Int)) ∧ w = w' := by
  have h1 := h.c1
  go_enter Tryd.func63, Tryd.ntmps63
  go_wp2
  go_ret
  exact ⟨rfl, rfl⟩
set_option maxRecDepth 100000 in
theorem most_any {w : World} {b : Nat} {R : Nat → Hd} {o k s m : Nat} (h : Tb w b R o k s m) : Calls Tryd.prog 79 #[.pointer (some ⟨b, 0, none⟩)] w fun e w' => e = .returned (.int .i64 (m : Int)) ∧ w = w' := by
  have h1 := h.c3
  go_enter Tryd.func79, Tryd.ntmps79
  go_wp2
  go_ret
  exact ⟨rfl, rfl⟩

/-- What the ring holds, the oldest first. -/
structure Rg (R : Nat → Hd) (o : Nat) (M : List Hd) : Prop where
  lt : o < 128
  len : M.length ≤ 128
  at_ : ∀ j (h : j < M.length), R ((o + j) % 128) = M[j]
def zw (o : Nat) (R : Nat → Hd) : Nat → Hd := fun i => if i = o then (⟨#[]⟩, ⟨#[]⟩) else R i
theorem Rg.pop {R : Nat → Hd} {o : Nat} {g : Hd} {N : List Hd} (h : Rg R o (g :: N)) : Rg (zw o R) ((o + 1) % 128) N := by
  have hl := h.len
  simp only [List.length_cons] at hl
  have ho := h.lt
  refine ⟨Nat.mod_lt _ (by decide), by omega, fun j hj => ?_⟩
  have h1 := h.at_ (j + 1) (by simp; omega)
  rw [List.getElem_cons_succ] at h1
  unfold zw
  rw [show ((o + 1) % 128 + j) % 128 = (o + (j + 1)) % 128 by omega, if_neg (by omega)]
  exact h1
/-- The oldest go, until no more than m is left. -/
def shr (m : Nat) : List Hd → List Hd
  | [] => []
  | h :: t => if m < total (h :: t) then shr m t else h :: t
theorem total_ge : ∀ l : List Hd, 32 * l.length ≤ total l
  | [] => by simp
  | h :: t => by
    have := total_ge t
    simp only [total, List.length_cons, sizeH]
    omega
/-- The number in a cell: for a measure. -/
def cellN (w : World) (b i : Nat) : Nat := match w.cell? ⟨b, i, none⟩ with
  | some (.int _ n) => n.toNat
  | _ => 0
def ShrRel (b m x : Nat) (M : List Hd) (w : World) (wr : World) : Prop := ∃ (R : Nat → Hd) (o : Nat) (N : List Hd), Rg R o N ∧ Tb wr b R o N.length (total N) m ∧ Hid (shr x M = shr x N) ∧ total N ≤ 4096 ∧ Kp b w wr
def ShrPost (b m x : Nat) (M : List Hd) (w : World) (e : Ending) (w' : World) : Prop := ∃ (R : Nat → Hd) (o : Nat), e = .returned (.tuple #[]) ∧ Rg R o (shr x M) ∧ Tb w' b R o (shr x M).length (total (shr x M)) m ∧ Kp b w w'
set_option maxRecDepth 100000 in
set_option maxHeartbeats 4000000 in
theorem shrink_any (b m x : Nat) (M : List Hd) {R : Nat → Hd} {o : Nat} (w : World) (hM : total M ≤ 4096) (hx : x ≤ 4096) (hr : Rg R o M) (h : Tb w b R o M.length (total M) m) :
    Calls Tryd.prog 77 #[.pointer (some ⟨b, 0, none⟩), .int .i64 (x : Int)] w (ShrPost b m x M w) := by
  go_enter Tryd.func77, Tryd.ntmps77
  go_wp2
  go_loopw [4] (fun _ wr => ShrRel b m x M w wr) (fun _ wr => cellN wr b 386)
  case atStart => exact ⟨R, o, M, hr, h, Lib.hid rfl, hM, Kp.refl _ _⟩
  case round =>
    obtain ⟨R, o, N, hr, h, hs, hN, hk⟩ := hrel
    have q2 := h.c2
    by_cases hlt : x < total N
    · cases N with
      | nil => simp [total] at hlt
      | cons g N =>
        have ho := hr.lt
        have hg := hr.at_ 0 (by simp)
        rw [Nat.add_zero, Nat.mod_eq_of_lt ho] at hg
        have p0 := h.r0 o ho
        have p1 := h.r1 o ho
        have p2 := h.r2 o ho
        rw [hg] at p0 p1
        have q0 := h.c0
        have q1 := h.c1
        have hsz : sizeH g ≤ 4096 := by simp only [total, List.getElem_cons_zero] at hN; omega
        have hsg : g.1.size ≤ 4096 ∧ g.2.size ≤ 4096 := by unfold sizeH at hsz; omega
        simp only [List.getElem_cons_zero] at p0 p1
        have ho1 : (0 : Int) ≤ (o : Int) := by omega
        have ho2 : (o : Int) < 128 := by omega
        have HC := Lib.hid (fun W => sizeOf_any g false W (by omega) (by omega))
        have hbl := h.lt
        have hne : ¬ b = wr.heap.size := by omega
        have hne' : ¬ wr.heap.size = b := by omega
        have hfa := fun (W : World) (c : Array Value) (t : TypeId) (a : Addr) => frozen?_alloc_cells W c t a
        have hz := h.z 386
        have HT : Hid (total (g :: N) = sizeH g + total N) := Lib.hid rfl
        have hw : IntKind.i64.wrap (((total (g :: N) : Nat) : Int) - (sizeH g : Int)) = ((total N : Nat) : Int) := by
          have := HT.out
          rw [HT.out, IntWalk.i64_in _ (by omega)]; omega
        have hcN : cellN wr b 386 = total (g :: N) := by unfold cellN; rw [h.c2]; rfl
        have HCN := Lib.hid hcN
        clear hcN
        have h32 : 32 ≤ sizeH g := by unfold sizeH; omega
        generalize hTT0 : total (g :: N) = T at hlt hN q2 HT hw
        have HTT0 := Lib.hid hTT0
        clear hTT0
        generalize hT' : total N = T' at HT hw
        have HT' := Lib.hid hT'
        clear hT'
        generalize sizeH g = G at HC hw HT hsz h32
        have htb := Lib.hid h
        go_upto_region 1 with fail
        go_cut [10] (fun _ wx => Tb wx b R o (g :: N).length T' m ∧ Kp b wr wx)
        case first =>
          go_region_law (go_simp; (with_reducible_and_instances refine Calls.mono (HC.out _) ?_); rintro e w' ⟨rfl, rfl⟩; go_simp)
          all_goals (go_wp2_with fail; go_meet)
          all_goals exact ⟨((htb.out.set2 T').alloc _ (by simp [World.setCell]; omega)).drew, ((((Kp.refl b wr).set _ _).alloc _).drew)⟩
        case rest =>
          obtain ⟨hw1, hk1⟩ := hcut
          have htb1 := Lib.hid hw1
          have c0 := hw1.c0
          have d0 := hw1.r0 o ho
          have d1 := hw1.r1 o ho
          have d2 := hw1.r2 o ho
          have hz1 := fun i => hw1.z i
          clear q0 q1 q2 p0 p1 p2 hz hw1 htb
          go_upto_region 2 with fail
          go_cut [10] (fun _ wx => Tb wx b (zw o R) o (g :: N).length T' m ∧ Kp b wc wx)
          case first =>
            go_region
            all_goals (go_wp2_with fail; go_meet)
            all_goals exact ⟨(htb1.out.setR o ho (⟨#[]⟩, ⟨#[]⟩)).drew, ((((Kp.refl b wc).set _ _).set _ _).set _ _).drew⟩
          case rest =>
            obtain ⟨hw2, hk2⟩ := hcut
            have e0 := hw2.c0
            have e1 := hw2.c1
            have hz2 := fun i => hw2.z i
            have htb2 := Lib.hid hw2
            obtain ⟨o2, ho3⟩ : ∃ o2, o2 = (o + 1) % 128 := ⟨_, rfl⟩
            have hx1 : ((o : Int) + 1) % 128 = (o2 : Int) := by omega
            have HO := Lib.hid ho3
            have hNl := hr.len
            simp only [List.length_cons] at e1 hNl
            have HRG := Lib.hid hr
            have hTT := HT.out
            have HTT : Hid (T = G + T') := Lib.hid hTT
            clear hTT ho3 hr hg
            clear hw2 c0 d0 d1 d2 hz1 htb1
            go_wp2
            have hfin := (htb2.out.set0 o2).set1 N.length
            refine ⟨⟨zw o R, o2, N, HO.out ▸ HRG.out.pop, by rw [HT'.out]; exact hfin, Lib.hid (by rw [hs.out, shr, if_pos (by rw [HTT0.out]; exact hlt)]), by rw [HT'.out]; have := HTT.out; omega, hk.trans (hk1.trans (hk2.trans (((Kp.refl b wc).set _ _).set _ _)))⟩, ?_⟩
            rw [HCN.out, HTT0.out]
            unfold cellN
            rw [hfin.c2]
            have := HTT.out
            simp only [Int.toNat_natCast]
            omega
    · have hsN : shr x M = N := by
        rw [hs.out]
        cases N with
        | nil => rfl
        | cons g N => rw [shr, if_neg hlt]
      have HS := Lib.hid hsN
      have HH := Lib.hid h
      have HR := Lib.hid hr
      have q1 := h.c1
      have q0 := h.c0
      have hz := fun i => h.z i
      clear hsN h
      cases N with
      | nil =>
        simp only [List.length_nil] at q1
        go_wp2
        go_end0
        refine ⟨R, 0, rfl, ?_, ?_, hk.trans ((Kp.refl b wr).set _ _)⟩
        · rw [HS.out]; exact ⟨by omega, by simp, fun j h => by simp at h⟩
        · rw [HS.out]; exact HH.out.set0 0
      | cons g N =>
        have hne : ((g :: N).length : Int) ≠ 0 := by simp only [List.length_cons]; omega
        have hb : (((g :: N).length : Int) == 0) = false := by rw [beq_eq_false_iff_ne]; exact hne
        generalize hl : (g :: N).length = n at q1 hne hb
        have HLN := Lib.hid hl
        clear hl
        go_wp2
        go_end0
        refine ⟨R, o, rfl, ?_, ?_, hk⟩
        · rw [HS.out]; exact HR.out
        · rw [HS.out]; exact HH.out
end Go.Proofs.YtlkieeindnpidaaDoor.Tt

namespace Go.Proofs.YtlkieeindnpidaaDoor.Tt
open Go.RowKit

/-- The table that stands, from 0 on. -/
def standL : List Hd := [(⟨#[58, 97, 117, 116, 104, 111, 114, 105, 116, 121]⟩, ⟨#[]⟩), (⟨#[58, 109, 101, 116, 104, 111, 100]⟩, ⟨#[71, 69, 84]⟩), (⟨#[58, 109, 101, 116, 104, 111, 100]⟩, ⟨#[80, 79, 83, 84]⟩), (⟨#[58, 112, 97, 116, 104]⟩, ⟨#[47]⟩), (⟨#[58, 112, 97, 116, 104]⟩, ⟨#[47, 105, 110, 100, 101, 120, 46, 104, 116, 109, 108]⟩), (⟨#[58, 115, 99, 104, 101, 109, 101]⟩, ⟨#[104, 116, 116, 112]⟩), (⟨#[58, 115, 99, 104, 101, 109, 101]⟩, ⟨#[104, 116, 116, 112, 115]⟩), (⟨#[58, 115, 116, 97, 116, 117, 115]⟩, ⟨#[50, 48, 48]⟩), (⟨#[58, 115, 116, 97, 116, 117, 115]⟩, ⟨#[50, 48, 52]⟩), (⟨#[58, 115, 116, 97, 116, 117, 115]⟩, ⟨#[50, 48, 54]⟩), (⟨#[58, 115, 116, 97, 116, 117, 115]⟩, ⟨#[51, 48, 52]⟩), (⟨#[58, 115, 116, 97, 116, 117, 115]⟩, ⟨#[52, 48, 48]⟩), (⟨#[58, 115, 116, 97, 116, 117, 115]⟩, ⟨#[52, 48, 52]⟩), (⟨#[58, 115, 116, 97, 116, 117, 115]⟩, ⟨#[53, 48, 48]⟩), (⟨#[97, 99, 99, 101, 112, 116, 45, 99, 104, 97, 114, 115, 101, 116]⟩, ⟨#[]⟩), (⟨#[97, 99, 99, 101, 112, 116, 45, 101, 110, 99, 111, 100, 105, 110, 103]⟩, ⟨#[103, 122, 105, 112, 44, 32, 100, 101, 102, 108, 97, 116, 101]⟩), (⟨#[97, 99, 99, 101, 112, 116, 45, 108, 97, 110, 103, 117, 97, 103, 101]⟩, ⟨#[]⟩), (⟨#[97, 99, 99, 101, 112, 116, 45, 114, 97, 110, 103, 101, 115]⟩, ⟨#[]⟩), (⟨#[97, 99, 99, 101, 112, 116]⟩, ⟨#[]⟩), (⟨#[97, 99, 99, 101, 115, 115, 45, 99, 111, 110, 116, 114, 111, 108, 45, 97, 108, 108, 111, 119, 45, 111, 114, 105, 103, 105, 110]⟩, ⟨#[]⟩), (⟨#[97, 103, 101]⟩, ⟨#[]⟩), (⟨#[97, 108, 108, 111, 119]⟩, ⟨#[]⟩), (⟨#[97, 117, 116, 104, 111, 114, 105, 122, 97, 116, 105, 111, 110]⟩, ⟨#[]⟩), (⟨#[99, 97, 99, 104, 101, 45, 99, 111, 110, 116, 114, 111, 108]⟩, ⟨#[]⟩), (⟨#[99, 111, 110, 116, 101, 110, 116, 45, 100, 105, 115, 112, 111, 115, 105, 116, 105, 111, 110]⟩, ⟨#[]⟩), (⟨#[99, 111, 110, 116, 101, 110, 116, 45, 101, 110, 99, 111, 100, 105, 110, 103]⟩, ⟨#[]⟩), (⟨#[99, 111, 110, 116, 101, 110, 116, 45, 108, 97, 110, 103, 117, 97, 103, 101]⟩, ⟨#[]⟩), (⟨#[99, 111, 110, 116, 101, 110, 116, 45, 108, 101, 110, 103, 116, 104]⟩, ⟨#[]⟩), (⟨#[99, 111, 110, 116, 101, 110, 116, 45, 108, 111, 99, 97, 116, 105, 111, 110]⟩, ⟨#[]⟩), (⟨#[99, 111, 110, 116, 101, 110, 116, 45, 114, 97, 110, 103, 101]⟩, ⟨#[]⟩), (⟨#[99, 111, 110, 116, 101, 110, 116, 45, 116, 121, 112, 101]⟩, ⟨#[]⟩), (⟨#[99, 111, 111, 107, 105, 101]⟩, ⟨#[]⟩), (⟨#[100, 97, 116, 101]⟩, ⟨#[]⟩), (⟨#[101, 116, 97, 103]⟩, ⟨#[]⟩), (⟨#[101, 120, 112, 101, 99, 116]⟩, ⟨#[]⟩), (⟨#[101, 120, 112, 105, 114, 101, 115]⟩, ⟨#[]⟩), (⟨#[102, 114, 111, 109]⟩, ⟨#[]⟩), (⟨#[104, 111, 115, 116]⟩, ⟨#[]⟩), (⟨#[105, 102, 45, 109, 97, 116, 99, 104]⟩, ⟨#[]⟩), (⟨#[105, 102, 45, 109, 111, 100, 105, 102, 105, 101, 100, 45, 115, 105, 110, 99, 101]⟩, ⟨#[]⟩), (⟨#[105, 102, 45, 110, 111, 110, 101, 45, 109, 97, 116, 99, 104]⟩, ⟨#[]⟩), (⟨#[105, 102, 45, 114, 97, 110, 103, 101]⟩, ⟨#[]⟩), (⟨#[105, 102, 45, 117, 110, 109, 111, 100, 105, 102, 105, 101, 100, 45, 115, 105, 110, 99, 101]⟩, ⟨#[]⟩), (⟨#[108, 97, 115, 116, 45, 109, 111, 100, 105, 102, 105, 101, 100]⟩, ⟨#[]⟩), (⟨#[108, 105, 110, 107]⟩, ⟨#[]⟩), (⟨#[108, 111, 99, 97, 116, 105, 111, 110]⟩, ⟨#[]⟩), (⟨#[109, 97, 120, 45, 102, 111, 114, 119, 97, 114, 100, 115]⟩, ⟨#[]⟩), (⟨#[112, 114, 111, 120, 121, 45, 97, 117, 116, 104, 101, 110, 116, 105, 99, 97, 116, 101]⟩, ⟨#[]⟩), (⟨#[112, 114, 111, 120, 121, 45, 97, 117, 116, 104, 111, 114, 105, 122, 97, 116, 105, 111, 110]⟩, ⟨#[]⟩), (⟨#[114, 97, 110, 103, 101]⟩, ⟨#[]⟩), (⟨#[114, 101, 102, 101, 114, 101, 114]⟩, ⟨#[]⟩), (⟨#[114, 101, 102, 114, 101, 115, 104]⟩, ⟨#[]⟩), (⟨#[114, 101, 116, 114, 121, 45, 97, 102, 116, 101, 114]⟩, ⟨#[]⟩), (⟨#[115, 101, 114, 118, 101, 114]⟩, ⟨#[]⟩), (⟨#[115, 101, 116, 45, 99, 111, 111, 107, 105, 101]⟩, ⟨#[]⟩), (⟨#[115, 116, 114, 105, 99, 116, 45, 116, 114, 97, 110, 115, 112, 111, 114, 116, 45, 115, 101, 99, 117, 114, 105, 116, 121]⟩, ⟨#[]⟩), (⟨#[116, 114, 97, 110, 115, 102, 101, 114, 45, 101, 110, 99, 111, 100, 105, 110, 103]⟩, ⟨#[]⟩), (⟨#[117, 115, 101, 114, 45, 97, 103, 101, 110, 116]⟩, ⟨#[]⟩), (⟨#[118, 97, 114, 121]⟩, ⟨#[]⟩), (⟨#[118, 105, 97]⟩, ⟨#[]⟩), (⟨#[119, 119, 119, 45, 97, 117, 116, 104, 101, 110, 116, 105, 99, 97, 116, 101]⟩, ⟨#[]⟩)]
theorem standL_len : standL.length = 61 := by decide +kernel
def standC : Array Value := ((standL.map fun h => [Value.string h.1, Value.string h.2, Value.bool false]).flatten).toArray
theorem standC_len : standC.size = 183 := by decide +kernel
theorem standC_one : standC.all (·.oneCell') = true := by kernel_rfl
theorem info_stand : (Tryd.prog.info? 174).map (·.size) = some standC.size := by kernel_rfl
theorem info_stand2 : (Tryd.prog.info? 174).map (·.size) = some standC.toList.length := by kernel_rfl
def zc65 : Array Value := ((List.replicate 61 [Value.string ⟨#[]⟩, .string ⟨#[]⟩, .bool false]).flatten).toArray
theorem zc65_size : zc65.size = 183 := by decide +kernel
theorem zc65_value (w : World) : (zeroValue 174).run Tryd.prog w = .ok (.agg zc65) w := by kernel_rfl
/-- An operation that yields a value and leaves the world alone. -/
theorem wpList_val {P : Program} {ops : Array Oper} {rest : List Oper} {o : Oper} {a : Act} {w : World} {Q : Exit → Act → World → Prop} (hg : o.guard = none) (v : Value) (h : (execOp a.eval o).run P w = .ok (.value v) w) (hk : wpList P ops Q rest (a.put o.dst v) w) :
    wpList P ops Q (o :: rest) a w :=
  wpList_plain hg fun K hK => by
    unfold Oper.wp
    rw [h]
    exact hK _ _ hk
theorem frame_any {p : Act → Prop} {a : Act} (v : Value) (h0 : a.tmps.getD 0 undef = v) (hd : a.defers = []) (h : ∀ A : Act, A.tmps.getD 0 undef = v → A.defers = [] → p A) : p a := h a h0 hd
theorem res_stand {tmps : Array Value} (w : World) {b : Nat} (hr : w.rangeAt b 0 standC.toList) (ht : tmps.getD 0 undef = .pointer (some ⟨b, 0, none⟩)) : (results Tryd.f109 tmps).run Tryd.prog w = .ok (.agg standC) w := by
  have hp' : tmps[0]?.getD undef = .pointer (some ⟨b, 0, none⟩) := by simpa using ht
  simp [results, Tryd.results109, hp', asAddr, run_loadVar_mid w b 0 174 standC.toList (.array _ _) hr Tryd.underlying174 rfl info_stand2]
theorem below_setCells {B b : Nat} (hb : B ≤ b) : ∀ (vs : List Value) (o : Nat) {w w' : World}, Below B w w' → Below B w (w'.setCells b o vs)
  | [], _, _, _, h => h
  | v :: vs, o, _, _, h => below_setCells hb vs (o + 1) (h.setCell (p := ⟨b, o, none⟩) hb v)
theorem there_new (w : World) : (w.alloc (.cells zc65 174)).there w.heap.size 0 standC.size := by
  intro j hj
  rw [standC_len] at hj
  have hz := zc65_size
  constructor
  · simp [hz, hj]
  · simp
set_option maxRecDepth 100000 in
set_option maxHeartbeats 1000000 in
theorem stand_any (w : World) : Calls Tryd.prog 109 #[] w fun e w' => e = .returned (.agg standC) ∧ Below w.heap.size w w' := by
  have hz := fun W => zc65_value W
  have hs := zc65_size
  have ht := there_new w
  go_enter Tryd.func109, Tryd.ntmps109
  go_upto_region 1 with fail
  generalize hW : w.alloc (.cells zc65 174) = W at ht ⊢
  refine wp_region_lit ?_
  refine wpList_val rfl (hdV (⟨#[58, 97, 117, 116, 104, 111, 114, 105, 116, 121]⟩, ⟨#[]⟩)) (by kernel_rfl) ?_
  refine wpList_val rfl (hdV (⟨#[58, 109, 101, 116, 104, 111, 100]⟩, ⟨#[71, 69, 84]⟩)) (by kernel_rfl) ?_
  refine wpList_val rfl (hdV (⟨#[58, 109, 101, 116, 104, 111, 100]⟩, ⟨#[80, 79, 83, 84]⟩)) (by kernel_rfl) ?_
  refine wpList_val rfl (hdV (⟨#[58, 112, 97, 116, 104]⟩, ⟨#[47]⟩)) (by kernel_rfl) ?_
  refine wpList_val rfl (hdV (⟨#[58, 112, 97, 116, 104]⟩, ⟨#[47, 105, 110, 100, 101, 120, 46, 104, 116, 109, 108]⟩)) (by kernel_rfl) ?_
  refine wpList_val rfl (hdV (⟨#[58, 115, 99, 104, 101, 109, 101]⟩, ⟨#[104, 116, 116, 112]⟩)) (by kernel_rfl) ?_
  refine wpList_val rfl (hdV (⟨#[58, 115, 99, 104, 101, 109, 101]⟩, ⟨#[104, 116, 116, 112, 115]⟩)) (by kernel_rfl) ?_
  refine wpList_val rfl (hdV (⟨#[58, 115, 116, 97, 116, 117, 115]⟩, ⟨#[50, 48, 48]⟩)) (by kernel_rfl) ?_
  refine wpList_val rfl (hdV (⟨#[58, 115, 116, 97, 116, 117, 115]⟩, ⟨#[50, 48, 52]⟩)) (by kernel_rfl) ?_
  refine wpList_val rfl (hdV (⟨#[58, 115, 116, 97, 116, 117, 115]⟩, ⟨#[50, 48, 54]⟩)) (by kernel_rfl) ?_
  refine wpList_val rfl (hdV (⟨#[58, 115, 116, 97, 116, 117, 115]⟩, ⟨#[51, 48, 52]⟩)) (by kernel_rfl) ?_
  refine wpList_val rfl (hdV (⟨#[58, 115, 116, 97, 116, 117, 115]⟩, ⟨#[52, 48, 48]⟩)) (by kernel_rfl) ?_
  refine wpList_val rfl (hdV (⟨#[58, 115, 116, 97, 116, 117, 115]⟩, ⟨#[52, 48, 52]⟩)) (by kernel_rfl) ?_
  refine wpList_val rfl (hdV (⟨#[58, 115, 116, 97, 116, 117, 115]⟩, ⟨#[53, 48, 48]⟩)) (by kernel_rfl) ?_
  refine wpList_val rfl (hdV (⟨#[97, 99, 99, 101, 112, 116, 45, 99, 104, 97, 114, 115, 101, 116]⟩, ⟨#[]⟩)) (by kernel_rfl) ?_
  refine wpList_val rfl (hdV (⟨#[97, 99, 99, 101, 112, 116, 45, 101, 110, 99, 111, 100, 105, 110, 103]⟩, ⟨#[103, 122, 105, 112, 44, 32, 100, 101, 102, 108, 97, 116, 101]⟩)) (by kernel_rfl) ?_
  refine wpList_val rfl (hdV (⟨#[97, 99, 99, 101, 112, 116, 45, 108, 97, 110, 103, 117, 97, 103, 101]⟩, ⟨#[]⟩)) (by kernel_rfl) ?_
  refine wpList_val rfl (hdV (⟨#[97, 99, 99, 101, 112, 116, 45, 114, 97, 110, 103, 101, 115]⟩, ⟨#[]⟩)) (by kernel_rfl) ?_
  refine wpList_val rfl (hdV (⟨#[97, 99, 99, 101, 112, 116]⟩, ⟨#[]⟩)) (by kernel_rfl) ?_
  refine wpList_val rfl (hdV (⟨#[97, 99, 99, 101, 115, 115, 45, 99, 111, 110, 116, 114, 111, 108, 45, 97, 108, 108, 111, 119, 45, 111, 114, 105, 103, 105, 110]⟩, ⟨#[]⟩)) (by kernel_rfl) ?_
  refine wpList_val rfl (hdV (⟨#[97, 103, 101]⟩, ⟨#[]⟩)) (by kernel_rfl) ?_
  refine wpList_val rfl (hdV (⟨#[97, 108, 108, 111, 119]⟩, ⟨#[]⟩)) (by kernel_rfl) ?_
  refine wpList_val rfl (hdV (⟨#[97, 117, 116, 104, 111, 114, 105, 122, 97, 116, 105, 111, 110]⟩, ⟨#[]⟩)) (by kernel_rfl) ?_
  refine wpList_val rfl (hdV (⟨#[99, 97, 99, 104, 101, 45, 99, 111, 110, 116, 114, 111, 108]⟩, ⟨#[]⟩)) (by kernel_rfl) ?_
  refine wpList_val rfl (hdV (⟨#[99, 111, 110, 116, 101, 110, 116, 45, 100, 105, 115, 112, 111, 115, 105, 116, 105, 111, 110]⟩, ⟨#[]⟩)) (by kernel_rfl) ?_
  refine wpList_val rfl (hdV (⟨#[99, 111, 110, 116, 101, 110, 116, 45, 101, 110, 99, 111, 100, 105, 110, 103]⟩, ⟨#[]⟩)) (by kernel_rfl) ?_
  refine wpList_val rfl (hdV (⟨#[99, 111, 110, 116, 101, 110, 116, 45, 108, 97, 110, 103, 117, 97, 103, 101]⟩, ⟨#[]⟩)) (by kernel_rfl) ?_
  refine wpList_val rfl (hdV (⟨#[99, 111, 110, 116, 101, 110, 116, 45, 108, 101, 110, 103, 116, 104]⟩, ⟨#[]⟩)) (by kernel_rfl) ?_
  refine wpList_val rfl (hdV (⟨#[99, 111, 110, 116, 101, 110, 116, 45, 108, 111, 99, 97, 116, 105, 111, 110]⟩, ⟨#[]⟩)) (by kernel_rfl) ?_
  refine wpList_val rfl (hdV (⟨#[99, 111, 110, 116, 101, 110, 116, 45, 114, 97, 110, 103, 101]⟩, ⟨#[]⟩)) (by kernel_rfl) ?_
  refine wpList_val rfl (hdV (⟨#[99, 111, 110, 116, 101, 110, 116, 45, 116, 121, 112, 101]⟩, ⟨#[]⟩)) (by kernel_rfl) ?_
  refine wpList_val rfl (hdV (⟨#[99, 111, 111, 107, 105, 101]⟩, ⟨#[]⟩)) (by kernel_rfl) ?_
  refine wpList_val rfl (hdV (⟨#[100, 97, 116, 101]⟩, ⟨#[]⟩)) (by kernel_rfl) ?_
  refine wpList_val rfl (hdV (⟨#[101, 116, 97, 103]⟩, ⟨#[]⟩)) (by kernel_rfl) ?_
  refine wpList_val rfl (hdV (⟨#[101, 120, 112, 101, 99, 116]⟩, ⟨#[]⟩)) (by kernel_rfl) ?_
  refine wpList_val rfl (hdV (⟨#[101, 120, 112, 105, 114, 101, 115]⟩, ⟨#[]⟩)) (by kernel_rfl) ?_
  refine wpList_val rfl (hdV (⟨#[102, 114, 111, 109]⟩, ⟨#[]⟩)) (by kernel_rfl) ?_
  refine wpList_val rfl (hdV (⟨#[104, 111, 115, 116]⟩, ⟨#[]⟩)) (by kernel_rfl) ?_
  refine wpList_val rfl (hdV (⟨#[105, 102, 45, 109, 97, 116, 99, 104]⟩, ⟨#[]⟩)) (by kernel_rfl) ?_
  refine wpList_val rfl (hdV (⟨#[105, 102, 45, 109, 111, 100, 105, 102, 105, 101, 100, 45, 115, 105, 110, 99, 101]⟩, ⟨#[]⟩)) (by kernel_rfl) ?_
  refine wpList_val rfl (hdV (⟨#[105, 102, 45, 110, 111, 110, 101, 45, 109, 97, 116, 99, 104]⟩, ⟨#[]⟩)) (by kernel_rfl) ?_
  refine wpList_val rfl (hdV (⟨#[105, 102, 45, 114, 97, 110, 103, 101]⟩, ⟨#[]⟩)) (by kernel_rfl) ?_
  refine wpList_val rfl (hdV (⟨#[105, 102, 45, 117, 110, 109, 111, 100, 105, 102, 105, 101, 100, 45, 115, 105, 110, 99, 101]⟩, ⟨#[]⟩)) (by kernel_rfl) ?_
  refine wpList_val rfl (hdV (⟨#[108, 97, 115, 116, 45, 109, 111, 100, 105, 102, 105, 101, 100]⟩, ⟨#[]⟩)) (by kernel_rfl) ?_
  refine wpList_val rfl (hdV (⟨#[108, 105, 110, 107]⟩, ⟨#[]⟩)) (by kernel_rfl) ?_
  refine wpList_val rfl (hdV (⟨#[108, 111, 99, 97, 116, 105, 111, 110]⟩, ⟨#[]⟩)) (by kernel_rfl) ?_
  refine wpList_val rfl (hdV (⟨#[109, 97, 120, 45, 102, 111, 114, 119, 97, 114, 100, 115]⟩, ⟨#[]⟩)) (by kernel_rfl) ?_
  refine wpList_val rfl (hdV (⟨#[112, 114, 111, 120, 121, 45, 97, 117, 116, 104, 101, 110, 116, 105, 99, 97, 116, 101]⟩, ⟨#[]⟩)) (by kernel_rfl) ?_
  refine wpList_val rfl (hdV (⟨#[112, 114, 111, 120, 121, 45, 97, 117, 116, 104, 111, 114, 105, 122, 97, 116, 105, 111, 110]⟩, ⟨#[]⟩)) (by kernel_rfl) ?_
  refine wpList_val rfl (hdV (⟨#[114, 97, 110, 103, 101]⟩, ⟨#[]⟩)) (by kernel_rfl) ?_
  refine wpList_val rfl (hdV (⟨#[114, 101, 102, 101, 114, 101, 114]⟩, ⟨#[]⟩)) (by kernel_rfl) ?_
  refine wpList_val rfl (hdV (⟨#[114, 101, 102, 114, 101, 115, 104]⟩, ⟨#[]⟩)) (by kernel_rfl) ?_
  refine wpList_val rfl (hdV (⟨#[114, 101, 116, 114, 121, 45, 97, 102, 116, 101, 114]⟩, ⟨#[]⟩)) (by kernel_rfl) ?_
  refine wpList_val rfl (hdV (⟨#[115, 101, 114, 118, 101, 114]⟩, ⟨#[]⟩)) (by kernel_rfl) ?_
  refine wpList_val rfl (hdV (⟨#[115, 101, 116, 45, 99, 111, 111, 107, 105, 101]⟩, ⟨#[]⟩)) (by kernel_rfl) ?_
  refine wpList_val rfl (hdV (⟨#[115, 116, 114, 105, 99, 116, 45, 116, 114, 97, 110, 115, 112, 111, 114, 116, 45, 115, 101, 99, 117, 114, 105, 116, 121]⟩, ⟨#[]⟩)) (by kernel_rfl) ?_
  refine wpList_val rfl (hdV (⟨#[116, 114, 97, 110, 115, 102, 101, 114, 45, 101, 110, 99, 111, 100, 105, 110, 103]⟩, ⟨#[]⟩)) (by kernel_rfl) ?_
  refine wpList_val rfl (hdV (⟨#[117, 115, 101, 114, 45, 97, 103, 101, 110, 116]⟩, ⟨#[]⟩)) (by kernel_rfl) ?_
  refine wpList_val rfl (hdV (⟨#[118, 97, 114, 121]⟩, ⟨#[]⟩)) (by kernel_rfl) ?_
  refine wpList_val rfl (hdV (⟨#[118, 105, 97]⟩, ⟨#[]⟩)) (by kernel_rfl) ?_
  refine wpList_val rfl (hdV (⟨#[119, 119, 119, 45, 97, 117, 116, 104, 101, 110, 116, 105, 99, 97, 116, 101]⟩, ⟨#[]⟩)) (by kernel_rfl) ?_
  refine wpList_val rfl (.agg standC) (by kernel_rfl) ?_
  refine wpList_store_mid rfl 174 _ _ rfl w.heap.size 0 standC (by kernel_rfl) (by kernel_rfl) ht info_stand standC_one ?_
  have hr := World.rangeAt_setCells_same W w.heap.size 0 standC.toList (by simpa using ht)
  refine wpList_nil ?_
  have hB : Below w.heap.size w (W.setCells w.heap.size 0 standC.toList) := below_setCells (Nat.le_refl _) _ _ (by rw [← hW]; exact (Below.refl _ _).alloc (Nat.le_refl _) _)
  refine frame_any (p := fun A => Exit.then _ _ Exit.normal A _) (.pointer (some ⟨w.heap.size, 0, none⟩)) (by kernel_rfl) (by kernel_rfl) ?_
  intro A hA hD
  generalize W.setCells w.heap.size 0 standC.toList = W2 at hr hB ⊢
  have HA := Lib.hid hA
  have HD := Lib.hid hD
  clear hA hD hz hs ht hW
  go_wp2_with fail
  exact bodyPost_ret (v := .agg standC) (res_stand _ hr HA.out) HD.out ⟨rfl, hB⟩
end Go.Proofs.YtlkieeindnpidaaDoor.Tt

namespace Go.Proofs.YtlkieeindnpidaaDoor.Tt
open Go.RowKit

theorem info8 : (Tryd.prog.info? 5).map (fun i => (i.zero, i.size, i.bytes)) = some (some (.int .u8 0), 1, 1) := by kernel_rfl
set_option maxHeartbeats 4000000 in
set_option maxRecDepth 100000 in
theorem clone0_any (s : ByteArray) (w : World) (hlim : s.size ≤ 281474976710656) :
    Calls Tryd.prog 111 #[.string s] w fun e w' => e = .returned (.string s) ∧ Below w.heap.size w w' := by
  by_cases h0 : s.size = 0
  · have hs : s = ⟨#[]⟩ := by
      apply ByteArray.ext
      exact Array.eq_empty_of_size_eq_zero h0
    subst hs
    go_enter Tryd.func111, Tryd.ntmps111
    go_wp2
    go_ret
    exact ⟨rfl, Below.refl _ _⟩
  · obtain ⟨i0, hi, hz0, hz1, hz2⟩ := info_parts info8
    have hinfo : (Tryd.prog.info? 5).map (·.size) = some 1 := by rw [hi]; simp [hz1]
    have hco : Tryd.prog.cellsOf 5 = 1 := by simp [Program.cellsOf, hi, hz1]
    obtain ⟨M, hM⟩ : ∃ M, M = madeCells (Value.int .u8 0).cells (((s.size : Nat) : Int).toNat * i0.size) := ⟨_, rfl⟩
    have hMs : M.size = s.size := by rw [hM, size_madeCells, hz1]; simp
    have hmk : ∀ W : World, (Instr.makeSlice 22 (.int .i64 (s.size : Int)) (.int .i64 (s.size : Int))).run Tryd.prog W = .ok (.slice (some ⟨W.heap.size, 0, none⟩) s.size s.size) (W.alloc (.cells M 5)) := fun W => by
      have h := run_make (P := Tryd.prog) W 22 5 i0 (.int .u8 0) Tryd.underlying22 hi hz0 .i64 .i64 (s.size : Int) (s.size : Int) (by omega) (by omega) (by rw [hz2]; omega) (by omega)
      rw [← hM] at h
      simpa using h
    clear hM
    have hcp := Lib.run_copy_row_string (P := Tryd.prog) (w.alloc (.cells M 5)) 22 9 3 5 w.heap.size 0 s.size s.size s M 5 Tryd.underlying22 hinfo (heap_alloc_new w _) (Nat.le_refl _) (by omega)
    obtain ⟨Y, hY⟩ : ∃ Y, Y = (M.toList.take 0 ++ Lib.byteCells s.data.toList ++ M.toList.drop (0 + s.size)).toArray := ⟨_, rfl⟩
    rw [← hY] at hcp
    have hYl : Y.toList = Lib.byteCells s.data.toList := by
      rw [hY, List.toList_toArray, List.take_zero, List.nil_append, List.drop_of_length_le (by rw [Array.length_toList]; omega), List.append_nil]
    have hYs : Y.size = s.size := by rw [← Array.length_toList, hYl, Lib.byteCells_length, ← Lib.size_eq]
    have hgY : ((w.alloc (.cells M 5)).setRow w.heap.size Y).heap[w.heap.size]? = some (.cells Y 5 (0, 0)) := setRow_heap _ _ M _ 5 (0, 0) (heap_alloc_new w _)
    have hne : s.data.toList ≠ [] := fun e => h0 (by rw [Lib.size_eq, e]; rfl)
    have hUS := Lib.run_unsafeString_row (P := Tryd.prog) ((w.alloc (.cells M 5)).setRow w.heap.size Y) 180 3 9 5 Tryd.underlying180 hco w.heap.size Y.size (by unfold World.shape?; rw [hgY]) s.data.toList hne (by rw [← Lib.size_eq]; omega) (by rw [← Lib.size_eq]; omega)
      (fun j x hx => Lib.cells_of_row hgY Y.size j _ (by rw [List.take_of_length_le (by rw [Array.length_toList]; exact Nat.le_refl _), hYl]; simp [Lib.byteCells, hx]))
    rw [← Lib.size_eq] at hUS
    clear hY
    go_enter Tryd.func111, Tryd.ntmps111
    go_wp2
    go_ret
    have hb1 : Below w.heap.size w (w.alloc (.cells M 5)) := (Below.refl _ w).alloc (Nat.le_refl _) _
    have hb2 : Below w.heap.size (w.alloc (.cells M 5)) ((w.alloc (.cells M 5)).setRow w.heap.size Y) := ⟨rfl, rfl, rfl, by simp, fun k hk => setRow_other _ _ _ _ (by omega)⟩
    exact ⟨rfl, Lib.below_freeze (hb1.trans hb2) (p := ⟨w.heap.size, 0, none⟩) (Nat.le_refl _) _⟩
theorem clone_any (s : ByteArray) (w : World) (hlim : s.size ≤ 281474976710656) :
    Calls Tryd.prog 95 #[.string s] w fun e w' => e = .returned (.string s) ∧ Below w.heap.size w w' := by
  have HC := Lib.hid (fun W => clone0_any s W hlim)
  go_enter Tryd.func95, Tryd.ntmps95
  go_wp2_with fail
  refine (HC.out _).mono ?_
  rintro e w' ⟨rfl, hb⟩
  go_wp2_with fail
  go_ret
  exact ⟨rfl, hb⟩
end Go.Proofs.YtlkieeindnpidaaDoor.Tt

namespace Go.Proofs.YtlkieeindnpidaaDoor.Tt
open Go.RowKit

/-- What Add leaves, the oldest first. -/
def addM (m : Nat) (M : List Hd) (h : Hd) : List Hd := if sizeH h ≤ m then shr (m - sizeH h) M ++ [h] else []
theorem shr_le (x : Nat) : ∀ M : List Hd, total (shr x M) ≤ x ∧ total (shr x M) ≤ total M ∧ (shr x M).length ≤ M.length
  | [] => by simp [shr, total]
  | g :: M => by
    have := shr_le x M
    unfold shr
    split
    · simp only [total, List.length_cons]; omega
    · simp only [List.length_cons]; omega
theorem shr_zero : ∀ M : List Hd, shr 0 M = []
  | [] => rfl
  | g :: M => by rw [shr, if_pos (by simp only [total, sizeH]; omega), shr_zero M]
theorem total_app : ∀ M N : List Hd, total (M ++ N) = total M + total N
  | [], N => by simp [total]
  | g :: M, N => by simp [total, total_app M N]; omega
/-- What the statement that stores a header reads. -/
structure St (w : World) (b g q o k : Nat) (h r : Hd) : Prop where
  c0 : w.cell? ⟨b, 384, none⟩ = some (.int .i64 (o : Int))
  c1 : w.cell? ⟨b, 385, none⟩ = some (.int .i64 (k : Int))
  n0 : w.cell? ⟨g, 0, none⟩ = some (.string h.1)
  n1 : w.cell? ⟨g, 1, none⟩ = some (.string h.2)
  e0 : w.cell? ⟨b, q * 3, none⟩ = some (.string r.1)
  e1 : w.cell? ⟨b, q * 3 + 1, none⟩ = some (.string r.2)
  e2 : w.cell? ⟨b, q * 3 + 2, none⟩ = some (.bool false)
  z : ∀ i, w.frozen? ⟨b, i, none⟩ = false
theorem St.kept {w w' : World} {b g q o k : Nat} {h r : Hd} (s : St w b g q o k h r) (hb : Below w.heap.size w w') : St w' b g q o k h r :=
  ⟨(hb.cell (cell_lt s.c0)).trans s.c0, (hb.cell (cell_lt s.c1)).trans s.c1, (hb.cell (cell_lt s.n0)).trans s.n0, (hb.cell (cell_lt s.n1)).trans s.n1,
   (hb.cell (cell_lt s.e0)).trans s.e0, (hb.cell (cell_lt s.e1)).trans s.e1, (hb.cell (cell_lt s.e2)).trans s.e2, fun i => (hb.frozen (p := ⟨b, i, none⟩) (show b < w.heap.size from cell_lt s.c0)).trans (s.z i)⟩
/-- What lies in a cell. -/
def val (w : World) (b i : Nat) : Value := (w.cell? ⟨b, i, none⟩).getD undef
theorem val_of {w : World} {b i : Nat} {v : Value} (h : w.cell? ⟨b, i, none⟩ = some v) : w.cell? ⟨b, i, none⟩ = some (val w b i) := by unfold val; rw [h]; rfl
def SkP (w : World) (b g q o k : Nat) (h : Hd) : Prop := w.cell? ⟨b, 384, none⟩ = some (.int .i64 (o : Int)) ∧ w.cell? ⟨b, 385, none⟩ = some (.int .i64 (k : Int)) ∧ w.cell? ⟨g, 0, none⟩ = some (.string h.1) ∧ w.cell? ⟨g, 1, none⟩ = some (.string h.2) ∧
  w.cell? ⟨b, q * 3, none⟩ = some (val w b (q * 3)) ∧ w.cell? ⟨b, q * 3 + 1, none⟩ = some (val w b (q * 3 + 1)) ∧ w.cell? ⟨b, q * 3 + 2, none⟩ = some (val w b (q * 3 + 2)) ∧ ∀ i, w.frozen? ⟨b, i, none⟩ = false
theorem sk_drew {w : World} {b g q o k : Nat} {h : Hd} (s : SkP w b g q o k h) : SkP w.drew b g q o k h := s
theorem sk_of {w : World} {b g q o k : Nat} {h r : Hd} (s : St w b g q o k h r) : SkP w b g q o k h := ⟨s.c0, s.c1, s.n0, s.n1, val_of s.e0, val_of s.e1, val_of s.e2, s.z⟩
theorem cell_setB (w : World) (b g i j : Nat) (u : Value) (h : b ≠ g) : (w.setCell ⟨b, i, none⟩ u).cell? ⟨g, j, none⟩ = w.cell? ⟨g, j, none⟩ := by
  simp [go_sem, h, Ne.symm h]
theorem sk_set {w : World} {b g q o k : Nat} {h r : Hd} {x y z : Value} (hgb : b ≠ g) (hq : q < 128) (s : St w b g q o k h r) : SkP (((w.setCell ⟨b, q * 3, none⟩ x).setCell ⟨b, q * 3 + 1, none⟩ y).setCell ⟨b, q * 3 + 2, none⟩ z) b g q o k h := by
  refine ⟨?_, ?_, ?_, ?_, val_of (v := x) ?_, val_of (v := y) ?_, val_of (v := z) ?_, fun i => ?_⟩
  · rw [cell_setN _ _ _ _ _ (by omega), cell_setN _ _ _ _ _ (by omega), cell_setN _ _ _ _ _ (by omega)]; exact s.c0
  · rw [cell_setN _ _ _ _ _ (by omega), cell_setN _ _ _ _ _ (by omega), cell_setN _ _ _ _ _ (by omega)]; exact s.c1
  · rw [cell_setB _ _ _ _ _ _ hgb, cell_setB _ _ _ _ _ _ hgb, cell_setB _ _ _ _ _ _ hgb]; exact s.n0
  · rw [cell_setB _ _ _ _ _ _ hgb, cell_setB _ _ _ _ _ _ hgb, cell_setB _ _ _ _ _ _ hgb]; exact s.n1
  · rw [cell_setN _ _ _ _ _ (by omega), cell_setN _ _ _ _ _ (by omega)]; exact cell_setS _ _ _ _ _ s.e0
  · rw [cell_setN _ _ _ _ _ (by omega)]; exact cell_setS _ _ _ _ _ (by rw [cell_setN _ _ _ _ _ (by omega)]; exact s.e1)
  · exact cell_setS _ _ _ _ _ (by rw [cell_setN _ _ _ _ _ (by omega), cell_setN _ _ _ _ _ (by omega)]; exact s.e2)
  · rw [World.frozen?_setCell, World.frozen?_setCell, World.frozen?_setCell]; exact s.z i
theorem sk_1 {w : World} {b g q o k : Nat} {h r : Hd} (s : St w b g q o k h r) : w.cell? ⟨b, 384, none⟩ = some (.int .i64 (o : Int)) ∧ w.cell? ⟨b, 385, none⟩ = some (.int .i64 (k : Int)) ∧ w.cell? ⟨g, 0, none⟩ = some (.string h.1) ∧ w.cell? ⟨g, 1, none⟩ = some (.string h.2) ∧ w.cell? ⟨b, q * 3, none⟩ = some (val w b (q * 3)) ∧ w.cell? ⟨b, q * 3 + 1, none⟩ = some (val w b (q * 3 + 1)) ∧ w.cell? ⟨b, q * 3 + 2, none⟩ = some (val w b (q * 3 + 2)) ∧ ∀ i, w.frozen? ⟨b, i, none⟩ = false := sk_of s
theorem sk_2 {w : World} {b g q o k : Nat} {h r : Hd} (s : St w b g q o k h r) : w.drew.cell? ⟨b, 384, none⟩ = some (.int .i64 (o : Int)) ∧ w.drew.cell? ⟨b, 385, none⟩ = some (.int .i64 (k : Int)) ∧ w.drew.cell? ⟨g, 0, none⟩ = some (.string h.1) ∧ w.drew.cell? ⟨g, 1, none⟩ = some (.string h.2) ∧ w.drew.cell? ⟨b, q * 3, none⟩ = some (val w.drew b (q * 3)) ∧ w.drew.cell? ⟨b, q * 3 + 1, none⟩ = some (val w.drew b (q * 3 + 1)) ∧ w.drew.cell? ⟨b, q * 3 + 2, none⟩ = some (val w.drew b (q * 3 + 2)) ∧ ∀ i, w.drew.frozen? ⟨b, i, none⟩ = false := sk_drew (sk_of s)
theorem sk_3 {w : World} {b g q o k : Nat} {h r : Hd} {x y z : Value} (hgb : b ≠ g) (hq : q < 128) (s : St w b g q o k h r) : (((w.setCell ⟨b, q * 3, none⟩ x).setCell ⟨b, q * 3 + 1, none⟩ y).setCell ⟨b, q * 3 + 2, none⟩ z).cell? ⟨b, 384, none⟩ = some (.int .i64 (o : Int)) ∧ (((w.setCell ⟨b, q * 3, none⟩ x).setCell ⟨b, q * 3 + 1, none⟩ y).setCell ⟨b, q * 3 + 2, none⟩ z).cell? ⟨b, 385, none⟩ = some (.int .i64 (k : Int)) ∧ (((w.setCell ⟨b, q * 3, none⟩ x).setCell ⟨b, q * 3 + 1, none⟩ y).setCell ⟨b, q * 3 + 2, none⟩ z).cell? ⟨g, 0, none⟩ = some (.string h.1) ∧ (((w.setCell ⟨b, q * 3, none⟩ x).setCell ⟨b, q * 3 + 1, none⟩ y).setCell ⟨b, q * 3 + 2, none⟩ z).cell? ⟨g, 1, none⟩ = some (.string h.2) ∧ (((w.setCell ⟨b, q * 3, none⟩ x).setCell ⟨b, q * 3 + 1, none⟩ y).setCell ⟨b, q * 3 + 2, none⟩ z).cell? ⟨b, q * 3, none⟩ = some (val (((w.setCell ⟨b, q * 3, none⟩ x).setCell ⟨b, q * 3 + 1, none⟩ y).setCell ⟨b, q * 3 + 2, none⟩ z) b (q * 3)) ∧ (((w.setCell ⟨b, q * 3, none⟩ x).setCell ⟨b, q * 3 + 1, none⟩ y).setCell ⟨b, q * 3 + 2, none⟩ z).cell? ⟨b, q * 3 + 1, none⟩ = some (val (((w.setCell ⟨b, q * 3, none⟩ x).setCell ⟨b, q * 3 + 1, none⟩ y).setCell ⟨b, q * 3 + 2, none⟩ z) b (q * 3 + 1)) ∧ (((w.setCell ⟨b, q * 3, none⟩ x).setCell ⟨b, q * 3 + 1, none⟩ y).setCell ⟨b, q * 3 + 2, none⟩ z).cell? ⟨b, q * 3 + 2, none⟩ = some (val (((w.setCell ⟨b, q * 3, none⟩ x).setCell ⟨b, q * 3 + 1, none⟩ y).setCell ⟨b, q * 3 + 2, none⟩ z) b (q * 3 + 2)) ∧ ∀ i, (((w.setCell ⟨b, q * 3, none⟩ x).setCell ⟨b, q * 3 + 1, none⟩ y).setCell ⟨b, q * 3 + 2, none⟩ z).frozen? ⟨b, i, none⟩ = false := sk_set hgb hq s
theorem sk_4 {w : World} {b g q o k : Nat} {h r : Hd} {x y z : Value} (hgb : b ≠ g) (hq : q < 128) (s : St w b g q o k h r) : (((w.setCell ⟨b, q * 3, none⟩ x).setCell ⟨b, q * 3 + 1, none⟩ y).setCell ⟨b, q * 3 + 2, none⟩ z).drew.cell? ⟨b, 384, none⟩ = some (.int .i64 (o : Int)) ∧ (((w.setCell ⟨b, q * 3, none⟩ x).setCell ⟨b, q * 3 + 1, none⟩ y).setCell ⟨b, q * 3 + 2, none⟩ z).drew.cell? ⟨b, 385, none⟩ = some (.int .i64 (k : Int)) ∧ (((w.setCell ⟨b, q * 3, none⟩ x).setCell ⟨b, q * 3 + 1, none⟩ y).setCell ⟨b, q * 3 + 2, none⟩ z).drew.cell? ⟨g, 0, none⟩ = some (.string h.1) ∧ (((w.setCell ⟨b, q * 3, none⟩ x).setCell ⟨b, q * 3 + 1, none⟩ y).setCell ⟨b, q * 3 + 2, none⟩ z).drew.cell? ⟨g, 1, none⟩ = some (.string h.2) ∧ (((w.setCell ⟨b, q * 3, none⟩ x).setCell ⟨b, q * 3 + 1, none⟩ y).setCell ⟨b, q * 3 + 2, none⟩ z).drew.cell? ⟨b, q * 3, none⟩ = some (val (((w.setCell ⟨b, q * 3, none⟩ x).setCell ⟨b, q * 3 + 1, none⟩ y).setCell ⟨b, q * 3 + 2, none⟩ z).drew b (q * 3)) ∧ (((w.setCell ⟨b, q * 3, none⟩ x).setCell ⟨b, q * 3 + 1, none⟩ y).setCell ⟨b, q * 3 + 2, none⟩ z).drew.cell? ⟨b, q * 3 + 1, none⟩ = some (val (((w.setCell ⟨b, q * 3, none⟩ x).setCell ⟨b, q * 3 + 1, none⟩ y).setCell ⟨b, q * 3 + 2, none⟩ z).drew b (q * 3 + 1)) ∧ (((w.setCell ⟨b, q * 3, none⟩ x).setCell ⟨b, q * 3 + 1, none⟩ y).setCell ⟨b, q * 3 + 2, none⟩ z).drew.cell? ⟨b, q * 3 + 2, none⟩ = some (val (((w.setCell ⟨b, q * 3, none⟩ x).setCell ⟨b, q * 3 + 1, none⟩ y).setCell ⟨b, q * 3 + 2, none⟩ z).drew b (q * 3 + 2)) ∧ ∀ i, (((w.setCell ⟨b, q * 3, none⟩ x).setCell ⟨b, q * 3 + 1, none⟩ y).setCell ⟨b, q * 3 + 2, none⟩ z).drew.frozen? ⟨b, i, none⟩ = false := sk_set hgb hq s
def AddPost (b m : Nat) (M' : List Hd) (w : World) (e : Ending) (w' : World) : Prop := ∃ (R : Nat → Hd) (o : Nat), e = .returned (.tuple #[]) ∧ Rg R o M' ∧ Tb w' b R o M'.length (total M') m ∧ total M' ≤ m ∧ Kp b w w'
theorem Rg.push {R : Nat → Hd} {o : Nat} {M : List Hd} (h : Rg R o M) (g : Hd) (hl : M.length < 128) : Rg (fun i => if i = (o + M.length) % 128 then g else R i) o (M ++ [g]) := by
  have ho := h.lt
  refine ⟨ho, by simp; omega, fun j hj => ?_⟩
  simp only [List.length_append, List.length_cons, List.length_nil] at hj
  by_cases e : j = M.length
  · subst e
    rw [if_pos rfl]
    simp
  · rw [if_neg (by omega), List.getElem_append_left (by omega)]
    exact h.at_ j (by omega)
set_option maxRecDepth 100000 in
set_option maxHeartbeats 4000000 in
theorem add_any (b m : Nat) (M : List Hd) (h : Hd) (c : Bool) {R : Nat → Hd} {o : Nat} (w : World) (h1 : h.1.size ≤ 140737488355328) (h2 : h.2.size ≤ 140737488355328) (hm : m ≤ 4096) (hM : total M ≤ m) (hr : Rg R o M) (ht : Tb w b R o M.length (total M) m) :
    Calls Tryd.prog 81 #[.pointer (some ⟨b, 0, none⟩), hdN h c] w (AddPost b m (addM m M h) w) := by
  have hb := ht.lt
  have ht0 := ht.alloc (.cells #[.string h.1, .string h.2, .bool c] 77) hb
  have HC := Lib.hid (fun W => sizeOf_any h c W h1 h2)
  have hG : sizeH h ≤ 281474976710688 := by unfold sizeH; omega
  by_cases hgt : m < sizeH h
  · have hadd : addM m M h = [] := by unfold addM; rw [if_neg (by omega)]
    have hs := shrink_any b m 0 M _ (by omega) (by omega) hr (ht0.alloc (.cells #[.string h.1, .string h.2, .bool c] 77) (by simp; omega))
    have HS := Lib.hid hs
    have HA := Lib.hid hadd
    have q3 := (ht0.alloc (.cells #[.string h.1, .string h.2, .bool c] 77) (by simp; omega)).c3
    have HT0 := Lib.hid ht0
    clear hs hadd ht0
    generalize sizeH h = G at HC hG hgt
    go_enter Tryd.func81, Tryd.ntmps81
    go_wp2_with fail
    refine (HC.out _).mono ?_
    rintro e w1 ⟨rfl, rfl⟩
    go_wp2_with fail
    refine HS.out.mono ?_
    rintro e w2 ⟨R', o', rfl, hr', ht', hk⟩
    rw [shr_zero] at hr' ht'
    go_wp2_with fail
    go_end0
    refine ⟨R', o', rfl, ?_, ?_, ?_, ?_⟩
    · rw [HA.out]; exact hr'
    · rw [HA.out]; exact ht'
    · rw [HA.out]; simp [total]
    · exact (((Kp.refl b w).alloc _).alloc _).trans hk
  · have hle := shr_le (m - sizeH h) M
    have hadd : addM m M h = shr (m - sizeH h) M ++ [h] := by unfold addM; rw [if_pos (by omega)]
    have hG0 : 32 ≤ sizeH h := by unfold sizeH; omega
    have hsub : (m : Int) - (sizeH h : Int) = ((m - sizeH h : Nat) : Int) := by omega
    have hs := shrink_any b m (m - sizeH h) M _ (by omega) (by omega) hr (ht0.alloc (.cells #[.string h.1, .string h.2, .bool c] 77) (by simp; omega))
    rw [← hsub] at hs
    have HS := Lib.hid hs
    have HA := Lib.hid hadd
    have hGm : sizeH h ≤ m := by omega
    have q3 := (ht0.alloc (.cells #[.string h.1, .string h.2, .bool c] 77) (by simp; omega)).c3
    have HC1 := Lib.hid (fun W => clone_any h.1 W (by omega))
    have HC2 := Lib.hid (fun W => clone_any h.2 W (by omega))
    have hl32 := total_ge (shr (m - sizeH h) M)
    have HTS : Hid (sizeH h = h.1.size + h.2.size + 32) := Lib.hid rfl
    clear hs hadd ht0 hsub
    generalize hM' : shr (m - sizeH h) M = M' at HA hle hl32
    have HM' := Lib.hid hM'
    clear hM'
    generalize sizeH h = G at HC hG hgt hG0 HS HA hGm hle q3 hl32 HTS HM'
    go_enter Tryd.func81, Tryd.ntmps81
    go_wp2_with fail
    refine (HC.out _).mono ?_
    rintro e w1 ⟨rfl, rfl⟩
    go_wp2_with fail
    refine HS.out.mono ?_
    rintro e w2 ⟨R', o', rfl, hr', ht', hk⟩
    rw [HM'.out] at hr' ht'
    have hk2 := Lib.hid ((((Kp.refl b w).alloc (.cells #[.string h.1, .string h.2, .bool c] 77)).alloc (.cells #[.string h.1, .string h.2, .bool c] 77)).trans hk)
    have hlt' := ht'.lt
    have hbox : ∀ i v, (#[Value.string h.1, .string h.2, .bool c] : Array Value)[i]? = some v → w2.cell? ⟨w.heap.size, i, none⟩ = some v := fun i v hv => by
      have hbk := hk.block w.heap.size (by simp; omega) (by omega)
      rw [World.cell?_of_block (a := ⟨w.heap.size, i, none⟩) hbk, ← hv]
      simp
    have hgs : w.heap.size < w2.heap.size := by have := hk.size; simp at this; omega
    obtain ⟨k, hkl⟩ : ∃ k, k = M'.length := ⟨_, rfl⟩
    obtain ⟨q, hq⟩ : ∃ q, q = (o' + M'.length) % 128 := ⟨_, rfl⟩
    obtain ⟨T, hT⟩ : ∃ T, T = total M' := ⟨_, rfl⟩
    have ho := hr'.lt
    have hkb : k < 128 := by omega
    have hTb : T + G ≤ 4096 := by omega
    have hTm : T + G ≤ m := by omega
    have hq2 : q < 128 := by omega
    have hqq : q = (o' + k) % 128 := by omega
    rw [← hkl, ← hT] at ht'
    have hst : St w2 b w.heap.size q o' k h (R' q) := ⟨ht'.c0, ht'.c1, hbox 0 _ rfl, hbox 1 _ rfl, ht'.r0 q hq2, ht'.r1 q hq2, ht'.r2 q hq2, fun i => ht'.z i⟩
    have HTB := Lib.hid ht'
    have HST := Lib.hid hst
    have HR := Lib.hid hr'
    have HKL := Lib.hid hkl
    have HT := Lib.hid hT
    have HQ := Lib.hid hq
    have hQ1 := Lib.hid hqq
    have hs1 : (o' : Int) + (k : Int) = ((o' + k : Nat) : Int) := by simp
    have hm1 : ((o' + k : Nat) : Int) % 128 = (q : Int) := by omega
    have hm2 : ((o' + k : Nat) : Int).tmod 128 = (q : Int) := by rw [Int.tmod_eq_emod_of_nonneg (by omega)]; omega
    have hw1 : IntKind.i64.wrap ((o' + k : Nat) : Int) = ((o' + k : Nat) : Int) := by rw [IntWalk.i64_in _ (by omega)]
    generalize o' + k = t at hs1 hm1 hm2 hw1
    have hqa : (0 : Int) ≤ (q : Int) := by omega
    have hqb : (q : Int) < 128 := by omega
    have h1' := Lib.hid (fun (W : World) (hW : Below w2.heap.size w2 W) => (HC1.out W).mono (R' := fun e w' => e = .returned (.string h.1) ∧ Below w2.heap.size w2 w') (fun e w' hh => ⟨hh.1, hW.trans (hh.2.mono hW.size)⟩))
    have h2' := Lib.hid (fun (W : World) (hW : Below w2.heap.size w2 W) => (HC2.out W).mono (R' := fun e w' => e = .returned (.string h.2) ∧ Below w2.heap.size w2 w') (fun e w' hh => ⟨hh.1, hW.trans (hh.2.mono hW.size)⟩))
    have hb0 := Below.refl w2.heap.size w2
    have HB0 := Lib.hid hb0
    generalize hrq : R' q = rq at HST
    obtain ⟨c0, c1, n0, n1, e0, e1, e2, hz⟩ := HST.out
    have hgb : b ≠ w.heap.size := by omega
    have hqn : q < 128 := by omega
    clear hk hbox hkl hT hq hqq ht' hst hr' hrq hb0 HC1 HC2 HS HC q3 hle hl32 hM ht hr
    go_wp2_with (fail)
    go_upto_region 5 with fail
    go_cut [33] (fun _ wx => Tb wx b (fun i => if i = q then h else R' i) o' k T m ∧ Kp b w2 wx)
    case first =>
      go_region_held3 (fun w' => w'.cell? ⟨b, 384, none⟩ = some (.int .i64 (o' : Int)) ∧ w'.cell? ⟨b, 385, none⟩ = some (.int .i64 (k : Int)) ∧ w'.cell? ⟨w.heap.size, 0, none⟩ = some (.string h.1) ∧ w'.cell? ⟨w.heap.size, 1, none⟩ = some (.string h.2) ∧
          w'.cell? ⟨b, q * 3, none⟩ = some (val w' b (q * 3)) ∧ w'.cell? ⟨b, q * 3 + 1, none⟩ = some (val w' b (q * 3 + 1)) ∧ w'.cell? ⟨b, q * 3 + 2, none⟩ = some (val w' b (q * 3 + 2)) ∧ ∀ i, w'.frozen? ⟨b, i, none⟩ = false)
        ((first | (with_reducible exact sk_1 HST.out) | (with_reducible exact sk_2 HST.out) | (with_reducible exact sk_1 (HST.out.kept (by assumption))) | (with_reducible exact sk_2 (HST.out.kept (by assumption))) | (with_reducible exact sk_3 hgb hqn (HST.out.kept (by assumption))) | (with_reducible exact sk_4 hgb hqn (HST.out.kept (by assumption)))))
        (first | (go_at_call_of 95 (Value.string h.1); (with_reducible_and_instances refine Calls.mono (h1'.out _ ?_) ?_); (repeat (first | (with_reducible exact HB0.out) | (with_reducible assumption) | (with_reducible refine Below.drew ?_))); rintro e w3 ⟨rfl, hb3⟩) | (go_at_call_of 95 (Value.string h.2); (with_reducible_and_instances refine Calls.mono (h2'.out _ ?_) ?_); (repeat (first | (with_reducible exact HB0.out) | (with_reducible assumption) | (with_reducible refine Below.drew ?_))); rintro e w3 ⟨rfl, hb3⟩))
      all_goals (go_wp2_with fail; go_meet)
      all_goals exact ⟨(HTB.out.below (by assumption)).setR q hqn h, ((((Kp.of_below (by assumption)).set _ _).set _ _).set _ _)⟩
    case rest =>
      obtain ⟨hwc, hkc⟩ := hcut
      have d1 := hwc.c1
      have d2 := hwc.c2
      have dz := fun i => hwc.z i
      have HWC := Lib.hid hwc
      have hk1 : (k : Int) + 1 = ((k + 1 : Nat) : Int) := by simp
      have hTG : (T : Int) + (G : Int) = ((T + G : Nat) : Int) := by simp
      have HK1 := Lib.hid hk1
      have HTG := Lib.hid hTG
      clear hwc c0 c1 n0 n1 e0 e1 e2 hz hk1 hTG hs1 hm1 hm2 hw1
      go_wp2
      go_end0
      have hfin := (HWC.out.set1 (k + 1)).set2 (T + G)
      have hpush := HR.out.push h (by have := HKL.out; omega)
      rw [← HQ.out] at hpush
      rw [← HK1.out, ← HTG.out] at hfin
      refine ⟨fun i => if i = q then h else R' i, o', rfl, ?_, ?_, ?_, ?_⟩
      · rw [HA.out]; exact hpush
      · have e1 : (M' ++ [h]).length = k + 1 := by rw [List.length_append, ← HKL.out]; rfl
        have e2 : total (M' ++ [h]) = T + G := by rw [total_app, ← HT.out, HTS.out]; rfl
        rw [HA.out, e1, e2]
        exact hfin
      · rw [HA.out, total_app, ← HT.out]
        simp only [total, sizeH]
        have := HTS.out
        omega
      · exact hk2.out.trans (hkc.trans (((Kp.refl b wc).set _ _).set _ _))
/-- What Resize leaves. -/
def ResPost (b m : Nat) (M' : List Hd) (w : World) (e : Ending) (w' : World) : Prop := ∃ (R : Nat → Hd) (o : Nat), e = .returned .nilIface ∧ Rg R o M' ∧ Tb w' b R o M'.length (total M') m ∧ Kp b w w'
set_option maxRecDepth 100000 in
set_option maxHeartbeats 1000000 in
theorem resize_yes (b m x : Nat) (M : List Hd) {R : Nat → Hd} {o : Nat} (w : World) (hx : x ≤ 4096) (hM : total M ≤ 4096) (hr : Rg R o M) (ht : Tb w b R o M.length (total M) m) :
    Calls Tryd.prog 53 #[.pointer (some ⟨b, 0, none⟩), .int .i64 (x : Int)] w (ResPost b x (shr x M) w) := by
  have hs := shrink_any b x x M _ hM hx hr (ht.set3 x)
  have HS := Lib.hid hs
  have q3 := ht.c3
  have hz := fun i => ht.z i
  have HM := Lib.hid (fun W => mayBe_yes x hx W)
  clear hs
  go_enter Tryd.func53, Tryd.ntmps53
  go_wp2_with fail
  refine (HM.out _).mono ?_
  rintro e w1 ⟨rfl, rfl⟩
  go_wp2_with fail
  refine HS.out.mono ?_
  rintro e w2 ⟨R', o', rfl, hr', ht', hk⟩
  go_wp2_with fail
  go_ret
  exact ⟨R', o', rfl, hr', ht', ((Kp.refl b w).set _ _).trans hk⟩
theorem resize_no (b : Nat) (x : Int) (h : x < 0 ∨ 4096 < x) (ev : Value) (w : World) (hE : w.cell? ⟨0, 0, none⟩ = some ev) :
    Calls Tryd.prog 53 #[.pointer (some ⟨b, 0, none⟩), .int .i64 x] w fun e w' => e = .returned ev ∧ ∃ q, w' = w.drewN q := by
  have HM := Lib.hid (fun W => mayBe_no x h W)
  clear h
  go_enter Tryd.func53, Tryd.ntmps53
  go_wp2_with fail
  refine (HM.out _).mono ?_
  rintro e w1 ⟨rfl, rfl⟩
  go_wp2_with fail
  try go_quiet (fail)
  try go_wp2
  go_ret
  exact ⟨rfl, 0, rfl⟩
end Go.Proofs.YtlkieeindnpidaaDoor.Tt
