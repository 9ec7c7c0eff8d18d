/-
  CONTRACTS: the decoder's deferred closure.
-/
import Derived.Test.YtlkieeindnpidaaDoorRd
import Derived.Defers
import Derived.Recover
import Derived.RegionTactic
namespace Go.Proofs.YtlkieeindnpidaaDoor
open Go.RowKit Tt Hu Hu.Hf

set_option maxRecDepth 100000 in
set_option maxHeartbeats 2000000 in
/-- The closure, of a frame that returns: it turns nothing. -/
theorem catch_idle (p q s : Addr) (w : World) :
    CallsD Tryd.prog 61 #[.pointer (some p), .pointer (some q), .pointer (some s)] .returning w fun e u' w' => e = .returned (.tuple #[]) ∧ u' = .returning ∧ w' = w := by
  refine callsD_of_wpS Tryd.func61 rfl fun c₀ cs hu => ?_
  apply wpS_seq
  apply wpS_region
  simp [wpOpsS, go_sem, recoverD, hu, Tryd.ntmps61, Exit.thenS]
  simp only [List.size_toArray, List.length_cons, List.length_nil, Nat.reduceAdd, Nat.reduceSub, Array.replicate_succ, Array.replicate_zero, List.push_toArray, List.append_toArray, List.nil_append, List.cons_append, List.setIfInBounds_toArray, List.set_cons_succ, List.set_cons_zero]
  refine wpS_of_wp (wp_mono' (Q := fun e a' w' => e = .normal ∧ a'.defers = [] ∧ w' = w) ?_ ?_)
  · go_wp2
  · rintro e a w' ⟨rfl, hd, rfl⟩
    cases c₀
    simp_all [bodyPostS, results, Tryd.results61, Exit.thenS]

/-- What the closure turns where the block had a fault. -/
structure Caught (d Bl Be : Nat) (ev : Value) (w w' : World) : Prop where
  os : w'.os = w.os
  tape : w'.tape = w.tape
  output : w'.output = w.output
  size : w.heap.size ≤ w'.heap.size
  block : ∀ k, k < w.heap.size → k ≠ d → k ≠ Bl → k ≠ Be → w'.heap[k]? = w.heap[k]?
  d0 : w'.cell? ⟨d, 0, none⟩ = some (.pointer none)
  d2 : w'.cell? ⟨d, 2, none⟩ = w.cell? ⟨d, 2, none⟩
  l0 : w'.cell? ⟨Bl, 0, none⟩ = some (.slice none 0 0)
  e0 : w'.cell? ⟨Be, 0, none⟩ = some ev
theorem Caught.of {d Bl Be : Nat} {ev v0 l0 e0 : Value} {w w1 : World} (h : Below w.heap.size (w.setCell ⟨d, 0, none⟩ (.pointer none)) w1) (h0 : w.cell? ⟨d, 0, none⟩ = some v0) (hl : w.cell? ⟨Bl, 0, none⟩ = some l0) (he : w.cell? ⟨Be, 0, none⟩ = some e0) (n1 : d ≠ Bl) (n2 : d ≠ Be) (n3 : Bl ≠ Be) :
    Caught d Bl Be ev w ((w1.setCell ⟨Bl, 0, none⟩ (.slice none 0 0)).setCell ⟨Be, 0, none⟩ ev) := by
  have b1 := Hu.cell_lt h0
  have b2 := Hu.cell_lt hl
  have b3 := Hu.cell_lt he
  simp only at b1 b2 b3
  have hw : (w.setCell ⟨d, 0, none⟩ (.pointer none)).heap.size = w.heap.size := by simp [World.setCell]
  have k1 : w1.cell? ⟨d, 0, none⟩ = some (.pointer none) := (h.cell (p := ⟨d, 0, none⟩) b1).trans (cell_setS _ _ _ _ _ h0)
  have k2 : w1.cell? ⟨Bl, 0, none⟩ = some l0 := (h.cell (p := ⟨Bl, 0, none⟩) b2).trans ((World.cell?_of_block (a := ⟨Bl, 0, none⟩) (Below.heap_setCell _ _ _ _ (Ne.symm n1))).trans hl)
  have k3 : w1.cell? ⟨Be, 0, none⟩ = some e0 := (h.cell (p := ⟨Be, 0, none⟩) b3).trans ((World.cell?_of_block (a := ⟨Be, 0, none⟩) (Below.heap_setCell _ _ _ _ (Ne.symm n2))).trans he)
  refine ⟨h.os, h.tape, h.output, by have := h.size; rw [hw] at this; simp [World.setCell]; omega, fun k hk a1 a2 a3 => ?_, ?_, ?_, ?_, ?_⟩
  · rw [Below.heap_setCell _ _ _ _ a3, Below.heap_setCell _ _ _ _ a2, h.block k hk, Below.heap_setCell _ _ _ _ a1]
  · rw [World.cell?_of_block (a := ⟨d, 0, none⟩) (Below.heap_setCell _ _ _ _ n2), World.cell?_of_block (a := ⟨d, 0, none⟩) (Below.heap_setCell _ _ _ _ n1)]; exact k1
  · rw [World.cell?_of_block (a := ⟨d, 2, none⟩) (Below.heap_setCell _ _ _ _ n2), World.cell?_of_block (a := ⟨d, 2, none⟩) (Below.heap_setCell _ _ _ _ n1), h.cell (p := ⟨d, 2, none⟩) b1, cell_setN _ _ _ _ _ (by omega)]
  · rw [World.cell?_of_block (a := ⟨Bl, 0, none⟩) (Below.heap_setCell _ _ _ _ n3)]; exact cell_setS _ _ _ _ _ k2
  · exact cell_setS _ _ _ _ _ ((World.cell?_of_block (a := ⟨Be, 0, none⟩) (Below.heap_setCell _ _ _ _ (Ne.symm n3))).trans k3)
theorem Caught.later {d Bl Be : Nat} {ev : Value} {w w1 w2 : World} (h : Caught d Bl Be ev w w1) (hb : Below w1.heap.size w1 w2) : Caught d Bl Be ev w w2 :=
  ⟨hb.os.trans h.os, hb.tape.trans h.tape, hb.output.trans h.output, Nat.le_trans h.size hb.size, fun k hk a1 a2 a3 => (hb.block k (Nat.lt_of_lt_of_le hk h.size)).trans (h.block k hk a1 a2 a3), (hb.cell (Hu.cell_lt h.d0)).trans h.d0, (hb.cell (p := ⟨d, 2, none⟩) (show d < w1.heap.size from Hu.cell_lt h.d0)).trans h.d2, (hb.cell (Hu.cell_lt h.l0)).trans h.l0, (hb.cell (Hu.cell_lt h.e0)).trans h.e0⟩
set_option maxRecDepth 100000 in
set_option maxHeartbeats 4000000 in
theorem catch_panic (Bd Bl Be d : Nat) (ty : TypeId) (pv : Value) (v0 : Value) (l0 : Value) (e0 : Value) (w : World) (hd : w.cell? ⟨Bd, 0, none⟩ = some (.pointer (some ⟨d, 0, none⟩))) (h0 : w.cell? ⟨d, 0, none⟩ = some v0) (hz : w.frozen? ⟨d, 0, none⟩ = false)
    (hl : w.cell? ⟨Bl, 0, none⟩ = some l0) (hlz : w.frozen? ⟨Bl, 0, none⟩ = false) (he : w.cell? ⟨Be, 0, none⟩ = some e0) (hez : w.frozen? ⟨Be, 0, none⟩ = false) (n1 : d ≠ Bl) (n2 : d ≠ Be) (n3 : Bl ≠ Be) :
    CallsD Tryd.prog 61 #[.pointer (some ⟨Bd, 0, none⟩), .pointer (some ⟨Bl, 0, none⟩), .pointer (some ⟨Be, 0, none⟩)] (.panicking [{ v := .iface 110 (.agg #[.iface ty pv]), recovered := false }]) w
      fun e u' w' => e = .returned (.tuple #[]) ∧ u' = .panicking [{ v := .iface 110 (.agg #[.iface ty pv]), recovered := true }] ∧ Caught d Bl Be (.iface ty pv) w w' := by
  refine callsD_of_wpS Tryd.func61 rfl fun c₀ cs hu => ?_
  apply wpS_seq
  apply wpS_region
  simp [wpOpsS, go_sem, recoverD, hu, Tryd.ntmps61, Exit.thenS]
  simp only [List.size_toArray, List.length_cons, List.length_nil, Nat.reduceAdd, Nat.reduceSub, Array.replicate_succ, Array.replicate_zero, List.push_toArray, List.append_toArray, List.nil_append, List.cons_append, List.setIfInBounds_toArray, List.set_cons_succ, List.set_cons_zero]
  refine wpS_of_wp (wp_mono' (Q := fun e a' w' => e = .normal ∧ a'.defers = [] ∧ Caught d Bl Be (.iface ty pv) w w') ?_ ?_)
  · have hnl : ∀ W, (binOp .eql 20 (.iface 110 (.agg #[.iface ty pv])) .nilIface).run Tryd.prog W = .ok (.bool false) W := fun W => by kernel_rfl
    have hta : ∀ W, (Instr.typeAssert (.iface 110 (.agg #[.iface ty pv])) 20 110 true).run Tryd.prog W = .ok (.tuple #[.agg #[.iface ty pv], .bool true]) W := fun W => by kernel_rfl
    have b0 := Hu.cell_lt hd
    have b1 := Hu.cell_lt h0
    have b2 := Hu.cell_lt hl
    have b3 := Hu.cell_lt he
    simp only at b0 b1 b2 b3
    have m0 : ¬ Bd = w.heap.size := by omega
    have m1 : ¬ d = w.heap.size := by omega
    have m2 : ¬ Bl = w.heap.size := by omega
    have m3 : ¬ Be = w.heap.size := by omega
    have m0' : ¬ w.heap.size = Bd := by omega
    have m1' : ¬ w.heap.size = d := by omega
    have m2' : ¬ w.heap.size = Bl := by omega
    have m3' : ¬ w.heap.size = Be := by omega
    have n1' := Ne.symm n1
    have n2' := Ne.symm n2
    have n3' := Ne.symm n3
    go_wp2
    go_region
    all_goals go_wp2
    all_goals exact (Caught.of (Below.refl _ _) h0 hl he n1 n2 n3).later (Below.drew ((Below.refl _ _).alloc (Nat.le_refl _) _))
  · rintro e a w' ⟨rfl, hd, hc⟩
    cases c₀
    simp_all [bodyPostS, results, Tryd.results61, Exit.thenS]
end Go.Proofs.YtlkieeindnpidaaDoor
