/-
  CONTRACTS: add, Both, the pair's Room and Take.
-/
import Derived.Test.YtfgceakoakcccaaDoorB
namespace Go.Proofs.YtfgceakoakcccaaDoor
open Go.RowKit

set_option maxRecDepth 100000 in
set_option maxHeartbeats 400000 in
theorem add_any {w : World} {p : Nat} {ws : List Nat} {vr vt : Value} (h : Pr w p ws vr vt) (hl : ws.length ≤ 100) (b : Nat) :
    Calls Tryd.prog 22 #[.pointer (some ⟨p, 0, none⟩), .pointer (some ⟨b, 0, none⟩)] w fun e w' => e = .returned (.tuple #[]) ∧ (∃ vr' vt', Pr w' p (ws ++ [b]) vr' vt') ∧ Below p w w' := by
  obtain ⟨c0, c1, z, hr, ht, hap⟩ := h
  have hlt := cell_lt c0
  simp only at hlt
  have z0 := z 0
  have z1 := z 1
  have hr' : w.ownsRow (p + 1) 41 1 vr (ws.map rf).length (ws.map rf) := by simpa using hr
  have ht' : w.ownsRow (p + 1) 37 1 vt (ws.map tf).length (ws.map tf) := by simpa using ht
  have hpe : p ≠ w.heap.size := by omega
  have hb1 : Below w.heap.size w (w.alloc (.cells #[rf b] 41)) := (Below.refl _ w).alloc (Nat.le_refl _) _
  have HR := Lib.hid (row_blk hr' (fun g hg => hb1.block g (World.ownsRow.lt hr' g hg).2))
  have HB1 := Lib.hid hb1
  have HT := Lib.hid ht'
  have HAP := Lib.hid hap
  have HZ := Lib.hid z
  clear hr ht hr' ht' z hb1 hap
  go_enter Tryd.func22, Tryd.ntmps22
  go_upto_region 1 with (at_builtin; refine wp_append_f _ _ Tryd.underlying47 infoR rfl _ _ rfl vr (ws.map rf) rfl (p + 1) HR.out w.heap.size (rf b) rfl (by simp) rfl (by simpa using hl) (by simp; omega) ?_; intro w2 a2 n2 hr2 hb2 ha2; (have HR2 := Lib.hid hr2); (have HB2 := Lib.hid (HB1.out.mono (show p + 1 ≤ w.heap.size by omega) |>.trans hb2)); (have HA2 := Lib.hid ha2); clear hr2 hb2 ha2; (have k0 := (HB2.out.cell (p := ⟨p, 0, none⟩) (Nat.lt_succ_self p)).trans c0); (have k1 := (HB2.out.cell (p := ⟨p, 1, none⟩) (Nat.lt_succ_self p)).trans c1); (have k2 := (HB2.out.frozen (p := ⟨p, 0, none⟩) (Nat.lt_succ_self p)).trans z0); (have k3 := (HB2.out.frozen (p := ⟨p, 1, none⟩) (Nat.lt_succ_self p)).trans z1))
  have hT2 : w2.ownsRow (p + 1) 37 1 vt (ws.map tf).length (ws.map tf) ∧ ∀ x, vt.ownBlock = some x → (Value.slice a2 ((ws.map rf).length + 1) n2).ownBlock ≠ some x := by
    have key : ∀ g, vt.ownBlock = some g → w2.heap[g]? = w.heap[g]? ∧ (Value.slice a2 ((ws.map rf).length + 1) n2).ownBlock ≠ some g := fun g hg => by
      have hgl := (World.ownsRow.lt HT.out g hg).2
      obtain ⟨e1, e2⟩ := HA2.out g (by simp; omega) (fun e => HAP.out g e hg)
      exact ⟨e1.trans (HB1.out.block g hgl), e2⟩
    exact ⟨row_blk HT.out fun g hg => (key g hg).1, fun x hx => (key x hx).2⟩
  simp only [List.length_map] at hT2
  have hr2 := HR2.out
  simp only [List.length_map] at hr2
  generalize Value.slice a2 (ws.length + 1) n2 = v2 at hT2 hr2 ⊢
  have hlt2 : p < w2.heap.size := cell_lt k0
  have hr3 : (w2.setCell ⟨p, 0, none⟩ v2).ownsRow (p + 1) 41 1 v2 (ws.length + 1) (ws.map rf ++ [rf b]) := row_blk hr2 fun g hg => Below.heap_setCell _ _ _ _ (by have := (World.ownsRow.lt hr2 g hg).1; show g ≠ p; omega)
  have ht3 : (w2.setCell ⟨p, 0, none⟩ v2).ownsRow (p + 1) 37 1 vt (ws.map tf).length (ws.map tf) := row_blk (by simpa using hT2.1) fun g hg => Below.heap_setCell _ _ _ _ (by have := (World.ownsRow.lt hT2.1 g hg).1; show g ≠ p; omega)
  have hap3 := hT2.2
  have q0 : (w2.setCell ⟨p, 0, none⟩ v2).cell? ⟨p, 0, none⟩ = some v2 := cell_setS _ _ _ _ _ k0
  have q1 : (w2.setCell ⟨p, 0, none⟩ v2).cell? ⟨p, 1, none⟩ = some vt := (cell_setN _ _ _ _ _ (by decide)).trans k1
  have qz : ∀ i, (w2.setCell ⟨p, 0, none⟩ v2).frozen? ⟨p, i, none⟩ = false := fun i => by rw [World.frozen?_setCell]; exact (HB2.out.frozen (p := ⟨p, i, none⟩) (Nat.lt_succ_self p)).trans (HZ.out i)
  have hB3 : Below p w (w2.setCell ⟨p, 0, none⟩ v2) := (HB2.out.mono (Nat.le_succ p)).setCell (Nat.le_refl p) _
  have hlt3 : p < (w2.setCell ⟨p, 0, none⟩ v2).heap.size := cell_lt q0
  generalize w2.setCell ⟨p, 0, none⟩ v2 = w3 at hr3 ht3 q0 q1 qz hB3 hlt3 ⊢
  clear hT2 hr2 k0 k1 k2 k3 c0 c1 z0 z1 hlt hpe hlt2 HR HB1 HT HAP HR2 HB2 HA2 HZ
  have hb1 : Below w3.heap.size w3 (w3.alloc (.cells #[tf b] 37)) := (Below.refl _ w3).alloc (Nat.le_refl _) _
  have HR := Lib.hid hr3
  have HT := Lib.hid (row_blk ht3 (fun g hg => hb1.block g (World.ownsRow.lt ht3 g hg).2))
  have HB1 := Lib.hid hb1
  have HB3 := Lib.hid hB3
  have HAP := Lib.hid hap3
  have HZ := Lib.hid qz
  have HTE := Lib.hid (fun g hg => (World.ownsRow.lt ht3 g hg).2)
  have z0 := qz 0
  have z1 := qz 1
  have hpe : p ≠ w3.heap.size := by omega
  clear hr3 ht3 hb1 hB3 hap3 qz
  go_wp2_with (at_builtin; refine wp_append_f _ _ Tryd.underlying48 infoE rfl _ _ rfl vt (ws.map tf) rfl (p + 1) HT.out w3.heap.size (tf b) rfl (by simp) rfl (by simpa using hl) (by simp; omega) ?_; intro w4 a4 n4 hr4 hb4 ha4; (have HT4 := Lib.hid hr4); (have HB4 := Lib.hid (HB1.out.mono (show p + 1 ≤ w3.heap.size by omega) |>.trans hb4)); (have HA4 := Lib.hid ha4); clear hr4 hb4 ha4; (have k0 := (HB4.out.cell (p := ⟨p, 0, none⟩) (Nat.lt_succ_self p)).trans q0); (have k1 := (HB4.out.cell (p := ⟨p, 1, none⟩) (Nat.lt_succ_self p)).trans q1); (have k2 := (HB4.out.frozen (p := ⟨p, 0, none⟩) (Nat.lt_succ_self p)).trans z0); (have k3 := (HB4.out.frozen (p := ⟨p, 1, none⟩) (Nat.lt_succ_self p)).trans z1))
  go_end0
  refine ⟨rfl, ?_, (HB3.out.trans (HB4.out.mono (Nat.le_succ p))).setCell (Nat.le_refl p) _⟩
  have key : ∀ g, v2.ownBlock = some g → w4.heap[g]? = w3.heap[g]? ∧ (Value.slice a4 ((ws.map tf).length + 1) n4).ownBlock ≠ some g := fun g hg => by
    have hgl := (World.ownsRow.lt HR.out g hg).2
    obtain ⟨e1, e2⟩ := HA4.out g (by simp; omega) (fun e => HAP.out g e hg)
    exact ⟨e1.trans (HB1.out.block g hgl), e2⟩
  have ht4 := HT4.out
  simp only [List.length_map] at ht4 key
  refine ⟨v2, .slice a4 (ws.length + 1) n4, (cell_setN _ _ _ _ _ (by decide)).trans k0, cell_setS _ _ _ _ _ k1, fun i => by rw [World.frozen?_setCell]; exact (HB4.out.frozen (p := ⟨p, i, none⟩) (Nat.lt_succ_self p)).trans (HZ.out i), ?_, ?_, fun x hx => (key x hx).2⟩
  · rw [List.length_append, List.map_append]
    exact row_blk HR.out fun g hg => (Below.heap_setCell _ _ _ _ (by have := (World.ownsRow.lt HR.out g hg).1; show g ≠ p; omega)).trans (key g hg).1
  · rw [List.length_append, List.map_append]
    exact row_blk ht4 fun g hg => Below.heap_setCell _ _ _ _ (by have := (World.ownsRow.lt ht4 g hg).1; show g ≠ p; omega)
end Go.Proofs.YtfgceakoakcccaaDoor
