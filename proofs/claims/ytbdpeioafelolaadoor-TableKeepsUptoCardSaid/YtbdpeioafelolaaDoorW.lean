/-
  THE DOCUMENT's TABLE in memory, its Size.
-/
import Derived.Test.YtbdpeioafelolaaDoorJ
namespace Go.Proofs.YtbdpeioafelolaaDoor
open Go.RowKit

/-- The document's table at block x: its list l (the newest first), its most m. -/
structure Dt (w : World) (x : Nat) (l : List Hd) (m : Nat) : Prop where
  row : ∃ (a : Option Addr) (c : Nat), w.cell? ⟨x, 0, none⟩ = some (.slice a l.length c) ∧ HOwn w (x + 1) (.slice a l.length c) l
  most : w.cell? ⟨x, 1, none⟩ = some (.int .i64 (m : Int))
  z : ∀ i, w.frozen? ⟨x, i, none⟩ = false
theorem Dt.lt {w : World} {x m : Nat} {l : List Hd} (h : Dt w x l m) : x < w.heap.size := cell_lt h.most
theorem cell_of_block {w w' : World} {b i : Nat} (h : w'.heap[b]? = w.heap[b]?) : w'.cell? ⟨b, i, none⟩ = w.cell? ⟨b, i, none⟩ := by simp [World.cell?, h]
theorem frozen_of_block {w w' : World} {b i : Nat} (h : w'.heap[b]? = w.heap[b]?) : w'.frozen? ⟨b, i, none⟩ = w.frozen? ⟨b, i, none⟩ := by simp [World.frozen?, h]
theorem Dt.kp {w w' : World} {x A m : Nat} {l : List Hd} (h : Dt w x l m) (hk : Kp A w w') (hA : A < x) : Dt w' x l m := by
  have hb := hk.block x h.lt (by omega)
  obtain ⟨a, c, h1, h2⟩ := h.row
  exact ⟨⟨a, c, by rw [cell_of_block hb]; exact h1, h2.kp hk (by omega)⟩, by rw [cell_of_block hb]; exact h.most, fun i => by rw [frozen_of_block hb]; exact h.z i⟩
theorem Dt.below {w w' : World} {x m : Nat} {l : List Hd} (h : Dt w x l m) (hk : Below w.heap.size w w') : Dt w' x l m := by
  have hb := hk.block x h.lt
  obtain ⟨a, c, h1, h2⟩ := h.row
  exact ⟨⟨a, c, by rw [cell_of_block hb]; exact h1, h2.kept hk⟩, by rw [cell_of_block hb]; exact h.most, fun i => by rw [frozen_of_block hb]; exact h.z i⟩

set_option maxRecDepth 100000 in
theorem dsizeOf_any (h : Hd) (c : Bool) (w : World) (h1 : h.1.size ≤ 140737488355328) (h2 : h.2.size ≤ 140737488355328) :
    Calls Tryd.prog 32 #[hdN h c] w fun e w' => e = .returned (.int .i64 (sizeH h : Int)) ∧ Below w.heap.size w w' := by
  unfold sizeH
  go_enter Tryd.func32, Tryd.ntmps32
  go_wp2
  go_ret
  exact ⟨by simp, (Below.refl _ w).alloc (Nat.le_refl _) _⟩

theorem total_take (l : List Hd) (k : Nat) : total (l.take k) ≤ total l := by
  have := total_app (l.take k) (l.drop k)
  rw [List.take_append_drop] at this
  omega
def DzRel (x : Nat) (l : List Hd) (w : World) (s3 s4 : Value) (wr : World) : Prop := ∃ k : Nat, s4 = .int .i64 (k : Int) ∧ s3 = .int .i64 (total (l.take k) : Int) ∧ k ≤ l.length ∧ Below w.heap.size w wr
set_option maxRecDepth 100000 in
set_option maxHeartbeats 4000000 in
theorem dsize_any (x m : Nat) (l : List Hd) (w : World) (h : Dt w x l m) (hT : total l ≤ 1000000) : Calls Tryd.prog 35 #[.pointer (some ⟨x, 0, none⟩)] w fun e w' => e = .returned (.int .i64 (total l : Int)) ∧ Below w.heap.size w w' := by
  have HD := Lib.hid h
  clear h
  have hge := total_ge l
  go_enter Tryd.func35, Tryd.ntmps35
  go_wp2
  go_loopw [3, 4] (fun s3 s4 wr => DzRel x l w s3 s4 wr) (fun _ s4 _ => l.length - (intOf s4).toNat)
  case atStart => exact ⟨0, rfl, by simp [total], by omega, Below.refl _ _⟩
  case round =>
    obtain ⟨k, rfl, rfl, hk, hb⟩ := hrel
    obtain ⟨a, c, q0, hown⟩ := (HD.out.below hb).row
    by_cases hlt : k < l.length
    · obtain ⟨a', c', e, HS⟩ := hown.hs
      obtain ⟨b, o, e', e0, e1, e2⟩ := HS.row k hlt
      cases e
      subst e'
      have HT : total (l.take (k + 1)) = total (l.take k) + sizeH l[k] := by
        rw [List.take_add_one, List.getElem?_eq_getElem hlt, total_app]
        simp [total]
      have hle := total_take l (k + 1)
      generalize l[k] = g at e0 e1 e2 HT
      have hsz : sizeH g ≤ 1000000 := by omega
      have hg1 : g.1.size ≤ 140737488355328 := by unfold sizeH at hsz; omega
      have hg2 : g.2.size ≤ 140737488355328 := by unfold sizeH at hsz; omega
      have HSZ := Lib.hid (fun W => dsizeOf_any g false W hg1 hg2)
      have hka : (0 : Int) ≤ (k : Int) := by omega
      have hkb : (k : Int) < (l.length : Int) := by omega
      go_wp2_with fail
      refine (HSZ.out _).mono ?_
      rintro e w' ⟨rfl, hb2⟩
      go_wp2
      exact ⟨⟨k + 1, by go_num, by congr 1; omega, by omega, hb.trans (hb2.mono hb.size)⟩, by simp [intOf]; omega⟩
    · obtain rfl : k = l.length := by omega
      rw [List.take_length]
      go_wp2
      go_ret
      exact ⟨rfl, hb⟩
end Go.Proofs.YtbdpeioafelolaaDoor
