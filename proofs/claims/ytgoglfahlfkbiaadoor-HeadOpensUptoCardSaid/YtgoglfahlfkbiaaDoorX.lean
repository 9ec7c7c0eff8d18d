/-
  CONTRACTS: the row's light; lists of headers as they stand in a text.
-/
import Derived.Test.YtgoglfahlfkbiaaDoorT
import Derived.Test.YtgoglfahlfkbiaaDoorW
import Derived.BigRegion
namespace Go.Proofs.YtgoglfahlfkbiaaDoor
open Go.RowKit Tt

theorem ns_lit (w : World) (cells : Array Value) (L : List Hn) (h : ncells L = cells.toList) (hn : L.length ≤ 1000) : Ns (w.alloc (.cells cells 54)) (some ⟨w.heap.size, 0, none⟩) L.length L.length L := by
  refine ⟨rfl, Nat.le_refl _, by unfold maxLen; omega, (fun h => by cases h), fun i hi => ⟨_, _, rfl, ?_⟩⟩
  obtain ⟨g0, g1, g2⟩ := ncells_get L i hi
  rw [h] at g0 g1 g2
  have e : ∀ j : Nat, (w.alloc (.cells cells 54)).cell? ⟨w.heap.size, j, none⟩ = cells[j]? := fun j => World.cell?_alloc_at _ _ _ _ rfl
  simp only [Nat.zero_add]
  rw [Array.getElem?_toList] at g0 g1 g2
  rw [e, e, e]
  exact ⟨g0, g1, g2⟩
theorem ns_take {w : World} {a : Option Addr} {n c : Nat} {L : List Hn} (h : Ns w a n c L) (k : Nat) (hk : k ≤ n) : Ns w a k c (L.take k) := by
  have hl := h.len
  refine ⟨by simp; omega, by have := h.le; omega, h.max, h.nil, fun i hi => ?_⟩
  simp at hi
  obtain ⟨b, o, e, h0, h1, h2⟩ := h.row i (by omega)
  refine ⟨b, o, e, ?_⟩
  simp only [List.getElem_take]
  exact ⟨h0, h1, h2⟩
def LightPost (n : Nat) (w : World) (e : Ending) (w' : World) : Prop := ∃ r : Bool, e = .returned (.bool r) ∧ (r = true → n ≤ 60) ∧ Below w.heap.size w w'
def LiRel (n : Nat) (w : World) (s3 s4 : Value) (wr : World) : Prop := ∃ i x : Nat, s4 = .int .i64 (i : Int) ∧ s3 = .int .i64 (x : Int) ∧ i ≤ n ∧ i ≤ 61 ∧ x ≤ 60000 * i ∧ ∃ q, wr = w.drewN q
set_option maxRecDepth 100000 in
set_option maxHeartbeats 2000000 in
theorem light_any (a : Option Addr) (n c : Nat) (L : List Hn) (w : World) (hs : Ns w a n c L) (hz : Sm L) : Calls Tryd.prog 9 #[.slice a n c] w (LightPost n w) := by
  have hm := hs.max
  have hle := hs.le
  unfold maxLen at hm
  have HS := Lib.hid hs
  have HL := Lib.hid hs.len
  have HZ := Lib.hid hz
  clear hs hz
  go_enter Tryd.func9, Tryd.ntmps9
  go_wp2
  go_loopw [3, 4] (fun s3 s4 wr => LiRel n w s3 s4 wr) (fun _ s4 _ => 61 - (intOf s4).toNat)
  case atStart => exact ⟨0, 0, rfl, rfl, by omega, by omega, by omega, 0, rfl⟩
  case round =>
    obtain ⟨i, x, rfl, rfl, hin, hi2, hx, q, rfl⟩ := hrel
    by_cases hlt : i < n ∧ i ≤ 60
    · obtain ⟨h1, h2⟩ := hlt
      obtain ⟨b, o, rfl, e0, e1, e2⟩ := HS.out.row i (by rw [HL.out]; exact h1)
      obtain ⟨hz1, hz2⟩ := HZ.out i (by rw [HL.out]; exact h1)
      generalize L[i]'(by rw [HL.out]; exact h1) = C at e0 e1 e2 hz1 hz2
      have hia : (0 : Int) ≤ (i : Int) := by omega
      have hib : (i : Int) < (n : Int) := by omega
      go_wp2
      go_region
      all_goals go_wp2
      all_goals exact ⟨⟨i + 1, x + min C.1.1.size 30000 + min C.1.2.size 30000, by go_num, by congr 1; omega, by omega, by omega, by omega, q + 1, rfl⟩, by simp [intOf]; omega⟩
    · have hB := Tt.bdN (Below.refl w.heap.size w) q
      by_cases h1 : i < n
      · have h2 : ¬ i ≤ 60 := by omega
        have h3 : ¬ n ≤ 60 := by omega
        clear hlt
        go_wp2
        all_goals go_ret
        all_goals exact ⟨_, rfl, fun h => by simp at h <;> omega, hB⟩
      · clear hlt
        go_wp2
        all_goals go_ret
        all_goals exact ⟨_, rfl, fun h => by simp at h <;> omega, hB⟩
end Go.Proofs.YtgoglfahlfkbiaaDoor
