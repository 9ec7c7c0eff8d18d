/-
  CALLS AS THEY LIE IN MEMORY; light, Can.
-/
import Derived.Test.YtbdpeioafelolaaDoorR
import Derived.BigRegion
namespace Go.Proofs.YtbdpeioafelolaaDoor
open Go.RowKit

/-- A call: its kind, its number, its header, the header's Never. -/
structure Cal where
  kind : Int
  num : Int
  h : Hd
  nev : Bool
/-- A slice (at a, of n calls, of capacity c) reads as the calls L. -/
structure Cl (w : World) (a : Option Addr) (n c : Nat) (L : List Cal) : Prop where
  len : L.length = n
  le : n ≤ c
  max : n ≤ 140737488351232
  nil : a = none → c = 0
  row : ∀ i (h : i < L.length), ∃ b o, a = some ⟨b, o, none⟩ ∧ w.cell? ⟨b, o + i * 5, none⟩ = some (.int .i64 (L[i]).kind) ∧ w.cell? ⟨b, o + i * 5 + 1, none⟩ = some (.int .i64 (L[i]).num) ∧
    w.cell? ⟨b, o + i * 5 + 2, none⟩ = some (.string (L[i]).h.1) ∧ w.cell? ⟨b, o + i * 5 + 3, none⟩ = some (.string (L[i]).h.2) ∧ w.cell? ⟨b, o + i * 5 + 4, none⟩ = some (.bool (L[i]).nev)
  sz : ∀ i (h : i < L.length), (L[i]).h.1.size ≤ 140737488351232 ∧ (L[i]).h.2.size ≤ 140737488351232
  num : ∀ i (h : i < L.length), -9223372036854775808 ≤ (L[i]).num ∧ (L[i]).num ≤ 9223372036854775807
theorem Cl.kept {w w' : World} {a : Option Addr} {n c : Nat} {L : List Cal} (h : Cl w a n c L) (hb : Below w.heap.size w w') : Cl w' a n c L :=
  ⟨h.len, h.le, h.max, h.nil, fun i hi => by
    obtain ⟨b, o, e, h0, h1, h2, h3, h4⟩ := h.row i hi
    exact ⟨b, o, e, (hb.cell (cell_lt h0)).trans h0, (hb.cell (cell_lt h1)).trans h1, (hb.cell (cell_lt h2)).trans h2, (hb.cell (cell_lt h3)).trans h3, (hb.cell (cell_lt h4)).trans h4⟩, h.sz, h.num⟩

def LightPost (n : Nat) (w : World) (e : Ending) (w' : World) : Prop := ∃ y : Bool, e = .returned (.bool y) ∧ (y = true → n ≤ 200) ∧ Below w.heap.size w w'
def LiRel (n : Nat) (w : World) (s3 s4 : Value) (wr : World) : Prop := ∃ i x : Nat, s4 = .int .i64 (i : Int) ∧ s3 = .int .i64 (x : Int) ∧ i ≤ n ∧ i ≤ 201 ∧ x ≤ 40000 * i ∧ ∃ q, wr = w.drewN q
set_option maxRecDepth 100000 in
set_option maxHeartbeats 2000000 in
theorem light_any (a : Option Addr) (n c : Nat) (L : List Cal) (w : World) (hs : Cl w a n c L) : Calls Tryd.prog 9 #[.slice a n c] w (LightPost n w) := by
  have hm := hs.max
  have HS := Lib.hid hs
  have HL := Lib.hid hs.len
  clear hs
  go_enter Tryd.func9, Tryd.ntmps9
  go_wp2
  go_loopw [3, 4] (fun s3 s4 wr => LiRel n w s3 s4 wr) (fun _ s4 _ => 201 - (intOf s4).toNat)
  case atStart => exact ⟨0, 0, rfl, rfl, by omega, by omega, by omega, 0, rfl⟩
  case round =>
    obtain ⟨i, x, rfl, rfl, hin, hi2, hx, q, rfl⟩ := hrel
    by_cases hlt : i < n ∧ i ≤ 200
    · obtain ⟨h1, h2⟩ := hlt
      obtain ⟨b, o, rfl, e0, e1, e2, e3, e4⟩ := HS.out.row i (by rw [HL.out]; exact h1)
      have hsz := HS.out.sz i (by rw [HL.out]; exact h1)
      generalize L[i]'(by rw [HL.out]; exact h1) = C at e0 e1 e2 e3 e4 hsz
      obtain ⟨hz1, hz2⟩ := hsz
      have hia : (0 : Int) ≤ (i : Int) := by omega
      have hib : (i : Int) < (n : Int) := by omega
      go_wp2
      go_region
      all_goals go_wp2
      all_goals exact ⟨⟨i + 1, x + min C.h.1.size 20000 + min C.h.2.size 20000, by go_num, by congr 1; omega, by omega, by omega, by omega, q + 1, rfl⟩, by simp [intOf]; omega⟩
    · have hB := bdN (Below.refl w.heap.size w) q
      by_cases h1 : i < n
      · have h2 : ¬ i ≤ 200 := by omega
        have h3 : ¬ n ≤ 200 := by omega
        clear hlt
        go_wp2
        all_goals go_ret
        all_goals exact ⟨_, rfl, fun h => by simp at h <;> omega, hB⟩
      · clear hlt
        go_wp2
        all_goals go_ret
        all_goals exact ⟨_, rfl, fun h => by simp at h <;> omega, hB⟩
end Go.Proofs.YtbdpeioafelolaaDoor
