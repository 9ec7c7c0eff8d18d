/-
  CONTRACTS: faults of HTTP/2 seen as plain data; faults held against each other.
-/
import Derived.Test.YtefdkbdblocikaaDoorJ
namespace Go.Proofs.YtefdkbdblocikaaDoor
open Go.RowKit Hu

/-- A fault with nothing around it, as a value. -/
abbrev faultV (c k s : Int) : Value := .agg #[.int .i64 c, .int .i64 k, .int .i64 s, .slice none 0 0]
theorem asA2 (p : Addr) (w : World) : (Instr.typeAssert (.iface 123 (.pointer (some p))) 27 119 true).run Tryd.prog w = .ok (.tuple #[.pointer none, .bool false]) w := by kernel_rfl
theorem asH2 (p : Addr) (w : World) : (Instr.typeAssert (.iface 123 (.pointer (some p))) 27 123 true).run Tryd.prog w = .ok (.tuple #[.pointer (some p), .bool true]) w := by kernel_rfl
set_option maxRecDepth 100000 in
theorem ofH2_any (k s : Int) (w : World) : Calls Tryd.prog 29 #[.int .i64 k, .int .i64 s] w fun e w' => e = .returned (faultV 99 k s) ∧ Below w.heap.size w w' := by
  go_enter Tryd.func29, Tryd.ntmps29
  go_wp2
  refine bodyPost_ret (v := faultV 99 k s) (by simp [results, Tryd.results29, go_sem]) rfl ?_
  exact ⟨rfl, by repeat (first | (with_reducible exact Below.refl _ _) | (with_reducible refine Below.drew ?_) | (with_reducible refine Below.setCell ?_ (by dsimp only; omega) _) | (with_reducible refine Below.alloc ?_ (by first | omega | (simp; omega)) _))⟩
set_option maxRecDepth 100000 in
set_option maxHeartbeats 1000000 in
theorem faultH2_any (g : Nat) (k s : Int) (w : World) (h0 : w.cell? ⟨g, 0, none⟩ = some (.int .i64 k)) (h1 : w.cell? ⟨g, 1, none⟩ = some (.int .i64 s)) :
    Calls Tryd.prog 54 #[.iface 123 (.pointer (some ⟨g, 0, none⟩)), .int .i64 9] w fun e w' => e = .returned (faultV 99 k s) ∧ Below w.heap.size w w' := by
  have hb0 : Below w.heap.size w (w.alloc (.cells #[.int .i64 0, .int .i64 0, .int .i64 0, .slice none 0 0] 53)) := (Below.refl _ _).alloc (Nat.le_refl _) _
  have hlt := Hu.cell_lt h0
  simp only at hlt
  have a1 := asA2 ⟨g, 0, none⟩
  have a2 := asH2 ⟨g, 0, none⟩
  have g0 := (hb0.cell (p := ⟨g, 0, none⟩) hlt).trans h0
  have g1 := (hb0.cell (p := ⟨g, 1, none⟩) hlt).trans h1
  have hc : ∀ i v, (#[.int .i64 0, .int .i64 0, .int .i64 0, .slice none 0 0] : Array Value)[i]? = some v → (w.alloc (.cells #[.int .i64 0, .int .i64 0, .int .i64 0, .slice none 0 0] 53)).cell? ⟨w.heap.size, i, none⟩ = some v := fun i v h => by rw [← h]; simp
  have hf : ∀ i, (w.alloc (.cells #[.int .i64 0, .int .i64 0, .int .i64 0, .slice none 0 0] 53)).frozen? ⟨w.heap.size, i, none⟩ = false := fun i => by simp
  have hz : w.heap.size < (w.alloc (.cells #[.int .i64 0, .int .i64 0, .int .i64 0, .slice none 0 0] 53)).heap.size := by simp
  have HC := Lib.hid hc
  have HFZ := Lib.hid hf
  clear hc hf
  go_enter Tryd.func54, Tryd.ntmps54
  go_upto_region 14 with fail
  generalize w.alloc (.cells #[.int .i64 0, .int .i64 0, .int .i64 0, .slice none 0 0] 53) = w1 at *
  go_region_with (first | ((with_reducible refine (ofH2_any k s _).mono ?_); rintro e w2 ⟨rfl, hb2⟩; (have k0 := (hb2.cell (p := ⟨w.heap.size, 0, none⟩) (by simpa using hz)).trans ((show _ = w1.cell? ⟨w.heap.size, 0, none⟩ by simp).trans (HC.out 0 _ rfl))); (have k1 := (hb2.cell (p := ⟨w.heap.size, 1, none⟩) (by simpa using hz)).trans ((show _ = w1.cell? ⟨w.heap.size, 1, none⟩ by simp).trans (HC.out 1 _ rfl))); (have k2 := (hb2.cell (p := ⟨w.heap.size, 2, none⟩) (by simpa using hz)).trans ((show _ = w1.cell? ⟨w.heap.size, 2, none⟩ by simp).trans (HC.out 2 _ rfl))); (have k3 := (hb2.cell (p := ⟨w.heap.size, 3, none⟩) (by simpa using hz)).trans ((show _ = w1.cell? ⟨w.heap.size, 3, none⟩ by simp).trans (HC.out 3 _ rfl))); (have kf : ∀ i, w2.frozen? ⟨w.heap.size, i, none⟩ = false := fun i => (hb2.frozen (p := ⟨w.heap.size, i, none⟩) (by simpa using hz)).trans ((show _ = w1.frozen? ⟨w.heap.size, i, none⟩ by simp).trans (HFZ.out i))); (have hz2 : w.heap.size < w2.heap.size := by have := hb2.size; simp at this; omega); (have hb02 : Below w.heap.size w w2 := hb0.trans ((Below.drew (Below.refl w.heap.size w1)).trans (hb2.mono (by simp; omega)))); clear hb2) | fail)
  all_goals go_wp2_with fail
  all_goals refine bodyPost_ret (v := faultV 99 k s) (by simp [results, Tryd.results54, go_sem, *]) rfl ?_
  all_goals refine ⟨rfl, ?_⟩
  all_goals (repeat (first | (with_reducible refine Below.setCell ?_ (by dsimp only; omega) _) | (with_reducible refine Below.drew ?_) | (with_reducible refine Below.alloc ?_ (by first | omega | (simp; omega)) _) | (with_reducible assumption)))
set_option maxRecDepth 100000 in
set_option maxHeartbeats 1000000 in
theorem faultOfH2_any (g : Nat) (k s : Int) (w : World) (h0 : w.cell? ⟨g, 0, none⟩ = some (.int .i64 k)) (h1 : w.cell? ⟨g, 1, none⟩ = some (.int .i64 s)) :
    Calls Tryd.prog 28 #[.iface 123 (.pointer (some ⟨g, 0, none⟩))] w fun e w' => e = .returned (faultV 99 k s) ∧ Below w.heap.size w w' := by
  have hb0 : Below w.heap.size w (w.alloc (.cells #[.int .i64 0, .int .i64 0, .int .i64 0, .slice none 0 0] 53)) := (Below.refl _ _).alloc (Nat.le_refl _) _
  have hlt := Hu.cell_lt h0
  simp only at hlt
  have HF := Lib.hid (faultH2_any g k s (w.alloc (.cells #[.int .i64 0, .int .i64 0, .int .i64 0, .slice none 0 0] 53)) ((hb0.cell (p := ⟨g, 0, none⟩) hlt).trans h0) ((hb0.cell (p := ⟨g, 1, none⟩) hlt).trans h1))
  clear h0 h1 hlt
  go_enter Tryd.func28, Tryd.ntmps28
  go_wp2_with fail
  refine HF.out.mono ?_
  rintro e w2 ⟨rfl, hb2⟩
  have hq : Below w.heap.size w w2 := hb0.trans (hb2.mono (by simp))
  have hk2 : ∀ i v, (#[.int .i64 0, .int .i64 0, .int .i64 0, .slice none 0 0] : Array Value)[i]? = some v → w2.cell? ⟨w.heap.size, i, none⟩ = some v := fun i v h => (hb2.cell (p := ⟨w.heap.size, i, none⟩) (by simp)).trans (by rw [← h]; simp)
  have k0 := hk2 0 (.int .i64 0) rfl
  have k1 := hk2 1 (.int .i64 0) rfl
  have k2 := hk2 2 (.int .i64 0) rfl
  have k3 := hk2 3 (.slice none 0 0) rfl
  have kf : ∀ i, w2.frozen? ⟨w.heap.size, i, none⟩ = false := fun i => (hb2.frozen (p := ⟨w.heap.size, i, none⟩) (by simp)).trans (by simp)
  have hlt : w.heap.size < w2.heap.size := by have := hb2.size; simp at this; omega
  clear hk2
  go_wp2_with fail
  refine bodyPost_ret (v := faultV 99 k s) (by simp [results, Tryd.results28, go_sem, k0, k1, k2, k3, kf, hlt]) rfl ?_
  refine ⟨rfl, ?_⟩
  (repeat (first | (with_reducible refine Below.setCell ?_ (by dsimp only; omega) _) | (with_reducible refine Below.drew ?_) | (with_reducible refine Below.alloc ?_ (by first | omega | (simp; omega)) _) | (with_reducible exact hq)))
/-- What Fault answers of an error. -/
def SeenF (w : World) (v : Value) (c k s : Int) : Prop := ∀ W, Below w.heap.size w W → Calls Tryd.prog 28 #[v] W fun e w' => e = .returned (faultV c k s) ∧ Below W.heap.size W w'
theorem seenF_of {w : World} {v : Value} {c : Int} (h : Hu.Seen w v c) : SeenF w v c 0 0 := h
theorem seenF_h2 {w : World} {B : Nat} {v : Value} {k s : Int} (h : HErr w B v k s) : SeenF w v 99 k s := by
  obtain ⟨g, _, rfl, h0, h1⟩ := h
  exact fun W hW => faultOfH2_any g k s W ((hW.cell (p := ⟨g, 0, none⟩) (Hu.cell_lt h0)).trans h0) ((hW.cell (p := ⟨g, 1, none⟩) (Hu.cell_lt h1)).trans h1)
theorem SeenF.later {w W : World} {v : Value} {c k s : Int} (h : SeenF w v c k s) (hB : Below w.heap.size w W) : SeenF W v c k s := fun W' hW => h W' (hB.trans (hW.mono hB.size))
set_option maxRecDepth 100000 in
set_option maxHeartbeats 1000000 in
theorem sameF_any (c k s c' k' s' : Int) (w : World) : Calls Tryd.prog 46 #[faultV c k s, faultV c' k' s'] w fun e w' => e = .returned (.bool (c == c' && k == k' && s == s')) ∧ Below w.heap.size w w' := by
  go_enter Tryd.func46, Tryd.ntmps46
  go_wp2_with fail
  refine (Hu.sameIntsNil_any _).mono ?_
  rintro e w2 ⟨rfl, rfl⟩
  go_wp2_with fail
  all_goals go_ret
  all_goals refine ⟨by simp_all, ?_⟩
  all_goals exact ((Below.refl _ w).alloc (Nat.le_refl _) _).alloc (by simp) _
set_option maxRecDepth 100000 in
set_option maxHeartbeats 1000000 in
theorem sameErr_any (v : Value) (c k s c' k' s' : Int) (w : World) (h : SeenF w v c k s) : Calls Tryd.prog 23 #[v, faultV c' k' s'] w fun e w' => e = .returned (.bool (c == c' && k == k' && s == s')) ∧ Below w.heap.size w w' := by
  have hb0 : Below w.heap.size w (w.alloc (.cells #[.int .i64 c', .int .i64 k', .int .i64 s', .slice none 0 0] 53)) := (Below.refl _ _).alloc (Nat.le_refl _) _
  have HS := Lib.hid (h _ hb0)
  clear h
  go_enter Tryd.func23, Tryd.ntmps23
  go_wp2_with fail
  refine HS.out.mono ?_
  rintro e w1 ⟨rfl, hb1⟩
  have hk : ∀ i v, (#[.int .i64 c', .int .i64 k', .int .i64 s', .slice none 0 0] : Array Value)[i]? = some v → w1.cell? ⟨w.heap.size, i, none⟩ = some v := fun i v h => (hb1.cell (p := ⟨w.heap.size, i, none⟩) (by simp)).trans (by rw [← h]; simp)
  have k0 := hk 0 (.int .i64 c') rfl
  have k1 := hk 1 (.int .i64 k') rfl
  have k2 := hk 2 (.int .i64 s') rfl
  have k3 := hk 3 (.slice none 0 0) rfl
  have hlt : w.heap.size < w1.heap.size := by have := hb1.size; simp at this; omega
  have hB1 : Below w.heap.size w w1 := hb0.trans (hb1.mono (by simp))
  clear hk
  go_wp2_with fail
  refine (sameF_any c k s c' k' s' _).mono ?_
  rintro e w2 ⟨rfl, hb2⟩
  have hB2 : Below w.heap.size w w2 := (hB1.alloc (by omega) _).trans (hb2.mono (by simp; omega))
  go_wp2_with fail
  go_ret
  exact ⟨rfl, hB2⟩
end Go.Proofs.YtefdkbdblocikaaDoor
