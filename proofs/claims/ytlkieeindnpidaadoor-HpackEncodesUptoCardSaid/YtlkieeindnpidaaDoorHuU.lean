/-
  CONTRACTS: errors seen as plain data (the statements' helper parleysee), and the document's faults.
-/
import Derived.Test.YtlkieeindnpidaaDoorHuKit
import Derived.Deep.QuietTactic
import Derived.LaidEql
namespace Go.Proofs.YtlkieeindnpidaaDoor.Hu
open Go.RowKit Hf

/-- The thirty errors of package api, in the document's order. -/
def glob : List Nat := [3, 2, 7, 8, 9, 10, 4, 6, 0, 5, 11, 12, 13, 14, 1, 15, 16, 17, 18, 19, 20, 21, 22, 23, 24, 25, 26, 27, 28, 29]
/-- A world that holds them: thirty pointers, no two the same. -/
structure Sent (w : World) (es : Nat → Addr) : Prop where
  cell : ∀ i g, glob[i]? = some g → w.cell? ⟨g, 0, none⟩ = some (.iface 181 (.pointer (some (es i))))
  inj : ∀ i j, i < 30 → j < 30 → es i = es j → i = j
  blk : ∀ i, i < 30 → ∃ (ca : Array Value) (ta : TypeId), w.heap[(es i).block]? = some (.cells ca ta (0, 0))
theorem Sent.kept {w w' : World} {es : Nat → Addr} (h : Sent w es) (hb : Below w.heap.size w w') : Sent w' es :=
  ⟨fun i g hg => (hb.cell (cell_lt (h.cell i g hg))).trans (h.cell i g hg), h.inj, fun i hi => by
    obtain ⟨ca, ta, hb'⟩ := h.blk i hi
    exact ⟨ca, ta, (hb.block _ (Array.getElem?_eq_some_iff.1 hb').1).trans hb'⟩⟩
/-- The errors as a list of values. -/
def sents (es : Nat → Addr) : List Value := (List.range 30).map fun i => .iface 181 (.pointer (some (es i)))

theorem infoP : (Tryd.prog.info? 181).map (fun i => i.comparable) = some true := by kernel_rfl
theorem infoT : (Tryd.prog.info? 195).map (fun i => i.size) = some 1 := by kernel_rfl
theorem eql_same (p : Addr) (w : World) : (binOp .eql 29 (.iface 181 (.pointer (some p))) (.iface 181 (.pointer (some p)))).run Tryd.prog w = .ok (.bool true) w := by
  obtain ⟨i, hi, hc⟩ := Option.map_eq_some_iff.1 infoP
  obtain ⟨j, hj, _⟩ := Option.map_eq_some_iff.1 infoT
  exact run_eql_iface_ptr_same w p Tryd.underlying29 Tryd.underlying181 hi hc hj
theorem eql_other {p q : Addr} {w : World} (h : p ≠ q) (hp : ∃ (ca : Array Value) (ta : TypeId), w.heap[p.block]? = some (.cells ca ta (0, 0))) (hq : ∃ (ca : Array Value) (ta : TypeId), w.heap[q.block]? = some (.cells ca ta (0, 0))) :
    (binOp .eql 29 (.iface 181 (.pointer (some p))) (.iface 181 (.pointer (some q)))).run Tryd.prog w = .ok (.bool false) w := by
  obtain ⟨i, hi, hc⟩ := Option.map_eq_some_iff.1 infoP
  obtain ⟨j, hj, hs⟩ := Option.map_eq_some_iff.1 infoT
  obtain ⟨ca, ta, hp⟩ := hp
  obtain ⟨cb, tb, hq⟩ := hq
  exact run_eql_iface_ptr_other w Tryd.underlying29 Tryd.underlying181 hi hc hj (by omega) h hp hq

set_option maxRecDepth 100000 in
theorem alike_any (p q : Addr) (r : Bool) (w : World) (hcmp : (binOp .eql 29 (.iface 181 (.pointer (some p))) (.iface 181 (.pointer (some q)))).run Tryd.prog w = .ok (.bool r) w) :
    Calls Tryd.prog 116 #[.iface 181 (.pointer (some p)), .iface 181 (.pointer (some q))] w fun e w' => e = .returned (.bool r) ∧ w = w' := by
  go_enter Tryd.func116, Tryd.ntmps116
  go_wp2
  go_ret
  exact ⟨rfl, rfl⟩

set_option maxRecDepth 100000 in
set_option maxHeartbeats 1000000 in
theorem sentinels_any (es : Nat → Addr) (w : World) (S : Sent w es) :
    Calls Tryd.prog 115 #[] w fun e w' => e = .returned (.slice (some ⟨w.heap.size, 0, none⟩) 30 30) ∧ Below w.heap.size w w' ∧ ∀ i, i < 30 → w'.cell? ⟨w.heap.size, i, none⟩ = some (.iface 181 (.pointer (some (es i)))) := by
  have c0 := S.cell 0 3 rfl
  have c1 := S.cell 1 2 rfl
  have c2 := S.cell 2 7 rfl
  have c3 := S.cell 3 8 rfl
  have c4 := S.cell 4 9 rfl
  have c5 := S.cell 5 10 rfl
  have c6 := S.cell 6 4 rfl
  have c7 := S.cell 7 6 rfl
  have c8 := S.cell 8 0 rfl
  have c9 := S.cell 9 5 rfl
  have c10 := S.cell 10 11 rfl
  have c11 := S.cell 11 12 rfl
  have c12 := S.cell 12 13 rfl
  have c13 := S.cell 13 14 rfl
  have c14 := S.cell 14 1 rfl
  have c15 := S.cell 15 15 rfl
  have c16 := S.cell 16 16 rfl
  have c17 := S.cell 17 17 rfl
  have c18 := S.cell 18 18 rfl
  have c19 := S.cell 19 19 rfl
  have c20 := S.cell 20 20 rfl
  have c21 := S.cell 21 21 rfl
  have c22 := S.cell 22 22 rfl
  have c23 := S.cell 23 23 rfl
  have c24 := S.cell 24 24 rfl
  have c25 := S.cell 25 25 rfl
  have c26 := S.cell 26 26 rfl
  have c27 := S.cell 27 27 rfl
  have c28 := S.cell 28 28 rfl
  have c29 := S.cell 29 29 rfl
  go_enter Tryd.func115, Tryd.ntmps115
  go_wp2
  go_ret
  refine ⟨rfl, (Below.refl _ _).alloc (Nat.le_refl _) _, fun i hi => ?_⟩
  have : i = 0 ∨ i = 1 ∨ i = 2 ∨ i = 3 ∨ i = 4 ∨ i = 5 ∨ i = 6 ∨ i = 7 ∨ i = 8 ∨ i = 9 ∨ i = 10 ∨ i = 11 ∨ i = 12 ∨ i = 13 ∨ i = 14 ∨ i = 15 ∨ i = 16 ∨ i = 17 ∨ i = 18 ∨ i = 19 ∨ i = 20 ∨ i = 21 ∨ i = 22 ∨ i = 23 ∨ i = 24 ∨ i = 25 ∨ i = 26 ∨ i = 27 ∨ i = 28 ∨ i = 29 := by omega
  rcases this with rfl | rfl | rfl | rfl | rfl | rfl | rfl | rfl | rfl | rfl | rfl | rfl | rfl | rfl | rfl | rfl | rfl | rfl | rfl | rfl | rfl | rfl | rfl | rfl | rfl | rfl | rfl | rfl | rfl | rfl
  all_goals simp

set_option maxRecDepth 100000 in
set_option maxHeartbeats 1000000 in
theorem sentinel_any (es : Nat → Addr) (w : World) (S : Sent w es) (i : Nat) (hi : i < 30) :
    Calls Tryd.prog 107 #[.iface 181 (.pointer (some (es i)))] w fun e w' => e = .returned (.int .i64 ((101 + i : Nat) : Int)) ∧ Below w.heap.size w w' := by
  go_enter Tryd.func107, Tryd.ntmps107
  go_wp2_with fail
  refine (sentinels_any es w S).mono ?_
  rintro e w1 ⟨rfl, hb1, hc1⟩
  have S1 := Lib.hid (S.kept hb1)
  have HC := Lib.hid hc1
  clear hc1 S
  go_wp2_with fail
  go_loopw [4] (fun s4 wr => ∃ j : Nat, s4 = .int .i64 (j : Int) ∧ j ≤ i ∧ wr = w1) (fun s4 _ => 30 - (intOf s4).toNat)
  case atStart => exact ⟨0, rfl, by omega, rfl⟩
  case round =>
    obtain ⟨j, rfl, hj, rfl⟩ := hrel
    have hcj := HC.out j (by omega)
    by_cases hji : j = i
    · subst hji
      go_wp2_with fail
      refine (alike_any (es j) (es j) true wr (eql_same _ _)).mono ?_
      rintro e w' ⟨rfl, rfl⟩
      go_wp2_with fail
      go_ret
      exact ⟨by simp, hb1⟩
    · have hne : es i ≠ es j := fun h => hji (S1.out.inj i j hi (by omega) h).symm
      go_wp2_with fail
      refine (alike_any (es i) (es j) false wr (eql_other hne (S1.out.blk i hi) (S1.out.blk j (by omega)))).mono ?_
      rintro e w' ⟨rfl, rfl⟩
      go_wp2_with fail
      refine ⟨⟨j + 1, by go_num, by omega, trivial⟩, by simp [intOf]; omega⟩

/-- A fault with nothing around it, as a value. -/
abbrev bareV (c : Int) : Value := .agg #[.int .i64 c, .int .i64 0, .int .i64 0, .slice none 0 0]

set_option maxRecDepth 100000 in
theorem bare_any (c : Int) (w : World) : Calls Tryd.prog 45 #[.int .i64 c] w fun e w' => e = .returned (bareV c) ∧ Below w.heap.size w w' := by
  go_enter Tryd.func45, Tryd.ntmps45
  go_wp2
  refine bodyPost_ret (v := bareV c) (by simp [results, Tryd.results45, go_sem]) rfl ?_
  exact ⟨rfl, by repeat (first | (with_reducible exact Below.refl _ _) | (with_reducible refine Below.drew ?_) | (with_reducible refine Below.setCell ?_ (by dsimp only; omega) _) | (with_reducible refine Below.alloc ?_ (by first | omega | (simp; omega)) _))⟩
set_option maxRecDepth 100000 in
theorem none_any (w : World) : Calls Tryd.prog 89 #[] w fun e w' => e = .returned (bareV 0) ∧ Below w.heap.size w w' := by
  go_enter Tryd.func89, Tryd.ntmps89
  go_wp2
  refine bodyPost_ret (v := bareV 0) (by simp [results, Tryd.results89, go_sem]) rfl ?_
  exact ⟨rfl, by repeat (first | (with_reducible exact Below.refl _ _) | (with_reducible refine Below.drew ?_) | (with_reducible refine Below.setCell ?_ (by dsimp only; omega) _) | (with_reducible refine Below.alloc ?_ (by first | omega | (simp; omega)) _))⟩
theorem asA (p : Addr) (w : World) : (Instr.typeAssert (.iface 181 (.pointer (some p))) 29 164 true).run Tryd.prog w = .ok (.tuple #[.pointer none, .bool false]) w := by kernel_rfl
theorem asH (p : Addr) (w : World) : (Instr.typeAssert (.iface 181 (.pointer (some p))) 29 168 true).run Tryd.prog w = .ok (.tuple #[.pointer none, .bool false]) w := by kernel_rfl

set_option maxRecDepth 100000 in
set_option maxHeartbeats 1000000 in
theorem fault_any (es : Nat → Addr) (w : World) (S : Sent w es) (i : Nat) (hi : i < 30) :
    Calls Tryd.prog 90 #[.iface 181 (.pointer (some (es i))), .int .i64 9] w fun e w' => e = .returned (bareV ((101 + i : Nat) : Int)) ∧ Below w.heap.size w w' := by
  have hb0 : Below w.heap.size w (w.alloc (.cells #[.int .i64 0, .int .i64 0, .int .i64 0, .slice none 0 0] 88)) := (Below.refl _ _).alloc (Nat.le_refl _) _
  have hS := Lib.hid (S.kept hb0)
  clear S
  have a1 := asA (es i)
  have a2 := asH (es i)
  go_enter Tryd.func90, Tryd.ntmps90
  go_wp2_with fail
  refine (sentinel_any es _ hS.out i hi).mono ?_
  rintro e w1 ⟨rfl, hb1⟩
  go_wp2_with fail
  refine (bare_any _ _).mono ?_
  rintro e w2 ⟨rfl, hb2'⟩
  have hb2 := hb1.trans (hb2'.mono hb1.size)
  have hq : Below w.heap.size w w2 := hb0.trans (hb2.mono (by simp))
  have hk2 : ∀ i v, (#[.int .i64 0, .int .i64 0, .int .i64 0, .slice none 0 0] : Array Value)[i]? = some v → w2.cell? ⟨w.heap.size, i, none⟩ = some v := fun i v h => (hb2.cell (p := ⟨w.heap.size, i, none⟩) (by simp)).trans (by rw [← h]; simp)
  have k0 := hk2 0 (.int .i64 0) rfl
  have k1 := hk2 1 (.int .i64 0) rfl
  have k2 := hk2 2 (.int .i64 0) rfl
  have k3 := hk2 3 (.slice none 0 0) rfl
  have kf : ∀ i, w2.frozen? ⟨w.heap.size, i, none⟩ = false := fun i => (hb2.frozen (p := ⟨w.heap.size, i, none⟩) (by simp)).trans (by simp)
  have hlt : w.heap.size < w2.heap.size := by have := hb2.size; simp at this; omega
  clear hk2
  go_wp2_with fail
  refine bodyPost_ret (v := bareV (((101 + i : Nat) : Int))) (by simp [results, Tryd.results90, go_sem, k0, k1, k2, k3, kf, hlt]) rfl ?_
  refine ⟨rfl, ?_⟩
  (repeat (first | (with_reducible refine Below.setCell ?_ (by dsimp only; omega) _) | (with_reducible refine Below.drew ?_) | (with_reducible refine Below.alloc ?_ (by first | omega | (simp; omega)) _) | (with_reducible exact hq)))

set_option maxRecDepth 100000 in
set_option maxHeartbeats 1000000 in
theorem faultOf_any (es : Nat → Addr) (w : World) (S : Sent w es) (i : Nat) (hi : i < 30) :
    Calls Tryd.prog 65 #[.iface 181 (.pointer (some (es i)))] w fun e w' => e = .returned (bareV ((101 + i : Nat) : Int)) ∧ Below w.heap.size w w' := by
  have hb0 : Below w.heap.size w (w.alloc (.cells #[.int .i64 0, .int .i64 0, .int .i64 0, .slice none 0 0] 88)) := (Below.refl _ _).alloc (Nat.le_refl _) _
  have hS := Lib.hid (S.kept hb0)
  clear S
  go_enter Tryd.func65, Tryd.ntmps65
  go_wp2_with fail
  refine (fault_any es _ hS.out i hi).mono ?_
  rintro e w2 ⟨rfl, hb2⟩
  have hq : Below w.heap.size w w2 := hb0.trans (hb2.mono (by simp))
  have hk2 : ∀ i v, (#[.int .i64 0, .int .i64 0, .int .i64 0, .slice none 0 0] : Array Value)[i]? = some v → w2.cell? ⟨w.heap.size, i, none⟩ = some v := fun i v h => (hb2.cell (p := ⟨w.heap.size, i, none⟩) (by simp)).trans (by rw [← h]; simp)
  have k0 := hk2 0 (.int .i64 0) rfl
  have k1 := hk2 1 (.int .i64 0) rfl
  have k2 := hk2 2 (.int .i64 0) rfl
  have k3 := hk2 3 (.slice none 0 0) rfl
  have kf : ∀ i, w2.frozen? ⟨w.heap.size, i, none⟩ = false := fun i => (hb2.frozen (p := ⟨w.heap.size, i, none⟩) (by simp)).trans (by simp)
  have hlt : w.heap.size < w2.heap.size := by have := hb2.size; simp at this; omega
  clear hk2
  go_wp2_with fail
  refine bodyPost_ret (v := bareV (((101 + i : Nat) : Int))) (by simp [results, Tryd.results65, go_sem, k0, k1, k2, k3, kf, hlt]) rfl ?_
  refine ⟨rfl, ?_⟩
  (repeat (first | (with_reducible refine Below.setCell ?_ (by dsimp only; omega) _) | (with_reducible refine Below.drew ?_) | (with_reducible refine Below.alloc ?_ (by first | omega | (simp; omega)) _) | (with_reducible exact hq)))

set_option maxRecDepth 100000 in
set_option maxHeartbeats 1000000 in
theorem faultNil_any (w : World) : Calls Tryd.prog 65 #[.nilIface] w fun e w' => e = .returned (bareV 0) ∧ Below w.heap.size w w' := by
  have hb0 : Below w.heap.size w (w.alloc (.cells #[.int .i64 0, .int .i64 0, .int .i64 0, .slice none 0 0] 88)) := (Below.refl _ _).alloc (Nat.le_refl _) _
  go_enter Tryd.func65, Tryd.ntmps65
  go_wp2_with fail
  refine (none_any _).mono ?_
  rintro e w2 ⟨rfl, hb2⟩
  have hq : Below w.heap.size w w2 := hb0.trans (hb2.mono (by simp))
  have hk2 : ∀ i v, (#[.int .i64 0, .int .i64 0, .int .i64 0, .slice none 0 0] : Array Value)[i]? = some v → w2.cell? ⟨w.heap.size, i, none⟩ = some v := fun i v h => (hb2.cell (p := ⟨w.heap.size, i, none⟩) (by simp)).trans (by rw [← h]; simp)
  have k0 := hk2 0 (.int .i64 0) rfl
  have k1 := hk2 1 (.int .i64 0) rfl
  have k2 := hk2 2 (.int .i64 0) rfl
  have k3 := hk2 3 (.slice none 0 0) rfl
  have kf : ∀ i, w2.frozen? ⟨w.heap.size, i, none⟩ = false := fun i => (hb2.frozen (p := ⟨w.heap.size, i, none⟩) (by simp)).trans (by simp)
  have hlt : w.heap.size < w2.heap.size := by have := hb2.size; simp at this; omega
  clear hk2
  go_wp2_with fail
  refine bodyPost_ret (v := bareV (0)) (by simp [results, Tryd.results65, go_sem, k0, k1, k2, k3, kf, hlt]) rfl ?_
  refine ⟨rfl, ?_⟩
  (repeat (first | (with_reducible refine Below.setCell ?_ (by dsimp only; omega) _) | (with_reducible refine Below.drew ?_) | (with_reducible refine Below.alloc ?_ (by first | omega | (simp; omega)) _) | (with_reducible exact hq)))

set_option maxRecDepth 100000 in
theorem sameIntsNil_any (w : World) : Calls Tryd.prog 91 #[.slice none 0 0, .slice none 0 0] w fun e w' => e = .returned (.bool true) ∧ w = w' := by
  go_enter Tryd.func91, Tryd.ntmps91
  go_wp2
  refine wp_loop_rounds 1 ?_
  rw [rounds_succ]
  go_wp2
  go_ret
  exact ⟨rfl, rfl⟩

set_option maxRecDepth 100000 in
set_option maxHeartbeats 1000000 in
theorem sameFault_any (c d : Int) (w : World) : Calls Tryd.prog 66 #[bareV c, bareV d] w fun e w' => e = .returned (.bool (c == d)) ∧ Below w.heap.size w w' := by
  go_enter Tryd.func66, Tryd.ntmps66
  go_wp2_with fail
  refine (sameIntsNil_any _).mono ?_
  rintro e w2 ⟨rfl, rfl⟩
  go_wp2_with fail
  all_goals go_ret
  all_goals refine ⟨by simp_all, ?_⟩
  all_goals exact ((Below.refl _ w).alloc (Nat.le_refl _) _).alloc (by simp) _

/-- What Fault answers of an error that is nil or one of api's. -/
def Seen (w : World) (v : Value) (c : Int) : Prop := ∀ W, Below w.heap.size w W → Calls Tryd.prog 65 #[v] W fun e w' => e = .returned (bareV c) ∧ Below W.heap.size W w'
theorem seen_nil (w : World) : Seen w .nilIface 0 := fun W _ => faultNil_any W
theorem seen_err {es : Nat → Addr} {w : World} (S : Sent w es) {i : Nat} (hi : i < 30) : Seen w (.iface 181 (.pointer (some (es i)))) ((101 + i : Nat) : Int) := fun W h => faultOf_any es W (S.kept h) i hi

set_option maxRecDepth 100000 in
set_option maxHeartbeats 1000000 in
theorem same_seen (v : Value) (c d : Int) (w : World) (h : Seen w v c) : Calls Tryd.prog 44 #[v, bareV d] w fun e w' => e = .returned (.bool (c == d)) ∧ Below w.heap.size w w' := by
  have hb0 : Below w.heap.size w (w.alloc (.cells #[.int .i64 d, .int .i64 0, .int .i64 0, .slice none 0 0] 88)) := (Below.refl _ _).alloc (Nat.le_refl _) _
  have HS := Lib.hid (h _ hb0)
  clear h
  go_enter Tryd.func44, Tryd.ntmps44
  go_wp2_with fail
  refine HS.out.mono ?_
  rintro e w1 ⟨rfl, hb1⟩
  have hk : ∀ i v, (#[.int .i64 d, .int .i64 0, .int .i64 0, .slice none 0 0] : Array Value)[i]? = some v → w1.cell? ⟨w.heap.size, i, none⟩ = some v := fun i v h => (hb1.cell (p := ⟨w.heap.size, i, none⟩) (by simp)).trans (by rw [← h]; simp)
  have k0 := hk 0 (.int .i64 d) rfl
  have k1 := hk 1 (.int .i64 0) rfl
  have k2 := hk 2 (.int .i64 0) rfl
  have k3 := hk 3 (.slice none 0 0) rfl
  have hlt : w.heap.size < w1.heap.size := by have := hb1.size; simp at this; omega
  have hB1 : Below w.heap.size w w1 := hb0.trans (hb1.mono (by simp))
  clear hk
  go_wp2_with fail
  refine (sameFault_any c d _).mono ?_
  rintro e w2 ⟨rfl, hb2⟩
  have hB2 : Below w.heap.size w w2 := (hB1.alloc (by omega) _).trans (hb2.mono (by simp; omega))
  go_wp2_with fail
  go_ret
  exact ⟨rfl, hB2⟩

set_option maxRecDepth 100000 in
set_option maxHeartbeats 1000000 in
theorem is_seen (v : Value) (c d : Int) (w : World) (h : Seen w v c) : Calls Tryd.prog 18 #[v, .int .i64 d] w fun e w' => e = .returned (.bool (c == d)) ∧ Below w.heap.size w w' := by
  have HS := Lib.hid h
  clear h
  go_enter Tryd.func18, Tryd.ntmps18
  go_wp2_with fail
  refine (bare_any d _).mono ?_
  rintro e w1 ⟨rfl, hb1⟩
  have hs : Seen w1 v c := fun W hW => HS.out W (hb1.trans (hW.mono hb1.size))
  have HT := Lib.hid hs
  clear hs
  go_wp2_with fail
  refine (same_seen v c d w1 HT.out).mono ?_
  rintro e w2 ⟨rfl, hb2⟩
  go_wp2_with fail
  go_ret
  exact ⟨rfl, hb1.trans (hb2.mono hb1.size)⟩
end Go.Proofs.YtlkieeindnpidaaDoor.Hu
