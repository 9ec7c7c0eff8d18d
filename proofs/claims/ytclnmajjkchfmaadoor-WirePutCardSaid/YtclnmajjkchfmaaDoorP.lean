/-
  CONTRACTS: Put (P1.6).
-/
import Derived.Test.YtclnmajjkchfmaaDoorJ
import Derived.Test.YtclnmajjkchfmaaDoorMq
namespace Go.Proofs.YtclnmajjkchfmaaDoor
open Go.RowKit Wr

/-- New bytes, and no error. -/
def PutPost (l : List UInt8) (w : World) (e : Ending) (w' : World) : Prop := ∃ a' N c', e = .returned (.tuple #[.slice a' N c', .nilIface]) ∧ Hid (N = l.length) ∧ Own w' w.heap.size (.slice a' N c') l ∧ Below w.heap.size w w'

theorem tag_put (f k : Nat) (h1 : 1 ≤ f) (h2 : f ≤ 536870911) (h3 : k ≤ 5) (w : World) :
    Calls Tryd.prog 23 #[.int .i64 (f : Int), .int .i64 (k : Int)] w fun e w' => e = .returned (.tuple #[.int .u64 ((f * 8 + k : Nat) : Int), .nilIface]) ∧ w = w' := by
  have := tag_ok f k ⟨by omega, by omega, by omega, by omega⟩ w
  rw [show ((f * 8 + k : Nat) : Int) = (f : Int) * 8 + k by omega]
  exact this

theorem Calls_u64 {x y : Int} {F : Nat} {v : Value} {W : World} {Q : Ending → World → Prop} (h : x = y) (hc : Calls Tryd.prog F #[v, .int .u64 x] W Q) : Calls Tryd.prog F #[v, .int .u64 y] W Q := by
  subst h; exact hc

set_option maxRecDepth 100000 in
set_option maxHeartbeats 1000000 in
theorem put0_any (ea : Nat → Addr) (ab : Option Addr) (nb cb : Nat) (lb : List UInt8) (a : Option Addr) (n c : Nat) (l : List UInt8) (f u : Nat) (h1 : 1 ≤ f) (h2 : f ≤ 536870911) (hu : u ≤ 18446744073709551615)
    (w : World) (E : Env w ea) (hs : Sl w ab nb cb lb) (hl : Sl w a n c l) (hnb : nb ≤ 35184372088832) (hn : n ≤ 35184372088832) :
    Calls Tryd.prog 41 #[.slice ab nb cb, .agg #[.int .i64 (f : Int), .int .i64 0, .int .u64 (u : Int), .slice a n c]] w (PutPost (lb ++ put f 0 u l) w) := by
  have ht10 := varint_len10 (u := f * 8 + 0) (by omega)
  have hln := Lib.hid hs.len
  have hll := Lib.hid hl.len
  have hT : ∀ W, Calls Tryd.prog 23 #[.int .i64 (f : Int), .int .i64 0] W fun e w' => e = .returned (.tuple #[.int .u64 ((f * 8 + 0 : Nat) : Int), .nilIface]) ∧ W = w' := fun W => tag_put f 0 h1 h2 (by omega) W
  have hs0 := Lib.hid (hs.alloc (.cells #[.int .i64 (f : Int), .int .i64 0, .int .u64 (u : Int), .slice a n c] 53))
  have hl0 := Lib.hid (hl.alloc (.cells #[.int .i64 (f : Int), .int .i64 0, .int .u64 (u : Int), .slice a n c] 53))
  have E0 := Lib.hid (E.alloc (.cells #[.int .i64 (f : Int), .int .i64 0, .int .u64 (u : Int), .slice a n c] 53))
  have hb0 : Below w.heap.size w (w.alloc (.cells #[.int .i64 (f : Int), .int .i64 0, .int .u64 (u : Int), .slice a n c] 53)) := (Below.refl _ _).alloc (Nat.le_refl _) _
  go_enter Tryd.func41, Tryd.ntmps41
  go_wp2_with fail
  refine (hT _).mono ?_
  rintro e w' ⟨rfl, rfl⟩
  go_wp2_with fail
  refine (grown_any ab nb cb lb _ hs0.out _ (by omega) (by omega)).mono ?_
  rintro e w1 ⟨a1, N1, c1, rfl, hN1, hown1', hb1'⟩
  have hb1 : Below (w.heap.size + 1) (w.alloc (.cells #[.int .i64 (f : Int), .int .i64 0, .int .u64 (u : Int), .slice a n c] 53)) w1 := hb1'.mono (by simp)
  have hown1 : Own w1 (w.heap.size + 1) (.slice a1 N1 c1) lb := hown1'.mono (by simp)
  have hz1 := hb1.size
  simp only [World.size_alloc] at hz1
  have hrw1 : ∀ i v, (#[.int .i64 (f : Int), .int .i64 0, .int .u64 (u : Int), .slice a n c] : Array Value)[i]? = some v → w1.cell? ⟨w.heap.size, i, none⟩ = some v := fun i v h => (hb1.cell (p := ⟨w.heap.size, i, none⟩) (by simp)).trans (by rw [← h]; simp)
  have k1w1 := hrw1 1 (.int .i64 0) rfl
  have k2w1 := hrw1 2 (.int .u64 (u : Int)) rfl
  have k3w1 := hrw1 3 (.slice a n c) rfl
  go_wp2_with fail
  refine (addVarint_any (w.heap.size + 1) a1 N1 c1 lb _ hown1 hN1.out (f * 8 + 0) (by omega) (by omega) (by have := hln.out; omega)).mono ?_
  rintro e w2 ⟨a2, N2, c2, rfl, hN2, hown2, hb2⟩
  have hz2 := hb2.size
  have hL2 : N2 ≤ nb + 10 := by have := hN2.out; have := hln.out; rw [List.length_append] at *; omega
  have hrw2 : ∀ i v, (#[.int .i64 (f : Int), .int .i64 0, .int .u64 (u : Int), .slice a n c] : Array Value)[i]? = some v → w2.cell? ⟨w.heap.size, i, none⟩ = some v := fun i v h => (hb2.cell (p := ⟨w.heap.size, i, none⟩) (by simp)).trans (hrw1 i v h)
  have k1w2 := hrw2 1 (.int .i64 0) rfl
  have k2w2 := hrw2 2 (.int .u64 (u : Int)) rfl
  have k3w2 := hrw2 3 (.slice a n c) rfl
  go_wp2_with fail
  refine (addVarint_any (w.heap.size + 1) a2 N2 c2 _ _ hown2 hN2.out u hu (by omega) (by have := hN2.out; omega)).mono ?_
  rintro e w9 ⟨a9, N9, c9, rfl, hN9, hown9, hb9⟩
  go_wp2_with fail
  have hq : Below w.heap.size w w9 := hb0.trans ((((hb1.trans hb2)).trans hb9).mono (by omega))
  have e9 : lb ++ varint (f * 8 + 0) ++ putB f 0 u l = lb ++ put f 0 u l := List.append_assoc _ _ _
  go_ret2
  exact ⟨_, _, _, rfl, by rw [← e9]; exact hN9, by rw [← e9]; exact hown9.mono (by omega), hq⟩

set_option maxRecDepth 100000 in
set_option maxHeartbeats 1000000 in
theorem put1_any (ea : Nat → Addr) (ab : Option Addr) (nb cb : Nat) (lb : List UInt8) (a : Option Addr) (n c : Nat) (l : List UInt8) (f u : Nat) (h1 : 1 ≤ f) (h2 : f ≤ 536870911) (hu : u ≤ 18446744073709551615)
    (w : World) (E : Env w ea) (hs : Sl w ab nb cb lb) (hl : Sl w a n c l) (hnb : nb ≤ 35184372088832) (hn : n ≤ 35184372088832) :
    Calls Tryd.prog 41 #[.slice ab nb cb, .agg #[.int .i64 (f : Int), .int .i64 1, .int .u64 (u : Int), .slice a n c]] w (PutPost (lb ++ put f 1 u l) w) := by
  have ht10 := varint_len10 (u := f * 8 + 1) (by omega)
  have hln := Lib.hid hs.len
  have hll := Lib.hid hl.len
  have hT : ∀ W, Calls Tryd.prog 23 #[.int .i64 (f : Int), .int .i64 1] W fun e w' => e = .returned (.tuple #[.int .u64 ((f * 8 + 1 : Nat) : Int), .nilIface]) ∧ W = w' := fun W => tag_put f 1 h1 h2 (by omega) W
  have hs0 := Lib.hid (hs.alloc (.cells #[.int .i64 (f : Int), .int .i64 1, .int .u64 (u : Int), .slice a n c] 53))
  have hl0 := Lib.hid (hl.alloc (.cells #[.int .i64 (f : Int), .int .i64 1, .int .u64 (u : Int), .slice a n c] 53))
  have E0 := Lib.hid (E.alloc (.cells #[.int .i64 (f : Int), .int .i64 1, .int .u64 (u : Int), .slice a n c] 53))
  have hb0 : Below w.heap.size w (w.alloc (.cells #[.int .i64 (f : Int), .int .i64 1, .int .u64 (u : Int), .slice a n c] 53)) := (Below.refl _ _).alloc (Nat.le_refl _) _
  go_enter Tryd.func41, Tryd.ntmps41
  go_wp2_with fail
  refine (hT _).mono ?_
  rintro e w' ⟨rfl, rfl⟩
  go_wp2_with fail
  refine (grown_any ab nb cb lb _ hs0.out _ (by omega) (by omega)).mono ?_
  rintro e w1 ⟨a1, N1, c1, rfl, hN1, hown1', hb1'⟩
  have hb1 : Below (w.heap.size + 1) (w.alloc (.cells #[.int .i64 (f : Int), .int .i64 1, .int .u64 (u : Int), .slice a n c] 53)) w1 := hb1'.mono (by simp)
  have hown1 : Own w1 (w.heap.size + 1) (.slice a1 N1 c1) lb := hown1'.mono (by simp)
  have hz1 := hb1.size
  simp only [World.size_alloc] at hz1
  have hrw1 : ∀ i v, (#[.int .i64 (f : Int), .int .i64 1, .int .u64 (u : Int), .slice a n c] : Array Value)[i]? = some v → w1.cell? ⟨w.heap.size, i, none⟩ = some v := fun i v h => (hb1.cell (p := ⟨w.heap.size, i, none⟩) (by simp)).trans (by rw [← h]; simp)
  have k1w1 := hrw1 1 (.int .i64 1) rfl
  have k2w1 := hrw1 2 (.int .u64 (u : Int)) rfl
  have k3w1 := hrw1 3 (.slice a n c) rfl
  go_wp2_with fail
  refine (addVarint_any (w.heap.size + 1) a1 N1 c1 lb _ hown1 hN1.out (f * 8 + 1) (by omega) (by omega) (by have := hln.out; omega)).mono ?_
  rintro e w2 ⟨a2, N2, c2, rfl, hN2, hown2, hb2⟩
  have hz2 := hb2.size
  have hL2 : N2 ≤ nb + 10 := by have := hN2.out; have := hln.out; rw [List.length_append] at *; omega
  have hrw2 : ∀ i v, (#[.int .i64 (f : Int), .int .i64 1, .int .u64 (u : Int), .slice a n c] : Array Value)[i]? = some v → w2.cell? ⟨w.heap.size, i, none⟩ = some v := fun i v h => (hb2.cell (p := ⟨w.heap.size, i, none⟩) (by simp)).trans (hrw1 i v h)
  have k1w2 := hrw2 1 (.int .i64 1) rfl
  have k2w2 := hrw2 2 (.int .u64 (u : Int)) rfl
  have k3w2 := hrw2 3 (.slice a n c) rfl
  have hX : Calls Tryd.prog 47 #[.slice a2 N2 c2, .int .u64 u, .int .i64 8] w2 (Added (w.heap.size + 1) (lb ++ varint (f * 8 + 1) ++ fixedB 8 u) w2) := by
    have := hN2.out
    subst this
    exact addFixed_any (w.heap.size + 1) a2 _ c2 _ w2 hown2 u hu 8 (by omega) (by omega) (by omega)
  go_wp2_with fail
  refine hX.mono ?_
  rintro e w9 ⟨a9, N9, c9, rfl, hN9, hown9, hb9⟩
  go_wp2_with fail
  have hq : Below w.heap.size w w9 := hb0.trans ((((hb1.trans hb2)).trans hb9).mono (by omega))
  have e9 : lb ++ varint (f * 8 + 1) ++ putB f 1 u l = lb ++ put f 1 u l := List.append_assoc _ _ _
  go_ret2
  exact ⟨_, _, _, rfl, by rw [← e9]; exact hN9, by rw [← e9]; exact hown9.mono (by omega), hq⟩

set_option maxRecDepth 100000 in
set_option maxHeartbeats 1000000 in
theorem put3_any (ea : Nat → Addr) (ab : Option Addr) (nb cb : Nat) (lb : List UInt8) (a : Option Addr) (n c : Nat) (l : List UInt8) (f u : Nat) (h1 : 1 ≤ f) (h2 : f ≤ 536870911) (hu : u ≤ 18446744073709551615) (hc : chk 31 l (l.length + 1) 0 = none)
    (w : World) (E : Env w ea) (hs : Sl w ab nb cb lb) (hl : Sl w a n c l) (hnb : nb ≤ 35184372088832) (hn : n ≤ 35184372088832) :
    Calls Tryd.prog 41 #[.slice ab nb cb, .agg #[.int .i64 (f : Int), .int .i64 3, .int .u64 (u : Int), .slice a n c]] w (PutPost (lb ++ put f 3 u l) w) := by
  have ht10 := varint_len10 (u := f * 8 + 3) (by omega)
  have hln := Lib.hid hs.len
  have hll := Lib.hid hl.len
  have hT : ∀ W, Calls Tryd.prog 23 #[.int .i64 (f : Int), .int .i64 3] W fun e w' => e = .returned (.tuple #[.int .u64 ((f * 8 + 3 : Nat) : Int), .nilIface]) ∧ W = w' := fun W => tag_put f 3 h1 h2 (by omega) W
  have hs0 := Lib.hid (hs.alloc (.cells #[.int .i64 (f : Int), .int .i64 3, .int .u64 (u : Int), .slice a n c] 53))
  have hl0 := Lib.hid (hl.alloc (.cells #[.int .i64 (f : Int), .int .i64 3, .int .u64 (u : Int), .slice a n c] 53))
  have E0 := Lib.hid (E.alloc (.cells #[.int .i64 (f : Int), .int .i64 3, .int .u64 (u : Int), .slice a n c] 53))
  have hb0 : Below w.heap.size w (w.alloc (.cells #[.int .i64 (f : Int), .int .i64 3, .int .u64 (u : Int), .slice a n c] 53)) := (Below.refl _ _).alloc (Nat.le_refl _) _
  go_enter Tryd.func41, Tryd.ntmps41
  go_wp2_with fail
  refine (hT _).mono ?_
  rintro e w' ⟨rfl, rfl⟩
  have hfit := fits_any ea a n c l _ hl0.out E0.out
  rw [hc] at hfit
  have HF := Lib.hid hfit
  clear hfit hc
  go_wp2_with fail
  refine HF.out.mono ?_
  rintro e w4 ⟨rfl, hb4⟩
  have hb4' : Below (w.heap.size + 1) (w.alloc (.cells #[.int .i64 (f : Int), .int .i64 3, .int .u64 (u : Int), .slice a n c] 53)) w4 := hb4.mono (by simp)
  have hz4 := hb4.size
  simp only [World.size_alloc] at hz4
  have hrw4 : ∀ i v, (#[.int .i64 (f : Int), .int .i64 3, .int .u64 (u : Int), .slice a n c] : Array Value)[i]? = some v → w4.cell? ⟨w.heap.size, i, none⟩ = some v := fun i v h => (hb4'.cell (p := ⟨w.heap.size, i, none⟩) (by simp)).trans (by rw [← h]; simp)
  have k1w4 := hrw4 1 (.int .i64 3) rfl
  have k2w4 := hrw4 2 (.int .u64 (u : Int)) rfl
  have k3w4 := hrw4 3 (.slice a n c) rfl
  go_wp2_with fail
  refine (grown_any ab nb cb lb _ (hs0.out.kept hb4) _ (by omega) (by omega)).mono ?_
  rintro e w1 ⟨a1, N1, c1, rfl, hN1, hown1', hb1'⟩
  have hb1 : Below (w.heap.size + 1) w4 w1 := hb1'.mono (by omega)
  have hown1 : Own w1 (w.heap.size + 1) (.slice a1 N1 c1) lb := hown1'.mono (by omega)
  have hz1 := hb1.size
  have hrw1 : ∀ i v, (#[.int .i64 (f : Int), .int .i64 3, .int .u64 (u : Int), .slice a n c] : Array Value)[i]? = some v → w1.cell? ⟨w.heap.size, i, none⟩ = some v := fun i v h => (hb1.cell (p := ⟨w.heap.size, i, none⟩) (by simp)).trans (hrw4 i v h)
  have k1w1 := hrw1 1 (.int .i64 3) rfl
  have k2w1 := hrw1 2 (.int .u64 (u : Int)) rfl
  have k3w1 := hrw1 3 (.slice a n c) rfl
  go_wp2_with fail
  refine (addVarint_any (w.heap.size + 1) a1 N1 c1 lb _ hown1 hN1.out (f * 8 + 3) (by omega) (by omega) (by have := hln.out; omega)).mono ?_
  rintro e w2 ⟨a2, N2, c2, rfl, hN2, hown2, hb2⟩
  have hz2 := hb2.size
  have hL2 : N2 ≤ nb + 10 := by have := hN2.out; have := hln.out; rw [List.length_append] at *; omega
  have hrw2 : ∀ i v, (#[.int .i64 (f : Int), .int .i64 3, .int .u64 (u : Int), .slice a n c] : Array Value)[i]? = some v → w2.cell? ⟨w.heap.size, i, none⟩ = some v := fun i v h => (hb2.cell (p := ⟨w.heap.size, i, none⟩) (by simp)).trans (hrw1 i v h)
  have k1w2 := hrw2 1 (.int .i64 3) rfl
  have k2w2 := hrw2 2 (.int .u64 (u : Int)) rfl
  have k3w2 := hrw2 3 (.slice a n c) rfl
  have hl2 : Sl w2 a n c l := hl.kept (hb0.trans ((((hb4'.trans hb1).trans hb2)).mono (by omega)))
  have hz2' : w.heap.size + 1 ≤ w2.heap.size := by omega
  have hL2' : (lb ++ varint (f * 8 + 3)).length ≤ nb + 10 := by have := hN2.out; omega
  have he10 := varint_len10 (u := f * 8 + 4) (by omega)
  go_wp2_with (at_builtin; (refine wp_append_bytes rfl _ _ rfl _ (lb ++ varint (f * 8 + 3)) l rfl (w.heap.size + 1) hown2 a n c rfl hl2 (by omega) hz2' ?_); intro w3 a3 N3 c3 hN3 hown3 hb3; have hz3 := hb3.size)
  have hL3 : (lb ++ varint (f * 8 + 3) ++ l).length ≤ nb + 10 + n := by have := hll.out; rw [List.length_append]; omega
  refine Calls.mono (Calls_u64 (x := ((f * 8 + 4 : Nat) : Int)) (by omega) (addVarint_any (w.heap.size + 1) a3 N3 c3 _ _ hown3 hN3.out (f * 8 + 4) (by omega) (by omega) (by omega))) ?_
  rintro e w9 ⟨a9, N9, c9, rfl, hN9, hown9, hb9'⟩
  go_wp2_with fail
  have hq : Below w.heap.size w w9 := hb0.trans (((((hb4'.trans hb1).trans hb2)).trans (hb3.trans hb9')).mono (by omega))
  have e9 : lb ++ varint (f * 8 + 3) ++ l ++ varint (f * 8 + 4) = lb ++ put f 3 u l := by rw [List.append_assoc, List.append_assoc]; rfl
  go_ret2
  exact ⟨_, _, _, rfl, by rw [← e9]; exact hN9, by rw [← e9]; exact hown9.mono (by omega), hq⟩

set_option maxRecDepth 100000 in
set_option maxHeartbeats 1000000 in
theorem put5_any (ea : Nat → Addr) (ab : Option Addr) (nb cb : Nat) (lb : List UInt8) (a : Option Addr) (n c : Nat) (l : List UInt8) (f u : Nat) (h1 : 1 ≤ f) (h2 : f ≤ 536870911) (hu : u ≤ 18446744073709551615)
    (w : World) (E : Env w ea) (hs : Sl w ab nb cb lb) (hl : Sl w a n c l) (hnb : nb ≤ 35184372088832) (hn : n ≤ 35184372088832) :
    Calls Tryd.prog 41 #[.slice ab nb cb, .agg #[.int .i64 (f : Int), .int .i64 5, .int .u64 (u : Int), .slice a n c]] w (PutPost (lb ++ put f 5 u l) w) := by
  have ht10 := varint_len10 (u := f * 8 + 5) (by omega)
  have hln := Lib.hid hs.len
  have hll := Lib.hid hl.len
  have hT : ∀ W, Calls Tryd.prog 23 #[.int .i64 (f : Int), .int .i64 5] W fun e w' => e = .returned (.tuple #[.int .u64 ((f * 8 + 5 : Nat) : Int), .nilIface]) ∧ W = w' := fun W => tag_put f 5 h1 h2 (by omega) W
  have hs0 := Lib.hid (hs.alloc (.cells #[.int .i64 (f : Int), .int .i64 5, .int .u64 (u : Int), .slice a n c] 53))
  have hl0 := Lib.hid (hl.alloc (.cells #[.int .i64 (f : Int), .int .i64 5, .int .u64 (u : Int), .slice a n c] 53))
  have E0 := Lib.hid (E.alloc (.cells #[.int .i64 (f : Int), .int .i64 5, .int .u64 (u : Int), .slice a n c] 53))
  have hb0 : Below w.heap.size w (w.alloc (.cells #[.int .i64 (f : Int), .int .i64 5, .int .u64 (u : Int), .slice a n c] 53)) := (Below.refl _ _).alloc (Nat.le_refl _) _
  go_enter Tryd.func41, Tryd.ntmps41
  go_wp2_with fail
  refine (hT _).mono ?_
  rintro e w' ⟨rfl, rfl⟩
  go_wp2_with fail
  refine (grown_any ab nb cb lb _ hs0.out _ (by omega) (by omega)).mono ?_
  rintro e w1 ⟨a1, N1, c1, rfl, hN1, hown1', hb1'⟩
  have hb1 : Below (w.heap.size + 1) (w.alloc (.cells #[.int .i64 (f : Int), .int .i64 5, .int .u64 (u : Int), .slice a n c] 53)) w1 := hb1'.mono (by simp)
  have hown1 : Own w1 (w.heap.size + 1) (.slice a1 N1 c1) lb := hown1'.mono (by simp)
  have hz1 := hb1.size
  simp only [World.size_alloc] at hz1
  have hrw1 : ∀ i v, (#[.int .i64 (f : Int), .int .i64 5, .int .u64 (u : Int), .slice a n c] : Array Value)[i]? = some v → w1.cell? ⟨w.heap.size, i, none⟩ = some v := fun i v h => (hb1.cell (p := ⟨w.heap.size, i, none⟩) (by simp)).trans (by rw [← h]; simp)
  have k1w1 := hrw1 1 (.int .i64 5) rfl
  have k2w1 := hrw1 2 (.int .u64 (u : Int)) rfl
  have k3w1 := hrw1 3 (.slice a n c) rfl
  go_wp2_with fail
  refine (addVarint_any (w.heap.size + 1) a1 N1 c1 lb _ hown1 hN1.out (f * 8 + 5) (by omega) (by omega) (by have := hln.out; omega)).mono ?_
  rintro e w2 ⟨a2, N2, c2, rfl, hN2, hown2, hb2⟩
  have hz2 := hb2.size
  have hL2 : N2 ≤ nb + 10 := by have := hN2.out; have := hln.out; rw [List.length_append] at *; omega
  have hrw2 : ∀ i v, (#[.int .i64 (f : Int), .int .i64 5, .int .u64 (u : Int), .slice a n c] : Array Value)[i]? = some v → w2.cell? ⟨w.heap.size, i, none⟩ = some v := fun i v h => (hb2.cell (p := ⟨w.heap.size, i, none⟩) (by simp)).trans (hrw1 i v h)
  have k1w2 := hrw2 1 (.int .i64 5) rfl
  have k2w2 := hrw2 2 (.int .u64 (u : Int)) rfl
  have k3w2 := hrw2 3 (.slice a n c) rfl
  have hX : Calls Tryd.prog 47 #[.slice a2 N2 c2, .int .u64 u, .int .i64 4] w2 (Added (w.heap.size + 1) (lb ++ varint (f * 8 + 5) ++ fixedB 4 u) w2) := by
    have := hN2.out
    subst this
    exact addFixed_any (w.heap.size + 1) a2 _ c2 _ w2 hown2 u hu 4 (by omega) (by omega) (by omega)
  go_wp2_with fail
  refine hX.mono ?_
  rintro e w9 ⟨a9, N9, c9, rfl, hN9, hown9, hb9⟩
  go_wp2_with fail
  have hq : Below w.heap.size w w9 := hb0.trans ((((hb1.trans hb2)).trans hb9).mono (by omega))
  have e9 : lb ++ varint (f * 8 + 5) ++ putB f 5 u l = lb ++ put f 5 u l := List.append_assoc _ _ _
  go_ret2
  exact ⟨_, _, _, rfl, by rw [← e9]; exact hN9, by rw [← e9]; exact hown9.mono (by omega), hq⟩
end Go.Proofs.YtclnmajjkchfmaaDoor
