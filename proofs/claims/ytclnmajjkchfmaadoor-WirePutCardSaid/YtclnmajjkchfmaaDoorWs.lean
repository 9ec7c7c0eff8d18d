/-
  CONTRACTS: the document's Put.
-/
import Derived.Test.YtclnmajjkchfmaaDoorWq
import Derived.Test.YtclnmajjkchfmaaDoorWr
namespace Go.Proofs.YtclnmajjkchfmaaDoor
open Go.RowKit Wr

def PutdPost (l : List UInt8) (w : World) (e : Ending) (w' : World) : Prop := ∃ a' N c', e = .returned (.tuple #[.slice a' N c', .int .i64 0]) ∧ Hid (N = l.length) ∧ Own w' w.heap.size (.slice a' N c') l ∧ Below w.heap.size w w'
def PutdNo (c : Int) (w : World) (e : Ending) (w' : World) : Prop := e = .returned (.tuple #[.slice none 0 0, .int .i64 c]) ∧ Below w.heap.size w w'
theorem tagr_put (f k : Nat) (h1 : 1 ≤ f) (h2 : f ≤ 536870911) (h3 : k ≤ 5) (w : World) :
    Calls Tryd.prog 24 #[.int .i64 (f : Int), .int .i64 (k : Int)] w fun e w' => e = .returned (.tuple #[.int .u64 ((f * 8 + k : Nat) : Int), .int .i64 0]) ∧ w = w' :=
  (tagr_ok f k (by unfold TagOk; omega) w).mono fun e w' ⟨h4, h5⟩ => ⟨by rw [h4]; simp, h5⟩
theorem putd_notag (a : Option Addr) (n c : Nat) (f k u : Int) (hf0 : -9223372036854775808 ≤ f) (hf1 : f ≤ 9223372036854775807) (hk0 : -9223372036854775808 ≤ k) (hk1 : k ≤ 9223372036854775807) (h : ¬ TagOk f k) (w : World) :
    Calls Tryd.prog 42 #[recV f k u a n c] w (PutdNo 103 w) := by
  have HT := Lib.hid (fun W => tagr_no f k hf0 hf1 hk0 hk1 h W)
  clear h
  go_enter Tryd.func42, Tryd.ntmps42
  go_wp2_with fail
  refine (HT.out _).mono ?_
  rintro e w2 ⟨rfl, rfl⟩
  go_wp2_with fail
  go_ret2
  exact ⟨rfl, (Below.refl _ _).alloc (Nat.le_refl _) _⟩

set_option maxRecDepth 100000 in
set_option maxHeartbeats 4000000 in
theorem putd_0 (a : Option Addr) (n c : Nat) (l : List UInt8) (f u : Nat) (h1 : 1 ≤ f) (h2 : f ≤ 536870911) (hu : u ≤ 18446744073709551615) (w : World) (hs : Sl w a n c l) (hn : n ≤ 35184372088832) :
    Calls Tryd.prog 42 #[recV (f : Int) 0 (u : Int) a n c] w (PutdPost (put f 0 u l) w) := by
  have ht10 := varint_len10 (u := f * 8 + 0) (by omega)
  have HT : Hid (∀ W, Calls Tryd.prog 24 #[.int .i64 (f : Int), .int .i64 0] W fun e w' => e = .returned (.tuple #[.int .u64 ((f * 8 + 0 : Nat) : Int), .int .i64 0]) ∧ W = w') := Lib.hid (fun W => tagr_put f 0 h1 h2 (by omega) W)
  have HV := Lib.hid (fun W => varintr_any (f * 8 + 0) (by omega) W)
  have hb0 : Below w.heap.size w (w.alloc (.cells #[.int .i64 (f : Int), .int .i64 0, .int .u64 (u : Int), .slice a n c] 56)) := (Below.refl _ _).alloc (Nat.le_refl _) _
  have HS := Lib.hid (hs.alloc (.cells #[.int .i64 (f : Int), .int .i64 0, .int .u64 (u : Int), .slice a n c] 56))
  have HLN := Lib.hid hs.len
  clear hs
  go_enter Tryd.func42, Tryd.ntmps42
  go_wp2_with fail
  refine (HT.out _).mono ?_
  rintro e w' ⟨rfl, rfl⟩
  go_wp2_with fail
  refine (HV.out _).mono ?_
  rintro e w1 ⟨a1, N1, c1, rfl, hN1, hown1, hb1⟩
  have hz1 := hb1.size
  simp only [World.size_alloc] at hz1 hown1
  have q1 := (hb1.cell (p := ⟨w.heap.size, 1, none⟩) (by simp)).trans (by simp : _ = some (.int .i64 0))
  have q2 := (hb1.cell (p := ⟨w.heap.size, 2, none⟩) (by simp)).trans (by simp : _ = some (.int .u64 (u : Int)))
  have q3 := (hb1.cell (p := ⟨w.heap.size, 3, none⟩) (by simp)).trans (by simp : _ = some (.slice a n c))
  have hBw1 : Below w.heap.size w w1 := hb0.trans (hb1.mono (by simp))
  have hp10 : (varint u).length ≤ 10 := varint_len10 hu
  have HC := Lib.hid (fun W => varintr_any u hu W)
  go_wp2_with (first | (at_builtin; (refine wp_append_bytes rfl _ _ rfl _ (varint (f * 8 + 0)) (varint u) rfl (w.heap.size + 1) hown1' a2 N2 c2 rfl hs2 (by have := HN2.out; omega) (by omega) ?_); intro w3 a3 N3 c3 hN3 hown3 hb3) | ((with_reducible_and_instances refine Calls.mono (HC.out _) ?_); rintro e w2 ⟨a2, N2, c2, rfl, hN2, hown2, hb2⟩; have hs2 := own_sl2 hown2; have HN2 := Lib.hid hN2.out; have hown1' := hown1.kept hb2; have hz2 := hb2.size))
  go_ret2
  have hBw2 : Below w.heap.size w w2 := hBw1.trans (hb2.mono (by omega))
  refine ⟨_, _, _, rfl, hN3, hown3.mono (by omega), hBw2.trans (hb3.mono (by omega))⟩

set_option maxRecDepth 100000 in
set_option maxHeartbeats 4000000 in
theorem putd_1 (a : Option Addr) (n c : Nat) (l : List UInt8) (f u : Nat) (h1 : 1 ≤ f) (h2 : f ≤ 536870911) (hu : u ≤ 18446744073709551615) (w : World) (hs : Sl w a n c l) (hn : n ≤ 35184372088832) :
    Calls Tryd.prog 42 #[recV (f : Int) 1 (u : Int) a n c] w (PutdPost (put f 1 u l) w) := by
  have ht10 := varint_len10 (u := f * 8 + 1) (by omega)
  have HT : Hid (∀ W, Calls Tryd.prog 24 #[.int .i64 (f : Int), .int .i64 1] W fun e w' => e = .returned (.tuple #[.int .u64 ((f * 8 + 1 : Nat) : Int), .int .i64 0]) ∧ W = w') := Lib.hid (fun W => tagr_put f 1 h1 h2 (by omega) W)
  have HV := Lib.hid (fun W => varintr_any (f * 8 + 1) (by omega) W)
  have hb0 : Below w.heap.size w (w.alloc (.cells #[.int .i64 (f : Int), .int .i64 1, .int .u64 (u : Int), .slice a n c] 56)) := (Below.refl _ _).alloc (Nat.le_refl _) _
  have HS := Lib.hid (hs.alloc (.cells #[.int .i64 (f : Int), .int .i64 1, .int .u64 (u : Int), .slice a n c] 56))
  have HLN := Lib.hid hs.len
  clear hs
  go_enter Tryd.func42, Tryd.ntmps42
  go_wp2_with fail
  refine (HT.out _).mono ?_
  rintro e w' ⟨rfl, rfl⟩
  go_wp2_with fail
  refine (HV.out _).mono ?_
  rintro e w1 ⟨a1, N1, c1, rfl, hN1, hown1, hb1⟩
  have hz1 := hb1.size
  simp only [World.size_alloc] at hz1 hown1
  have q1 := (hb1.cell (p := ⟨w.heap.size, 1, none⟩) (by simp)).trans (by simp : _ = some (.int .i64 1))
  have q2 := (hb1.cell (p := ⟨w.heap.size, 2, none⟩) (by simp)).trans (by simp : _ = some (.int .u64 (u : Int)))
  have q3 := (hb1.cell (p := ⟨w.heap.size, 3, none⟩) (by simp)).trans (by simp : _ = some (.slice a n c))
  have hBw1 : Below w.heap.size w w1 := hb0.trans (hb1.mono (by simp))
  have hp10 : (fixedB 8 u).length ≤ 10 := by rw [fixedB_length]; omega
  have HC := Lib.hid (fun W => fixedr_yes u hu 8 (Or.inr rfl) W)
  go_wp2_with (first | (at_builtin; (refine wp_append_bytes rfl _ _ rfl _ (varint (f * 8 + 1)) (fixedB 8 u) rfl (w.heap.size + 1) hown1' a2 N2 c2 rfl hs2 (by have := HN2.out; omega) (by omega) ?_); intro w3 a3 N3 c3 hN3 hown3 hb3) | ((with_reducible_and_instances refine Calls.mono (HC.out _) ?_); rintro e w2 ⟨a2, N2, c2, rfl, hN2, hown2, hb2⟩; have hs2 := own_sl2 hown2; have HN2 := Lib.hid hN2.out; have hown1' := hown1.kept hb2; have hz2 := hb2.size))
  go_ret2
  have hBw2 : Below w.heap.size w w2 := hBw1.trans (hb2.mono (by omega))
  refine ⟨_, _, _, rfl, hN3, hown3.mono (by omega), hBw2.trans (hb3.mono (by omega))⟩

set_option maxRecDepth 100000 in
set_option maxHeartbeats 4000000 in
theorem putd_5 (a : Option Addr) (n c : Nat) (l : List UInt8) (f u : Nat) (h1 : 1 ≤ f) (h2 : f ≤ 536870911) (hu : u ≤ 18446744073709551615) (w : World) (hs : Sl w a n c l) (hn : n ≤ 35184372088832) :
    Calls Tryd.prog 42 #[recV (f : Int) 5 (u : Int) a n c] w (PutdPost (put f 5 u l) w) := by
  have ht10 := varint_len10 (u := f * 8 + 5) (by omega)
  have HT : Hid (∀ W, Calls Tryd.prog 24 #[.int .i64 (f : Int), .int .i64 5] W fun e w' => e = .returned (.tuple #[.int .u64 ((f * 8 + 5 : Nat) : Int), .int .i64 0]) ∧ W = w') := Lib.hid (fun W => tagr_put f 5 h1 h2 (by omega) W)
  have HV := Lib.hid (fun W => varintr_any (f * 8 + 5) (by omega) W)
  have hb0 : Below w.heap.size w (w.alloc (.cells #[.int .i64 (f : Int), .int .i64 5, .int .u64 (u : Int), .slice a n c] 56)) := (Below.refl _ _).alloc (Nat.le_refl _) _
  have HS := Lib.hid (hs.alloc (.cells #[.int .i64 (f : Int), .int .i64 5, .int .u64 (u : Int), .slice a n c] 56))
  have HLN := Lib.hid hs.len
  clear hs
  go_enter Tryd.func42, Tryd.ntmps42
  go_wp2_with fail
  refine (HT.out _).mono ?_
  rintro e w' ⟨rfl, rfl⟩
  go_wp2_with fail
  refine (HV.out _).mono ?_
  rintro e w1 ⟨a1, N1, c1, rfl, hN1, hown1, hb1⟩
  have hz1 := hb1.size
  simp only [World.size_alloc] at hz1 hown1
  have q1 := (hb1.cell (p := ⟨w.heap.size, 1, none⟩) (by simp)).trans (by simp : _ = some (.int .i64 5))
  have q2 := (hb1.cell (p := ⟨w.heap.size, 2, none⟩) (by simp)).trans (by simp : _ = some (.int .u64 (u : Int)))
  have q3 := (hb1.cell (p := ⟨w.heap.size, 3, none⟩) (by simp)).trans (by simp : _ = some (.slice a n c))
  have hBw1 : Below w.heap.size w w1 := hb0.trans (hb1.mono (by simp))
  have hp10 : (fixedB 4 u).length ≤ 10 := by rw [fixedB_length]; omega
  have HC := Lib.hid (fun W => fixedr_yes u hu 4 (Or.inl rfl) W)
  go_wp2_with (first | (at_builtin; (refine wp_append_bytes rfl _ _ rfl _ (varint (f * 8 + 5)) (fixedB 4 u) rfl (w.heap.size + 1) hown1' a2 N2 c2 rfl hs2 (by have := HN2.out; omega) (by omega) ?_); intro w3 a3 N3 c3 hN3 hown3 hb3) | ((with_reducible_and_instances refine Calls.mono (HC.out _) ?_); rintro e w2 ⟨a2, N2, c2, rfl, hN2, hown2, hb2⟩; have hs2 := own_sl2 hown2; have HN2 := Lib.hid hN2.out; have hown1' := hown1.kept hb2; have hz2 := hb2.size))
  go_ret2
  have hBw2 : Below w.heap.size w w2 := hBw1.trans (hb2.mono (by omega))
  refine ⟨_, _, _, rfl, hN3, hown3.mono (by omega), hBw2.trans (hb3.mono (by omega))⟩

set_option maxRecDepth 100000 in
set_option maxHeartbeats 4000000 in
theorem putd_4 (a : Option Addr) (n c : Nat) (l : List UInt8) (f u : Nat) (h1 : 1 ≤ f) (h2 : f ≤ 536870911) (hu : u ≤ 18446744073709551615) (w : World) (hs : Sl w a n c l) (hn : n ≤ 35184372088832) :
    Calls Tryd.prog 42 #[recV (f : Int) 4 (u : Int) a n c] w (PutdNo 104 w) := by
  have ht10 := varint_len10 (u := f * 8 + 4) (by omega)
  have HT : Hid (∀ W, Calls Tryd.prog 24 #[.int .i64 (f : Int), .int .i64 4] W fun e w' => e = .returned (.tuple #[.int .u64 ((f * 8 + 4 : Nat) : Int), .int .i64 0]) ∧ W = w') := Lib.hid (fun W => tagr_put f 4 h1 h2 (by omega) W)
  have HV := Lib.hid (fun W => varintr_any (f * 8 + 4) (by omega) W)
  have hb0 : Below w.heap.size w (w.alloc (.cells #[.int .i64 (f : Int), .int .i64 4, .int .u64 (u : Int), .slice a n c] 56)) := (Below.refl _ _).alloc (Nat.le_refl _) _
  have HS := Lib.hid (hs.alloc (.cells #[.int .i64 (f : Int), .int .i64 4, .int .u64 (u : Int), .slice a n c] 56))
  have HLN := Lib.hid hs.len
  clear hs
  go_enter Tryd.func42, Tryd.ntmps42
  go_wp2_with fail
  refine (HT.out _).mono ?_
  rintro e w' ⟨rfl, rfl⟩
  go_wp2_with fail
  refine (HV.out _).mono ?_
  rintro e w1 ⟨a1, N1, c1, rfl, hN1, hown1, hb1⟩
  have hz1 := hb1.size
  simp only [World.size_alloc] at hz1 hown1
  have q1 := (hb1.cell (p := ⟨w.heap.size, 1, none⟩) (by simp)).trans (by simp : _ = some (.int .i64 4))
  have q2 := (hb1.cell (p := ⟨w.heap.size, 2, none⟩) (by simp)).trans (by simp : _ = some (.int .u64 (u : Int)))
  have q3 := (hb1.cell (p := ⟨w.heap.size, 3, none⟩) (by simp)).trans (by simp : _ = some (.slice a n c))
  have hBw1 : Below w.heap.size w w1 := hb0.trans (hb1.mono (by simp))
  go_wp2_with fail
  go_ret2
  exact ⟨rfl, hBw1⟩
end Go.Proofs.YtclnmajjkchfmaaDoor
