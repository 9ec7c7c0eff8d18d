/-
  CONTRACTS: the document's Put of bytes and of groups.
-/
import Derived.Test.YtclnmajjkchfmaaDoorWs
namespace Go.Proofs.YtclnmajjkchfmaaDoor
open Go.RowKit Wr

set_option maxRecDepth 100000 in
set_option maxHeartbeats 4000000 in
theorem putd_2 (a : Option Addr) (n c : Nat) (l : List UInt8) (f u : Nat) (h1 : 1 ≤ f) (h2 : f ≤ 536870911) (hu : u ≤ 18446744073709551615) (w : World) (hs : Sl w a n c l) (hn : n ≤ 35184372088832) :
    Calls Tryd.prog 42 #[recV (f : Int) 2 (u : Int) a n c] w (PutdPost (put f 2 u l) w) := by
  have ht10 := varint_len10 (u := f * 8 + 2) (by omega)
  have HT : Hid (∀ W, Calls Tryd.prog 24 #[.int .i64 (f : Int), .int .i64 2] W fun e w' => e = .returned (.tuple #[.int .u64 ((f * 8 + 2 : Nat) : Int), .int .i64 0]) ∧ W = w') := Lib.hid (fun W => tagr_put f 2 h1 h2 (by omega) W)
  have HV := Lib.hid (fun W => varintr_any (f * 8 + 2) (by omega) W)
  have hb0 : Below w.heap.size w (w.alloc (.cells #[.int .i64 (f : Int), .int .i64 2, .int .u64 (u : Int), .slice a n c] 56)) := (Below.refl _ _).alloc (Nat.le_refl _) _
  have HS := Lib.hid (hs.alloc (.cells #[.int .i64 (f : Int), .int .i64 2, .int .u64 (u : Int), .slice a n c] 56))
  have HLN := Lib.hid hs.len
  clear hs
  go_enter Tryd.func42, Tryd.ntmps42
  go_wp2_with fail
  refine (HT.out _).mono ?_
  rintro e w' ⟨rfl, rfl⟩
  go_wp2_with fail
  refine (HV.out _).mono ?_
  rintro e w1 ⟨a1, N1, c1, rfl, hN1, hown1, hb1⟩
  have hz1 := hb1.size
  simp only [World.size_alloc] at hz1 hown1
  have q1 := (hb1.cell (p := ⟨w.heap.size, 1, none⟩) (by simp)).trans (by simp : _ = some (.int .i64 2))
  have q2 := (hb1.cell (p := ⟨w.heap.size, 2, none⟩) (by simp)).trans (by simp : _ = some (.int .u64 (u : Int)))
  have q3 := (hb1.cell (p := ⟨w.heap.size, 3, none⟩) (by simp)).trans (by simp : _ = some (.slice a n c))
  have hBw1 : Below w.heap.size w w1 := hb0.trans (hb1.mono (by simp))
  have hn10 := varint_len10 (u := n) (by omega)
  have HC := Lib.hid (fun W => varintr_any n (by omega) W)
  have hcu : IntKind.u64.wrap (n : Int) = (n : Int) := by rw [IntKind.wrap_u64]; omega
  have HSL : Hid (∀ W, Below (w.heap.size + 1) (w.alloc (.cells #[.int .i64 (f : Int), .int .i64 2, .int .u64 (u : Int), .slice a n c] 56)) W → Sl W a n c l) := Lib.hid (fun W h => HS.out.kept (by simpa using h))
  have hb1' : Below (w.heap.size + 1) (w.alloc (.cells #[.int .i64 (f : Int), .int .i64 2, .int .u64 (u : Int), .slice a n c] 56)) w1 := hb1.mono (by simp)
  go_wp2_with fail
  refine (HC.out _).mono ?_
  rintro e w2 ⟨a2, N2, c2, rfl, hN2, hown2, hb2⟩
  have hs2 := Lib.hid (own_sl2 hown2)
  have hown1' := Lib.hid (hown1.kept hb2)
  have hz2 := hb2.size
  have q32 := (hb2.cell (p := ⟨w.heap.size, 3, none⟩) (by dsimp only; omega)).trans q3
  have hb12 := Lib.hid (hb1'.trans (hb2.mono (by omega)))
  have hl2 : (varint (f * 8 + 2) ++ varint n).length ≤ 20 := by rw [List.length_append]; omega
  have HE : Hid (varint (f * 8 + 2) ++ varint n ++ l = put f 2 u l) := Lib.hid (by rw [List.append_assoc, show n = l.length from HLN.out.symm]; rfl)
  have hN2' : N2 ≤ 10 := by have := hN2.out; omega
  have hBw2 : Below w.heap.size w w2 := hBw1.trans (hb2.mono (by omega))
  generalize varint (f * 8 + 2) = va at hown1' ht10 hl2 HE
  generalize varint n = vb at hs2 hn10 hl2 HE
  clear HV HC HT hcu hb1' hb1 hb0 hown1 hown2 hN2 hN1 hb2 q1 q2 q3 hBw1 HS HLN
  go_wp2_with (first | (at_builtin; (refine wp_append_bytes rfl _ _ rfl _ va vb rfl (w.heap.size + 1) hown1'.out a2 N2 c2 rfl hs2.out (by omega) (by omega) ?_); intro w3 a3 N3 c3 hN3 hown3 hb3; clear hown1'; have hz3 := hb3.size; have q33 := (hb3.cell (p := ⟨w.heap.size, 3, none⟩) (by simp)).trans q32; have hs3 := Lib.hid (HSL.out w3 (hb12.out.trans hb3)); have hown3' := Lib.hid hown3; clear hown3 q32) | (at_builtin; (refine wp_append_bytes rfl _ _ rfl _ (va ++ vb) l rfl (w.heap.size + 1) hown3'.out a n c rfl hs3.out (by omega) (by omega) ?_); intro w4 a4 N4 c4 hN4 hown4 hb4; clear hown3'))
  have hBw4 : Below w.heap.size w w4 := hBw2.trans ((hb3.mono (by omega)).trans (hb4.mono (by omega)))
  go_ret2
  refine ⟨_, _, _, rfl, by rw [← HE.out]; exact hN4, by rw [← HE.out]; exact hown4.mono (by omega), hBw4⟩
end Go.Proofs.YtclnmajjkchfmaaDoor
