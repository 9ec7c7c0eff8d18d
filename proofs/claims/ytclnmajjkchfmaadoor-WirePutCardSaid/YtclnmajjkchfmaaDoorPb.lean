/-
  CONTRACTS: Put (P1.6): bytes.
-/
import Derived.Test.YtclnmajjkchfmaaDoorP
import Derived.Deep.RegionLaw
import Derived.Deep.AppendLies
namespace Go.Proofs.YtclnmajjkchfmaaDoor
open Go.RowKit Wr

/-- 'append(s, x...)' as a step of a region that draws its order. -/
theorem step_append_bytes {w : World} {ops : Array Oper} {o : Oper} {a : Act} {K : Act → World → Prop} {Q : Exit → Act → World → Prop} {E : Prop}
    (hgd : o.guard = none) (s x : Operand) (ho : o.op = .call { callee := .builtin .append, args := #[s, x], argTypes := #[23, 23] })
    (v : Value) (l m : List UInt8) (hs : a.eval s = v) (B : Nat) (hown : Own w B v l) (ad : Option Addr) (n c : Nat) (hx : a.eval x = .slice ad n c) (hsl : Sl w ad n c m)
    (hbytes : l.length + n ≤ 140737488355328) (hbase : B ≤ w.heap.size)
    (hK : ∀ w' ad' N' c', Hid (N' = (l ++ m).length) → Own w' B (.slice ad' N' c') (l ++ m) → Below B w w' → K (a.put o.dst (.slice ad' N' c')) w') :
    if Region.wanted o (yielded ops a.tmps) = true then Oper.wp Tryd.prog o a w K Q else E := by
  have hw : Region.wanted o (yielded ops a.tmps) = true := by simp [Region.wanted, hgd]
  rw [if_pos hw]
  obtain ⟨i0, hi, hz0, hz1, hz2⟩ := info_parts info8
  have hlen := hsl.len
  cases ad with
  | none =>
    obtain rfl := hsl.nil rfl
    have hn : n = 0 := by have := hsl.le; omega
    subst hn
    obtain rfl : m = [] := List.length_eq_zero_iff.1 hlen
    obtain ⟨ad', c', rfl, _⟩ := hown.sl
    have hrun := run_append_owned_none (P := Tryd.prog) (w := w) B 23 o.type _ i0 1 Tryd.underlying23 hi _ l.length _ hown
    unfold Oper.wp
    simp [execOp, ho, resolve, invoke, builtin, hs, hx, hrun, Result.andThen]
    exact hK w ad' l.length c' (by simp [Hid]) (by simpa using hown) (Below.refl _ _)
  | some p =>
    obtain ⟨v', w', hr, h2, h3, _, _⟩ := run_append_own_at (P := Tryd.prog) w B 23 o.type _ i0 (.int .u8 0) 1 1 Tryd.underlying23 hi hz0 hz1 hz2 rfl (by decide) v l.length (cellsOf l) hown p n c (cellsOf m)
      (by rw [cellsOf_length]; omega) (fun j u hj => by
        have hjl : j < m.length := by
          have := (List.getElem?_eq_some_iff.1 hj).1
          simpa [cellsOf] using this
        obtain ⟨b, o', e, hc⟩ := hsl.row j hjl
        cases e
        rw [Addr.add_lit, hc]
        rw [cellsOf_get hjl] at hj
        exact hj) (cellsOf_one m) (by unfold maxLen; omega) (by omega) hbase
    have h1' : Own w' B v' (l ++ m) := by
      unfold Own
      rw [List.length_append, cellsOf_append, hlen]; exact h2
    obtain ⟨ad', c', rfl, _⟩ := h1'.sl
    unfold Oper.wp
    simp [execOp, ho, resolve, invoke, builtin, hs, hx, hr, Result.andThen]
    have hfin := hK w' ad' (l ++ m).length c' (Lib.hid rfl) h1' (hown.below h3 hbase)
    rw [List.length_append] at hfin
    exact hfin

set_option maxRecDepth 100000 in
set_option maxHeartbeats 8000000 in
theorem put2_any (ea : Nat → Addr) (ab : Option Addr) (nb cb : Nat) (lb : List UInt8) (a : Option Addr) (n c : Nat) (l : List UInt8) (f u : Nat) (h1 : 1 ≤ f) (h2 : f ≤ 536870911) (hu : u ≤ 18446744073709551615)
    (w : World) (E : Env w ea) (hs : Sl w ab nb cb lb) (hl : Sl w a n c l) (hnb : nb ≤ 35184372088832) (hn : n ≤ 35184372088832) :
    Calls Tryd.prog 41 #[.slice ab nb cb, .agg #[.int .i64 (f : Int), .int .i64 2, .int .u64 (u : Int), .slice a n c]] w (PutPost (lb ++ put f 2 u l) w) := by
  have ht10 := varint_len10 (u := f * 8 + 2) (by omega)
  have hln := Lib.hid hs.len
  have hll := Lib.hid hl.len
  have hT : ∀ W, Calls Tryd.prog 23 #[.int .i64 (f : Int), .int .i64 2] W fun e w' => e = .returned (.tuple #[.int .u64 ((f * 8 + 2 : Nat) : Int), .nilIface]) ∧ W = w' := fun W => tag_put f 2 h1 h2 (by omega) W
  have hs0 := Lib.hid (hs.alloc (.cells #[.int .i64 (f : Int), .int .i64 2, .int .u64 (u : Int), .slice a n c] 53))
  have hl0 := Lib.hid (hl.alloc (.cells #[.int .i64 (f : Int), .int .i64 2, .int .u64 (u : Int), .slice a n c] 53))
  have E0 := Lib.hid (E.alloc (.cells #[.int .i64 (f : Int), .int .i64 2, .int .u64 (u : Int), .slice a n c] 53))
  have hb0 : Below w.heap.size w (w.alloc (.cells #[.int .i64 (f : Int), .int .i64 2, .int .u64 (u : Int), .slice a n c] 53)) := (Below.refl _ _).alloc (Nat.le_refl _) _
  go_enter Tryd.func41, Tryd.ntmps41
  go_wp2_with fail
  refine (hT _).mono ?_
  rintro e w' ⟨rfl, rfl⟩
  go_wp2_with fail
  refine (grown_any ab nb cb lb _ hs0.out _ (by omega) (by omega)).mono ?_
  rintro e w1 ⟨a1, N1, c1, rfl, hN1, hown1', hb1'⟩
  have hb1 : Below (w.heap.size + 1) (w.alloc (.cells #[.int .i64 (f : Int), .int .i64 2, .int .u64 (u : Int), .slice a n c] 53)) w1 := hb1'.mono (by simp)
  have hown1 : Own w1 (w.heap.size + 1) (.slice a1 N1 c1) lb := hown1'.mono (by simp)
  have hz1 := hb1.size
  simp only [World.size_alloc] at hz1
  have hrw1 : ∀ i v, (#[.int .i64 (f : Int), .int .i64 2, .int .u64 (u : Int), .slice a n c] : Array Value)[i]? = some v → w1.cell? ⟨w.heap.size, i, none⟩ = some v := fun i v h => (hb1.cell (p := ⟨w.heap.size, i, none⟩) (by simp)).trans (by rw [← h]; simp)
  have k1w1 := hrw1 1 (.int .i64 2) rfl
  have k2w1 := hrw1 2 (.int .u64 (u : Int)) rfl
  have k3w1 := hrw1 3 (.slice a n c) rfl
  go_wp2_with fail
  refine (addVarint_any (w.heap.size + 1) a1 N1 c1 lb _ hown1 hN1.out (f * 8 + 2) (by omega) (by omega) (by have := hln.out; omega)).mono ?_
  rintro e w2 ⟨a2, N2, c2, rfl, hN2, hown2, hb2⟩
  have hz2 := hb2.size
  have hL2 : N2 ≤ nb + 10 := by have := hN2.out; have := hln.out; rw [List.length_append] at *; omega
  have hrw2 : ∀ i v, (#[.int .i64 (f : Int), .int .i64 2, .int .u64 (u : Int), .slice a n c] : Array Value)[i]? = some v → w2.cell? ⟨w.heap.size, i, none⟩ = some v := fun i v h => (hb2.cell (p := ⟨w.heap.size, i, none⟩) (by simp)).trans (hrw1 i v h)
  have k1w2 := hrw2 1 (.int .i64 2) rfl
  have k2w2 := hrw2 2 (.int .u64 (u : Int)) rfl
  have k3w2 := hrw2 3 (.slice a n c) rfl
  have hn10 := varint_len10 (u := n) (by omega)
  have hL3 : (lb ++ varint (f * 8 + 2) ++ varint n).length ≤ nb + 20 := by have := hN2.out; rw [List.length_append]; omega
  have hwr : IntKind.u64.wrap (n : Int) = (n : Int) := by rw [IntKind.wrap_u64]; omega
  have HC : Hid (∀ W, Below w2.heap.size w2 W → Calls Tryd.prog 44 #[.slice a2 N2 c2, .int .u64 (IntKind.u64.wrap (n : Int))] W (Added (w.heap.size + 1) (lb ++ varint (f * 8 + 2) ++ varint n) W)) := Lib.hid (fun W h => by rw [hwr]; exact addVarint_any (w.heap.size + 1) a2 N2 c2 _ W (hown2.kept h) hN2.out n (by omega) (by have := h.size; omega) (by have := hN2.out; omega))
  clear hwr
  have HL : Hid (∀ W, Below (w.heap.size + 1) w2 W → Sl W a n c l) := Lib.hid (fun W h => hl.kept (hb0.trans ((((hb1.trans hb2)).trans h).mono (by omega))))
  have k3d : w2.drew.cell? ⟨w.heap.size, 3, none⟩ = some (.slice a n c) := by simpa using k3w2
  have hz12 : w.heap.size + 1 ≤ w2.heap.size := by omega
  clear hrw1 hrw2 k1w1 k2w1 k3w1 hb1' hown1' hown1 hs0 hl0 E0 hs hl E hT
  go_upto_region 15 with fail
  go_region_law (first | (refine step_append_bytes rfl _ _ rfl _ (lb ++ varint (f * 8 + 2) ++ varint n) l rfl (w.heap.size + 1) hown3 a n c rfl hl3 (by omega) hz3' ?_; intro w9 a9 N9 c9 hN9 hown9 hb9') | (go_simp; (with_reducible_and_instances refine Calls.mono (HC.out _ (by repeat (first | (with_reducible refine Below.drew ?_) | (with_reducible exact Below.refl _ _)))) ?_); rintro e w3 ⟨a3, N3, c3, rfl, hN3, hown3, hb3⟩; have hq3 : Below (w.heap.size + 1) w2 w3 := (Below.trans (by repeat (first | (with_reducible refine Below.drew ?_) | (with_reducible exact Below.refl _ _))) hb3); have q3 := (hq3.cell (p := ⟨w.heap.size, 3, none⟩) (by simp)).trans k3w2; have hl3 := HL.out w3 hq3; have hz3 := hq3.size; have hz3' : w.heap.size + 1 ≤ w3.heap.size := (by omega); go_simp))
  all_goals go_wp2_with fail
  all_goals (
    have hq : Below w.heap.size w w9 := hb0.trans ((((hb1.trans hb2)).trans (hq3.trans hb9')).mono (by omega))
    have e9 : lb ++ varint (f * 8 + 2) ++ varint n ++ l = lb ++ put f 2 u l := by rw [List.append_assoc, List.append_assoc, show n = l.length from hll.out.symm]; rfl
    go_ret2
    exact ⟨_, _, _, rfl, by rw [← e9]; exact hN9, by rw [← e9]; exact hown9.mono (by omega), hq⟩)
end Go.Proofs.YtclnmajjkchfmaaDoor
