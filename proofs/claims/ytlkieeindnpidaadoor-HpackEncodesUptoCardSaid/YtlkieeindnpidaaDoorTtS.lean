/-
  CONTRACTS: Static, newest, Get; the document's Static; SameHeader.
-/
import Derived.Test.YtlkieeindnpidaaDoorTtKit
namespace Go.Proofs.YtlkieeindnpidaaDoor.Tt
open Go.RowKit

/-- The i-th header of the table that stands, from 0 on. -/
def stH (i : Nat) : Hd := standL.getD i (⟨#[]⟩, ⟨#[]⟩)
theorem stand_ext : ∀ i, i < 61 → standC.extract (i * 3) (i * 3 + 3) = #[.string (stH i).1, .string (stH i).2, .bool false] := by
  intro i hi
  have h : (List.range 61).map (fun i => standC.extract (i * 3) (i * 3 + 3)) = (List.range 61).map (fun i => #[Value.string (stH i).1, .string (stH i).2, .bool false]) := by kernel_rfl
  exact List.map_inj_left.1 h i (List.mem_range.2 hi)
theorem agg34 (w : World) : (isAgg 77).run Tryd.prog w = .ok true w := by kernel_rfl
theorem size34 (w : World) : (sizeOf 77).run Tryd.prog w = .ok 3 w := by kernel_rfl
theorem under65 : Tryd.prog.underlying 174 = some (.array 61 77) := by kernel_rfl
theorem stand_at (i : Nat) (hi : i < 61) (w : World) : (Instr.index 174 (.agg standC) (.int .i64 (i : Int))).run Tryd.prog w = .ok (hdV (stH i)) w := by
  have h0 : 0 ≤ (i : Int) ∧ (i : Int) < ((61 : Nat) : Int) := by omega
  have hx := stand_ext i hi
  have he : standC.extract (i * 3) (i * 3 + 3) = #[.string (stH i).1, .string (stH i).2, .bool false] := hx
  simp [Instr.index, run_underlying under65, asIntOf, h0.1, go_sem, part, agg34, size34, he]
  intro h
  omega
set_option maxRecDepth 100000 in
set_option maxHeartbeats 1000000 in
theorem static_yes (i : Nat) (hi : i < 61) (w : World) : Calls Tryd.prog 120 #[.int .i64 ((i : Int) + 1)] w fun e w' => e = .returned (.tuple #[hdV (stH i), .bool true]) ∧ Below w.heap.size w w' := by
  have hx := fun W => stand_at i hi W
  have h0 : (0 : Int) ≤ (i : Int) := by omega
  have h1 : (i : Int) < 61 := by omega
  generalize stH i = g at hx ⊢
  go_enter Tryd.func120, Tryd.ntmps120
  go_wp2_with fail
  refine (stand_any _).mono ?_
  rintro e w1 ⟨rfl, hb1⟩
  have hz1 := hb1.size
  simp only [World.size_alloc] at hz1
  have k0 := (hb1.cell (p := ⟨w.heap.size, 0, none⟩) (by simp)).trans (by simp : _ = some (.string ⟨#[]⟩))
  have k1 := (hb1.cell (p := ⟨w.heap.size, 1, none⟩) (by simp)).trans (by simp : _ = some (.string ⟨#[]⟩))
  have k2 := (hb1.cell (p := ⟨w.heap.size, 2, none⟩) (by simp)).trans (by simp : _ = some (.bool false))
  have kf : ∀ i, w1.frozen? ⟨w.heap.size, i, none⟩ = false := fun i => (hb1.frozen (p := ⟨w.heap.size, i, none⟩) (by simp)).trans (by simp)
  have hlt : w.heap.size < w1.heap.size := by omega
  have hB : Below w.heap.size w w1 := ((Below.refl _ w).alloc (Nat.le_refl _) _).trans (hb1.mono (by simp))
  go_wp2_with fail
  refine bodyPost_ret (v := .tuple #[hdV g, .bool true]) (by simp [results, Tryd.results120, go_sem, k0, k1, k2, kf, hlt]) rfl ⟨rfl, ?_⟩
  exact ((hB.setCell (p := ⟨w.heap.size, 0, none⟩) (Nat.le_refl _) _).setCell (p := ⟨w.heap.size, 1, none⟩) (Nat.le_refl _) _).setCell (p := ⟨w.heap.size, 2, none⟩) (Nat.le_refl _) _
set_option maxRecDepth 100000 in
theorem static_no (i : Int) (hi : i < 1 ∨ 61 < i) (w : World) : Calls Tryd.prog 120 #[.int .i64 i] w fun e w' => e = .returned (.tuple #[hdV (⟨#[]⟩, ⟨#[]⟩), .bool false]) ∧ Below w.heap.size w w' := by
  rcases hi with h | h
  all_goals
    go_enter Tryd.func120, Tryd.ntmps120
    go_wp2
    refine bodyPost_ret (v := .tuple #[hdV (⟨#[]⟩, ⟨#[]⟩), .bool false]) (by simp [results, Tryd.results120, go_sem]) rfl ⟨rfl, ?_⟩
    (repeat (first | exact Below.refl _ _ | (refine Below.setCell ?_ (by first | omega | (simp; omega) | simp) _) | (refine Below.alloc ?_ (by first | omega | (simp; omega) | simp) _)))
theorem ba_inj {a c : ByteArray} (h : a.toList = c.toList) : a = c := by
  rw [ByteArray.toList_eq, ByteArray.toList_eq] at h
  cases a
  cases c
  simpa using h
theorem ba_ne {a c : ByteArray} (h : a ≠ c) : (a.toList == c.toList) = false := by
  rw [beq_eq_false_iff_ne]
  exact fun e => h (ba_inj e)
theorem same_any (g h : Hd) (w : World) : Calls Tryd.prog 58 #[hdV g, hdV h] w fun e w' => e = .returned (.bool (decide (g = h))) ∧ Below w.heap.size w w' := by
  obtain ⟨a, b⟩ := g
  obtain ⟨c, d⟩ := h
  have hB : Below w.heap.size w ((w.alloc (.cells #[.string a, .string b, .bool false] 77)).alloc (.cells #[.string c, .string d, .bool false] 77)) := ((Below.refl _ w).alloc (Nat.le_refl _) _).alloc (by simp) _
  by_cases h1 : a = c
  · by_cases h2 : b = d
    · have e1 : decide ((a, b) = (c, d)) = true := by simp [h1, h2]
      rw [e1]
      subst h1 h2
      clear e1
      go_enter Tryd.func58, Tryd.ntmps58
      go_wp2
      go_ret
      exact ⟨rfl, hB⟩
    · have e1 : decide ((a, b) = (c, d)) = false := by simp [h2]
      rw [e1]
      subst h1
      have hn := ba_ne h2
      have hn' : ¬ b.toList = d.toList := fun e => h2 (ba_inj e)
      clear e1 h2
      go_enter Tryd.func58, Tryd.ntmps58
      go_wp2
      all_goals go_ret
      all_goals exact ⟨by simp [hn], hB⟩
  · have e1 : decide ((a, b) = (c, d)) = false := by simp [h1]
    rw [e1]
    have hn := ba_ne h1
    have hn' : ¬ a.toList = c.toList := fun e => h1 (ba_inj e)
    clear e1 h1
    go_enter Tryd.func58, Tryd.ntmps58
    go_wp2
    all_goals go_ret
    all_goals exact ⟨by simp [hn], hB⟩
/-- The header that n newer ones stand ahead of, in a list with the oldest first. -/
def nth (M : List Hd) (n : Nat) : Hd := M.getD (M.length - 1 - n) (⟨#[]⟩, ⟨#[]⟩)
set_option maxRecDepth 100000 in
set_option maxHeartbeats 1000000 in
theorem newest_any (b n : Nat) (M : List Hd) {R : Nat → Hd} {o s m : Nat} (w : World) (hn : n < M.length) (hr : Rg R o M) (ht : Tb w b R o M.length s m) :
    Calls Tryd.prog 117 #[.pointer (some ⟨b, 0, none⟩), .int .i64 (n : Int)] w fun e w' => e = .returned (hdV (nth M n)) ∧ Below w.heap.size w w' := by
  have hl := hr.len
  have ho := hr.lt
  obtain ⟨q, hq⟩ : ∃ q, q = (o + (M.length - 1 - n)) % 128 := ⟨_, rfl⟩
  have hq2 : q < 128 := by omega
  have hg : R q = nth M n := by
    have := hr.at_ (M.length - 1 - n) (by omega)
    rw [hq, this]
    unfold nth
    rw [List.getD_eq_getElem?_getD, List.getElem?_eq_getElem (by omega)]
    rfl
  have c0 := ht.c0
  have c1 := ht.c1
  have r0 := ht.r0 q hq2
  have r1 := ht.r1 q hq2
  have r2 := ht.r2 q hq2
  rw [hg] at r0 r1
  have hlt := ht.lt
  obtain ⟨t, htt⟩ : ∃ t, t = o + (M.length - 1 - n) := ⟨_, rfl⟩
  obtain ⟨x1, hx1⟩ : ∃ x1, x1 = o + M.length := ⟨_, rfl⟩
  obtain ⟨x2, hx2⟩ : ∃ x2, x2 = o + M.length - 1 := ⟨_, rfl⟩
  have hs1 : (o : Int) + (M.length : Int) = (x1 : Int) := by omega
  have hs2 : (x1 : Int) - 1 = (x2 : Int) := by omega
  have hs3 : (x2 : Int) - (n : Int) = (t : Int) := by omega
  have hm : ((t : Nat) : Int) % 128 = (q : Int) := by omega
  have hm2 : ((t : Nat) : Int).tmod 128 = (q : Int) := by rw [Int.tmod_eq_emod_of_nonneg (by omega)]; omega
  have hw1 : IntKind.i64.wrap (x1 : Int) = (x1 : Int) := IntWalk.i64_in _ (by omega)
  have hw2 : IntKind.i64.wrap (x2 : Int) = (x2 : Int) := IntWalk.i64_in _ (by omega)
  have hw3 : IntKind.i64.wrap (t : Int) = (t : Int) := IntWalk.i64_in _ (by omega)
  generalize nth M n = g at r0 r1 ⊢
  generalize M.length = k at hn hl hs1 c1
  have hqa : (0 : Int) ≤ (q : Int) := by omega
  have hqb : (q : Int) < 128 := by omega
  have hb0 := fun ob => (Below.refl w.heap.size w).alloc (Nat.le_refl _) ob
  clear hq hg htt ht hr hx1 hx2
  go_enter Tryd.func117, Tryd.ntmps117
  go_wp2
  go_region
  all_goals go_wp2
  all_goals refine bodyPost_ret (v := hdV g) (by simp [results, Tryd.results117, go_sem]) rfl ⟨rfl, ?_⟩
  all_goals (repeat (first | exact hb0 _ | (refine Below.setCell ?_ (by first | omega | (simp; omega) | simp) _) | (refine Below.drew ?_)))
/-- The header of an index. -/
def getM (M : List Hd) (i : Int) : Option Hd := if 1 ≤ i ∧ i < 62 then some (stH (i - 1).toNat) else if 62 ≤ i ∧ i - 62 < M.length then some (nth M (i - 62).toNat) else none
def hdO (o : Option Hd) : Value := .tuple #[hdV (o.getD (⟨#[]⟩, ⟨#[]⟩)), .bool o.isSome]
theorem below_box {W w w1 : World} {a b c : Value} (hb : Below W.heap.size w w1) (h : W.heap.size ≤ w.heap.size) : Below W.heap.size w (((w1.setCell ⟨w.heap.size, 0, none⟩ a).setCell ⟨w.heap.size, 1, none⟩ b).setCell ⟨w.heap.size, 2, none⟩ c) :=
  ((hb.setCell (p := ⟨w.heap.size, 0, none⟩) h _).setCell (p := ⟨w.heap.size, 1, none⟩) h _).setCell (p := ⟨w.heap.size, 2, none⟩) h _
set_option maxRecDepth 100000 in
set_option maxHeartbeats 1000000 in
theorem get_any (b : Nat) (i : Int) (M : List Hd) {R : Nat → Hd} {o s m : Nat} (w : World) (hi : -9223372036854775808 ≤ i ∧ i ≤ 9223372036854775807) (hr : Rg R o M) (ht : Tb w b R o M.length s m) :
    Calls Tryd.prog 118 #[.pointer (some ⟨b, 0, none⟩), .int .i64 i] w fun e w' => e = .returned (hdO (getM M i)) ∧ Below w.heap.size w w' := by
  have hlm := hr.len
  have hlt := ht.lt
  have ht0 := ht.alloc (.cells #[.string ⟨#[]⟩, .string ⟨#[]⟩, .bool false] 77) hlt
  have hb0 : Below w.heap.size w (w.alloc (.cells #[.string ⟨#[]⟩, .string ⟨#[]⟩, .bool false] 77)) := (Below.refl _ w).alloc (Nat.le_refl _) _
  have HP : Hid (∀ (w1 : World), Below (w.alloc (.cells #[.string ⟨#[]⟩, .string ⟨#[]⟩, .bool false] 77)).heap.size (w.alloc (.cells #[.string ⟨#[]⟩, .string ⟨#[]⟩, .bool false] 77)) w1 →
      w1.cell? ⟨w.heap.size, 0, none⟩ = some (.string ⟨#[]⟩) ∧ w1.cell? ⟨w.heap.size, 1, none⟩ = some (.string ⟨#[]⟩) ∧ w1.cell? ⟨w.heap.size, 2, none⟩ = some (.bool false) ∧ (∀ i, w1.frozen? ⟨w.heap.size, i, none⟩ = false) ∧ w.heap.size < w1.heap.size ∧ Below w.heap.size w w1) := Lib.hid (fun w1 hb1 => by
    have hz1 := hb1.size
    simp only [World.size_alloc] at hz1
    exact ⟨(hb1.cell (p := ⟨w.heap.size, 0, none⟩) (by simp)).trans (by simp), (hb1.cell (p := ⟨w.heap.size, 1, none⟩) (by simp)).trans (by simp), (hb1.cell (p := ⟨w.heap.size, 2, none⟩) (by simp)).trans (by simp),
      fun i => (hb1.frozen (p := ⟨w.heap.size, i, none⟩) (by simp)).trans (by simp), by omega, hb0.trans (hb1.mono (by simp))⟩)
  by_cases h62 : i < 62
  · have hst : ∀ W, Calls Tryd.prog 120 #[.int .i64 i] W fun e w' => e = .returned (hdO (getM M i)) ∧ Below W.heap.size W w' := fun W => by
      by_cases h1 : 1 ≤ i
      · obtain ⟨j, rfl⟩ : ∃ j : Nat, i = (j : Int) + 1 := ⟨(i - 1).toNat, by omega⟩
        have := static_yes j (by omega) W
        have e : getM M ((j : Int) + 1) = some (stH j) := by unfold getM; rw [if_pos (by omega)]; simp
        rw [e]
        exact this
      · have := static_no i (by omega) W
        have e : getM M i = none := by unfold getM; rw [if_neg (by omega), if_neg (by omega)]
        rw [e]
        exact this
    unfold hdO at hst ⊢
    generalize (getM M i).getD (⟨#[]⟩, ⟨#[]⟩) = g at hst ⊢
    generalize (getM M i).isSome = y at hst ⊢
    have HST := Lib.hid hst
    clear hst ht ht0 hr
    go_enter Tryd.func118, Tryd.ntmps118
    go_wp2_with fail
    refine (HST.out _).mono ?_
    rintro e w1 ⟨rfl, hb1⟩
    obtain ⟨k0, k1, k2, kf, hlt1, hB⟩ := HP.out w1 hb1
    go_wp2_with fail
    refine bodyPost_ret (v := .tuple #[hdV g, .bool y]) (by simp [results, Tryd.results118, go_sem, k0, k1, k2, kf, hlt1]) rfl ⟨rfl, ?_⟩
    exact below_box hB (Nat.le_refl _)
  · have c1 := ht0.c1
    have h62' : 62 ≤ i := by omega
    obtain ⟨n, rfl⟩ : ∃ n : Nat, i = (n : Int) + 62 := ⟨(i - 62).toNat, by omega⟩
    by_cases hn : n < M.length
    · have e : getM M ((n : Int) + 62) = some (nth M n) := by unfold getM; rw [if_neg (by omega), if_pos (by omega)]; simp
      rw [e]
      have HN := Lib.hid (newest_any b n M _ hn hr ht0)
      generalize nth M n = g at HN ⊢
      generalize M.length = k at hn hlm c1
      clear ht ht0 hr e h62
      go_enter Tryd.func118, Tryd.ntmps118
      go_wp2_with fail
      refine HN.out.mono ?_
      rintro e w1 ⟨rfl, hb1⟩
      obtain ⟨k0, k1, k2, kf, hlt1, hB⟩ := HP.out w1 hb1
      go_wp2_with fail
      refine bodyPost_ret (v := .tuple #[hdV g, .bool true]) (by simp [results, Tryd.results118, go_sem, k0, k1, k2, kf, hlt1]) rfl ⟨rfl, ?_⟩
      exact below_box hB (Nat.le_refl _)
    · have e : getM M ((n : Int) + 62) = none := by unfold getM; rw [if_neg (by omega), if_neg (by omega)]
      rw [e]
      generalize M.length = k at hn hlm c1
      clear ht ht0 hr e h62
      go_enter Tryd.func118, Tryd.ntmps118
      go_wp2_with fail
      refine bodyPost_ret (v := .tuple #[hdV (⟨#[]⟩, ⟨#[]⟩), .bool false]) (by simp [results, Tryd.results118, go_sem]) rfl ⟨rfl, ?_⟩
      (repeat (first | exact hb0 | (refine Below.setCell ?_ (by first | omega | (simp; omega) | simp) _)))
end Go.Proofs.YtlkieeindnpidaaDoor.Tt
