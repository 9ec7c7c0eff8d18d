/-
  THE DOCUMENT's TABLE: Get.
-/
import Derived.Test.YtbdpeioafelolaaDoorX
namespace Go.Proofs.YtbdpeioafelolaaDoor
open Go.RowKit

theorem nth_rev {M : List Hd} {n : Nat} (h : n < M.reverse.length) : M.reverse[n] = nth M n := by
  have h' : n < M.length := by simpa using h
  unfold nth
  rw [List.getElem_reverse, List.getD_eq_getElem?_getD, List.getElem?_eq_getElem (by omega)]
  simp
/-- The document's Static at any index. -/
theorem staticr_any (M : List Hd) (i : Int) (hi : i < 62 ∨ (M.length : Int) ≤ i - 62) (W : World) : Calls Tryd.prog 21 #[.int .i64 i] W fun e w' => e = .returned (hdO (getM M i)) ∧ Below W.heap.size W w' := by
  by_cases h1 : 1 ≤ i ∧ i < 62
  · obtain ⟨j, rfl⟩ : ∃ j : Nat, i = (j : Int) := ⟨i.toNat, by omega⟩
    have := staticr_yes j (by omega) (by omega) W
    have e : getM M (j : Int) = some (stH (j - 1)) := by
      unfold getM; rw [if_pos (by omega)]
      congr 2
      omega
    rw [e]
    exact this
  · have := staticr_no i (by omega) W
    have e : getM M i = none := by unfold getM; rw [if_neg (by omega), if_neg (by omega)]
    rw [e]
    exact this
set_option maxRecDepth 100000 in
set_option maxHeartbeats 4000000 in
theorem dget_any (x m : Nat) (i : Int) (M : List Hd) (w : World) (hd : Dt w x M.reverse m) (hlm : M.length ≤ 1000) (hi : -9223372036854775808 ≤ i ∧ i ≤ 9223372036854775807) :
    Calls Tryd.prog 34 #[.pointer (some ⟨x, 0, none⟩), .int .i64 i] w fun e w' => e = .returned (hdO (getM M i)) ∧ Below w.heap.size w w' := by
  have hlt := hd.lt
  have hb0 : Below w.heap.size w (w.alloc (.cells #[.string ⟨#[]⟩, .string ⟨#[]⟩, .bool false] 34)) := (Below.refl _ w).alloc (Nat.le_refl _) _
  have hd0 := hd.below hb0
  have HP : Hid (∀ (w1 : World), Below (w.alloc (.cells #[.string ⟨#[]⟩, .string ⟨#[]⟩, .bool false] 34)).heap.size (w.alloc (.cells #[.string ⟨#[]⟩, .string ⟨#[]⟩, .bool false] 34)) w1 →
      w1.cell? ⟨w.heap.size, 0, none⟩ = some (.string ⟨#[]⟩) ∧ w1.cell? ⟨w.heap.size, 1, none⟩ = some (.string ⟨#[]⟩) ∧ w1.cell? ⟨w.heap.size, 2, none⟩ = some (.bool false) ∧ (∀ i, w1.frozen? ⟨w.heap.size, i, none⟩ = false) ∧ w.heap.size < w1.heap.size ∧ Below w.heap.size w w1) := Lib.hid (fun w1 hb1 => by
    have hz1 := hb1.size
    simp only [World.size_alloc] at hz1
    exact ⟨(hb1.cell (p := ⟨w.heap.size, 0, none⟩) (by simp)).trans (by simp), (hb1.cell (p := ⟨w.heap.size, 1, none⟩) (by simp)).trans (by simp), (hb1.cell (p := ⟨w.heap.size, 2, none⟩) (by simp)).trans (by simp),
      fun i => (hb1.frozen (p := ⟨w.heap.size, i, none⟩) (by simp)).trans (by simp), by omega, hb0.trans (hb1.mono (by simp))⟩)
  obtain ⟨a, c, q0, how⟩ := hd0.row
  have hrl : M.reverse.length = M.length := by simp
  by_cases h62 : i < 62
  · have HST := Lib.hid (staticr_any M i (Or.inl h62))
    unfold hdO at HST ⊢
    generalize (getM M i).getD (⟨#[]⟩, ⟨#[]⟩) = g at HST ⊢
    generalize (getM M i).isSome = y at HST ⊢
    have hlt62 : decide ((62 : Int) ≤ i) = false := by simp; omega
    clear hd hd0 how
    go_enter Tryd.func34, Tryd.ntmps34
    go_wp2_with fail
    refine (HST.out _).mono ?_
    rintro e w1 ⟨rfl, hb1⟩
    obtain ⟨k0, k1, k2, kf, hlt1, hB⟩ := HP.out w1 hb1
    go_wp2_with fail
    refine bodyPost_ret (v := .tuple #[hdV g, .bool y]) (by simp [results, Tryd.results34, go_sem, k0, k1, k2, kf, hlt1]) rfl ⟨rfl, ?_⟩
    exact below_box hB (Nat.le_refl _)
  · obtain ⟨n, rfl⟩ : ∃ n : Nat, i = (n : Int) + 62 := ⟨(i - 62).toNat, by omega⟩
    by_cases hn : n < M.length
    · have e : getM M ((n : Int) + 62) = some (nth M n) := by unfold getM; rw [if_neg (by omega), if_pos (by omega)]; simp
      rw [e]
      obtain ⟨a', c', e', HS⟩ := how.hs
      cases e'
      obtain ⟨b, o, rfl, e0, e1, e2⟩ := HS.row n (by rw [hrl]; exact hn)
      rw [nth_rev] at e0 e1
      generalize nth M n = g at e0 e1 ⊢
      rw [hrl] at q0
      generalize M.length = k at hn hlm q0 hrl
      have hna : (0 : Int) ≤ (n : Int) := by omega
      have hnb : (n : Int) < (k : Int) := by omega
      obtain ⟨k0, k1, k2, kf, hlt1, hB⟩ := HP.out _ (Below.refl _ _)
      clear hd hd0 how HS e h62
      go_enter Tryd.func34, Tryd.ntmps34
      go_wp2_with fail
      refine bodyPost_ret (v := .tuple #[hdV g, .bool true]) (by simp [results, Tryd.results34, go_sem, k0, k1, k2, kf, hlt1]) rfl ⟨rfl, ?_⟩
      exact (Below.refl _ w).alloc (Nat.le_refl _) _
    · have HST := Lib.hid (staticr_any M ((n : Int) + 62) (Or.inr (by omega)))
      unfold hdO at HST ⊢
      generalize (getM M ((n : Int) + 62)).getD (⟨#[]⟩, ⟨#[]⟩) = g at HST ⊢
      generalize (getM M ((n : Int) + 62)).isSome = y at HST ⊢
      rw [hrl] at q0
      generalize M.length = k at hn hlm q0 hrl
      have hnb : ¬ (n : Int) < (k : Int) := by omega
      clear hd hd0 how h62
      go_enter Tryd.func34, Tryd.ntmps34
      go_wp2_with fail
      refine (HST.out _).mono ?_
      rintro e w1 ⟨rfl, hb1⟩
      obtain ⟨k0, k1, k2, kf, hlt1, hB⟩ := HP.out w1 hb1
      go_wp2_with fail
      refine bodyPost_ret (v := .tuple #[hdV g, .bool y]) (by simp [results, Tryd.results34, go_sem, k0, k1, k2, kf, hlt1]) rfl ⟨rfl, ?_⟩
      exact below_box hB (Nat.le_refl _)
end Go.Proofs.YtbdpeioafelolaaDoor
