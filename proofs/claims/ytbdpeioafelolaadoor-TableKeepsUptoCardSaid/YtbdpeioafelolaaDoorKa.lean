/-
  THE LAW TableKeeps: what Find says of a header that the table holds.
-/
import Derived.Test.YtbdpeioafelolaaDoorU
namespace Go.Proofs.YtbdpeioafelolaaDoor
open Go.RowKit

/-- A header that the table holds is found, and not behind its own place. -/
theorem fnd_nth (M : List Hd) (k : Nat) (h : k < M.length) : (fnd (nth M k).1 (nth M k).2 (allL M)).2 = true ∧ (fnd (nth M k).1 (nth M k).2 (allL M)).1 ≤ 62 + k := by
  obtain ⟨t, ht⟩ := tabU_pre M (k := k + 1) (by omega)
  rw [tabU_succ, ← List.append_assoc] at ht
  have hx : hit (nth M k).1 (nth M k).2 (62 + k, nth M k) = true := by simp [hit]
  have hs : ((stU 61 ++ tabU M k ++ [(62 + k, nth M k)]).find? (hit (nth M k).1 (nth M k).2)).isSome = true := by
    rw [List.find?_isSome]
    exact ⟨_, by simp, hx⟩
  obtain ⟨y, hy⟩ := Option.isSome_iff_exists.1 hs
  have hm := List.mem_of_find?_eq_some hy
  have hy1 : y.1 ≤ 62 + k := by
    simp only [stU, tabU, List.mem_append, List.mem_map, List.mem_range, List.mem_singleton] at hm
    rcases hm with (⟨n, hn, rfl⟩ | ⟨n, hn, rfl⟩) | rfl
    · show n + 1 ≤ 62 + k; omega
    · show 62 + n ≤ 62 + k; omega
    · exact Nat.le_refl _
  have hf : fnd (nth M k).1 (nth M k).2 (allL M) = (y.1, true) := by
    unfold fnd
    rw [← ht, List.find?_append, hy]
    rfl
  rw [hf]
  exact ⟨rfl, hy1⟩
theorem shr_sub (x : Nat) : ∀ M : List Hd, ∃ P, M = P ++ shr x M
  | [] => ⟨[], rfl⟩
  | h :: t => by
    rw [shr]
    split
    · obtain ⟨P, hP⟩ := shr_sub x t
      exact ⟨h :: P, by rw [List.cons_append, ← hP]⟩
    · exact ⟨[], rfl⟩
theorem addM_len (m : Nat) (M : List Hd) (h : Hd) : (addM m M h).length ≤ M.length + 1 := by
  unfold addM
  split
  · have := (shr_le (m - sizeH h) M).2.2
    simp; omega
  · simp
/-- The newest of what an Add leaves. -/
theorem addM_first (m : Nat) (M : List Hd) (h : Hd) (hh : sizeH h ≤ m) : getM (addM m M h) 62 = some h := by
  unfold addM getM
  rw [if_pos hh, if_neg (by omega), if_pos (by first | (simp; done) | (simp; omega))]
  simp [nth, List.getD_eq_getElem?_getD]
theorem addM_none (m : Nat) (M : List Hd) (h : Hd) (hh : ¬ sizeH h ≤ m) : getM (addM m M h) 62 = none := by
  unfold addM getM
  rw [if_neg hh, if_neg (by omega), if_neg (by simp)]
/-- The Sizes of the newest k. -/
def nsum (M : List Hd) (k : Nat) : Nat := total (M.drop (M.length - k))
theorem nsum_zero (M : List Hd) : nsum M 0 = 0 := by simp [nsum, total]
theorem nsum_succ (M : List Hd) (k : Nat) (h : k < M.length) : nsum M (k + 1) = nsum M k + sizeH (nth M k) := by
  unfold nsum nth
  have e : M.length - k = (M.length - (k + 1)) + 1 := by omega
  rw [e, List.drop_eq_getElem_cons (i := M.length - (k + 1)) (by omega), total, List.getD_eq_getElem?_getD, List.getElem?_eq_getElem (by omega)]
  simp only [Option.getD_some]
  have e2 : ∀ (j : Nat) (hj : j < M.length), j = M.length - (k + 1) → M[j] = M[M.length - (k + 1)]'(by omega) := fun j hj e => by subst e; rfl
  rw [e2 (M.length - 1 - k) (by omega) (by omega)]
  omega
theorem nsum_all (M : List Hd) : nsum M M.length = total M := by simp [nsum]
theorem nsum_le (M : List Hd) (k : Nat) : nsum M k ≤ total M := by
  unfold nsum
  have h := total_app (M.take (M.length - k)) (M.drop (M.length - k))
  rw [List.take_append_drop] at h
  omega
theorem nth_size (M : List Hd) (k : Nat) (h : k < M.length) : sizeH (nth M k) ≤ total M := by
  have h1 := nsum_succ M k h
  have h2 := nsum_le M (k + 1)
  omega
theorem getM_at (M : List Hd) (k : Nat) (h : k < M.length) : getM M (62 + (k : Int)) = some (nth M k) := by
  unfold getM
  rw [if_neg (by omega), if_pos (by omega)]
  congr 2
  omega
theorem getM_past (M : List Hd) : getM M (62 + (M.length : Int)) = none := by
  unfold getM
  rw [if_neg (by omega), if_neg (by omega)]
end Go.Proofs.YtbdpeioafelolaaDoor
