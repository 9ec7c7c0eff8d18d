/-
  PLAIN: a list with one header more.
-/
import Derived.Test.YtgoglfahlfkbiaaDoorY
namespace Go.Proofs.YtgoglfahlfkbiaaDoor
open Go.RowKit Tt

theorem trailB_snoc (L : List Hn) (h : Hn) : trailB (L ++ [h]) = (trailB L && plainB h.1) := by
  unfold trailB
  rw [List.all_append]
  simp
theorem colon_no {x : Hd} (h : pre1 58 x.1 = true) : plainB x = false := by
  unfold plainB nameB
  unfold pre1 Lib.hasPrefix at h
  cases hl : x.1.data.toList with
  | nil => rw [hl] at h; simp at h
  | cons c l =>
    rw [hl] at h
    have hc : (58 : UInt8) = c := by simpa using h
    subst hc
    have e : namedB 58 = false := by decide
    simp [e]
/-- A name that was seen. -/
def sn (l : List ByteArray) (m : List UInt8) : Bool := l.any fun y => decide (y.data.toList = m)
theorem sn_snoc (l : List ByteArray) (x : ByteArray) (m : List UInt8) : sn (l ++ [x]) m = (sn l m || decide (x.data.toList = m)) := by
  unfold sn
  rw [List.any_append]
  simp
def cnt (l : List ByteArray) : Nat := (sn l mL).toNat + (sn l sL).toNat + (sn l aL).toNat + (sn l pL).toNat
theorem cnt_le (l : List ByteArray) : cnt l ≤ 4 := by
  unfold cnt
  have := Bool.toNat_le (sn l mL)
  have := Bool.toNat_le (sn l sL)
  have := Bool.toNat_le (sn l aL)
  have := Bool.toNat_le (sn l pL)
  omega
theorem cnt_snoc (l : List ByteArray) (x : ByteArray) (hm : markB x = true) (hs : seenB l x = false) : cnt (l ++ [x]) = cnt l + 1 := by
  have d1 : mL ≠ sL := by decide
  have d2 : mL ≠ aL := by decide
  have d3 : mL ≠ pL := by decide
  have d4 : sL ≠ aL := by decide
  have d5 : sL ≠ pL := by decide
  have d6 : aL ≠ pL := by decide
  have hs' : sn l x.data.toList = false := hs
  have hm' : x.data.toList = mL ∨ x.data.toList = sL ∨ x.data.toList = aL ∨ x.data.toList = pL := by
    unfold markB at hm
    simp only [Bool.or_eq_true, decide_eq_true_eq] at hm
    rcases hm with ((h | h) | h) | h
    · exact Or.inl h
    · exact Or.inr (Or.inl h)
    · exact Or.inr (Or.inr (Or.inl h))
    · exact Or.inr (Or.inr (Or.inr h))
  unfold cnt
  simp only [sn_snoc]
  rcases hm' with h | h | h | h <;> rw [h] at hs' ⊢ <;> simp [hs', d1, d2, d3, d4, d5, d6, Ne.symm d1, Ne.symm d2, Ne.symm d3, Ne.symm d4, Ne.symm d5, Ne.symm d6] <;> omega
theorem takeR_cnt : ∀ (L : List Hn) (S S' : SR), takeR S L = some (S', []) → cnt S'.2 = cnt S.2 + L.length
  | [], S, S', h => by
    simp only [takeR, Option.some.injEq, Prod.mk.injEq] at h
    rw [← h.1]
    rfl
  | C :: T, S, S', h => by
    simp only [takeR] at h
    split at h
    · split at h
      · rename_i hc
        have ih := takeR_cnt T _ _ h
        obtain ⟨h1, _⟩ := hc
        rw [Bool.and_eq_true] at h1
        have h2 : cnt (stR S C.1.1 C.1.2).2 = cnt S.2 + 1 := cnt_snoc S.2 C.1.1 h1.1 (by simpa using h1.2)
        rw [ih, h2]
        simp only [List.length_cons]
        omega
      · cases h
    · simp at h
theorem takeR_snoc (g : Hn) : ∀ (L : List Hn) (S S' : SR) (R : List Hn), takeR S L = some (S', R) → takeR S (L ++ [g]) = if R = [] then takeR S' [g] else some (S', R ++ [g])
  | [], S, S', R, h => by
    simp only [takeR, Option.some.injEq, Prod.mk.injEq] at h
    obtain ⟨rfl, rfl⟩ := h
    simp
  | C :: T, S, S', R, h => by
    simp only [takeR] at h
    rw [List.cons_append]
    rw [takeR]
    split at h
    · rename_i hp
      rw [if_pos hp]
      split at h
      · rename_i hc
        rw [if_pos hc]
        exact takeR_snoc g T _ _ _ h
      · cases h
    · rename_i hp
      rw [if_neg hp]
      simp only [Option.some.injEq, Prod.mk.injEq] at h
      obtain ⟨rfl, rfl⟩ := h
      simp
theorem openR_snoc {L : List Hn} (g : Hn) (ho : (openR L).isSome = true) : (openR (L ++ [g])).isSome = plainB g.1 ∨ (pre1 58 g.1.1 = true ∧ L.length ≤ 4) := by
  unfold openR at ho ⊢
  cases hT : takeR (q0, []) L with
  | none => rw [hT] at ho; cases ho
  | some SR =>
    obtain ⟨S, R⟩ := SR
    rw [hT] at ho
    simp only at ho
    split at ho
    · rename_i hc
      obtain ⟨h1, h2⟩ := hc
      rw [takeR_snoc g L _ _ _ hT]
      by_cases hR : R = []
      · subst hR
        rw [if_pos rfl]
        by_cases hp : pre1 58 g.1.1 = true
        · refine Or.inr ⟨hp, ?_⟩
          have hc1 := takeR_cnt L _ _ hT
          have hc2 := cnt_le S.2
          have hc3 : cnt ((q0, []) : SR).2 = 0 := by decide
          omega
        · left
          have e : takeR S [g] = some (S, [g]) := by
            rw [takeR, if_neg hp]
          rw [e]
          have e2 : trailB [g] = plainB g.1 := by simp [trailB]
          simp only [e2]
          cases hb : plainB g.1 with
          | true => rw [if_pos ⟨rfl, h2⟩]; rfl
          | false => rw [if_neg (by rintro ⟨h, _⟩; cases h)]; rfl
      · left
        rw [if_neg hR]
        simp only [trailB_snoc, h1, Bool.true_and]
        cases hb : plainB g.1 with
        | true => rw [if_pos ⟨rfl, h2⟩]; rfl
        | false => rw [if_neg (by rintro ⟨h, _⟩; cases h)]; rfl
    · cases ho
theorem takeA_seen : ∀ (L : List Hn) (S S' : SA) (R : List Hn), takeA S L = some (S', R) → (S.1 = 0 ∨ sn S.2 stL = true) → (S'.1 = 0 ∨ sn S'.2 stL = true)
  | [], S, S', R, h, hs => by
    simp only [takeA, Option.some.injEq, Prod.mk.injEq] at h
    rw [← h.1]
    exact hs
  | C :: T, S, S', R, h, hs => by
    simp only [takeA] at h
    split at h
    · split at h
      · rename_i hc
        obtain ⟨h1, _⟩ := hc
        rw [Bool.and_eq_true] at h1
        refine takeA_seen T _ _ _ h (Or.inr ?_)
        show sn (S.2 ++ [C.1.1]) stL = true
        rw [sn_snoc, h1.1, Bool.or_true]
      · cases h
    · simp only [Option.some.injEq, Prod.mk.injEq] at h
      rw [← h.1]
      exact hs
theorem takeA_snoc (g : Hn) : ∀ (L : List Hn) (S S' : SA) (R : List Hn), takeA S L = some (S', R) → takeA S (L ++ [g]) = if R = [] then takeA S' [g] else some (S', R ++ [g])
  | [], S, S', R, h => by
    simp only [takeA, Option.some.injEq, Prod.mk.injEq] at h
    obtain ⟨rfl, rfl⟩ := h
    simp
  | C :: T, S, S', R, h => by
    simp only [takeA] at h
    rw [List.cons_append]
    rw [takeA]
    split at h
    · rename_i hp
      rw [if_pos hp]
      split at h
      · rename_i hc
        rw [if_pos hc]
        exact takeA_snoc g T _ _ _ h
      · cases h
    · rename_i hp
      rw [if_neg hp]
      simp only [Option.some.injEq, Prod.mk.injEq] at h
      obtain ⟨rfl, rfl⟩ := h
      simp
theorem openA_snoc {L : List Hn} (g : Hn) (ho : (openA L).isSome = true) : (openA (L ++ [g])).isSome = plainB g.1 := by
  unfold openA at ho ⊢
  cases hT : takeA (0, []) L with
  | none => rw [hT] at ho; cases ho
  | some SR =>
    obtain ⟨S, R⟩ := SR
    rw [hT] at ho
    simp only at ho
    split at ho
    · rename_i hc
      obtain ⟨h1, h2⟩ := hc
      rw [takeA_snoc g L _ _ _ hT]
      by_cases hR : R = []
      · subst hR
        rw [if_pos rfl]
        by_cases hp : pre1 58 g.1.1 = true
        · have hs : sn S.2 stL = true := by
            rcases takeA_seen L _ _ _ hT (Or.inl rfl) with h | h
            · exact absurd h h2
            · exact h
          have e : takeA S [g] = none := by
            rw [takeA, if_pos hp, if_neg]
            rintro ⟨h, _⟩
            rw [Bool.and_eq_true] at h
            have hn : g.1.1.data.toList = stL := of_decide_eq_true h.1
            have hv : sn S.2 g.1.1.data.toList = false := by
              have := h.2
              simpa [seenB, sn] using this
            rw [hn, hs] at hv
            cases hv
          rw [e, colon_no hp]
          rfl
        · have e : takeA S [g] = some (S, [g]) := by
            rw [takeA, if_neg hp]
          rw [e]
          have e2 : trailB [g] = plainB g.1 := by simp [trailB]
          simp only [e2]
          cases hb : plainB g.1 with
          | true => rw [if_pos ⟨rfl, h2⟩]; rfl
          | false => rw [if_neg (by rintro ⟨h, _⟩; cases h)]; rfl
      · rw [if_neg hR]
        simp only [trailB_snoc, h1, Bool.true_and]
        cases hb : plainB g.1 with
        | true => rw [if_pos ⟨rfl, h2⟩]; rfl
        | false => rw [if_neg (by rintro ⟨h, _⟩; cases h)]; rfl
    · cases ho
end Go.Proofs.YtgoglfahlfkbiaaDoor
