/-
  PLAIN: a list with two headers swapped, with one left out.
-/
import Derived.Test.YtgoglfahlfkbiaaDoorZ
namespace Go.Proofs.YtgoglfahlfkbiaaDoor
open Go.RowKit Tt

theorem takeR_split : ∀ (L : List Hn) (S S' : SR) (R : List Hn), takeR S L = some (S', R) → ∃ C, L = C ++ R ∧ takeR S C = some (S', []) ∧ ∀ x ∈ C, pre1 58 x.1.1 = true
  | [], S, S', R, h => by
    simp only [takeR, Option.some.injEq, Prod.mk.injEq] at h
    obtain ⟨rfl, rfl⟩ := h
    exact ⟨[], rfl, rfl, fun x hx => by cases hx⟩
  | g :: T, S, S', R, h => by
    simp only [takeR] at h
    split at h
    · rename_i hp
      split at h
      · rename_i hc
        obtain ⟨C, h1, h2, h3⟩ := takeR_split T _ _ _ h
        refine ⟨g :: C, by rw [h1]; rfl, by rw [takeR, if_pos hp, if_pos hc]; exact h2, fun x hx => ?_⟩
        rcases List.mem_cons.1 hx with rfl | hx
        · exact hp
        · exact h3 x hx
      · cases h
    · rename_i hp
      simp only [Option.some.injEq, Prod.mk.injEq] at h
      obtain ⟨rfl, rfl⟩ := h
      exact ⟨[], rfl, rfl, fun x hx => by cases hx⟩
theorem takeR_app {R : List Hn} (hR : ∀ x ∈ R, pre1 58 x.1.1 = false) : ∀ (C : List Hn) (S S' : SR), takeR S C = some (S', []) → takeR S (C ++ R) = some (S', R)
  | [], S, S', h => by
    simp only [takeR, Option.some.injEq, Prod.mk.injEq] at h
    obtain ⟨rfl, _⟩ := h
    cases R with
    | nil => rfl
    | cons x R =>
      rw [List.nil_append, takeR, if_neg (by rw [hR x (by simp)]; simp)]
  | g :: T, S, S', h => by
    simp only [takeR] at h
    rw [List.cons_append, takeR]
    split at h
    · rename_i hp
      rw [if_pos hp]
      split at h
      · rename_i hc
        rw [if_pos hc]
        exact takeR_app hR T _ _ h
      · cases h
    · simp at h
theorem takeA_split : ∀ (L : List Hn) (S S' : SA) (R : List Hn), takeA S L = some (S', R) → ∃ C, L = C ++ R ∧ takeA S C = some (S', []) ∧ ∀ x ∈ C, pre1 58 x.1.1 = true
  | [], S, S', R, h => by
    simp only [takeA, Option.some.injEq, Prod.mk.injEq] at h
    obtain ⟨rfl, rfl⟩ := h
    exact ⟨[], rfl, rfl, fun x hx => by cases hx⟩
  | g :: T, S, S', R, h => by
    simp only [takeA] at h
    split at h
    · rename_i hp
      split at h
      · rename_i hc
        obtain ⟨C, h1, h2, h3⟩ := takeA_split T _ _ _ h
        refine ⟨g :: C, by rw [h1]; rfl, by rw [takeA, if_pos hp, if_pos hc]; exact h2, fun x hx => ?_⟩
        rcases List.mem_cons.1 hx with rfl | hx
        · exact hp
        · exact h3 x hx
      · cases h
    · rename_i hp
      simp only [Option.some.injEq, Prod.mk.injEq] at h
      obtain ⟨rfl, rfl⟩ := h
      exact ⟨[], rfl, rfl, fun x hx => by cases hx⟩
theorem takeA_app {R : List Hn} (hR : ∀ x ∈ R, pre1 58 x.1.1 = false) : ∀ (C : List Hn) (S S' : SA), takeA S C = some (S', []) → takeA S (C ++ R) = some (S', R)
  | [], S, S', h => by
    simp only [takeA, Option.some.injEq, Prod.mk.injEq] at h
    obtain ⟨rfl, _⟩ := h
    cases R with
    | nil => rfl
    | cons x R =>
      rw [List.nil_append, takeA, if_neg (by rw [hR x (by simp)]; simp)]
  | g :: T, S, S', h => by
    simp only [takeA] at h
    rw [List.cons_append, takeA]
    split at h
    · rename_i hp
      rw [if_pos hp]
      split at h
      · rename_i hc
        rw [if_pos hc]
        exact takeA_app hR T _ _ h
      · cases h
    · simp at h
theorem trailB_sub {R R' : List Hn} (h : trailB R = true) (hs : ∀ x ∈ R', x ∈ R) : trailB R' = true := by
  unfold trailB at h ⊢
  rw [List.all_eq_true] at h ⊢
  exact fun x hx => h x (hs x hx)
theorem trail_colon {R : List Hn} (h : trailB R = true) : ∀ x ∈ R, pre1 58 x.1.1 = false := fun x hx => by
  unfold trailB at h
  rw [List.all_eq_true] at h
  have := h x hx
  cases hp : pre1 58 x.1.1 with
  | false => rfl
  | true => rw [colon_no hp] at this; cases this
/-- A list that may be, cut where its plain headers begin: any of them may be taken for the plain ones. -/
theorem openR_cut {L : List Hn} (h : (openR L).isSome = true) : ∃ C R, L = C ++ R ∧ trailB R = true ∧ (∀ x ∈ C, pre1 58 x.1.1 = true) ∧ ∀ R', (∀ x ∈ R', x ∈ R) → (openR (C ++ R')).isSome = true := by
  unfold openR at h
  cases hT : takeR (q0, []) L with
  | none => rw [hT] at h; cases h
  | some SR =>
    obtain ⟨S, R⟩ := SR
    rw [hT] at h
    simp only at h
    split at h
    · rename_i hc
      obtain ⟨h1, h2⟩ := hc
      obtain ⟨C, e1, e2, e3⟩ := takeR_split L _ _ _ hT
      refine ⟨C, R, e1, h1, e3, fun R' hs => ?_⟩
      have ht := trailB_sub h1 hs
      unfold openR
      rw [takeR_app (trail_colon ht) C _ _ e2]
      simp only
      rw [if_pos ⟨ht, h2⟩]
      rfl
    · cases h
theorem openA_cut {L : List Hn} (h : (openA L).isSome = true) : ∃ C R, L = C ++ R ∧ trailB R = true ∧ (∀ x ∈ C, pre1 58 x.1.1 = true) ∧ ∀ R', (∀ x ∈ R', x ∈ R) → (openA (C ++ R')).isSome = true := by
  unfold openA at h
  cases hT : takeA (0, []) L with
  | none => rw [hT] at h; cases h
  | some SR =>
    obtain ⟨S, R⟩ := SR
    rw [hT] at h
    simp only at h
    split at h
    · rename_i hc
      obtain ⟨h1, h2⟩ := hc
      obtain ⟨C, e1, e2, e3⟩ := takeA_split L _ _ _ hT
      refine ⟨C, R, e1, h1, e3, fun R' hs => ?_⟩
      have ht := trailB_sub h1 hs
      unfold openA
      rw [takeA_app (trail_colon ht) C _ _ e2]
      simp only
      rw [if_pos ⟨ht, h2⟩]
      rfl
    · cases h
/-- Two headers swapped. -/
def swp (L : List Hn) (i k : Nat) (hi : i < L.length) (hk : k < L.length) : List Hn := (L.set i L[k]).set k L[i]
theorem mem_swp {L : List Hn} {i k : Nat} {hi : i < L.length} {hk : k < L.length} : ∀ x ∈ swp L i k hi hk, x ∈ L := fun x hx => by
  unfold swp at hx
  rcases List.mem_or_eq_of_mem_set hx with h | h
  · rcases List.mem_or_eq_of_mem_set h with h | h
    · exact h
    · rw [h]; exact List.getElem_mem _
  · rw [h]; exact List.getElem_mem _
theorem swp_len {L : List Hn} {i k : Nat} {hi : i < L.length} {hk : k < L.length} : (swp L i k hi hk).length = L.length := by simp [swp]
theorem swp_get {L : List Hn} {i k : Nat} {hi : i < L.length} {hk : k < L.length} (j : Nat) (hj : j < L.length) : (swp L i k hi hk)[j]'(by rw [swp_len]; exact hj) = if j = k then L[i] else if j = i then L[k] else L[j] := by
  unfold swp
  rw [List.getElem_set]
  by_cases h1 : k = j
  · subst h1; simp
  · rw [if_neg h1, if_neg (Ne.symm h1), List.getElem_set]
    by_cases h2 : i = j
    · subst h2; simp
    · rw [if_neg h2, if_neg (Ne.symm h2)]
theorem swp_swp {L : List Hn} {i k : Nat} {hi : i < L.length} {hk : k < L.length} : swp (swp L i k hi hk) i k (by rw [swp_len]; exact hi) (by rw [swp_len]; exact hk) = L := by
  apply List.ext_getElem
  · rw [swp_len, swp_len]
  · intro j h1 h2
    rw [swp_get j (by rw [swp_len]; exact h2), swp_get j h2, swp_get i hi, swp_get k hk]
    by_cases e1 : j = k
    · subst e1
      by_cases e2 : i = j
      · subst e2; simp
      · simp [e2]
    · by_cases e2 : j = i
      · subst e2; simp [e1]
      · simp [e1, e2]
theorem at_right {C R : List Hn} (hC : ∀ x ∈ C, pre1 58 x.1.1 = true) {i : Nat} (hi : i < (C ++ R).length) (hp : pre1 58 ((C ++ R)[i]).1.1 = false) : C.length ≤ i := by
  rcases Nat.lt_or_ge i C.length with h | h
  · rw [List.getElem_append_left h] at hp
    rw [hC _ (List.getElem_mem _)] at hp
    cases hp
  · exact h
theorem swp_right {C R : List Hn} {i k : Nat} (hi : i < (C ++ R).length) (hk : k < (C ++ R).length) (h1 : C.length ≤ i) (h2 : C.length ≤ k) : ∃ R', swp (C ++ R) i k hi hk = C ++ R' ∧ ∀ x ∈ R', x ∈ R := by
  simp only [List.length_append] at hi hk
  refine ⟨swp R (i - C.length) (k - C.length) (by omega) (by omega), ?_, mem_swp⟩
  unfold swp
  rw [List.set_append_right _ _ h1, List.set_append_right _ _ h2, List.getElem_append_right h1, List.getElem_append_right h2]
theorem erase_right {C R : List Hn} {i : Nat} (h1 : C.length ≤ i) : ∃ R', (C ++ R).eraseIdx i = C ++ R' ∧ ∀ x ∈ R', x ∈ R :=
  ⟨R.eraseIdx (i - C.length), List.eraseIdx_append_of_length_le h1 _, fun _ hx => List.mem_of_mem_eraseIdx hx⟩
theorem openR_swp1 {L : List Hn} {i k : Nat} (hi : i < L.length) (hk : k < L.length) (pi : pre1 58 (L[i]).1.1 = false) (pk : pre1 58 (L[k]).1.1 = false) (h : (openR L).isSome = true) : (openR (swp L i k hi hk)).isSome = true := by
  obtain ⟨C, R, rfl, _, hC, hA⟩ := openR_cut h
  obtain ⟨R', e, hs⟩ := swp_right hi hk (at_right hC hi pi) (at_right hC hk pk)
  rw [e]
  exact hA R' hs
theorem openA_swp1 {L : List Hn} {i k : Nat} (hi : i < L.length) (hk : k < L.length) (pi : pre1 58 (L[i]).1.1 = false) (pk : pre1 58 (L[k]).1.1 = false) (h : (openA L).isSome = true) : (openA (swp L i k hi hk)).isSome = true := by
  obtain ⟨C, R, rfl, _, hC, hA⟩ := openA_cut h
  obtain ⟨R', e, hs⟩ := swp_right hi hk (at_right hC hi pi) (at_right hC hk pk)
  rw [e]
  exact hA R' hs
theorem swp_pre {L : List Hn} {i k : Nat} {hi : i < L.length} {hk : k < L.length} (pi : pre1 58 (L[i]).1.1 = false) (pk : pre1 58 (L[k]).1.1 = false) :
    pre1 58 ((swp L i k hi hk)[i]'(by rw [swp_len]; exact hi)).1.1 = false ∧ pre1 58 ((swp L i k hi hk)[k]'(by rw [swp_len]; exact hk)).1.1 = false := by
  rw [swp_get i hi, swp_get k hk]
  refine ⟨?_, by simpa using pi⟩
  by_cases e : i = k
  · subst e; simpa using pi
  · simpa [e] using pk
theorem openR_swp {L : List Hn} {i k : Nat} (hi : i < L.length) (hk : k < L.length) (pi : pre1 58 (L[i]).1.1 = false) (pk : pre1 58 (L[k]).1.1 = false) : (openR (swp L i k hi hk)).isSome = (openR L).isSome := by
  rw [Bool.eq_iff_iff]
  refine ⟨fun h => ?_, openR_swp1 hi hk pi pk⟩
  have h2 := openR_swp1 (by rw [swp_len]; exact hi) (by rw [swp_len]; exact hk) (swp_pre pi pk).1 (swp_pre pi pk).2 h
  rw [swp_swp] at h2
  exact h2
theorem openA_swp {L : List Hn} {i k : Nat} (hi : i < L.length) (hk : k < L.length) (pi : pre1 58 (L[i]).1.1 = false) (pk : pre1 58 (L[k]).1.1 = false) : (openA (swp L i k hi hk)).isSome = (openA L).isSome := by
  rw [Bool.eq_iff_iff]
  refine ⟨fun h => ?_, openA_swp1 hi hk pi pk⟩
  have h2 := openA_swp1 (by rw [swp_len]; exact hi) (by rw [swp_len]; exact hk) (swp_pre pi pk).1 (swp_pre pi pk).2 h
  rw [swp_swp] at h2
  exact h2
theorem trailB_swp {L : List Hn} {i k : Nat} (hi : i < L.length) (hk : k < L.length) : trailB (swp L i k hi hk) = trailB L := by
  rw [Bool.eq_iff_iff]
  refine ⟨fun h => ?_, fun h => trailB_sub h mem_swp⟩
  refine trailB_sub h fun x hx => ?_
  rw [← swp_swp (L := L) (hi := hi) (hk := hk)] at hx
  exact mem_swp x hx
theorem openR_less {L : List Hn} {i : Nat} (hi : i < L.length) (pi : pre1 58 (L[i]).1.1 = false) (h : (openR L).isSome = true) : (openR (L.eraseIdx i)).isSome = true := by
  obtain ⟨C, R, rfl, _, hC, hA⟩ := openR_cut h
  obtain ⟨R', e, hs⟩ := erase_right (R := R) (at_right hC hi pi)
  rw [e]
  exact hA R' hs
theorem openA_less {L : List Hn} {i : Nat} (hi : i < L.length) (pi : pre1 58 (L[i]).1.1 = false) (h : (openA L).isSome = true) : (openA (L.eraseIdx i)).isSome = true := by
  obtain ⟨C, R, rfl, _, hC, hA⟩ := openA_cut h
  obtain ⟨R', e, hs⟩ := erase_right (R := R) (at_right hC hi pi)
  rw [e]
  exact hA R' hs
theorem trailB_less {L : List Hn} {i : Nat} (h : trailB L = true) : trailB (L.eraseIdx i) = true := trailB_sub h fun _ hx => List.mem_of_mem_eraseIdx hx
end Go.Proofs.YtgoglfahlfkbiaaDoor
