/-
  CONTRACTS: strings.ContainsAny at three ASCII bytes, whatever the text.
-/
import Derived.Test.YtgoglfahlfkbiaaDoorB
import Derived.Lib.OthersKept
namespace Go.Proofs.YtgoglfahlfkbiaaDoor
open Go.RowKit Tt

def brkL : List UInt8 := [0, 10, 13]
/-- What a rune beyond ASCII takes: no byte of it is ASCII. -/
theorem decode_cont (s : ByteArray) (i : Nat) (h : i < s.size) (hi : 128 ≤ (s[i]).toNat) : 1 ≤ (Utf8.decode s i).2 ∧ ∀ j (hj : j < s.size), i ≤ j → j < i + (Utf8.decode s i).2 → 128 ≤ (s[j]).toNat := by
  refine ⟨(decode_high s i h hi).2, ?_⟩
  have key : ∀ k, (decide (i + k < s.size) && (s.get! (i + k)).toNat / 64 == 2) = true → ∀ (hj : i + k < s.size), 128 ≤ (s[i + k]).toNat := fun k hk hj => by
    have e : s.get! (i + k) = s[i + k] := by
      show s.get! (i + k) = _
      simp [ByteArray.get!, getElem!_pos, hj]
      rfl
    rw [e] at hk
    simp at hk
    omega
  have k1 := key 1
  have k2 := key 2
  have k3 := key 3
  have hn : ¬ (s[i]).toNat < 128 := by omega
  intro j hj h1 h2
  by_cases h0 : j = i
  · subst h0
    exact hi
  · simp only [Utf8.decode, get_at s i h, hn, if_false] at h2
    have hcase : (∃ k, j = i + k ∧ 1 ≤ k) := ⟨j - i, by omega, by omega⟩
    obtain ⟨k, rfl, hk⟩ := hcase
    split at h2
    · rename_i hc
      rw [Bool.and_eq_true] at hc
      split at h2
      · obtain rfl : k = 1 := by omega
        exact k1 hc.2 hj
      · omega
    · split at h2
      · rename_i hc
        simp only [Bool.and_eq_true] at hc k1 k2
        split at h2
        · have : k = 1 ∨ k = 2 := by omega
          rcases this with rfl | rfl
          · exact k1 hc.1.2 hj
          · exact k2 hc.2 hj
        · omega
      · split at h2
        · rename_i hc
          simp only [Bool.and_eq_true] at hc k1 k2 k3
          split at h2
          · have : k = 1 ∨ k = 2 ∨ k = 3 := by omega
            rcases this with rfl | rfl | rfl
            · exact k1 hc.1.1.2 hj
            · exact k2 hc.1.2 hj
            · exact k3 hc.2 hj
          · omega
        · omega
/-- A text has a byte that no value may have. -/
def anyBrk (s : ByteArray) : Bool := s.data.toList.any fun c => brkL.contains c
theorem any_yes {s : ByteArray} {i : Nat} (h : i < s.size) (hc : brkL.contains (s[i]) = true) : anyBrk s = true := by
  unfold anyBrk
  rw [List.any_eq_true]
  exact ⟨s[i], by simp [ByteArray.getElem_eq_getElem_data], hc⟩
theorem any_no {s : ByteArray} (h : ∀ j (hj : j < s.size), brkL.contains (s[j]) = false) : anyBrk s = false := by
  unfold anyBrk
  rw [List.any_eq_false]
  intro x hx
  obtain ⟨i, hi, rfl⟩ := List.mem_iff_getElem.1 hx
  have hi' : i < s.size := by simpa using hi
  have := h i hi'
  simpa [ByteArray.getElem_eq_getElem_data] using this
theorem any_lib (s : ByteArray) : decide (0 ≤ Lib.indexAny s.data.toList brkL) = anyBrk s := by
  cases hb : anyBrk s with
  | false =>
    have hno : Lib.NoAny s.data.toList brkL s.data.toList.length := fun j b hj hb' => by
      unfold anyBrk at hb
      rw [List.any_eq_false] at hb
      have := hb b (List.mem_of_getElem? hb')
      simpa using this
    rw [Lib.indexAny_none hno]
    rfl
  | true =>
    unfold anyBrk at hb
    have hex : ∃ i x, Lib.NoAny s.data.toList brkL i ∧ s.data.toList[i]? = some x ∧ brkL.contains x = true := by
      generalize s.data.toList = l at hb
      induction l with
      | nil => cases hb
      | cons c l ih =>
        by_cases hc : brkL.contains c = true
        · exact ⟨0, c, Lib.NoAny.zero _ _, rfl, hc⟩
        · simp only [List.any_cons, hc, Bool.false_or] at hb
          obtain ⟨i, x, h1, h2, h3⟩ := ih hb
          refine ⟨i + 1, x, fun j b hj hjb => ?_, by simpa using h2, h3⟩
          cases j with
          | zero =>
            simp at hjb
            subst hjb
            simpa using hc
          | succ j => exact h1 j b (by omega) (by simpa using hjb)
    obtain ⟨i, x, h1, h2, h3⟩ := hex
    rw [Lib.indexAny_hit h1 h2 h3]
    exact decide_eq_true (by omega)
end Go.Proofs.YtgoglfahlfkbiaaDoor
