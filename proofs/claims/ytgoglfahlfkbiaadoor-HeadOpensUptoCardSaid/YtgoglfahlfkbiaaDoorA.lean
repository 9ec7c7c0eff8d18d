/-
  CONTRACTS: names.
-/
import Derived.Test.YtgoglfahlfkbiaaDoorSh
import Derived.Test.YtgoglfahlfkbiaaDoorH
import Derived.LoopTactic
namespace Go.Proofs.YtgoglfahlfkbiaaDoor
open Go.RowKit Tt

theorem idxByte_any (s : ByteArray) (c : UInt8) (w : World) : Calls Tryd.prog 57 #[.string s, .int .u8 (c.toNat : Int)] w fun e w' => e = .returned (.int .i64 (Lib.indexByte s.data.toList c)) ∧ w = w' := by
  have h := Any.strings_IndexByte Tryd.lays137 s (c.toNat : Int) w
  rw [show ((c.toNat : Int)).toNat.toUInt8 = c by simp] at h
  refine Calls.mono (show Calls Tryd.prog 57 _ _ _ from h) ?_
  rintro e w' ⟨h1, h2⟩
  exact ⟨h1, h2.symm⟩
def digitB (c : UInt8) : Bool := decide (48 ≤ c.toNat ∧ c.toNat ≤ 57)
def signsA : ByteArray := ⟨#[33, 35, 36, 37, 38, 39, 42, 43, 45, 46, 94, 95, 96, 124, 126]⟩
def namedB (c : UInt8) : Bool := decide (97 ≤ c.toNat ∧ c.toNat ≤ 122) || (digitB c || signsA.data.toList.contains c)
/-- A header's name. -/
def nameB (s : ByteArray) : Bool := s.data.toList.all namedB && !s.toList.isEmpty
theorem digit_any (c : UInt8) (w : World) : Calls Tryd.prog 56 #[.int .u8 (c.toNat : Int)] w fun e w' => e = .returned (.bool (digitB c)) ∧ w = w' := by
  have hc := c.toNat_lt
  unfold digitB
  generalize c.toNat = x at hc
  by_cases h0 : 48 ≤ x
  · by_cases h1 : x ≤ 57
    · have i0 : (48 : Int) ≤ (x : Int) := by omega
      have i1 : (x : Int) ≤ 57 := by omega
      go_enter Tryd.func56, Tryd.ntmps56
      go_wp2
      go_ret
      exact ⟨by simp [h0, h1], rfl⟩
    · have i0 : (48 : Int) ≤ (x : Int) := by omega
      have i1 : decide ((x : Int) ≤ 57) = false := decide_eq_false (by omega)
      go_enter Tryd.func56, Tryd.ntmps56
      go_wp2
      go_ret
      exact ⟨by simp [h0, h1], rfl⟩
  · have i0 : decide ((48 : Int) ≤ (x : Int)) = false := decide_eq_false (by omega)
    go_enter Tryd.func56, Tryd.ntmps56
    go_wp2
    go_ret
    exact ⟨by simp [h0], rfl⟩
set_option maxHeartbeats 1000000 in
theorem named_any (c : UInt8) (w : World) : Calls Tryd.prog 42 #[.int .u8 (c.toNat : Int)] w fun e w' => e = .returned (.bool (namedB c)) ∧ w = w' := by
  have hc := c.toNat_lt
  have HD := Lib.hid (fun W => digit_any c W)
  have HI := Lib.hid (fun W => idxByte_any signsA c W)
  have HCT := Lib.hid (Lib.contains_iff_indexByte signsA.data.toList c)
  by_cases h0 : 97 ≤ c.toNat ∧ c.toNat ≤ 122
  · have hN : namedB c = true := by unfold namedB; simp [h0]
    rw [hN]
    obtain ⟨h0, h1⟩ := h0
    generalize c.toNat = x at *
    have i0 : (97 : Int) ≤ (x : Int) := by omega
    have i1 : (x : Int) ≤ 122 := by omega
    clear hN h0 h1
    go_enter Tryd.func42, Tryd.ntmps42
    go_wp2
    go_ret
    exact ⟨rfl, rfl⟩
  · have hN : namedB c = (digitB c || signsA.data.toList.contains c) := by unfold namedB; rw [decide_eq_false h0, Bool.false_or]
    rw [hN]
    have hne : decide ((97 : Int) ≤ (c.toNat : Int)) = false ∨ (decide ((97 : Int) ≤ (c.toNat : Int)) = true ∧ decide ((c.toNat : Int) ≤ 122) = false) := by
      by_cases h1 : 97 ≤ c.toNat
      · exact Or.inr ⟨decide_eq_true (by omega), decide_eq_false (by omega)⟩
      · exact Or.inl (decide_eq_false (by omega))
    rw [HCT.out]
    clear hN h0
    generalize digitB c = d at HD ⊢
    generalize Lib.indexByte signsA.data.toList c = q at HI ⊢
    generalize (c.toNat : Int) = x at HD HI hne hc ⊢
    unfold signsA at HI
    cases d with
    | true =>
      rcases hne with h1 | ⟨h1, h2⟩
      all_goals go_enter Tryd.func42, Tryd.ntmps42
      all_goals go_wp2_with fail
      all_goals refine (HD.out _).mono ?_
      all_goals rintro e w' ⟨rfl, rfl⟩
      all_goals go_wp2_with fail
      all_goals go_ret
      all_goals exact ⟨rfl, rfl⟩
    | false =>
      rcases hne with h1 | ⟨h1, h2⟩
      all_goals go_enter Tryd.func42, Tryd.ntmps42
      all_goals go_wp2_with fail
      all_goals refine (HD.out _).mono ?_
      all_goals rintro e w' ⟨rfl, rfl⟩
      all_goals go_wp2_with fail
      all_goals refine (HI.out _).mono ?_
      all_goals rintro e w' ⟨rfl, rfl⟩
      all_goals go_wp2_with fail
      all_goals go_ret
      all_goals exact ⟨by simp, rfl⟩
theorem all_of {s : ByteArray} {k : Nat} (h : ∀ i (h : i < s.size), i < k → namedB s[i] = true) (hk : s.size ≤ k) : s.data.toList.all namedB = true := by
  rw [List.all_eq_true]
  intro x hx
  obtain ⟨i, hi, rfl⟩ := List.mem_iff_getElem.1 hx
  have hi' : i < s.size := by simpa using hi
  have := h i hi' (by omega)
  simpa [ByteArray.getElem_eq_getElem_data] using this
theorem not_all {s : ByteArray} {k : Nat} (hk : k < s.size) (h : namedB s[k] = false) : s.data.toList.all namedB = false := by
  rw [List.all_eq_false]
  exact ⟨s[k], by simp [ByteArray.getElem_eq_getElem_data], by simp [h]⟩
set_option maxHeartbeats 1000000 in
theorem name_any (s : ByteArray) (w : World) (hs : s.size ≤ 140737488355328) : Calls Tryd.prog 23 #[.string s] w fun e w' => e = .returned (.bool (nameB s)) ∧ w = w' := by
  go_enter Tryd.func23, Tryd.ntmps23
  go_wp2_with fail
  go_loop [3, 6] (fun _ s6 => ∃ k : Nat, s6 = .int .i64 (k : Int) ∧ k ≤ s.size ∧ Hid (∀ i (h : i < s.size), i < k → namedB s[i] = true)) (fun _ s6 => s.size - (intOf s6).toNat)
  case atStart => exact ⟨0, rfl, Nat.zero_le _, Lib.hid fun i _ h => by omega⟩
  case round =>
    obtain ⟨k, rfl, hk, HA⟩ := hrel
    by_cases hlt : k < s.size
    · have HN := Lib.hid (fun W => named_any s[k] W)
      cases hb : namedB s[k] with
      | true =>
        have HB := Lib.hid hb
        rw [hb] at HN
        clear hb
        go_wp2_with fail
        refine (HN.out _).mono ?_
        rintro e w' ⟨rfl, rfl⟩
        go_wp2_with fail
        go_round
        case rel => exact ⟨k + 1, by go_num, by omega, Lib.hid fun i hi h => by
          by_cases hik : i < k
          · exact HA.out i hi hik
          · obtain rfl : i = k := by omega
            exact HB.out⟩
        case measure => simp [intOf]; omega
      | false =>
        have HF : Hid (nameB s = false) := Lib.hid (by unfold nameB; rw [not_all hlt hb]; rfl)
        rw [hb] at HN
        clear hb
        go_wp2_with fail
        refine (HN.out _).mono ?_
        rintro e w' ⟨rfl, rfl⟩
        go_wp2_with fail
        go_ret
        exact ⟨by rw [HF.out]; rfl, rfl⟩
    · obtain rfl : k = s.size := by omega
      have HF : Hid (nameB s = !s.toList.isEmpty) := Lib.hid (by unfold nameB; rw [all_of HA.out (Nat.le_refl _), Bool.true_and])
      go_wp2_with fail
      all_goals go_ret
      all_goals exact ⟨by rw [HF.out]; simp_all, rfl⟩
end Go.Proofs.YtgoglfahlfkbiaaDoor
