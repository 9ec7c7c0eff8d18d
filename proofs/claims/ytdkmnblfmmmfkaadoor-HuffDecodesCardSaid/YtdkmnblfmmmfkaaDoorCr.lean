/-
  CONTRACTS: the document's lengths, Bits, Code.
-/
import Derived.Test.YtdkmnblfmmmfkaaDoorT
namespace Go.Proofs.YtdkmnblfmmmfkaaDoor
open Go.RowKit Hf

set_option maxRecDepth 100000 in
theorem lengths_any (w : World) : Calls Tryd.prog 25 #[] w fun e w' => e = .returned (.string lets) ∧ w = w' := by
  go_enter Tryd.func25, Tryd.ntmps25
  go_wp2
  go_ret
  exact ⟨rfl, rfl⟩
theorem bitsr_no (x : Int) (hx : -9223372036854775808 ≤ x ∧ x ≤ 9223372036854775807) (h : x < 0 ∨ 257 ≤ x) (w : World) : Calls Tryd.prog 12 #[.int .i64 x] w fun e w' => e = .returned (.int .i64 0) ∧ w = w' := by
  rcases h with h | h
  · go_enter Tryd.func12, Tryd.ntmps12
    go_wp2
    go_ret
    exact ⟨rfl, rfl⟩
  · have h0 : ¬ x < 0 := by omega
    go_enter Tryd.func12, Tryd.ntmps12
    go_wp2
    go_ret
    exact ⟨rfl, rfl⟩
set_option maxRecDepth 100000 in
theorem bitsr_ok (s : Nat) (h : s < 257) (w : World) : Calls Tryd.prog 12 #[.int .i64 (s : Int)] w fun e w' => e = .returned (.int .i64 (sz s : Int)) ∧ w = w' := by
  have hl := lets_size
  have hsl : s < lets.size := by rw [hl]; exact h
  have ha := lets_all s h
  have HL := Lib.hid hl
  clear hl
  go_enter Tryd.func12, Tryd.ntmps12
  go_wp2_with fail
  refine (lengths_any _).mono ?_
  rintro e w2 ⟨rfl, rfl⟩
  go_wp2_with fail
  go_ret
  exact ⟨rfl, rfl⟩

theorem coder_no (x : Int) (hx : -9223372036854775808 ≤ x ∧ x ≤ 9223372036854775807) (h : x < 0 ∨ 257 ≤ x) (w : World) : Calls Tryd.prog 13 #[.int .i64 x] w fun e w' => e = .returned (.tuple #[.int .u32 0, .bool false]) ∧ w = w' := by
  go_enter Tryd.func13, Tryd.ntmps13
  go_wp2_with fail
  refine (bitsr_no x hx h _).mono ?_
  rintro e w2 ⟨rfl, rfl⟩
  go_wp2_with fail
  go_ret2
  exact ⟨rfl, rfl⟩

/-- The codes of m bits that the first i symbols take, as the document counts for symbol s of k bits. -/
def took (s k m i : Nat) : Nat := if m = k then cnt (min i s) k else cnt i m
theorem took_zero (s k m : Nat) : took s k m 0 = 0 := by unfold took; split <;> simp [cnt_zero]
theorem took_skip {s k m i : Nat} (h : i < 257) (hs : s < 257) (hn : sz i ≠ m ∨ (m = k ∧ s ≤ i)) : took s k m (i + 1) = took s k m i := by
  unfold took
  by_cases e : m = k
  · rw [if_pos e, if_pos e]
    by_cases hle : s ≤ i
    · rw [Nat.min_eq_right hle, Nat.min_eq_right (by omega)]
    · rw [Nat.min_eq_left (by omega), Nat.min_eq_left (by omega)]
      rcases hn with hn | hn
      · rw [cnt_other h (by omega)]
      · omega
  · rw [if_neg e, if_neg e]
    rcases hn with hn | hn
    · rw [cnt_other h (by omega)]
    · exact absurd hn.1 e
theorem took_one {s k m i : Nat} (h : i < 257) (hz : sz i = m) (hn : m ≠ k ∨ i < s) : took s k m (i + 1) = took s k m i + 1 := by
  unfold took
  by_cases e : m = k
  · rw [if_pos e, if_pos e]
    have hi : i < s := by rcases hn with hn | hn; exact absurd e hn; exact hn
    rw [Nat.min_eq_left (by omega), Nat.min_eq_left (by omega), ← e, ← hz, cnt_same h]
  · rw [if_neg e, if_neg e, ← hz, cnt_same h]
theorem took_le (s k m i : Nat) : took s k m i ≤ 257 := by unfold took; split <;> exact cnt_le _ _
theorem took_end {s k m : Nat} (hs : s < 257) (hk : sz s = k) (hm : m < 31) : took s k m 257 = if m = k then rank s else num m := by
  unfold took
  by_cases e : m = k
  · rw [if_pos e, if_pos e, Nat.min_eq_right (by omega), ← hk, rank_eq hs]
  · rw [if_neg e, if_neg e, num_all m hm]

/-- The rounds over the numbers of bits. -/
def BitsRel (s k : Nat) (w : World) (s6 s7 : Value) (wr : World) : Prop := ∃ (j x : Nat), s7 = .int .i64 ((j : Int) + 1) ∧ s6 = .int .i64 (x : Int) ∧ 4 ≤ j ∧ j ≤ k ∧ x = (if j < k then fst j + num j else code s) ∧ w = wr
/-- The rounds over the symbols. -/
def SymRel (s k m : Nat) (w : World) (s6 s8 : Value) (wr : World) : Prop := ∃ (i x : Nat), s8 = .int .i64 (i : Int) ∧ s6 = .int .i64 (x : Int) ∧ i ≤ 257 ∧ x = fst m + took s k m i ∧ w = wr

set_option maxRecDepth 100000 in
set_option maxHeartbeats 4000000 in
theorem coder_ok (s : Nat) (h : s < 257) (w : World) : Calls Tryd.prog 13 #[.int .i64 (s : Int)] w fun e w' => e = .returned (.tuple #[.int .u32 (code s : Int), .bool true]) ∧ w = w' := by
  have hz1 := sz_lo h
  have hz2 := sz_hi h
  have hcs := code_le h
  have HB := Lib.hid (fun W => bitsr_ok s h W)
  generalize hk : sz s = k at hz1 hz2 HB
  have HK := Lib.hid hk; clear hk
  have hkne : ((k : Int) == 0) = false := by rw [beq_eq_false_iff_ne]; omega
  have HS := Lib.hid (show code s = fst k + rank s by unfold code; rw [HK.out])
  generalize hcode : code s = cs at hcs HS ⊢
  have HCD := Lib.hid hcode; clear hcode
  go_enter Tryd.func13, Tryd.ntmps13
  go_wp2_with fail
  refine (HB.out _).mono ?_
  rintro e w2 ⟨rfl, rfl⟩
  go_wp2_with fail
  refine (lengths_any _).mono ?_
  rintro e w2 ⟨rfl, rfl⟩
  have hk4 : (fst 4 + num 4 : Nat) = 0 := by decide
  have HK4 := Lib.hid hk4; clear hk4
  clear HB
  go_wp2_with fail
  go_loopw [6, 7] (fun s6 s7 wr => BitsRel s k w s6 s7 wr) (fun _ s7 _ => 40 - (intOf s7).toNat)
  case atStart => exact ⟨4, 0, rfl, rfl, by omega, by omega, by rw [if_pos (by omega), HK4.out], rfl⟩
  case round =>
    obtain ⟨j, x, rfl, rfl, hj4, hjk, hx, rfl⟩ := hrel
    by_cases hlt : j < k
    · rw [if_pos hlt] at hx
      have hf := fst_all j (by omega)
      have hfl := fst_le (n := j) (by omega)
      rw [← hx] at hf hfl
      have HX0 := Lib.hid hf; clear hf hx
      have hx2 : x ≤ 1073741824 := hfl
      clear hfl
      go_wp2_with fail
      go_loopw [6, 8] (fun s6 s8 wr => SymRel s k (j + 1) w s6 s8 wr) (fun _ s8 _ => 257 - (intOf s8).toNat)
      case atStart => exact ⟨0, x * 2, rfl, by go_num, by omega, by rw [took_zero, HX0.out]; rfl, rfl⟩
      case round =>
        obtain ⟨i, x, rfl, rfl, hi7, hx, rfl⟩ := hrel
        have htl := took_le s k (j + 1) i
        have hfl := fst_le (n := j + 1) (by omega)
        have hxl : x ≤ 1073742081 := by rw [hx]; exact Nat.add_le_add (Nat.le_trans (Nat.le_add_right _ _) hfl) htl
        have HX := Lib.hid hx
        clear htl hfl hx
        by_cases hi : i < 257
        · have ha := lets_all i hi
          have hsl : i < lets.size := by rw [lets_size]; exact hi
          generalize hz : sz i = z at ha
          have HZ := Lib.hid hz; clear hz
          by_cases e1 : z = j + 1
          · have hb1 : ((z : Int) != (j : Int) + 1) = false := by rw [bne_eq_false_iff_eq]; omega
            have hz' : sz i = j + 1 := HZ.out.trans e1
            have HZ2 := Lib.hid hz'; clear hz'
            by_cases e2 : j + 1 = k
            · have hb2 : ((j : Int) + 1 == (k : Int)) = true := by rw [beq_iff_eq]; omega
              by_cases e3 : s ≤ i
              · have HC := Lib.hid (Or.inr ⟨e2, e3⟩ : sz i ≠ j + 1 ∨ (j + 1 = k ∧ s ≤ i))
                clear e2 e1
                go_wp2_with fail
                refine ⟨⟨i + 1, x, by go_num, rfl, by omega, ?_, rfl⟩, by simp [intOf]; omega⟩
                rw [HX.out, took_skip hi h (HC.out)]
              · have HC := Lib.hid (Or.inr (by omega) : j + 1 ≠ k ∨ i < s)
                clear e2 e1
                go_wp2_with fail
                refine ⟨⟨i + 1, x + 1, by go_num, by go_num, by omega, ?_, rfl⟩, by simp [intOf]; omega⟩
                rw [HX.out, took_one hi (HZ2.out) (HC.out)]
                omega
            · have hb2 : ((j : Int) + 1 == (k : Int)) = false := by rw [beq_eq_false_iff_ne]; omega
              have HC := Lib.hid (Or.inl e2 : j + 1 ≠ k ∨ i < s)
              clear e2 e1
              go_wp2_with fail
              refine ⟨⟨i + 1, x + 1, by go_num, by go_num, by omega, ?_, rfl⟩, by simp [intOf]; omega⟩
              rw [HX.out, took_one hi (HZ2.out) (HC.out)]
              omega
          · have hb1 : ((z : Int) != (j : Int) + 1) = true := by rw [bne_iff_ne]; omega
            have HC := Lib.hid (Or.inl (by rw [HZ.out]; exact e1) : sz i ≠ j + 1 ∨ (j + 1 = k ∧ s ≤ i))
            clear e1
            go_wp2_with fail
            refine ⟨⟨i + 1, x, by go_num, rfl, by omega, ?_, rfl⟩, by simp [intOf]; omega⟩
            rw [HX.out, took_skip hi h (HC.out)]
        · obtain rfl : i = 257 := by omega
          have he := took_end (m := j + 1) h HK.out (by omega)
          have hxe : x = if j + 1 < k then fst (j + 1) + num (j + 1) else code s := by
            rw [HX.out, he]
            by_cases e : j + 1 = k
            · rw [if_pos e, if_neg (by omega), HCD.out, HS.out, e]
            · rw [if_neg e, if_pos (by omega)]
          have HE := Lib.hid hxe
          clear hxe he hi
          go_wp2
          refine ⟨⟨j + 1, x, by go_num, rfl, by omega, by omega, HE.out, rfl⟩, by simp [intOf]; omega⟩
    · obtain rfl : j = k := by omega
      rw [if_neg (by omega)] at hx
      rw [HCD.out] at hx
      subst hx
      go_wp2_with fail
      go_ret2
      exact ⟨rfl, rfl⟩
end Go.Proofs.YtdkmnblfmmmfkaaDoor
