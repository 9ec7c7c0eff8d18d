/-
  CONTRACTS: the document's Size.
-/
import Derived.Test.YtdkmnblfmmmfkaaDoorCr
namespace Go.Proofs.YtdkmnblfmmmfkaaDoor
open Go.RowKit Hf

/-- Its rounds. -/
def SizeRel (S : ByteArray) (w : World) (s3 s5 : Value) (wr : World) : Prop := ∃ k x : Nat, s5 = .int .i64 (k : Int) ∧ s3 = .int .i64 (x : Int) ∧ k ≤ S.size ∧ x = totN ((str S).take k) ∧ x ≤ 30000000 ∧ w = wr
set_option maxRecDepth 100000 in
set_option maxHeartbeats 1000000 in
theorem sizer_any (S : ByteArray) (hS : S.size ≤ 1000000) (w : World) : Calls Tryd.prog 18 #[.string S] w fun e w' => e = .returned (.int .i64 (((totN (str S) + 7) / 8 : Nat) : Int)) ∧ w = w' := by
  go_enter Tryd.func18, Tryd.ntmps18
  go_wp2_with fail
  refine (lengths_any _).mono ?_
  rintro e w2 ⟨rfl, rfl⟩
  go_wp2_with fail
  go_loopw [3, 5] (fun s3 s5 wr => SizeRel S w s3 s5 wr) (fun _ s5 _ => S.size - (intOf s5).toNat)
  case atStart => exact ⟨0, 0, rfl, rfl, by omega, rfl, by omega, rfl⟩
  case round =>
    obtain ⟨k, x, rfl, rfl, hk, hx, hx3, rfl⟩ := hrel
    by_cases hlt : k < S.size
    · have ht := str_take S hlt
      have hN := totN_snoc ((str S).take k) S[k]
      rw [← ht, ← hx] at hN
      have hle : totN ((str S).take (k + 1)) ≤ 30000000 := Nat.le_trans (totN_le _) (Nat.le_trans (Nat.mul_le_mul_left 30 (show ((str S).take (k + 1)).length ≤ 1000000 by rw [List.length_take, str_len]; omega)) (by omega))
      rw [hN] at hle
      have hx8 : S[k].toNat < 256 := S[k].toNat_lt
      have ha := lets_all S[k].toNat (b257 _)
      have hsl : S[k].toNat < lets.size := by rw [lets_size]; exact b257 _
      have hi0 : (0 : Int) ≤ ((S[k].toNat : Nat) : Int) := by omega
      generalize sz S[k].toNat = z at hN hle ha
      have HN := Lib.hid hN
      clear hN ht hx
      go_wp2_with fail
      refine ⟨⟨k + 1, x + z, by go_num, ?_, by omega, HN.out.symm, hle, rfl⟩, by simp [intOf]; omega⟩
      rw [show (x : Int) + ((lets[S[k].toNat].toNat : Int) - 97) % 256 + 5 = (x : Int) + (((lets[S[k].toNat].toNat : Int) - 97) % 256 + 5) by omega, ha]
      simp
    · obtain rfl : k = S.size := by omega
      rw [List.take_of_length_le (Nat.le_of_eq (str_len S))] at hx
      have HX := Lib.hid hx
      clear hx
      go_wp2
      go_ret
      exact ⟨ret_int (by rw [← HX.out]; omega), rfl⟩
end Go.Proofs.YtdkmnblfmmmfkaaDoor
