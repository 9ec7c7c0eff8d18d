/-
  CONTRACTS: the functions of package wire, and of the document's answer, that only reckon with numbers.
-/
import Derived.Test.YtclnmajjkchfmaaDoorK
namespace Go.Proofs.YtclnmajjkchfmaaDoor
open Go.RowKit Wr

theorem ret_int {k : IntKind} {a b : Int} (h : a = b) : Ending.returned (.int k a) = .returned (.int k b) := by rw [h]

set_option maxHeartbeats 400000 in
theorem zig_any (n : Int) (h0 : -9223372036854775808 ≤ n) (h1 : n ≤ 9223372036854775807) (w : World) :
    Calls Tryd.prog 28 #[.int .i64 n] w fun e w' => e = .returned (.int .u64 (zz n)) ∧ w = w' := by
  have HV := Lib.hid (zig_wire h0 h1)
  go_enter Tryd.func28, Tryd.ntmps28
  go_wp2
  go_ret
  exact ⟨ret_int HV.out, rfl⟩
set_option maxHeartbeats 400000 in
theorem zigr_any (n : Int) (h0 : -9223372036854775808 ≤ n) (h1 : n ≤ 9223372036854775807) (w : World) :
    Calls Tryd.prog 29 #[.int .i64 n] w fun e w' => e = .returned (.int .u64 (zz n)) ∧ w = w' := by
  by_cases hn : n < 0
  · have HV := Lib.hid (zig_ref_neg h0 hn)
    go_enter Tryd.func29, Tryd.ntmps29
    go_wp2
    go_ret
    exact ⟨ret_int HV.out, rfl⟩
  · have HV : Hid (n * 2 = zz n) := Lib.hid (by unfold zz; rw [if_pos (by omega)]; omega)
    go_enter Tryd.func29, Tryd.ntmps29
    go_wp2
    go_ret
    exact ⟨ret_int HV.out, rfl⟩
set_option maxHeartbeats 400000 in
theorem zag_any (u : Nat) (h : u ≤ 18446744073709551615) (w : World) :
    Calls Tryd.prog 30 #[.int .u64 u] w fun e w' => e = .returned (.int .i64 (zg u)) ∧ w = w' := by
  have HV := Lib.hid (zag_wire (u := u) (by omega))
  go_enter Tryd.func30, Tryd.ntmps30
  go_wp2
  go_ret
  exact ⟨ret_int HV.out, rfl⟩
set_option maxHeartbeats 400000 in
theorem zagr_any (u : Nat) (h : u ≤ 18446744073709551615) (w : World) :
    Calls Tryd.prog 31 #[.int .u64 u] w fun e w' => e = .returned (.int .i64 (zg u)) ∧ w = w' := by
  have ha := and1 u (by omega)
  by_cases hu : u % 2 = 0
  · have hb : (bits .and .u64 (u : Int) 1 == 1) = false := by rw [ha, hu]; rfl
    have HV : Hid ((u : Int) / 2 = zg u) := Lib.hid (by unfold zg; rw [if_pos hu]; omega)
    clear ha
    go_enter Tryd.func31, Tryd.ntmps31
    go_wp2
    go_ret
    exact ⟨ret_int HV.out, rfl⟩
  · have hb : (bits .and .u64 (u : Int) 1 == 1) = true := by rw [ha, show u % 2 = 1 by omega]; rfl
    have HV : Hid (-((u : Int) / 2) - 1 = zg u) := Lib.hid (by unfold zg; rw [if_neg hu]; omega)
    clear ha
    go_enter Tryd.func31, Tryd.ntmps31
    go_wp2
    go_ret
    exact ⟨ret_int HV.out, rfl⟩

/-- What Tag answers. -/
theorem tag_ok (f k : Int) (h : TagOk f k) (w : World) :
    Calls Tryd.prog 23 #[.int .i64 f, .int .i64 k] w fun e w' => e = .returned (.tuple #[.int .u64 (f * 8 + k), .nilIface]) ∧ w = w' := by
  have HV := Lib.hid (tag_or h)
  obtain ⟨h1, h2, h3, h4⟩ := h
  go_enter Tryd.func23, Tryd.ntmps23
  go_wp2
  go_ret2
  exact ⟨by simp [HV.out], rfl⟩
def Drawn (r : Ending) (w : World) (e : Ending) (w' : World) : Prop := e = r ∧ ∃ nq, w' = w.drewN nq
theorem tag_no (ea : Nat → Addr) (f k : Int) (hf0 : -9223372036854775808 ≤ f) (hf1 : f ≤ 9223372036854775807) (hk0 : -9223372036854775808 ≤ k) (hk1 : k ≤ 9223372036854775807) (h : ¬ TagOk f k) (w : World) (E : Env w ea) :
    Calls Tryd.prog 23 #[.int .i64 f, .int .i64 k] w (Drawn (.returned (.tuple #[.int .u64 0, errV ea 103])) w) := by
  have h3 := E.e103
  have hc : f < 1 ∨ (1 ≤ f ∧ 536870911 < f) ∨ (1 ≤ f ∧ f ≤ 536870911 ∧ k < 0) ∨ (1 ≤ f ∧ f ≤ 536870911 ∧ 0 ≤ k ∧ 5 < k) := by unfold TagOk at h; omega
  clear h
  rcases hc with hc | ⟨h1, hc⟩ | ⟨h1, h2, hc⟩ | ⟨h1, h2, h4, hc⟩
  all_goals
    go_enter Tryd.func23, Tryd.ntmps23
    go_wp2
    go_quiet (fail)
    go_wp2
    go_ret2
    exact ⟨rfl, _, rfl⟩
theorem tagr_ok (f k : Int) (h : TagOk f k) (w : World) :
    Calls Tryd.prog 24 #[.int .i64 f, .int .i64 k] w fun e w' => e = .returned (.tuple #[.int .u64 (f * 8 + k), .int .i64 0]) ∧ w = w' := by
  obtain ⟨h1, h2, h3, h4⟩ := h
  go_enter Tryd.func24, Tryd.ntmps24
  go_wp2
  go_ret2
  exact ⟨rfl, rfl⟩
theorem tagr_no (f k : Int) (hf0 : -9223372036854775808 ≤ f) (hf1 : f ≤ 9223372036854775807) (hk0 : -9223372036854775808 ≤ k) (hk1 : k ≤ 9223372036854775807) (h : ¬ TagOk f k) (w : World) :
    Calls Tryd.prog 24 #[.int .i64 f, .int .i64 k] w fun e w' => e = .returned (.tuple #[.int .u64 0, .int .i64 103]) ∧ w = w' := by
  have hc : f < 1 ∨ (1 ≤ f ∧ 536870911 < f) ∨ (1 ≤ f ∧ f ≤ 536870911 ∧ k < 0) ∨ (1 ≤ f ∧ f ≤ 536870911 ∧ 0 ≤ k ∧ 5 < k) := by unfold TagOk at h; omega
  clear h
  rcases hc with hc | ⟨h1, hc⟩ | ⟨h1, h2, hc⟩ | ⟨h1, h2, h4, hc⟩
  all_goals
    go_enter Tryd.func24, Tryd.ntmps24
    go_wp2
    go_ret2
    exact ⟨rfl, rfl⟩

theorem untag_cases (u : Nat) : (untag u = .er 103 ∧ (u / 8 < 1 ∨ (1 ≤ u / 8 ∧ 536870911 < u / 8) ∨ (1 ≤ u / 8 ∧ u / 8 ≤ 536870911 ∧ 5 < u % 8))) ∨ (untag u = .ok (u / 8, u % 8) ∧ 1 ≤ u / 8 ∧ u / 8 ≤ 536870911 ∧ u % 8 ≤ 5) := by
  unfold untag
  split
  · left; exact ⟨rfl, by omega⟩
  · right; exact ⟨rfl, by omega⟩
theorem ret3_i {x y x' y' : Int} {v v' : Value} (h : x = x') (h2 : y = y') (h3 : v = v') : Ending.returned (.tuple #[.int .i64 x, .int .i64 y, v]) = .returned (.tuple #[.int .i64 x', .int .i64 y', v']) := by
  cases h; cases h2; cases h3; rfl

theorem untag_ok (u : Nat) (hu : u ≤ 18446744073709551615) (h1 : 1 ≤ u / 8) (h2 : u / 8 ≤ 536870911) (h3 : u % 8 ≤ 5) (w : World) :
    Calls Tryd.prog 25 #[.int .u64 u] w fun e w' => e = .returned (.tuple #[.int .i64 ((u / 8 : Nat) : Int), .int .i64 ((u % 8 : Nat) : Int), .nilIface]) ∧ w = w' := by
  have ha := and7 (u := u) (by omega)
  have h5 : bits .and .u64 (u : Int) 7 ≤ 5 := by rw [ha]; omega
  have HA := Lib.hid ha; clear ha
  go_enter Tryd.func25, Tryd.ntmps25
  go_wp2
  go_ret3
  exact ⟨ret3_i (by omega) (by rw [HA.out]; exact wrap64_small (by omega) (by omega)) rfl, rfl⟩
theorem untag_no (ea : Nat → Addr) (u : Nat) (hu : u ≤ 18446744073709551615) (h : u / 8 < 1 ∨ (1 ≤ u / 8 ∧ 536870911 < u / 8) ∨ (1 ≤ u / 8 ∧ u / 8 ≤ 536870911 ∧ 5 < u % 8)) (w : World) (E : Env w ea) :
    Calls Tryd.prog 25 #[.int .u64 u] w (Drawn (.returned (.tuple #[.int .i64 0, .int .i64 0, errV ea 103])) w) := by
  have hc := E.e103
  have ha := and7 (u := u) (by omega)
  rcases h with h | ⟨h, h'⟩ | ⟨h, h', h''⟩
  · clear ha
    go_enter Tryd.func25, Tryd.ntmps25
    go_wp2
    go_quiet (fail)
    go_wp2
    go_ret3
    exact ⟨rfl, _, rfl⟩
  · clear ha
    go_enter Tryd.func25, Tryd.ntmps25
    go_wp2
    go_quiet (fail)
    go_wp2
    go_ret3
    exact ⟨rfl, _, rfl⟩
  · have h5 : 5 < bits .and .u64 (u : Int) 7 := by rw [ha]; omega
    clear ha
    go_enter Tryd.func25, Tryd.ntmps25
    go_wp2
    go_quiet (fail)
    go_wp2
    go_ret3
    exact ⟨rfl, _, rfl⟩
theorem untagr_ok (u : Nat) (hu : u ≤ 18446744073709551615) (h1 : 1 ≤ u / 8) (h2 : u / 8 ≤ 536870911) (h3 : u % 8 ≤ 5) (w : World) :
    Calls Tryd.prog 26 #[.int .u64 u] w fun e w' => e = .returned (.tuple #[.int .i64 ((u / 8 : Nat) : Int), .int .i64 ((u % 8 : Nat) : Int), .int .i64 0]) ∧ w = w' := by
  have ha := and7 (u := u) (by omega)
  have h5 : bits .and .u64 (u : Int) 7 ≤ 5 := by rw [ha]; omega
  have h8 : ((u : Int) / 8 == 0) = false := by rw [beq_eq_false_iff_ne]; omega
  have HA := Lib.hid ha; clear ha
  go_enter Tryd.func26, Tryd.ntmps26
  go_wp2
  go_ret3
  exact ⟨ret3_i (by omega) (by rw [HA.out]; exact wrap64_small (by omega) (by omega)) rfl, rfl⟩
theorem untagr_no (u : Nat) (hu : u ≤ 18446744073709551615) (h : u / 8 < 1 ∨ (1 ≤ u / 8 ∧ 536870911 < u / 8) ∨ (1 ≤ u / 8 ∧ u / 8 ≤ 536870911 ∧ 5 < u % 8)) (w : World) :
    Calls Tryd.prog 26 #[.int .u64 u] w fun e w' => e = .returned (.tuple #[.int .i64 0, .int .i64 0, .int .i64 103]) ∧ w = w' := by
  have ha := and7 (u := u) (by omega)
  rcases h with h | ⟨h, h'⟩ | ⟨h, h', h''⟩
  · clear ha
    have h8 : ((u : Int) / 8 == 0) = true := by rw [beq_iff_eq]; omega
    go_enter Tryd.func26, Tryd.ntmps26
    go_wp2
    go_ret3
    exact ⟨rfl, rfl⟩
  · clear ha
    have h8 : ((u : Int) / 8 == 0) = false := by rw [beq_eq_false_iff_ne]; omega
    go_enter Tryd.func26, Tryd.ntmps26
    go_wp2
    go_ret3
    exact ⟨rfl, rfl⟩
  · have h5 : 5 < bits .and .u64 (u : Int) 7 := by rw [ha]; omega
    have h8 : ((u : Int) / 8 == 0) = false := by rw [beq_eq_false_iff_ne]; omega
    clear ha
    go_enter Tryd.func26, Tryd.ntmps26
    go_wp2
    go_ret3
    exact ⟨rfl, rfl⟩
end Go.Proofs.YtclnmajjkchfmaaDoor
